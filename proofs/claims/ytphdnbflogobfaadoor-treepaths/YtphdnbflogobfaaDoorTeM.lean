/- Whole digests loaded, stored, built and appended. -/
import Derived.Test.YtphdnbflogobfaaDoorTeD
import Derived.Test.YtphdnbflogobfaaDoorTeB
import Derived.Test.YtphdnbflogobfaaDoorGMa
namespace Go.Proofs.YtphdnbflogobfaaDoor
open Go.RowKit
set_option linter.unusedVariables false
set_option linter.unusedSimpArgs false

/-- Blocks but one stay. -/
abbrev Bt (g : Nat) (w w' : World) : Prop := Only g w.heap.size w w'
theorem Bt.under {g B : Nat} {w w' : World} (h : Bt g w w') (hB : B ≤ w.heap.size) (hg : B ≤ g) : Below B w w' := Only.below h hB hg
theorem te_load (c : List Int) (b off : Nat) {w : World} {ops : Array Oper} {rest : List Oper} {o : Oper} {a : Act} {Q : Exit → Act → World → Prop} (hgd : o.guard = none) (s : Operand) (ho : o.op = .load 26 s) (hs : a.eval s = .pointer (some ⟨b, off, none⟩))
    (hi : w.rangeAt b off (vals c)) (hc : c.length = 32)
    (h : wpList Tryd.prog ops Q rest (a.put o.dst (.agg (vals c).toArray)) w) : wpList Tryd.prog ops Q (o :: rest) a w := wpList_load_mid hgd 26 s ho b off hs (vals c) _ hi Tryd.underlying26 rfl (by rw [vals_length, hc]; exact size_dig) h
theorem te_store (c : List Value) (d : List Int) (b : Nat) {w : World} {ops : Array Oper} {rest : List Oper} {o : Oper} {a : Act} {Q : Exit → Act → World → Prop} (hgd : o.guard = none) (s x : Operand) (ho : o.op = .store 26 s x) (hs : a.eval s = .pointer (some ⟨b, 0, none⟩)) (hx : a.eval x = .agg (vals d).toArray) (hd : o.dst = none)
    (hi : Is w b c 26) (hc : c.length = 32) (hl : d.length = 32)
    (h : ∀ w2, Is w2 b (vals d) 26 → Bt b w w2 → w2.heap.size = w.heap.size → wpList Tryd.prog ops Q rest a w2) : wpList Tryd.prog ops Q (o :: rest) a w :=
  wpList_store_row 26 c (vals d) b hi size_dig hc (by rw [vals_length]; exact hl) (vals_one _) hgd s x ho hs hx hd (h _ (hi.row _) (Only.setRow (Only.refl b w.heap.size w) (.inl rfl) _) (by simp [World.setRow]))
theorem te_step_store (c : List Value) (d : List Int) (b : Nat) {w : World} {ops : Array Oper} {o : Oper} {a : Act} {K : Act → World → Prop} {Q : Exit → Act → World → Prop} {E : Prop} (hgd : o.guard = none) (s x : Operand) (ho : o.op = .store 26 s x) (hs : a.eval s = .pointer (some ⟨b, 0, none⟩)) (hx : a.eval x = .agg (vals d).toArray)
    (hi : Is w b c 26) (hc : c.length = 32) (hl : d.length = 32)
    (h : ∀ w2, Is w2 b (vals d) 26 → Bt b w w2 → w2.heap.size = w.heap.size → K (a.put o.dst undef) w2) :
    if Region.wanted o (yielded ops a.tmps) = true then Oper.wp Tryd.prog o a w K Q else E := by
  have hw : Region.wanted o (yielded ops a.tmps) = true := by simp [Region.wanted, hgd]
  rw [if_pos hw]
  have hs2 := hi.store (c' := vals d) (by rw [vals_length, hl]; exact size_dig) (by rw [hc, vals_length, hl]) (vals_one _)
  unfold Oper.wp
  simp only [execOp, ho, hs, hx, Sem.run_bind, Sem.run_pure, Result.andThen_ok, hs2]
  exact h _ (hi.row _) (Only.setRow (Only.refl b w.heap.size w) (.inl rfl) _) (by simp [World.setRow])
theorem te_build (d : List Int) {w : World} {ops : Array Oper} {rest : List Oper} {o : Oper} {a : Act} {Q : Exit → Act → World → Prop} (hgd : o.guard = none) (s : Operand) (ho : o.op = .buildSlice 22 1 #[(0, s)]) (hs : a.eval s = .agg (vals d).toArray) (hl : d.length = 32)
    (h : wpList Tryd.prog ops Q rest (a.put o.dst (.slice (some ⟨w.heap.size, 0, none⟩) 1 1)) (w.alloc (.cells (vals d).toArray 26))) : wpList Tryd.prog ops Q (o :: rest) a w :=
  wpList_build_one 22 26 (vals d) hgd s ho hs Tryd.underlying22 _ info_dig (by omega) (by omega) (by rw [vals_length]; exact hl) h
theorem te_build2 (c d : List Int) {w : World} {ops : Array Oper} {rest : List Oper} {o : Oper} {a : Act} {Q : Exit → Act → World → Prop} (hgd : o.guard = none) (s x : Operand) (ho : o.op = .buildSlice 22 2 #[(0, s), (1, x)]) (hs : a.eval s = .agg (vals c).toArray) (hx : a.eval x = .agg (vals d).toArray) (hc : c.length = 32) (hl : d.length = 32)
    (h : wpList Tryd.prog ops Q rest (a.put o.dst (.slice (some ⟨w.heap.size, 0, none⟩) 2 2)) (w.alloc (.cells (vals (c ++ d)).toArray 26))) : wpList Tryd.prog ops Q (o :: rest) a w := by
  refine wpList_build_two 22 26 (vals c) (vals d) hgd s x ho hs hx Tryd.underlying22 _ info_dig (by simp [vals]) (by omega) (by omega) (by rw [vals_length]; exact hc) (by rw [vals_length]; exact hl) ?_
  rw [show vals c ++ vals d = vals (c ++ d) by simp [vals]]
  exact h
theorem te_append {ops : Array Oper} {rest : List Oper} {o : Oper} {a : Act} {Q : Exit → Act → World → Prop} (w : World) (hgd : o.guard = none) (s y : Operand)
    (ho : o.op = .call { callee := .builtin .append, args := #[s, y], argTypes := #[22, 22] })
    (base : Nat) (v : Value) (DS : List (List Int)) (hs : a.eval s = v) (d : List Int) (b c : Nat) (hy : a.eval y = .slice (some ⟨b, 0, none⟩) 1 c) (hown : OwnDigs w base v DS) (hi : Is w b (vals d) 26) (hl : d.length = 32) (hB : Sz.Byt d) (hbd : DS.length + 1 ≤ 1000000) (hbase : base ≤ w.heap.size)
    (h : ∀ v' w', OwnDigs w' base v' (DS ++ [d]) → w.grownBy w' v.ownBlock → (v'.ownBlock = v.ownBlock ∨ v'.ownBlock = some w.heap.size) → wpList Tryd.prog ops Q rest (a.put o.dst v') w') : wpList Tryd.prog ops Q (o :: rest) a w := by
  refine wpList_append_gen w 22 26 32 hgd s y ho base v DS.length (digCells DS) hs b 0 1 c (vals d) hy hown.2 te_elem_dig (by omega) (by rw [vals_length]; omega) hi.range (vals_one _) hbd hbase fun v' w' h1 h2 h3 => h v' w' ⟨hown.1.snoc hl hB, ?_⟩ h2 h3
  rw [digCells_snoc, List.length_append]
  exact h1
theorem te_appendB {ops : Array Oper} {rest : List Oper} {o : Oper} {a : Act} {Q : Exit → Act → World → Prop} (w : World) (hgd : o.guard = none) (s y : Operand)
    (ho : o.op = .call { callee := .builtin .append, args := #[s, y], argTypes := #[51, 51] })
    (base : Nat) (v : Value) (BS : List Bool) (hs : a.eval s = v) (d : Bool) (b c : Nat) (hy : a.eval y = .slice (some ⟨b, 0, none⟩) 1 c) (hown : OwnBools w base v BS) (hi : Is w b [.bool d] 4) (hbd : BS.length + 1 ≤ 1000000) (hbase : base ≤ w.heap.size)
    (h : ∀ v' w', OwnBools w' base v' (BS ++ [d]) → w.grownBy w' v.ownBlock → (v'.ownBlock = v.ownBlock ∨ v'.ownBlock = some w.heap.size) → wpList Tryd.prog ops Q rest (a.put o.dst v') w') : wpList Tryd.prog ops Q (o :: rest) a w := by
  refine wpList_append_gen w 51 4 1 hgd s y ho base v BS.length (boolCells BS) hs b 0 1 c [.bool d] hy hown te_elem_bool (by omega) (by simp) (fun j u hu => by rw [Nat.zero_add, hi.cell]; exact hu) (by intro u hu; rw [List.mem_singleton.1 hu]; rfl) hbd hbase fun v' w' h1 h2 h3 => h v' w' ?_ h2 h3
  unfold OwnBools boolCells
  rw [List.map_append, List.length_append]
  exact h1
end Go.Proofs.YtphdnbflogobfaaDoor
