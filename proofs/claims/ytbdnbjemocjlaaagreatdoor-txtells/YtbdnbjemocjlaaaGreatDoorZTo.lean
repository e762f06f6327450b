/- The texts TxPt, TxPb, TxDg, TxOl, TxSm, TxOs, TxOq, TxOr, one behind the other. -/
import Derived.Test.YtbdnbjemocjlaaaGreatDoorZTr
import Derived.Test.YtbdnbjemocjlaaaGreatDoorTxRl
import Derived.Test.YtbdnbjemocjlaaaGreatDoorZAt
import Derived.Test.YtbdnbjemocjlaaaGreatDoorZTf
import Derived.Test.YtbdnbjemocjlaaaGreatDoorTxQ
import Derived.Test.YtbdnbjemocjlaaaGreatDoorTxY
import Derived.Test.YtbdnbjemocjlaaaGreatDoorHas
import Derived.Deep.QuietTactic
import Derived.BigQuiet
import Derived.Test.YtbdnbjemocjlaaaGreatDoorTxTf
import Derived.Test.YtbdnbjemocjlaaaGreatDoorZTb
/- The document's reader: a number, so many bytes. -/
namespace Go.Proofs.YtbdnbjemocjlaaaGreatDoor
open Go.RowKit
set_option linter.unusedVariables false
set_option linter.unusedSimpArgs false

/-- Where the reading is, or that it failed. -/
def PtV (bv : Value) : Option Nat → Value
  | some p => .agg #[bv, .int .i64 (p : Int), .bool true]
  | none => .agg #[.slice none 0 0, .int .i64 0, .bool false]
theorem size_part : Sized 77 3 := by unfold Sized; kernel_rfl
theorem size_got : Sized 117 3 := by unfold Sized; kernel_rfl
theorem step_store_any (t : TypeId) (c c' : List Value) (b : Nat) {m : Nat} {w : World} {ops : Array Oper} {o : Oper} {a : Act} {K : Act → World → Prop} {Q : Exit → Act → World → Prop} {E : Prop} (hgd : o.guard = none) (s x : Operand) (ho : o.op = .store t s x) (hs : a.eval s = .pointer (some ⟨b, 0, none⟩)) (hx : a.eval x = .agg c'.toArray)
    (hi : Is w b c t) (hz : Sized t m) (hc : c.length = m) (hc' : c'.length = m) (h1 : ∀ v ∈ c', v.oneCell' = true)
    (h : ∀ w2, Is w2 b c' t → w2 = w.setRow b c'.toArray → K (a.put o.dst undef) w2) :
    if Region.wanted o (yielded ops a.tmps) = true then Oper.wp Tryz.prog o a w K Q else E := by
  have hw : Region.wanted o (yielded ops a.tmps) = true := by simp [Region.wanted, hgd]
  rw [if_pos hw]
  have hl := hi.store (c' := c') (by rw [hc']; exact hz) (by rw [hc, hc']) h1
  unfold Oper.wp
  simp only [execOp, ho, hs, hx, Sem.run_bind, Sem.run_pure, Result.andThen_ok, hl]
  exact h _ (hi.row c') rfl
theorem num_eq (l : List Int) (p : Nat) (h : (Sz.rd l p).2.2 = 0) : Tm.num l p = some ((Sz.rd l p).1, (Sz.rd l p).2.1.toNat) := by unfold Tm.num; rw [if_pos h]
theorem num_no (l : List Int) (p : Nat) (h : ¬ (Sz.rd l p).2.2 = 0) : Tm.num l p = none := by unfold Tm.num; rw [if_neg h]

set_option maxRecDepth 100000 in
set_option maxHeartbeats 2000000 in
/-- A number that is told: the place behind it. -/
theorem rpnum_good (ba : Option Addr) (bn bc : Nat) (p n q most : Int) (w : World) (hA : ∀ W, Below w.heap.size w W → Calls Tryz.prog 53 #[.slice ba bn bc, .int .i64 p] W fun e w' => e = .returned (.agg #[.int .i64 n, .int .i64 q, .int .i64 0]) ∧ Below W.heap.size W w') (hn : n ≤ most) :
    Calls Tryz.prog 32 #[.agg #[.slice ba bn bc, .int .i64 p, .bool true], .int .i64 most] w fun e w' => e = .returned (.tuple #[.agg #[.slice ba bn bc, .int .i64 q, .bool true], .int .i64 n]) ∧ Below w.heap.size w w' := by
  have HA := hide hA
  have hgt : decide (n > most) = false := decide_eq_false (by omega)
  have hnm : ¬ most < n := by omega
  have HB0 := hide (below_alloc2 w (.cells #[.slice ba bn bc, .int .i64 p, .bool true] 77) (.cells #[.slice none 0 0, .int .i64 0, .bool false] 77))
  have HX0 := hide ((Is.new w [.slice ba bn bc, .int .i64 p, .bool true] 77).alloc (.cells #[.slice none 0 0, .int .i64 0, .bool false] 77))
  have HR0 : Hid (Is ((w.alloc (.cells #[.slice ba bn bc, .int .i64 p, .bool true] 77)).alloc (.cells #[.slice none 0 0, .int .i64 0, .bool false] 77)) (w.heap.size + 1) [.slice none 0 0, .int .i64 0, .bool false] 77) := Is.new' [.slice none 0 0, .int .i64 0, .bool false] 77 (by simp)
  clear hA hn
  go_enter Tryz.func32, Tryz.ntmps32
  go_wp2_with fail
  refine (HA.out _ HB0.out).mono ?_
  rintro e w1 ⟨rfl, hb1⟩
  have HB1 := hide (HB0.out.trans (hb1.mono HB0.out.size))
  have HX1 := hide (HX0.out.below hb1 HX0.out.lt)
  have HR1 := hide (HR0.out.below hb1 HR0.out.lt)
  obtain ⟨b6, hb6⟩ : ∃ b, b = w1.heap.size := ⟨_, rfl⟩
  have hlt6 : w.heap.size + 2 ≤ b6 := by rw [hb6]; exact HR1.out.lt
  have HB2 := hide (HB1.out.trans ((below_alloc w1 (.cells #[.int .i64 n, .int .i64 q, .int .i64 0] 117)).mono HB1.out.size))
  have HX2 := hide (HX1.out.alloc (.cells #[.int .i64 n, .int .i64 q, .int .i64 0] 117))
  have HR2 := hide (HR1.out.alloc (.cells #[.int .i64 n, .int .i64 q, .int .i64 0] 117))
  have HG2 : Hid (Is (w1.alloc (.cells #[.int .i64 n, .int .i64 q, .int .i64 0] 117)) b6 [.int .i64 n, .int .i64 q, .int .i64 0] 117) := hide (Is.new' _ 117 hb6)
  have hx2 := HX2.out.cell 2
  have hg0 := HG2.out.cell 0
  have hg1 := HG2.out.cell 1
  have hg2 := HG2.out.cell 2
  have hxf := HX2.out.frozen
  have hx1 := HX2.out.cell 1
  simp only [List.getElem?_cons_zero, List.getElem?_cons_succ] at hx1 hx2 hg0 hg1 hg2
  have HX5 : Hid (Is ((w1.alloc (.cells #[.int .i64 n, .int .i64 q, .int .i64 0] 117)).setCell ⟨w.heap.size, 1, none⟩ (.int .i64 q)) w.heap.size [.slice ba bn bc, .int .i64 q, .bool true] 77) := hide (HX2.out.set 1 _)
  have HR5 : Hid (Is ((w1.alloc (.cells #[.int .i64 n, .int .i64 q, .int .i64 0] 117)).setCell ⟨w.heap.size, 1, none⟩ (.int .i64 q)) (w.heap.size + 1) [.slice none 0 0, .int .i64 0, .bool false] 77) := hide (HR2.out.other _ _ (by show w.heap.size ≠ w.heap.size + 1; omega))
  have HG5 : Hid (Is ((w1.alloc (.cells #[.int .i64 n, .int .i64 q, .int .i64 0] 117)).setCell ⟨w.heap.size, 1, none⟩ (.int .i64 q)) b6 [.int .i64 n, .int .i64 q, .int .i64 0] 117) := hide (HG2.out.other _ _ (by show w.heap.size ≠ b6; omega))
  have HB5 := hide (HB2.out.setCell (p := ⟨w.heap.size, 1, none⟩) (Nat.le_refl _) (.int .i64 q))
  clear hb1
  go_wp2_with (first
    | (refine wpList_store_new 117 [.int .i64 0, .int .i64 0, .int .i64 0] [.int .i64 n, .int .i64 q, .int .i64 0] w1 size_got rfl rfl (by intro v hv; simp only [List.mem_cons, List.not_mem_nil, or_false] at hv; rcases hv with rfl | rfl | rfl <;> rfl) rfl (.tmp 6) (.tmp 11) rfl rfl rfl rfl ?_; rw [← hb6]))
  try rw [← hb6]
  generalize hw5 : ((w1.alloc (.cells #[.int .i64 n, .int .i64 q, .int .i64 0] 117)).setCell ⟨w.heap.size, 1, none⟩ (.int .i64 q)) = w5 at *
  clear hx1 hx2 hg0 hg1 hg2 hxf hw5 HX2 HR2 HG2 HX1 HR1 HX0 HR0 hb6
  refine wp_region_held_drew (S := fun W : World => W.cell? ⟨w.heap.size, 0, none⟩ = some (.slice ba bn bc) ∧ W.cell? ⟨w.heap.size, 1, none⟩ = some (.int .i64 q) ∧ W.cell? ⟨w.heap.size, 2, none⟩ = some (.bool true) ∧ W.cell? ⟨b6, 0, none⟩ = some (.int .i64 n)) (by kernel_rfl) ?_ (fun hHeld0 => ?_)
  · exact ⟨HX5.out.cell 0, HX5.out.cell 1, HX5.out.cell 2, HG5.out.cell 0⟩
  refine wpAnyH_take (i := 0) (v := ?_) rfl (by kernel_rfl) (by kernel_rfl) (by kernel_rfl) (fun _ _ _ h => h) (Or.inl ⟨by rfl, ?_⟩) hHeld0 ?_
  rotate_left
  · (intro w hSw; (try dsimp only at hSw); go_simp <;> (try with_reducible rfl))
  simp only [Act.put, List.getElem_toArray, List.getElem_cons_zero, List.getElem_cons_succ, List.setIfInBounds_toArray, List.set_cons_zero, List.set_cons_succ]
  refine wpAnyH_take (i := 1) (v := ?_) rfl (by kernel_rfl) (by kernel_rfl) (by kernel_rfl) (fun _ _ _ h => h) (Or.inl ⟨by rfl, ?_⟩) hHeld0 ?_
  rotate_left
  · (intro w hSw; (try dsimp only at hSw); go_simp <;> (try with_reducible rfl))
  simp only [Act.put, List.getElem_toArray, List.getElem_cons_zero, List.getElem_cons_succ, List.setIfInBounds_toArray, List.set_cons_zero, List.set_cons_succ]
  refine wpAnyH_take (i := 2) (v := ?_) rfl (by kernel_rfl) (by kernel_rfl) (by kernel_rfl) (fun _ _ _ h => h) (Or.inl ⟨by rfl, ?_⟩) hHeld0 ?_
  rotate_left
  · (intro w hSw; (try dsimp only at hSw); go_simp <;> (try with_reducible rfl))
  simp only [Act.put, List.getElem_toArray, List.getElem_cons_zero, List.getElem_cons_succ, List.setIfInBounds_toArray, List.set_cons_zero, List.set_cons_succ]
  refine wpAnyH_ready (rs := [3]) (by kernel_rfl) (by simp) ?_
  refine AllReadyH.cons rfl (fun K hK => ?_) AllReadyH.nil
  refine step_store_any 77 [.slice none 0 0, .int .i64 0, .bool false] [.slice ba bn bc, .int .i64 q, .bool true] (w.heap.size + 1) rfl (.tmp 4) (.tmp 30) rfl rfl rfl HR5.out size_part rfl rfl (by intro v hv; simp only [List.mem_cons, List.not_mem_nil, or_false] at hv; rcases hv with rfl | rfl | rfl <;> rfl) ?_
  intro w9 hi9 hw9
  have HB9 : Hid (But (w.heap.size + 1) w5.drew w9) := hide (by rw [hw9]; exact But.row _ (w.heap.size + 1) _)
  have HI9 := hide hi9
  clear hw9 hi9
  refine hK.out _ _ (by exact ⟨((HB9.out.kept HX5.out (by omega)).cell 0), ((HB9.out.kept HX5.out (by omega)).cell 1), ((HB9.out.kept HX5.out (by omega)).cell 2), ((HB9.out.kept HG5.out (by omega)).cell 0)⟩) (fun hHeld1 => ?_)
  clear hK K hHeld0
  try simp only [Act.put, List.getElem_toArray, List.getElem_cons_zero, List.getElem_cons_succ, List.setIfInBounds_toArray, List.set_cons_zero, List.set_cons_succ]
  refine wpAnyH_take (i := 4) (v := ?_) rfl (by kernel_rfl) (by kernel_rfl) (by kernel_rfl) (fun _ _ _ h => h) (Or.inl ⟨by rfl, ?_⟩) hHeld1 ?_
  rotate_left
  · (intro w hSw; (try dsimp only at hSw); go_simp <;> (try with_reducible rfl))
  simp only [Act.put, List.getElem_toArray, List.getElem_cons_zero, List.getElem_cons_succ, List.setIfInBounds_toArray, List.set_cons_zero, List.set_cons_succ]
  refine wpAnyH_done (by kernel_rfl) ?_ _
  clear hHeld1
  go_wp2
  exact bodyPost_ret (v := .tuple #[.agg #[.slice ba bn bc, .int .i64 q, .bool true], .int .i64 n]) (results_cell2 Tryz.results32 rfl (HI9.out.cellsOfS Tryz.underlying77 (by kernel_rfl))) rfl ⟨rfl, HB5.out.drew.trans (HB9.out.under HB5.out.drew.size (by omega))⟩

set_option maxRecDepth 100000 in
set_option maxHeartbeats 2000000 in
/-- It failed, or nothing is told, or it is too great. -/
theorem rpnum_bad (ba : Option Addr) (bn bc : Nat) (p n q c most : Int) (ok : Bool) (w : World) (hA : ∀ W, Below w.heap.size w W → Calls Tryz.prog 53 #[.slice ba bn bc, .int .i64 p] W fun e w' => e = .returned (.agg #[.int .i64 n, .int .i64 q, .int .i64 c]) ∧ Below W.heap.size W w') (hn : ok = false ∨ c ≠ 0 ∨ most < n) :
    Calls Tryz.prog 32 #[.agg #[.slice ba bn bc, .int .i64 p, .bool ok], .int .i64 most] w fun e w' => e = .returned (.tuple #[.agg #[.slice none 0 0, .int .i64 0, .bool false], .int .i64 0]) ∧ Below w.heap.size w w' := by
  have HA := hide hA
  have HB0 := hide (below_alloc2 w (.cells #[.slice ba bn bc, .int .i64 p, .bool ok] 77) (.cells #[.slice none 0 0, .int .i64 0, .bool false] 77))
  have HX0 := hide ((Is.new w [.slice ba bn bc, .int .i64 p, .bool ok] 77).alloc (.cells #[.slice none 0 0, .int .i64 0, .bool false] 77))
  have HR0 : Hid (Is ((w.alloc (.cells #[.slice ba bn bc, .int .i64 p, .bool ok] 77)).alloc (.cells #[.slice none 0 0, .int .i64 0, .bool false] 77)) (w.heap.size + 1) [.slice none 0 0, .int .i64 0, .bool false] 77) := Is.new' [.slice none 0 0, .int .i64 0, .bool false] 77 (by simp)
  have hq1 : ∃ t1 : Bool, t1 = (!ok || (c != 0) || decide (n > most)) ∧ t1 = true := by
    refine ⟨_, rfl, ?_⟩
    rcases hn with h | h | h
    · simp [h]
    · simp [h]
    · simp [h]
  have hcc : c ≠ 0 ∨ c = 0 := (Decidable.em (c = 0)).symm
  clear hA
  go_enter Tryz.func32, Tryz.ntmps32
  go_wp2_with fail
  refine (HA.out _ HB0.out).mono ?_
  rintro e w1 ⟨rfl, hb1⟩
  have HB1 := hide (HB0.out.trans (hb1.mono HB0.out.size))
  have HX1 := hide (HX0.out.below hb1 HX0.out.lt)
  have HR1 := hide (HR0.out.below hb1 HR0.out.lt)
  have HB2 := hide (HB1.out.trans ((below_alloc w1 (.cells #[.int .i64 n, .int .i64 q, .int .i64 c] 117)).mono HB1.out.size))
  have hx2 := (HX1.out.alloc (.cells #[.int .i64 n, .int .i64 q, .int .i64 c] 117)).cell 2
  have HR2 := hide (HR1.out.alloc (.cells #[.int .i64 n, .int .i64 q, .int .i64 c] 117))
  have hg0 := (Is.new w1 [.int .i64 n, .int .i64 q, .int .i64 c] 117).cell 0
  have hg2 := (Is.new w1 [.int .i64 n, .int .i64 q, .int .i64 c] 117).cell 2
  simp only [List.getElem?_cons_zero, List.getElem?_cons_succ] at hx2 hg0 hg2
  clear hb1 hq1
  have hend : ∀ w9, Is w9 (w.heap.size + 1) [.slice none 0 0, .int .i64 0, .bool false] 77 → (w9 = (w1.alloc (.cells #[.int .i64 n, .int .i64 q, .int .i64 c] 117)).setRow (w.heap.size + 1) #[.slice none 0 0, .int .i64 0, .bool false]) → Below w.heap.size w w9 := fun w9 _ e => by
    rw [e]
    exact HB2.out.trans ((But.row _ (w.heap.size + 1) _).under HB2.out.size (by omega))
  have HEND := hide hend
  clear hend
  cases ok with
  | false =>
    clear hn hcc
    go_wp2_with (first
      | (refine wpList_store_new 117 [.int .i64 0, .int .i64 0, .int .i64 0] [.int .i64 n, .int .i64 q, .int .i64 c] w1 size_got rfl rfl (by intro v hv; simp only [List.mem_cons, List.not_mem_nil, or_false] at hv; rcases hv with rfl | rfl | rfl <;> rfl) rfl (.tmp 6) (.tmp 11) rfl rfl rfl rfl ?_)
      | (refine wpList_store_any3 77 [.slice none 0 0, .int .i64 0, .bool false] [.slice none 0 0, .int .i64 0, .bool false] (w.heap.size + 1) rfl (.tmp 4) (.tmp 26) rfl rfl rfl rfl HR2.out size_part rfl rfl (by intro v hv; simp only [List.mem_cons, List.not_mem_nil, or_false] at hv; rcases hv with rfl | rfl | rfl <;> rfl) ?_; intro w9 hi9 hw9))
    exact bodyPost_ret (v := .tuple #[.agg #[.slice none 0 0, .int .i64 0, .bool false], .int .i64 0]) (results_cell2 Tryz.results32 rfl (hi9.cellsOfS Tryz.underlying77 (by kernel_rfl))) rfl ⟨rfl, HEND.out w9 hi9 hw9⟩
  | true =>
    rcases hcc with hcn | hcz
    · have hcd : (c != 0) = true := by rw [bne_iff_ne]; exact hcn
      clear hn hcn
      go_wp2_with (first
        | (refine wpList_store_new 117 [.int .i64 0, .int .i64 0, .int .i64 0] [.int .i64 n, .int .i64 q, .int .i64 c] w1 size_got rfl rfl (by intro v hv; simp only [List.mem_cons, List.not_mem_nil, or_false] at hv; rcases hv with rfl | rfl | rfl <;> rfl) rfl (.tmp 6) (.tmp 11) rfl rfl rfl rfl ?_)
        | (refine wpList_store_any3 77 [.slice none 0 0, .int .i64 0, .bool false] [.slice none 0 0, .int .i64 0, .bool false] (w.heap.size + 1) rfl (.tmp 4) (.tmp 26) rfl rfl rfl rfl HR2.out size_part rfl rfl (by intro v hv; simp only [List.mem_cons, List.not_mem_nil, or_false] at hv; rcases hv with rfl | rfl | rfl <;> rfl) ?_; intro w9 hi9 hw9))
      exact bodyPost_ret (v := .tuple #[.agg #[.slice none 0 0, .int .i64 0, .bool false], .int .i64 0]) (results_cell2 Tryz.results32 rfl (hi9.cellsOfS Tryz.underlying77 (by kernel_rfl))) rfl ⟨rfl, HEND.out w9 hi9 hw9⟩
    · subst hcz
      have hmn : most < n := by rcases hn with h | h | h <;> first | (cases h) | (exact absurd rfl h) | exact h
      have hmd : decide (n > most) = true := decide_eq_true hmn
      clear hn
      go_wp2_with (first
        | (refine wpList_store_new 117 [.int .i64 0, .int .i64 0, .int .i64 0] [.int .i64 n, .int .i64 q, .int .i64 0] w1 size_got rfl rfl (by intro v hv; simp only [List.mem_cons, List.not_mem_nil, or_false] at hv; rcases hv with rfl | rfl | rfl <;> rfl) rfl (.tmp 6) (.tmp 11) rfl rfl rfl rfl ?_)
        | (refine wpList_store_any3 77 [.slice none 0 0, .int .i64 0, .bool false] [.slice none 0 0, .int .i64 0, .bool false] (w.heap.size + 1) rfl (.tmp 4) (.tmp 26) rfl rfl rfl rfl HR2.out size_part rfl rfl (by intro v hv; simp only [List.mem_cons, List.not_mem_nil, or_false] at hv; rcases hv with rfl | rfl | rfl <;> rfl) ?_; intro w9 hi9 hw9))
      exact bodyPost_ret (v := .tuple #[.agg #[.slice none 0 0, .int .i64 0, .bool false], .int .i64 0]) (results_cell2 Tryz.results32 rfl (hi9.cellsOfS Tryz.underlying77 (by kernel_rfl))) rfl ⟨rfl, HEND.out w9 hi9 hw9⟩
/-- What reading a number with a limit does. -/
theorem rpnum_any (bv : Value) (l : List Int) (o : Option Nat) (most : Int) (w : World) (hl : Has w bv l) (hbt : Sz.Byt l) (hbig : l.length ≤ 180000000000000) :
    Calls Tryz.prog 32 #[PtV bv o, .int .i64 most] w fun e w' => e = .returned (.tuple #[PtV bv ((o.bind (Tm.lim most l)).map Prod.snd), .int .i64 (((o.bind (Tm.lim most l)).map Prod.fst).getD 0)]) ∧ Below w.heap.size w w' := by
  obtain ⟨ba, bc, rfl, _, _⟩ := hl.shape
  cases o with
  | none =>
    have hA : ∀ W, Below w.heap.size w W → Calls Tryz.prog 53 #[.slice none 0 0, .int .i64 0] W fun e w' => e = .returned (.agg #[.int .i64 (Sz.rd [] 0).1, .int .i64 (Sz.rd [] 0).2.1, .int .i64 (Sz.rd [] 0).2.2]) ∧ Below W.heap.size W w' := fun W _ => at_any _ [] 0 W (.inl ⟨none, 0, rfl, rfl, by unfold maxLen; omega, fun _ => rfl⟩) Sz.Byt.nil (by simp)
    exact rpnum_bad none 0 0 0 _ _ _ most false w hA (.inl rfl)
  | some p =>
    have hA : ∀ W, Below w.heap.size w W → Calls Tryz.prog 53 #[.slice ba l.length bc, .int .i64 (p : Int)] W fun e w' => e = .returned (.agg #[.int .i64 (Sz.rd l p).1, .int .i64 (Sz.rd l p).2.1, .int .i64 (Sz.rd l p).2.2]) ∧ Below W.heap.size W w' := fun W hW => at_any _ l p W (hl.below hW) hbt hbig
    by_cases h0 : (Sz.rd l p).2.2 = 0
    · obtain ⟨r1, r2, r3, r4, r5⟩ := Sz.wr_rd l p (Sz.rd l p).1 (Sz.rd l p).2.1 hbt (by rw [← h0])
      have hq : (Sz.rd l p).2.1 = (((Sz.rd l p).2.1.toNat : Nat) : Int) := by omega
      by_cases hm : (Sz.rd l p).1 ≤ most
      · have e : (some p).bind (Tm.lim most l) = some ((Sz.rd l p).1, (Sz.rd l p).2.1.toNat) := by
          rw [Option.bind_some, Tm.lim, num_eq l p h0, Option.bind_some, if_pos hm]
        rw [e]
        show Calls _ _ #[.agg #[.slice ba l.length bc, .int .i64 (p : Int), .bool true], .int .i64 most] w fun e w' => e = .returned (.tuple #[.agg #[.slice ba l.length bc, .int .i64 (((Sz.rd l p).2.1.toNat : Nat) : Int), .bool true], .int .i64 (Sz.rd l p).1]) ∧ Below w.heap.size w w'
        rw [← hq]
        rw [h0] at hA
        exact rpnum_good ba _ bc p _ _ most w hA hm
      · have e : (some p).bind (Tm.lim most l) = none := by
          rw [Option.bind_some, Tm.lim, num_eq l p h0, Option.bind_some, if_neg hm]
        rw [e]
        exact rpnum_bad ba _ bc p _ _ _ most true w hA (.inr (.inr (by omega)))
    · have e : (some p).bind (Tm.lim most l) = none := by
        rw [Option.bind_some, Tm.lim, num_no l p h0, Option.bind_none]
      rw [e]
      exact rpnum_bad ba _ bc p _ _ _ most true w hA (.inr (.inl h0))
end Go.Proofs.YtbdnbjemocjlaaaGreatDoor

/- The document's reader: so many bytes. -/
namespace Go.Proofs.YtbdnbjemocjlaaaGreatDoor
open Go.RowKit
set_option linter.unusedVariables false
set_option linter.unusedSimpArgs false

set_option maxRecDepth 100000 in
set_option maxHeartbeats 2000000 in
theorem rpb_bad (ba : Option Addr) (bn bc : Nat) (p n : Int) (ok : Bool) (w : World) (hn : ok = false ∨ (bn : Int) - p < n) (h0 : 0 ≤ p) (h1 : p ≤ (bn : Int)) (h2 : (bn : Int) ≤ 9223372036854775807) :
    Calls Tryz.prog 33 #[.agg #[.slice ba bn bc, .int .i64 p, .bool ok], .int .i64 n] w fun e w' => e = .returned (.tuple #[.agg #[.slice none 0 0, .int .i64 0, .bool false], .slice none 0 0]) ∧ Below w.heap.size w w' := by
  have HB0 := hide (below_alloc2 w (.cells #[.slice ba bn bc, .int .i64 p, .bool ok] 77) (.cells #[.slice none 0 0, .int .i64 0, .bool false] 77))
  have HR0 : Hid (Is ((w.alloc (.cells #[.slice ba bn bc, .int .i64 p, .bool ok] 77)).alloc (.cells #[.slice none 0 0, .int .i64 0, .bool false] 77)) (w.heap.size + 1) [.slice none 0 0, .int .i64 0, .bool false] 77) := Is.new' [.slice none 0 0, .int .i64 0, .bool false] 77 (by simp)
  cases ok with
  | false =>
    clear hn
    go_enter Tryz.func33, Tryz.ntmps33
    go_wp2_with (first
      | (refine wpList_store_any3 77 [.slice none 0 0, .int .i64 0, .bool false] [.slice none 0 0, .int .i64 0, .bool false] (w.heap.size + 1) rfl (.tmp 4) (.tmp 20) rfl rfl rfl rfl HR0.out size_part rfl rfl (by intro v hv; simp only [List.mem_cons, List.not_mem_nil, or_false] at hv; rcases hv with rfl | rfl | rfl <;> rfl) ?_; intro w9 hi9 hw9; have hbr : But (w.heap.size + 1) ((w.alloc (.cells #[.slice ba bn bc, .int .i64 p, .bool false] 77)).alloc (.cells #[.slice none 0 0, .int .i64 0, .bool false] 77)) w9 := (by rw [hw9]; exact But.row _ (w.heap.size + 1) _); clear hw9))
    exact bodyPost_ret (v := .tuple #[.agg #[.slice none 0 0, .int .i64 0, .bool false], .slice none 0 0]) (results_cell2 Tryz.results33 rfl (hi9.cellsOfS Tryz.underlying77 (by kernel_rfl))) rfl ⟨rfl, HB0.out.trans (hbr.under HB0.out.size (by omega))⟩
  | true =>
    have hlt : (bn : Int) - p < n := by rcases hn with h | h; cases h; exact h
    have hd : decide (n > (bn : Int) - p) = true := decide_eq_true hlt
    clear hn
    go_enter Tryz.func33, Tryz.ntmps33
    go_wp2_with (first
      | (refine wpList_store_any3 77 [.slice none 0 0, .int .i64 0, .bool false] [.slice none 0 0, .int .i64 0, .bool false] (w.heap.size + 1) rfl (.tmp 4) (.tmp 20) rfl rfl rfl rfl HR0.out size_part rfl rfl (by intro v hv; simp only [List.mem_cons, List.not_mem_nil, or_false] at hv; rcases hv with rfl | rfl | rfl <;> rfl) ?_; intro w9 hi9 hw9; have hbr : But (w.heap.size + 1) ((w.alloc (.cells #[.slice ba bn bc, .int .i64 p, .bool true] 77)).alloc (.cells #[.slice none 0 0, .int .i64 0, .bool false] 77)) w9 := (by rw [hw9]; exact But.row _ (w.heap.size + 1) _); clear hw9))
    exact bodyPost_ret (v := .tuple #[.agg #[.slice none 0 0, .int .i64 0, .bool false], .slice none 0 0]) (results_cell2 Tryz.results33 rfl (hi9.cellsOfS Tryz.underlying77 (by kernel_rfl))) rfl ⟨rfl, HB0.out.trans (hbr.under HB0.out.size (by omega))⟩

set_option maxRecDepth 100000 in
set_option maxHeartbeats 2000000 in
theorem rpb_good (b off : Nat) (bn bc p n : Nat) (w : World) (hn : p + n ≤ bn) (hc : bn ≤ bc) (h2 : bc ≤ 9223372036854775807) :
    Calls Tryz.prog 33 #[.agg #[.slice (some ⟨b, off, none⟩) bn bc, .int .i64 (p : Int), .bool true], .int .i64 (n : Int)] w fun e w' => (∃ a c, e = .returned (.tuple #[.agg #[.slice (some ⟨b, off, none⟩) bn bc, .int .i64 ((p + n : Nat) : Int), .bool true], .slice a n c]) ∧ (0 < n → a = some ⟨b, off + p, none⟩ ∧ n ≤ c ∧ c ≤ bc) ∧ c ≤ bc ∧ (a = none → c = 0)) ∧ Below w.heap.size w w' := by
  have HB0 := hide (below_alloc2 w (.cells #[.slice (some ⟨b, off, none⟩) bn bc, .int .i64 (p : Int), .bool true] 77) (.cells #[.slice none 0 0, .int .i64 0, .bool false] 77))
  have HX0 := hide ((Is.new w [.slice (some ⟨b, off, none⟩) bn bc, .int .i64 (p : Int), .bool true] 77).alloc (.cells #[.slice none 0 0, .int .i64 0, .bool false] 77))
  have HR0 : Hid (Is ((w.alloc (.cells #[.slice (some ⟨b, off, none⟩) bn bc, .int .i64 (p : Int), .bool true] 77)).alloc (.cells #[.slice none 0 0, .int .i64 0, .bool false] 77)) (w.heap.size + 1) [.slice none 0 0, .int .i64 0, .bool false] 77) := Is.new' [.slice none 0 0, .int .i64 0, .bool false] 77 (by simp)
  have hd : decide ((n : Int) > (bn : Int) - (p : Int)) = false := decide_eq_false (by omega)
  have hnl : ¬ (bn : Int) - (p : Int) < (n : Int) := by omega
  have hpn : ((p : Int) + (n : Int)).toNat = p + n := by omega
  have hpn0 : (0 : Int) ≤ (p : Int) + (n : Int) := by omega
  have hpn1 : (p : Int) + (n : Int) ≤ (bn : Int) := by omega
  have hpn2 : (p : Int) ≤ (p : Int) + (n : Int) := by omega
  go_enter Tryz.func33, Tryz.ntmps33
  go_wp2
  · refine bodyPost_ret (v := .tuple #[.agg #[.slice (some ⟨b, off, none⟩) bn p, .int .i64 ((p : Int) + (n : Int)), .bool true], .slice (some ⟨b, off, none⟩) n 0]) (by simp [results, Tryz.results33, go_sem]) rfl ⟨⟨_, _, rfl, fun h0 => absurd h0 (by omega), by omega, fun h => by cases h⟩, ?_⟩
    exact below_alloc2 w _ _
  · refine bodyPost_ret (v := .tuple #[.agg #[.slice (some ⟨b, off, none⟩) bn bc, .int .i64 ((p : Int) + (n : Int)), .bool true], .slice (some ⟨b, off + p, none⟩) n (bc - p)]) (by simp [results, Tryz.results33, go_sem]) rfl ⟨⟨_, _, rfl, fun _ => ⟨rfl, by omega, by omega⟩, by omega, fun h => by cases h⟩, ?_⟩
    exact below_alloc2 w _ _
set_option maxRecDepth 100000 in
set_option maxHeartbeats 2000000 in
theorem rpb_zero (a : Option Addr) (bc : Nat) (w : World) (h : a = none → bc = 0) (h2 : bc ≤ 9223372036854775807) :
    Calls Tryz.prog 33 #[.agg #[.slice a 0 bc, .int .i64 ((0 : Nat) : Int), .bool true], .int .i64 ((0 : Nat) : Int)] w fun e w' => (∃ a' c, e = .returned (.tuple #[.agg #[.slice a 0 bc, .int .i64 ((0 : Nat) : Int), .bool true], .slice a' 0 c]) ∧ c ≤ bc ∧ (a' = none → c = 0)) ∧ Below w.heap.size w w' := by
  cases a with
  | none =>
    obtain rfl := h rfl
    go_enter Tryz.func33, Tryz.ntmps33
    go_wp2
    refine bodyPost_ret (v := .tuple #[.agg #[.slice none 0 0, .int .i64 0, .bool true], .slice none 0 0]) (by simp [results, Tryz.results33, go_sem]) rfl ⟨⟨_, _, rfl, by omega, fun _ => rfl⟩, ?_⟩
    exact below_alloc2 w _ _
  | some x =>
    clear h
    go_enter Tryz.func33, Tryz.ntmps33
    go_wp2
    all_goals
      refine bodyPost_ret (v := .tuple #[.agg #[.slice (some x) 0 _, .int .i64 0, .bool true], .slice (some x) 0 _]) (by simp [results, Tryz.results33, go_sem]; rfl) rfl ⟨⟨_, _, rfl, by omega, fun h => by cases h⟩, ?_⟩
      exact below_alloc2 w _ _
/-- What reading so many bytes does. -/
theorem rpbytes_any (bv : Value) (l : List Int) (o : Option Nat) (n : Nat) (w : World) (hl : Has w bv l) (hp : ∀ p, o = some p → p ≤ l.length) :
    Calls Tryz.prog 33 #[PtV bv o, .int .i64 (n : Int)] w fun e w' => (∃ v, e = .returned (.tuple #[PtV bv ((o.bind (Tm.bts n l)).map Prod.snd), v]) ∧ (∃ a m c, v = .slice a m c) ∧ ∀ x, o.bind (Tm.bts n l) = some x → ∀ W, Has W bv l → Has W v x.1) ∧ Below w.heap.size w w' := by
  have hml : l.length ≤ maxLen := by obtain ⟨_, _, _, _, h⟩ := hl.shape; exact h
  have hbad : ∀ (ba : Option Addr) (bn bc : Nat) (p : Int) (ok : Bool), (ok = false ∨ (bn : Int) - p < (n : Int)) → 0 ≤ p → p ≤ (bn : Int) → bn ≤ maxLen → Calls Tryz.prog 33 #[.agg #[.slice ba bn bc, .int .i64 p, .bool ok], .int .i64 (n : Int)] w fun e w' => (∃ v, e = .returned (.tuple #[PtV bv none, v]) ∧ (∃ a m c, v = .slice a m c) ∧ ∀ x, (none : Option (List Int × Nat)) = some x → ∀ W, Has W bv l → Has W v x.1) ∧ Below w.heap.size w w' := fun ba bn bc p ok h1 h2 h3 h4 => by
    unfold maxLen at h4
    refine (rpb_bad ba bn bc p n ok w h1 h2 h3 (by omega)).mono ?_
    rintro e w' ⟨rfl, hb⟩
    exact ⟨⟨_, rfl, ⟨_, _, _, rfl⟩, fun x h => by cases h⟩, hb⟩
  cases o with
  | none => exact hbad none 0 0 0 false (.inl rfl) (by omega) (by omega) (Nat.zero_le _)
  | some p =>
    have hpl := hp p rfl
    by_cases hn : p + n ≤ l.length
    · have e : (some p).bind (Tm.bts n l) = some ((l.drop p).take n, p + n) := by rw [Option.bind_some, Tm.bts, if_pos hn]
      rw [e]
      rcases hl with ⟨a, cap, rfl, rfl, hm, hnn⟩ | ⟨b, off, cap, rfl, h0, h1, hm, hc⟩
      · obtain rfl : p = 0 := by simpa using hpl
        obtain rfl : n = 0 := by simp at hn; omega
        unfold maxLen at hm
        refine (rpb_zero a cap w hnn (by omega)).mono ?_
        rintro e w' ⟨⟨a', c, rfl, h1, h2⟩, hb⟩
        refine ⟨⟨_, rfl, ⟨_, _, _, rfl⟩, fun x h W hW => ?_⟩, hb⟩
        injection h with h
        subst h
        exact .inl ⟨a', c, rfl, by simp, by unfold maxLen; omega, h2⟩
      · have hm2 := hm
        unfold maxLen at hm2
        refine (rpb_good b off l.length cap p n w hn h1 (by omega)).mono ?_
        rintro e w' ⟨⟨a', c, rfl, h3, h4, h5⟩, hb⟩
        refine ⟨⟨_, rfl, ⟨_, _, _, rfl⟩, fun x h W hW => ?_⟩, hb⟩
        injection h with h
        subst h
        have hcW : ∀ j, j < l.length → W.cell? ⟨b, off + j, none⟩ = some (.int .u8 (l.getD j 0)) := by
          rcases hW with ⟨a2, cap2, e2, hl0, _⟩ | ⟨b2, off2, cap2, e2, _, _, _, hc2⟩
          · rw [hl0] at h0; simp at h0
          · injection e2 with e2 _ _
            injection e2 with e2
            injection e2 with e2 e3
            subst e2 e3
            exact hc2
        have hlen : ((l.drop p).take n).length = n := by rw [List.length_take, List.length_drop]; omega
        by_cases hn0 : n = 0
        · subst hn0
          exact .inl ⟨a', c, rfl, by simp, Nat.le_trans h4 hm, h5⟩
        · obtain ⟨rfl, h6, h7⟩ := h3 (by omega)
          refine .inr ⟨b, off + p, c, by rw [hlen], by rw [hlen]; omega, by rw [hlen]; exact h6, Nat.le_trans h7 hm, fun j hj => ?_⟩
          rw [hlen] at hj
          rw [Nat.add_assoc, hcW (p + j) (by omega)]
          simp only [List.getD, List.getElem?_take, List.getElem?_drop]
          rw [if_pos hj]
    · have e : (some p).bind (Tm.bts n l) = none := by rw [Option.bind_some, Tm.bts, if_neg hn]
      rw [e]
      obtain ⟨ba, bc, hbv, _, _⟩ := hl.shape
      have := hbad ba l.length bc p true (.inr (by omega)) (by omega) (by omega) hml
      show Calls _ _ #[.agg #[bv, .int .i64 (p : Int), .bool true], _] _ _
      rw [hbv] at this ⊢
      exact this
end Go.Proofs.YtbdnbjemocjlaaaGreatDoor

/- The document's digest of 32 bytes. -/
namespace Go.Proofs.YtbdnbjemocjlaaaGreatDoor
open Go.RowKit
set_option linter.unusedVariables false
set_option linter.unusedSimpArgs false

/-- The first k bytes of D, and 0 behind them. -/
def qbytes (D : List Int) (k : Nat) : List Int := D.take k ++ List.replicate (32 - k) 0
theorem qbytes_length (D : List Int) (k : Nat) (hD : D.length = 32) (hk : k ≤ 32) : (qbytes D k).length = 32 := by simp [qbytes]; omega
theorem qbytes_set (D : List Int) (k : Nat) (hD : D.length = 32) (hk : k < 32) : (qbytes D k).set k (D.getD k 0) = qbytes D (k + 1) := by
  unfold qbytes
  have hl : (D.take k).length = k := by rw [List.length_take]; omega
  rw [List.set_append_right _ _ (by omega), hl, Nat.sub_self, take_snoc D k (by omega), List.append_assoc, show 32 - k = (32 - (k + 1)) + 1 by omega, List.replicate_succ, List.set_cons_zero]
  rfl

set_option maxRecDepth 100000 in
set_option maxHeartbeats 4000000 in
theorem rdig32_any (b off cap : Nat) (D : List Int) (w : World) (hDl : D.length = 32) (hcap : 32 ≤ cap) (hcm : cap ≤ 9223372036854775807) (hr : w.rangeAt b off (vals D)) (hb0 : b < w.heap.size) :
    Calls Tryz.prog 34 #[.slice (some ⟨b, off, none⟩) 32 cap, .int .i64 0] w fun e w' => e = .returned (.agg (vals D).toArray) ∧ Below w.heap.size w w' := by
  have HRG : Hid (∀ j, j < 32 → w.cell? ⟨b, off + j, none⟩ = some (.int .u8 (D.getD j 0))) := fun j hj => hr j _ (vals_get D _ (by omega))
  have hzd := zero_dig
  obtain ⟨Z, hZ⟩ : ∃ Z, Z = vals (List.replicate 32 0) := ⟨_, rfl⟩
  rw [← hZ] at hzd
  have hZl : Z.length = 32 := by rw [hZ]; simp [vals]
  have hZp : ¬ Z = [] := by intro h; rw [h] at hZl; cases hZl
  have HZ0 : Hid (Z = vals (qbytes D 0)) := by show _ = _; rw [hZ]; rfl
  have HZL := hide hZl
  have HDL := hide hDl
  have HPS : Hid (∀ j, j < 32 → (qbytes D j).set j (D.getD j 0) = qbytes D (j + 1)) := fun j hj => qbytes_set D j hDl hj
  have HPL : Hid (∀ j, j ≤ 32 → (qbytes D j).length = 32) := fun j hj => qbytes_length D j hDl hj
  have HP32 : Hid (qbytes D 32 = D) := by show _ = _; unfold qbytes; rw [List.take_of_length_le (by omega), Nat.sub_self]; simp
  clear hZ hZl hDl hr
  go_enter Tryz.func34, Tryz.ntmps34
  go_wp2
  go_loopw [6] (fun i wr => ∃ j : Nat, j ≤ 32 ∧ i = .int .i64 j ∧ Is wr (w.heap.size + 1) (vals (qbytes D j)) 34 ∧ Is wr w.heap.size Z 34 ∧ Below w.heap.size w wr) (fun i _ => 32 - (intOf i).toNat)
  case atStart => exact ⟨0, by omega, rfl, by rw [← HZ0.out]; exact Is.new' Z 34 (by simp), (Is.new w Z 34).alloc _, below_alloc2 _ _ _⟩
  case round =>
    obtain ⟨j, hj, rfl, hi, hz, hb⟩ := hrel
    by_cases hjl : j < 32
    · have hji : (j : Int) < 32 := by omega
      have hc1 : wr.cell? ⟨b, off + j, none⟩ = some (.int .u8 (D.getD j 0)) := by rw [hb.cell (p := ⟨b, off + j, none⟩) hb0]; exact HRG.out j hjl
      have hps := HPS.out j hjl
      have hpl := HPL.out j (by omega)
      have hc2 : wr.cell? ⟨w.heap.size + 1, j, none⟩ = some (.int .u8 ((qbytes D j).getD j 0)) := by rw [hi.cell, vals_get _ _ (by omega)]
      have hf2 := hi.frozen j
      obtain ⟨x, hx⟩ : ∃ x, x = D.getD j 0 := ⟨_, rfl⟩
      rw [← hx] at hc1 hps
      generalize (qbytes D j).getD j 0 = y at *
      have HX := hide hx
      have HI := hide hi
      have HZZ := hide hz
      have HPS1 := hide hps
      have hadd : IntKind.i64.wrap (0 + (j : Int)) = (j : Int) := by rw [Int.zero_add]; exact IntWalk.i64_in _ (by omega)
      clear hi hz hps hx hpl HRG HPS HPL
      go_wp2
      refine ⟨⟨j + 1, by omega, by go_num, ?_, HZZ.out.other ⟨w.heap.size + 1, j, none⟩ _ (by simp), hb.setCell (p := ⟨w.heap.size + 1, j, none⟩) (Nat.le_succ _) _⟩, by simp [intOf]; omega⟩
      rw [← HPS1.out, ← vals_set]
      exact HI.out.set j _
    · have hji : ¬ (j : Int) < 32 := by omega
      have hje : j = 32 := by omega
      rw [hje, HP32.out] at hi
      have HI := hide hi
      have HZZ := hide hz
      clear hi hz HRG HPS HPL HP32 hje HZ0
      go_wp2_with (first
        | (refine wpList_load_arrD 34 (vals D) (w.heap.size + 1) rfl (.tmp 5) rfl rfl HI.out Tryz.underlying34 size_dig (by rw [vals_length]; exact HDL.out) ?_)
        | (refine wpList_store_anyD 34 Z (vals D) w.heap.size rfl (.tmp 4) (.tmp 19) rfl rfl rfl rfl HZZ.out size_dig HZL.out (by rw [vals_length]; exact HDL.out) (vals_one _) ?_; intro w7 hi7 hb7 hk7 hz7))
      have hr := hi7.cellsOf Tryz.underlying34 (by rw [vals_length, HDL.out]; exact size_dig)
      exact bodyPost_ret (v := .agg (vals D).toArray) (results_cell1 Tryz.results34 rfl hr) rfl ⟨rfl, hb7 _ _ hb (Nat.le_refl _)⟩

end Go.Proofs.YtbdnbjemocjlaaaGreatDoor

/- What is left of a reading, over lists: for the document's reader. -/
namespace Go.Proofs.YtbdnbjemocjlaaaGreatDoor
open Go.RowKit
set_option linter.unusedVariables false
set_option linter.unusedSimpArgs false

def PtL (bv : Value) : Option Nat → List Value
  | some p => [bv, .int .i64 (p : Int), .bool true]
  | none => [.slice none 0 0, .int .i64 0, .bool false]
theorem ptV_eq (bv : Value) (o : Option Nat) : PtV bv o = .agg (PtL bv o).toArray := by cases o <;> rfl
theorem ptL_len (bv : Value) (o : Option Nat) : (PtL bv o).length = 3 := by cases o <;> rfl
theorem ptL_one (bv : Value) (h : bv.oneCell' = true) (o : Option Nat) : ∀ v ∈ PtL bv o, v.oneCell' = true := by
  intro v hv
  cases o with
  | none =>
    simp only [PtL, List.mem_cons, List.not_mem_nil, or_false] at hv
    rcases hv with rfl | rfl | rfl <;> rfl
  | some p =>
    simp only [PtL, List.mem_cons, List.not_mem_nil, or_false] at hv
    rcases hv with rfl | rfl | rfl
    · exact h
    · rfl
    · rfl
theorem ptL_ok (bv : Value) (o : Option Nat) : (PtL bv o)[2]? = some (.bool o.isSome) := by cases o <;> rfl
/-- A number is read: where the reading is then, and the number. -/
def nO (most : Int) (l : List Int) (o : Option Nat) : Option Nat := (o.bind (Tm.lim most l)).map Prod.snd
def nV (most : Int) (l : List Int) (o : Option Nat) : Int := ((o.bind (Tm.lim most l)).map Prod.fst).getD 0
def bO (n : Nat) (l : List Int) (o : Option Nat) : Option Nat := (o.bind (Tm.bts n l)).map Prod.snd
theorem lim_le {most : Int} {l : List Int} {p q : Nat} {x : Int} (hb : Sz.Byt l) (h : Tm.lim most l p = some (x, q)) : 0 ≤ x ∧ x ≤ most ∧ (p ≤ l.length → q ≤ l.length) := by
  unfold Tm.lim at h
  cases hn : Tm.num l p with
  | none => rw [hn] at h; cases h
  | some y =>
    rw [hn, Option.bind_some] at h
    obtain ⟨y1, y2⟩ := y
    obtain ⟨h1, h2, h3, h4⟩ := Tm.num_sound l hb p y1 y2 hn
    by_cases e : y1 ≤ most
    · rw [if_pos e] at h
      cases h
      exact ⟨h4.1, e, h2⟩
    · rw [if_neg e] at h; cases h
theorem nV_le (most : Int) (hm : 0 ≤ most) (l : List Int) (hb : Sz.Byt l) (o : Option Nat) : 0 ≤ nV most l o ∧ nV most l o ≤ most := by
  unfold nV
  cases h : o.bind (Tm.lim most l) with
  | none => exact ⟨Int.le_refl _, hm⟩
  | some x =>
    cases o with
    | none => cases h
    | some p =>
      obtain ⟨a, b, c⟩ := lim_le hb (x := x.1) (q := x.2) (by simpa using h)
      exact ⟨a, b⟩
/-- The reading is within the bytes. -/
def Inn (l : List Int) (o : Option Nat) : Prop := ∀ p, o = some p → p ≤ l.length
theorem inn_n {most : Int} {l : List Int} {o : Option Nat} (hb : Sz.Byt l) (h : Inn l o) : Inn l (nO most l o) := by
  intro q hq
  unfold nO at hq
  cases o with
  | none => cases hq
  | some p =>
    rw [Option.bind_some] at hq
    cases hl : Tm.lim most l p with
    | none => rw [hl] at hq; cases hq
    | some x =>
      rw [hl] at hq
      cases hq
      exact (lim_le hb (x := x.1) (q := x.2) hl).2.2 (h p rfl)
theorem inn_b {n : Nat} {l : List Int} {o : Option Nat} (h : Inn l o) : Inn l (bO n l o) := by
  intro q hq
  unfold bO at hq
  cases o with
  | none => cases hq
  | some p =>
    rw [Option.bind_some] at hq
    unfold Tm.bts at hq
    by_cases e : p + n ≤ l.length
    · rw [if_pos e] at hq; cases hq; exact e
    · rw [if_neg e] at hq; cases hq
/-- What comes behind the ins. -/
def restO (l : List Int) (ins : List Tm.In) (outs : List Tm.Out) (d : Nat) (q : Nat) : Option Tm.Tx := (Tm.rep (Tm.rOut l) d q).bind fun o => (Tm.lim 1073741824 l o.2).map fun z => ⟨ins, outs ++ o.1, z.1⟩
def restI (l : List Int) (ins : List Tm.In) (q : Nat) : Option Tm.Tx := (Tm.lim 40 l q).bind fun y => restO l ins [] y.1.toNat y.2
/-- So many ins were read, d are left. -/
def InvI (l : List Int) (A : List Tm.In) (d : Nat) (o : Option Nat) : Prop := match o with
  | some q => Tm.rPay l = (Tm.rep (Tm.rIn l) d q).bind fun y => restI l (A ++ y.1) y.2
  | none => Tm.rPay l = none
def InvO (l : List Int) (ins : List Tm.In) (A : List Tm.Out) (d : Nat) (o : Option Nat) : Prop := match o with
  | some q => Tm.rPay l = restO l ins A d q
  | none => Tm.rPay l = none
theorem invI_some (l : List Int) (A : List Tm.In) (d q : Nat) : InvI l A d (some q) = (Tm.rPay l = (Tm.rep (Tm.rIn l) d q).bind fun y => restI l (A ++ y.1) y.2) := rfl
theorem invO_some (l : List Int) (I : List Tm.In) (A : List Tm.Out) (d q : Nat) : InvO l I A d (some q) = (Tm.rPay l = (Tm.rep (Tm.rOut l) d q).bind fun o => (Tm.lim 1073741824 l o.2).map fun z => ⟨I, A ++ o.1, z.1⟩) := rfl
theorem invI_start (l : List Int) : InvI l [] (nV 40 l (some 0)).toNat (nO 40 l (some 0)) := by
  unfold nV nO InvI Tm.rPay
  rw [Option.bind_some]
  cases h : Tm.lim 40 l 0 with
  | none => rfl
  | some x =>
    show (some x).bind _ = _
    simp only [Option.bind_some, Option.map_some, Option.getD_some, List.nil_append]
    congr 1
theorem invI_next {l : List Int} {A : List Tm.In} {d q q' : Nat} {x : Tm.In} (h : InvI l A (d + 1) (some q)) (hx : Tm.rIn l q = some (x, q')) : InvI l (A ++ [x]) d (some q') := by
  rw [invI_some] at h ⊢
  rw [h, rep_some hx]
  cases hr : Tm.rep (Tm.rIn l) d q' <;> simp
theorem invI_stop {l : List Int} {A : List Tm.In} {d q : Nat} (h : InvI l A (d + 1) (some q)) (hx : Tm.rIn l q = none) : Tm.rPay l = none := by
  rw [invI_some] at h
  rw [h, rep_none hx]; rfl
theorem invI_end {l : List Int} {A : List Tm.In} {o : Option Nat} (h : InvI l A 0 o) : InvO l A [] (nV 40 l o).toNat (nO 40 l o) := by
  cases o with
  | none => exact h
  | some q =>
    rw [invI_some, rep_zero] at h
    simp only [Option.bind_some, List.append_nil] at h
    unfold nV nO InvO
    rw [Option.bind_some]
    unfold restI at h
    cases hl : Tm.lim 40 l q with
    | none => rw [hl] at h; exact h
    | some x => rw [hl] at h; exact h
theorem invI_no {l : List Int} {A : List Tm.In} {d : Nat} (h : InvI l A d none) : ∀ A' d', InvI l A' d' none := fun _ _ => h
theorem invO_next {l : List Int} {I : List Tm.In} {A : List Tm.Out} {d q q' : Nat} {x : Tm.Out} (h : InvO l I A (d + 1) (some q)) (hx : Tm.rOut l q = some (x, q')) : InvO l I (A ++ [x]) d (some q') := by
  rw [invO_some] at h ⊢
  rw [h, rep_some hx]
  cases hr : Tm.rep (Tm.rOut l) d q' <;> simp
theorem invO_stop {l : List Int} {I : List Tm.In} {A : List Tm.Out} {d q : Nat} (h : InvO l I A (d + 1) (some q)) (hx : Tm.rOut l q = none) : Tm.rPay l = none := by
  rw [invO_some] at h
  rw [h, rep_none hx]; rfl
/-- At the end: the payment, or none. -/
theorem invO_end {l : List Int} {I : List Tm.In} {A : List Tm.Out} {o : Option Nat} (h : InvO l I A 0 o) : Tm.rPay l = if (nO 1073741824 l o).isSome = true then some ⟨I, A, nV 1073741824 l o⟩ else none := by
  cases o with
  | none => exact h
  | some q =>
    rw [invO_some, rep_zero] at h
    simp only [Option.bind_some, List.append_nil] at h
    rw [h]
    unfold nO nV
    rw [Option.bind_some]
    cases hl : Tm.lim 1073741824 l q <;> simp
/-- Keys: so many were read, d are left; of an in that begins at q. -/
def InvK (l : List Int) (D : List Int) (a : Int) (A : List (List Int)) (d : Nat) (r : Option (Tm.In × Nat)) (o : Option Nat) : Prop := match o with
  | some p => r = (Tm.rep (Tm.rThing 3000 l) d p).map fun y => (⟨D, a, A ++ y.1⟩, y.2)
  | none => r = none
def InvP (l : List Int) (am : Int) (A : List Lk.Op) (d : Nat) (r : Option (Tm.Out × Nat)) (o : Option Nat) : Prop := match o with
  | some p => r = (Tm.rep (Tm.rOp l) d p).map fun y => (⟨am, A ++ y.1⟩, y.2)
  | none => r = none
theorem invK_some (l D : List Int) (a : Int) (A : List (List Int)) (d : Nat) (r : Option (Tm.In × Nat)) (p : Nat) : InvK l D a A d r (some p) = (r = (Tm.rep (Tm.rThing 3000 l) d p).map fun y => (⟨D, a, A ++ y.1⟩, y.2)) := rfl
theorem invP_some (l : List Int) (am : Int) (A : List Lk.Op) (d : Nat) (r : Option (Tm.Out × Nat)) (p : Nat) : InvP l am A d r (some p) = (r = (Tm.rep (Tm.rOp l) d p).map fun y => (⟨am, A ++ y.1⟩, y.2)) := rfl
theorem invK_start {l : List Int} {q : Nat} (D : List Int) (o1 o2 o3 : Option Nat) (h1 : o1 = bO 32 l (some q)) (h2 : o2 = nO 40 l o1) (h3 : o3 = nO 30 l o2) (hD : D = (l.drop q).take 32) : InvK l D (nV 40 l o1) [] (nV 30 l o2).toNat (Tm.rIn l q) o3 := by
  subst hD h3 h2 h1
  unfold InvK nO nV bO Tm.rIn
  rw [Option.bind_some]
  cases e1 : Tm.bts 32 l q with
  | none => rfl
  | some x1 =>
    have : x1.1 = (l.drop q).take 32 := by
      unfold Tm.bts at e1
      by_cases e : q + 32 ≤ l.length
      · rw [if_pos e] at e1; cases e1; rfl
      · rw [if_neg e] at e1; cases e1
    simp only [Option.bind_some, Option.map_some]
    cases e2 : Tm.lim 40 l x1.2 with
    | none => rfl
    | some x2 =>
      simp only [Option.bind_some, Option.map_some, Option.getD_some]
      cases e3 : Tm.lim 30 l x2.2 with
      | none => rfl
      | some x3 =>
        simp only [Option.bind_some, Option.map_some, Option.getD_some, List.nil_append, this]
theorem invK_next {l D : List Int} {a : Int} {A : List (List Int)} {d p : Nat} {r : Option (Tm.In × Nat)} {x : List Int} {p' : Nat} (h : InvK l D a A (d + 1) r (some p)) (hx : Tm.rThing 3000 l p = some (x, p')) : InvK l D a (A ++ [x]) d r (some p') := by
  rw [invK_some] at h ⊢
  rw [h, rep_some hx]
  cases hr : Tm.rep (Tm.rThing 3000 l) d p' <;> simp
theorem invK_stop {l D : List Int} {a : Int} {A : List (List Int)} {d p : Nat} {r : Option (Tm.In × Nat)} (h : InvK l D a A (d + 1) r (some p)) (hx : Tm.rThing 3000 l p = none) : r = none := by
  rw [invK_some] at h
  rw [h, rep_none hx]; rfl
theorem invK_end {l D : List Int} {a : Int} {A : List (List Int)} {p : Nat} {r : Option (Tm.In × Nat)} (h : InvK l D a A 0 r (some p)) : r = some (⟨D, a, A⟩, p) := by
  rw [invK_some] at h
  rw [h, rep_zero]; simp
theorem invP_next {l : List Int} {am : Int} {A : List Lk.Op} {d p : Nat} {r : Option (Tm.Out × Nat)} {x : Lk.Op} {p' : Nat} (h : InvP l am A (d + 1) r (some p)) (hx : Tm.rOp l p = some (x, p')) : InvP l am (A ++ [x]) d r (some p') := by
  rw [invP_some] at h ⊢
  rw [h, rep_some hx]
  cases hr : Tm.rep (Tm.rOp l) d p' <;> simp
theorem invP_stop {l : List Int} {am : Int} {A : List Lk.Op} {d p : Nat} {r : Option (Tm.Out × Nat)} (h : InvP l am A (d + 1) r (some p)) (hx : Tm.rOp l p = none) : r = none := by
  rw [invP_some] at h
  rw [h, rep_none hx]; rfl
theorem invP_end {l : List Int} {am : Int} {A : List Lk.Op} {p : Nat} {r : Option (Tm.Out × Nat)} (h : InvP l am A 0 r (some p)) : r = some (⟨am, A⟩, p) := by
  rw [invP_some] at h
  rw [h, rep_zero]; simp
/-- A row of one's own and what is said of the things in it, all of it ahead of block hi. -/
structure AccM (W : World) (base hi : Nat) (e : TypeId) (s n : Nat) (v : Value) (cs : List Value) (F : World → Prop) : Prop where
  ex : ∃ S : Nat → Prop, (∀ k, S k → base ≤ k ∧ k < hi) ∧ (∀ b, v.ownBlock = some b → ¬ S b) ∧ Dep S F W
  own : W.ownsRow base e s v n cs
  lt : ∀ b, v.ownBlock = some b → b < hi
theorem Acc.mid {W : World} {base : Nat} {e : TypeId} {s n : Nat} {v : Value} {cs : List Value} {F : World → Prop} (h : Acc W base e s n v cs F) : AccM W base W.heap.size e s n v cs F :=
  ⟨h.ex, h.own, fun b hb => (World.ownsRow.lt h.own b hb).2⟩
theorem AccM.acc {W : World} {base hi : Nat} {e : TypeId} {s n : Nat} {v : Value} {cs : List Value} {F : World → Prop} (h : AccM W base hi e s n v cs F) (hz : hi ≤ W.heap.size) : Acc W base e s n v cs F := by
  obtain ⟨⟨S, h1, h2, h3⟩, ho, _⟩ := h
  exact ⟨⟨S, fun k hk => ⟨(h1 k hk).1, Nat.lt_of_lt_of_le (h1 k hk).2 hz⟩, h2, h3⟩, ho⟩
theorem AccM.but {W W' : World} {base hi R : Nat} {e : TypeId} {s n : Nat} {v : Value} {cs : List Value} {F : World → Prop} (h : AccM W base hi e s n v cs F) (hb : But R W W') (hR : R < base ∨ hi ≤ R) (hz : hi ≤ W.heap.size) : AccM W' base hi e s n v cs F := by
  obtain ⟨⟨S, h1, h2, h3⟩, ho, hl⟩ := h
  refine ⟨⟨S, h1, h2, h3.step hb.size (fun k hk => hb.block k (by have := (h1 k hk).2; omega) (by have := h1 k hk; omega))⟩, ?_, hl⟩
  refine ⟨ho.1, ?_⟩
  rcases ho.2 with h0 | ⟨g', cap, cur, rfl, hbg, hg', hn, hc, hs', ht'⟩
  · exact .inl h0
  · have hgl := hl g' rfl
    exact .inr ⟨g', cap, cur, rfl, hbg, by rw [hb.block g' (by omega) (by omega)]; exact hg', hn, hc, hs', ht'⟩
theorem AccM.call {W W' : World} {base hi : Nat} {e : TypeId} {s n : Nat} {v : Value} {cs : List Value} {F : World → Prop} (h : AccM W base hi e s n v cs F) (hb : Below W.heap.size W W') (hz : hi ≤ W.heap.size) : AccM W' base hi e s n v cs F :=
  h.but (But.call (g := hi) hb) (.inr (Nat.le_refl _)) hz
/-- A thing: its length, and so many bytes. -/
theorem thing_of (most : Int) (l : List Int) (p : Nat) : Tm.rThing most l p = ((some p).bind (Tm.lim most l)).bind fun x => Tm.bts x.1.toNat l x.2 := rfl
end Go.Proofs.YtbdnbjemocjlaaaGreatDoor

/- The document's answer: whether bytes are the same. -/
namespace Go.Proofs.YtbdnbjemocjlaaaGreatDoor
open Go.RowKit
set_option linter.unusedVariables false

theorem rs_quiet (w : World) (n : Nat) : Below w.heap.size w (w.drewN n) := by
  induction n with
  | zero => exact Below.refl _ _
  | succ n ih => exact ih.drew

/-- Two lists are the same: a Bool that the walk does not look into. -/
def rs_same (a b : List Int) : Bool := decide (a = b)

theorem rs_take (a b : List Int) (n : Nat) (hl : a.length = b.length) (h : ∀ j, j < n → a.getD j 0 = b.getD j 0) : a.take n = b.take n := by
  apply List.ext_getElem?
  intro j
  simp only [List.getElem?_take]
  by_cases hj : j < n
  · rw [if_pos hj, if_pos hj]
    have := h j hj
    by_cases ha : j < a.length
    · have hb : j < b.length := by omega
      simp [List.getD, List.getElem?_eq_getElem ha, List.getElem?_eq_getElem hb] at this
      rw [List.getElem?_eq_getElem ha, List.getElem?_eq_getElem hb, this]
    · rw [List.getElem?_eq_none (by omega), List.getElem?_eq_none (by omega)]
  · rw [if_neg hj, if_neg hj]

set_option maxHeartbeats 800000 in
theorem rsame_any (v1 v2 : Value) (l1 l2 : List Int) (w : World) (h1 : Has w v1 l1) (h2 : Has w v2 l2) :
    Calls Tryz.prog 35 #[v1, v2] w fun e w' => e = .returned (.bool (rs_same l1 l2)) ∧ Below w.heap.size w w' := by
  by_cases hl : l1.length = l2.length
  · by_cases h0 : l1.length = 0
    · have e1 : l1 = [] := List.eq_nil_of_length_eq_zero h0
      have e2 : l2 = [] := List.eq_nil_of_length_eq_zero (by omega)
      subst e1; subst e2
      obtain ⟨a1, c1, rfl⟩ : ∃ a c, v1 = .slice a 0 c := by
        rcases h1 with ⟨a, c, rfl, _⟩ | ⟨b, off, cap, _, h, _⟩
        · exact ⟨a, c, rfl⟩
        · simp at h
      obtain ⟨a2, c2, rfl⟩ : ∃ a c, v2 = .slice a 0 c := by
        rcases h2 with ⟨a, c, rfl, _⟩ | ⟨b, off, cap, _, h, _⟩
        · exact ⟨a, c, rfl⟩
        · simp at h
      clear hl h0 h1 h2
      have hs : rs_same [] [] = true := rfl
      rw [hs]
      go_enter Tryz.func35, Tryz.ntmps35
      go_wp2
      refine wp_loop_rounds 1 ?_
      rw [rounds_succ]
      go_wp2
      go_ret
      exact ⟨rfl, Below.refl _ _⟩
    · obtain ⟨b1, o1, c1, rfl, hp1, hc1, hm1, hcell1⟩ : ∃ b off cap, v1 = .slice (some ⟨b, off, none⟩) l1.length cap ∧ 0 < l1.length ∧ l1.length ≤ cap ∧ cap ≤ maxLen ∧ ∀ j, j < l1.length → w.cell? ⟨b, off + j, none⟩ = some (.int .u8 (l1.getD j 0)) := by
        rcases h1 with ⟨a, c, rfl, e, _⟩ | h
        · subst e; simp at h0
        · exact h
      obtain ⟨b2, o2, c2, rfl, hp2, hc2, hm2, hcell2⟩ : ∃ b off cap, v2 = .slice (some ⟨b, off, none⟩) l2.length cap ∧ 0 < l2.length ∧ l2.length ≤ cap ∧ cap ≤ maxLen ∧ ∀ j, j < l2.length → w.cell? ⟨b, off + j, none⟩ = some (.int .u8 (l2.getD j 0)) := by
        rcases h2 with ⟨a, c, rfl, e, _⟩ | h
        · subst e; exact absurd hl h0
        · exact h
      have hlt1 : b1 < w.heap.size := World.block_lt_of_cell? w ⟨b1, o1 + 0, none⟩ (hcell1 0 hp1)
      have hlt2 : b2 < w.heap.size := World.block_lt_of_cell? w ⟨b2, o2 + 0, none⟩ (hcell2 0 hp2)
      unfold maxLen at hm1 hm2
      rw [← hl] at hcell2 hp2 hc2 ⊢
      have HL := hide hl
      clear hl h0 hp2
      generalize hn : l1.length = n at *
      have HN := hide hn
      clear hn
      have hne : ((n : Int) != (n : Int)) = false := by simp
      go_enter Tryz.func35, Tryz.ntmps35
      go_wp2
      go_loopw [5] (fun i wr => ∃ k : Nat, k ≤ n ∧ i = .int .i64 k ∧ (∀ j, j < k → l1.getD j 0 = l2.getD j 0) ∧ Below w.heap.size w wr) (fun i _ => n - (intOf i).toNat)
      case atStart => exact ⟨0, Nat.zero_le _, rfl, by simp, Below.refl _ _⟩
      case round =>
        obtain ⟨k, hk, rfl, heq, hbel⟩ := hrel
        by_cases hlt : k < n
        · have hck1 : wr.cell? ⟨b1, o1 + k, none⟩ = some (.int .u8 (l1.getD k 0)) := by rw [hbel.cell (p := ⟨b1, o1 + k, none⟩) hlt1]; exact hcell1 k hlt
          have hck2 : wr.cell? ⟨b2, o2 + k, none⟩ = some (.int .u8 (l2.getD k 0)) := by rw [hbel.cell (p := ⟨b2, o2 + k, none⟩) hlt2]; exact hcell2 k hlt
          have hki : (k : Int) < (n : Int) := by omega
          have HE := hide heq
          clear heq
          by_cases hx : l1.getD k 0 = l2.getD k 0
          · have hnx : (l1.getD k 0 != l2.getD k 0) = false := by rw [bne_eq_false_iff_eq]; exact hx
            have HX := hide hx
            clear hx
            generalize hg1 : l1.getD k 0 = x1 at *
            generalize hg2 : l2.getD k 0 = x2 at *
            have HG1 := hide hg1
            have HG2 := hide hg2
            clear hg1 hg2
            go_wp2
            go_quiet (fail)
            go_wp2
            go_roundw
            case rel =>
              refine ⟨k + 1, by omega, by go_num, fun j hj => ?_, hbel.trans ((rs_quiet _ _).mono hbel.size)⟩
              by_cases e : j = k
              · subst e; rw [HG1.out, HG2.out, HX.out]
              · exact HE.out j (by omega)
            case measure => simp [intOf]; omega
          · have hnx : (l1.getD k 0 != l2.getD k 0) = true := by rw [bne_iff_ne]; exact hx
            have hsame : rs_same l1 l2 = false := by
              unfold rs_same; rw [decide_eq_false_iff_not]; intro e; exact hx (by rw [e])
            have HS := hide hsame
            clear hx hsame
            generalize hg1 : l1.getD k 0 = x1 at *
            generalize hg2 : l2.getD k 0 = x2 at *
            clear hg1 hg2
            go_wp2
            go_quiet (fail)
            go_wp2
            go_ret
            exact ⟨by rw [HS.out]; rfl, hbel.trans ((rs_quiet _ _).mono hbel.size)⟩
        · have hsame : rs_same l1 l2 = true := by
            unfold rs_same; rw [decide_eq_true_iff]
            have := rs_take l1 l2 k (HN.out.trans HL.out) heq
            rw [List.take_of_length_le (by rw [HN.out]; omega), List.take_of_length_le (by rw [← HL.out]; omega)] at this
            exact this
          have HS := hide hsame
          clear hsame
          go_wp2
          go_ret
          exact ⟨by rw [HS.out]; rfl, hbel⟩
  · have hs : rs_same l1 l2 = false := by
      unfold rs_same; rw [decide_eq_false_iff_not]; intro e; exact hl (by rw [e])
    rw [hs]
    obtain ⟨a1, c1, rfl⟩ : ∃ a c, v1 = .slice a l1.length c := by
      rcases h1 with ⟨a, c, rfl, rfl, _⟩ | ⟨b, off, cap, rfl, _⟩
      · exact ⟨a, c, rfl⟩
      · exact ⟨_, _, rfl⟩
    obtain ⟨a2, c2, rfl⟩ : ∃ a c, v2 = .slice a l2.length c := by
      rcases h2 with ⟨a, c, rfl, rfl, _⟩ | ⟨b, off, cap, rfl, _⟩
      · exact ⟨a, c, rfl⟩
      · exact ⟨_, _, rfl⟩
    have hne : (((l1.length : Nat) : Int) != ((l2.length : Nat) : Int)) = true := by simp; omega
    generalize l1.length = n1 at *
    generalize l2.length = n2 at *
    clear hl hs h1 h2
    go_enter Tryz.func35, Tryz.ntmps35
    go_wp2
    go_ret
    exact ⟨rfl, Below.refl _ _⟩

end Go.Proofs.YtbdnbjemocjlaaaGreatDoor

/- The document's reader of a payment: what its boxes hold. -/
namespace Go.Proofs.YtbdnbjemocjlaaaGreatDoor
open Go.RowKit
set_option linter.unusedVariables false
set_option linter.unusedSimpArgs false

/-- The result's box, the payment's, and the reading's (whose block is b5). -/
structure OfS (w : World) (b5 : Nat) (bv : Value) (Z : List Value) (o : Option Nat) (T : List Value) (W : World) : Prop where
  below : Below w.heap.size w W
  lo : w.heap.size + 1 < b5
  res : Is W w.heap.size Z 25
  tx : Is W (w.heap.size + 1) T 25
  pt : Is W b5 (PtL bv o) 77
theorem OfS.drew {w : World} {b5 : Nat} {bv : Value} {Z : List Value} {o : Option Nat} {T : List Value} {W : World} (h : OfS w b5 bv Z o T W) : OfS w b5 bv Z o T W.drew := ⟨h.below.drew, h.lo, h.res.drew, h.tx.drew, h.pt.drew⟩
theorem OfS.but {w : World} {b5 : Nat} {bv : Value} {Z : List Value} {o : Option Nat} {T : List Value} {W W' : World} {R : Nat} (h : OfS w b5 bv Z o T W) (hb : But R W W') (hR : b5 < R) : OfS w b5 bv Z o T W' :=
  have := h.lo
  ⟨h.below.trans (hb.under h.below.size (by omega)), h.lo, hb.kept h.res (by omega), hb.kept h.tx (by omega), hb.kept h.pt (by omega)⟩
theorem OfS.call {w : World} {b5 : Nat} {bv : Value} {Z : List Value} {o : Option Nat} {T : List Value} {W W' : World} (h : OfS w b5 bv Z o T W) (hb : Below W.heap.size W W') : OfS w b5 bv Z o T W' :=
  h.but (But.call (g := b5 + 1) hb) (Nat.lt_succ_self _)
theorem OfS.alloc {w : World} {b5 : Nat} {bv : Value} {Z : List Value} {o : Option Nat} {T : List Value} {W : World} (h : OfS w b5 bv Z o T W) (x : Obj) : OfS w b5 bv Z o T (W.alloc x) := h.call (below_alloc W x)
theorem OfS.grown {w : World} {b5 : Nat} {bv : Value} {Z : List Value} {o : Option Nat} {T : List Value} {W W' : World} {r : Option Nat} (h : OfS w b5 bv Z o T W) (hg : W.grownBy W' r) (hr : ∀ b, r = some b → b5 < b) : OfS w b5 bv Z o T W' := by
  have hl := h.lo
  have hp := h.pt.lt
  exact ⟨h.below.grown hg h.below.size (fun k hk => by have := hr k hk; omega), h.lo, h.res.grown hg (fun e => by have := hr _ e; omega), h.tx.grown hg (fun e => by have := hr _ e; omega), h.pt.grown hg (fun e => by have := hr _ e; omega)⟩
/-- The reading goes on. -/
theorem OfS.part {w : World} {b5 : Nat} {bv : Value} {Z : List Value} {o : Option Nat} {T : List Value} {W : World} (h : OfS w b5 bv Z o T W) (o' : Option Nat) : OfS w b5 bv Z o' T (W.setRow b5 (PtL bv o').toArray) :=
  have := h.lo
  have hb := But.row W b5 (PtL bv o').toArray
  ⟨h.below.trans (hb.under h.below.size (by omega)), h.lo, hb.kept h.res (by omega), hb.kept h.tx (by omega), h.pt.row _⟩
/-- A field of the payment is laid. -/
theorem OfS.set {w : World} {b5 : Nat} {bv : Value} {Z : List Value} {o : Option Nat} {T : List Value} {W : World} (h : OfS w b5 bv Z o T W) (i : Nat) (v : Value) : OfS w b5 bv Z o (T.set i v) (W.setCell ⟨w.heap.size + 1, i, none⟩ v) :=
  have := h.lo
  have hb := But.cell W (w.heap.size + 1) i v
  ⟨h.below.trans (hb.under h.below.size (by omega)), h.lo, hb.kept h.res (by omega), h.tx.set i v, hb.kept h.pt (by omega)⟩
/-- Thirty-two bytes, where they lie. -/
theorem has_thirty {W : World} {a : Option Addr} {m c : Nat} {D : List Int} (h : Has W (.slice a m c) D) (h32 : D.length = 32) : ∃ b off, a = some ⟨b, off, none⟩ ∧ m = 32 ∧ 32 ≤ c ∧ c ≤ 9223372036854775807 ∧ b < W.heap.size ∧ W.rangeAt b off (vals D) := by
  rcases h with ⟨a', cap, e, hl, _⟩ | ⟨b, off, cap, e, h0, h1, hm, hc⟩
  · rw [hl] at h32; cases h32
  · injection e with e1 e2 e3
    subst e1 e2 e3
    unfold maxLen at hm
    refine ⟨b, off, rfl, h32, by omega, by omega, ?_, fun j v hj => ?_⟩
    · have := hc 0 (by omega)
      exact World.block_lt_of_cell? W _ this
    · have hlt : j < D.length := by have := (List.getElem?_eq_some_iff.1 hj).1; rwa [vals_length] at this
      rw [hc j hlt, ← hj, vals_get D j hlt]
theorem of_setCells_only {w : World} {g : Nat} : ∀ (cs : List Value) (off : Nat) (W : World), Only g w.heap.size w W → Only g w.heap.size w (W.setCells g off cs)
  | [], _, _, h => h
  | v :: r, off, W, h => of_setCells_only r (off + 1) _ (h.setCell (p := ⟨g, off, none⟩) (.inl rfl) v)
theorem of_cells (w : World) (g off : Nat) (cs : List Value) : But g w (w.setCells g off cs) := of_setCells_only cs off w (Only.refl _ _ _)
theorem AccM.grown {W W' : World} {base hi : Nat} {e : TypeId} {s n : Nat} {v : Value} {cs : List Value} {F : World → Prop} {r : Option Nat} (h : AccM W base hi e s n v cs F) (hg : W.grownBy W' r) (hr : ∀ b, r = some b → hi ≤ b) (h0 : 0 < base) (hz : hi ≤ W.heap.size) : AccM W' base hi e s n v cs F := by
  cases r with
  | none => exact h.but (R := 0) (But.grown (R := 0) hg) (.inl h0) hz
  | some b => exact h.but (R := b) (But.grown (R := 0) hg) (.inr (hr b rfl)) hz
/-- A key more is read, or none. -/
theorem invK_step {l D : List Int} {a : Int} {A : List (List Int)} {d p m5 : Nat} {r : Option (Tm.In × Nat)} {o5 o6 : Option Nat} (h : InvK l D a A (d + 1) r (some p)) (h5 : o5 = nO 3000 l (some p)) (hm : (m5 : Int) = nV 3000 l (some p)) (h6 : o6 = bO m5 l o5) : InvK l D a (A ++ [((o5.bind (Tm.bts m5 l)).map Prod.fst).getD []]) d r o6 := by
  have ht := thing_of 3000 l p
  subst h6 h5
  unfold nV at hm
  unfold nO bO
  cases e1 : (some p).bind (Tm.lim 3000 l) with
  | none => rw [e1] at ht; exact invK_stop h ht
  | some x1 =>
    rw [e1] at ht hm
    have h7 : x1.1.toNat = m5 := by simp only [Option.map_some, Option.getD_some] at hm; omega
    simp only [Option.bind_some, h7] at ht
    simp only [Option.map_some, Option.bind_some]
    cases e2 : Tm.bts m5 l x1.2 with
    | none => rw [e2] at ht; exact invK_stop h ht
    | some x2 => rw [e2] at ht; simp only [Option.map_some, Option.getD_some]; exact invK_next h ht
/-- A key more is told. -/
theorem fky_add {w : World} {o o' : Option Nat} {KK : List (List Int × Value)} {x : List Int} {v : Value} {W : World} (hoo : o'.isSome = true → o.isSome = true) (h : Below w.heap.size w W → o.isSome = true → FKeys KK W) (hx : Below w.heap.size w W → o'.isSome = true → Has W v x ∧ Sz.Byt x) : Below w.heap.size w W → o'.isSome = true → FKeys (KK ++ [(x, v)]) W :=
  fun h1 h2 => fkeys_add (p := (x, v)) (h h1 (hoo h2)) (hx h1 h2)
theorem bO_some {n : Nat} {l : List Int} {o : Option Nat} (h : (bO n l o).isSome = true) : o.isSome = true := by
  cases o with
  | none => cases h
  | some _ => rfl
theorem nO_some {most : Int} {l : List Int} {o : Option Nat} (h : (nO most l o).isSome = true) : o.isSome = true := by
  cases o with
  | none => cases h
  | some _ => rfl
end Go.Proofs.YtbdnbjemocjlaaaGreatDoor

/- The document's reader of a payment: an op more is read, or none. -/
namespace Go.Proofs.YtbdnbjemocjlaaaGreatDoor
open Go.RowKit
set_option linter.unusedVariables false
set_option linter.unusedSimpArgs false

theorem op_of_rec (a b : Int) (c : List Int) : ({ op := a, n := b, data := c } : Lk.Op) = ⟨a, b, c⟩ := rfl
theorem invP_start {l : List Int} {q : Nat} (o1 o2 : Option Nat) (h1 : o1 = nO 1125899906842624 l (some q)) (h2 : o2 = nO 60 l o1) : InvP l (nV 1125899906842624 l (some q)) [] (nV 60 l o1).toNat (Tm.rOut l q) o2 := by
  subst h2 h1
  unfold InvP nO nV Tm.rOut
  rw [Option.bind_some]
  cases e1 : Tm.lim 1125899906842624 l q with
  | none => rfl
  | some x1 =>
    simp only [Option.bind_some, Option.map_some]
    cases e2 : Tm.lim 60 l x1.2 with
    | none => rfl
    | some x2 => simp only [Option.bind_some, Option.map_some, Option.getD_some, List.nil_append]
theorem invP_step {l : List Int} {am : Int} {A : List Lk.Op} {d p m3 : Nat} {r : Option (Tm.Out × Nat)} {o1 o2 o3 o4 : Option Nat} {v1 v2 : Int} (h : InvP l am A (d + 1) r (some p)) (h1 : o1 = nO 14 l (some p)) (hv1 : v1 = nV 14 l (some p)) (h2 : o2 = nO 1073741824 l o1) (hv2 : v2 = nV 1073741824 l o1) (h3 : o3 = nO 300 l o2) (hm : (m3 : Int) = nV 300 l o2) (h4 : o4 = bO m3 l o3) :
    InvP l am (A ++ [⟨v1, v2, ((o3.bind (Tm.bts m3 l)).map Prod.fst).getD []⟩]) d r o4 := by
  subst h4 h3 hv2 h2 hv1 h1
  unfold nV at hm ⊢
  unfold nO bO at *
  rw [Option.bind_some] at hm ⊢
  cases e1 : Tm.lim 14 l p with
  | none => exact invP_stop h (by unfold Tm.rOp; rw [e1]; rfl)
  | some x1 =>
    rw [e1] at hm
    simp only [Option.map_some, Option.bind_some] at hm ⊢
    cases e2 : Tm.lim 1073741824 l x1.2 with
    | none => exact invP_stop h (by unfold Tm.rOp; rw [e1, Option.bind_some, e2]; rfl)
    | some x2 =>
      rw [e2] at hm
      simp only [Option.map_some, Option.bind_some] at hm ⊢
      cases e3 : Tm.lim 300 l x2.2 with
      | none => exact invP_stop h (by unfold Tm.rOp Tm.rThing; rw [e1, Option.bind_some, e2, Option.bind_some, e3]; rfl)
      | some x3 =>
        rw [e3] at hm
        simp only [Option.map_some, Option.getD_some] at hm
        have h7 : x3.1.toNat = m3 := by omega
        simp only [Option.map_some, Option.bind_some]
        cases e4 : Tm.bts m3 l x3.2 with
        | none => exact invP_stop h (by unfold Tm.rOp Tm.rThing; rw [e1, Option.bind_some, e2, Option.bind_some, e3, Option.bind_some, h7, e4]; rfl)
        | some x4 =>
          simp only [Option.map_some, Option.getD_some]
          exact invP_next h (by unfold Tm.rOp Tm.rThing; rw [e1, Option.bind_some, e2, Option.bind_some, e3, Option.bind_some, h7, e4]; rfl)
/-- The ops, told where the reading is not over. -/
def FOp (w : World) (o : Option Nat) (LL : List (Lk.Op × Value)) (W : World) : Prop := Below w.heap.size w W → o.isSome = true → FOps LL W
/-- The outs, told where the reading is not over. -/
def FOut (w : World) (o : Option Nat) (L : List OutV) (W : World) : Prop := Below w.heap.size w W → o.isSome = true → FOuts L W
theorem fop_add {w : World} {o o' : Option Nat} {LL : List (Lk.Op × Value)} {p : Lk.Op × Value} {W : World} (hoo : o'.isSome = true → o.isSome = true) (h : FOp w o LL W) (hx : Below w.heap.size w W → o'.isSome = true → Has W p.2 p.1.data ∧ Sz.Byt p.1.data) : FOp w o' (LL ++ [p]) W :=
  fun h1 h2 => fops_add (h h1 (hoo h2)) (hx h1 h2)
theorem FOut.add {w : World} {o o' : Option Nat} {L : List OutV} {X : OutV} {W : World} (hoo : o'.isSome = true → o.isSome = true) (h : FOut w o L W) (hx : Below w.heap.size w W → o'.isSome = true → HasOps W X.lv X.L) : FOut w o' (L ++ [X]) W :=
  fun h1 h2 => fouts_add (h h1 (hoo h2)) (hx h1 h2)
theorem bts_byt {l : List Int} (hb : Sz.Byt l) (n : Nat) (o : Option Nat) : Sz.Byt (((o.bind (Tm.bts n l)).map Prod.fst).getD []) := by
  cases o with
  | none => intro x hx; cases hx
  | some p =>
    rw [Option.bind_some]
    unfold Tm.bts
    by_cases e : p + n ≤ l.length
    · rw [if_pos e]; exact (hb.drop p).take n
    · rw [if_neg e]; intro x hx; cases hx
theorem bO_bts {n : Nat} {l : List Int} {o : Option Nat} (h : (bO n l o).isSome = true) : ∃ x, o.bind (Tm.bts n l) = some x ∧ ((o.bind (Tm.bts n l)).map Prod.fst).getD [] = x.1 := by
  unfold bO at h
  cases e : o.bind (Tm.bts n l) with
  | none => rw [e] at h; cases h
  | some x => exact ⟨x, rfl, rfl⟩
theorem AccM.map {W : World} {base hi : Nat} {e : TypeId} {s n : Nat} {v : Value} {cs : List Value} {F G : World → Prop} (h : AccM W base hi e s n v cs F) (hG : ∀ W, F W → G W) : AccM W base hi e s n v cs G := by
  obtain ⟨⟨S, h1, h2, h3⟩, ho, hl⟩ := h
  exact ⟨⟨S, h1, h2, h3.map hG⟩, ho, hl⟩
theorem mid_other {lo hi R : Nat} {W W' : World} {F : World → Prop} (h : Mid lo hi W F) (hb : But R W W') (hR : R < lo ∨ hi ≤ R) (hz : hi ≤ W.heap.size) : Mid lo hi W' F := by
  obtain ⟨S, h1, h2⟩ := h
  exact ⟨S, h1, h2.step hb.size (fun k hk => hb.block k (by have := (h1 k hk).2; omega) (by have := h1 k hk; omega))⟩
theorem mid_call {lo hi : Nat} {W W' : World} {F : World → Prop} (h : Mid lo hi W F) (hb : Below W.heap.size W W') (hz : hi ≤ W.heap.size) : Mid lo hi W' F :=
  mid_other h (But.call (g := hi) hb) (.inr (Nat.le_refl _)) hz
end Go.Proofs.YtbdnbjemocjlaaaGreatDoor

/- The document's reader of a payment: the boxes of an out, of an op. -/
namespace Go.Proofs.YtbdnbjemocjlaaaGreatDoor
open Go.RowKit
set_option linter.unusedVariables false
set_option linter.unusedSimpArgs false

theorem OfS.store {w : World} {b5 : Nat} {bv : Value} {Z : List Value} {o : Option Nat} {T : List Value} {W W' : World} (h : OfS w b5 bv Z o T W) (o' : Option Nat) (hw : W' = W.setRow b5 (PtL bv o').toArray) : OfS w b5 bv Z o' T W' := by
  subst hw; exact h.part o'
/-- An out's box, the outs ahead of it, the ins. -/
structure OuS (w : World) (b5 B bo : Nat) (bv : Value) (Z T : List Value) (k : Nat) (v : Value) (cs : List Value) (F FI : World → Prop) (o : Option Nat) (c : List Value) (W : World) : Prop where
  of : OfS w b5 bv Z o T W
  box : Is W bo c 57
  rows : AccM W B bo 57 2 k v cs F
  ins : Mid (b5 + 1) B W FI
  lo : b5 < B
  hi : B ≤ bo
theorem OuS.but {w : World} {b5 B bo : Nat} {bv : Value} {Z T : List Value} {k : Nat} {v : Value} {cs : List Value} {F FI : World → Prop} {o : Option Nat} {c : List Value} {W W' : World} {R : Nat} (h : OuS w b5 B bo bv Z T k v cs F FI o c W) (hb : But R W W') (hR : bo < R) : OuS w b5 B bo bv Z T k v cs F FI o c W' :=
  have h1 := h.lo
  have h2 := h.hi
  have h3 := h.box.lt
  ⟨h.of.but hb (by omega), hb.kept h.box (by omega), h.rows.but hb (.inr (by omega)) (by omega), mid_other h.ins hb (.inr (by omega)) (by omega), h.lo, h.hi⟩
theorem OuS.call {w : World} {b5 B bo : Nat} {bv : Value} {Z T : List Value} {k : Nat} {v : Value} {cs : List Value} {F FI : World → Prop} {o : Option Nat} {c : List Value} {W W' : World} (h : OuS w b5 B bo bv Z T k v cs F FI o c W) (hb : Below W.heap.size W W') : OuS w b5 B bo bv Z T k v cs F FI o c W' :=
  h.but (But.call (g := bo + 1) hb) (Nat.lt_succ_self _)
theorem OuS.alloc {w : World} {b5 B bo : Nat} {bv : Value} {Z T : List Value} {k : Nat} {v : Value} {cs : List Value} {F FI : World → Prop} {o : Option Nat} {c : List Value} {W : World} (h : OuS w b5 B bo bv Z T k v cs F FI o c W) (x : Obj) : OuS w b5 B bo bv Z T k v cs F FI o c (W.alloc x) := h.call (below_alloc W x)
theorem OuS.store {w : World} {b5 B bo : Nat} {bv : Value} {Z T : List Value} {k : Nat} {v : Value} {cs : List Value} {F FI : World → Prop} {o : Option Nat} {c : List Value} {W W' : World} (h : OuS w b5 B bo bv Z T k v cs F FI o c W) (o' : Option Nat) (hw : W' = W.setRow b5 (PtL bv o').toArray) : OuS w b5 B bo bv Z T k v cs F FI o' c W' := by
  subst hw
  have h1 := h.lo
  have h2 := h.hi
  have h3 := h.box.lt
  have hb := But.row W b5 (PtL bv o').toArray
  exact ⟨h.of.part o', hb.kept h.box (by omega), h.rows.but hb (.inl (by omega)) (by omega), mid_other h.ins hb (.inl (by omega)) (by omega), h.lo, h.hi⟩
theorem OuS.set {w : World} {b5 B bo : Nat} {bv : Value} {Z T : List Value} {k : Nat} {v : Value} {cs : List Value} {F FI : World → Prop} {o : Option Nat} {c : List Value} {W : World} (h : OuS w b5 B bo bv Z T k v cs F FI o c W) (i : Nat) (x : Value) : OuS w b5 B bo bv Z T k v cs F FI o (c.set i x) (W.setCell ⟨bo, i, none⟩ x) :=
  have h1 := h.lo
  have h2 := h.hi
  have h3 := h.box.lt
  have hb := But.cell W bo i x
  ⟨h.of.but hb (by omega), h.box.set i x, h.rows.but hb (.inr (Nat.le_refl _)) (by omega), mid_other h.ins hb (.inr (by omega)) (by omega), h.lo, h.hi⟩
theorem OuS.grown {w : World} {b5 B bo : Nat} {bv : Value} {Z T : List Value} {k : Nat} {v : Value} {cs : List Value} {F FI : World → Prop} {o : Option Nat} {c : List Value} {W W' : World} {r : Option Nat} (h : OuS w b5 B bo bv Z T k v cs F FI o c W) (hg : W.grownBy W' r) (hr : ∀ b, r = some b → bo < b) : OuS w b5 B bo bv Z T k v cs F FI o c W' :=
  have h1 := h.lo
  have h2 := h.hi
  have h3 := h.box.lt
  ⟨h.of.grown hg (fun b hb => by have := hr b hb; omega), h.box.grown hg (fun e => by have := hr _ e; omega), h.rows.grown hg (fun b hb => by have := hr b hb; omega) (by omega) (by omega), by
    cases r with
    | none => exact mid_other h.ins (But.grown (R := 0) hg) (.inl (Nat.succ_pos _)) (by omega)
    | some b => exact mid_other h.ins (But.grown (R := 0) hg) (.inr (by have := hr b rfl; show B ≤ b; omega)) (by omega), h.lo, h.hi⟩
/-- An op's box besides, and the ops ahead of it. -/
structure OpS (w : World) (b5 B bo bp : Nat) (bv : Value) (Z T : List Value) (k : Nat) (v : Value) (cs : List Value) (F FI : World → Prop) (c : List Value) (n : Nat) (u : Value) (us : List Value) (G : World → Prop) (o : Option Nat) (d : List Value) (W : World) : Prop where
  ou : OuS w b5 B bo bv Z T k v cs F FI o c W
  box : Is W bp d 65
  rows : AccM W (bo + 1) bp 65 3 n u us G
  hi : bo < bp
theorem OpS.but {w : World} {b5 B bo bp : Nat} {bv : Value} {Z T : List Value} {k : Nat} {v : Value} {cs : List Value} {F FI : World → Prop} {c : List Value} {n : Nat} {u : Value} {us : List Value} {G : World → Prop} {o : Option Nat} {d : List Value} {W W' : World} {R : Nat} (h : OpS w b5 B bo bp bv Z T k v cs F FI c n u us G o d W) (hb : But R W W') (hR : bp < R) : OpS w b5 B bo bp bv Z T k v cs F FI c n u us G o d W' :=
  have h2 := h.hi
  have h3 := h.box.lt
  ⟨h.ou.but hb (by omega), hb.kept h.box (by omega), h.rows.but hb (.inr (by omega)) (by omega), h.hi⟩
theorem OpS.call {w : World} {b5 B bo bp : Nat} {bv : Value} {Z T : List Value} {k : Nat} {v : Value} {cs : List Value} {F FI : World → Prop} {c : List Value} {n : Nat} {u : Value} {us : List Value} {G : World → Prop} {o : Option Nat} {d : List Value} {W W' : World} (h : OpS w b5 B bo bp bv Z T k v cs F FI c n u us G o d W) (hb : Below W.heap.size W W') : OpS w b5 B bo bp bv Z T k v cs F FI c n u us G o d W' :=
  h.but (But.call (g := bp + 1) hb) (Nat.lt_succ_self _)
theorem OpS.alloc {w : World} {b5 B bo bp : Nat} {bv : Value} {Z T : List Value} {k : Nat} {v : Value} {cs : List Value} {F FI : World → Prop} {c : List Value} {n : Nat} {u : Value} {us : List Value} {G : World → Prop} {o : Option Nat} {d : List Value} {W : World} (h : OpS w b5 B bo bp bv Z T k v cs F FI c n u us G o d W) (x : Obj) : OpS w b5 B bo bp bv Z T k v cs F FI c n u us G o d (W.alloc x) := h.call (below_alloc W x)
theorem OpS.store {w : World} {b5 B bo bp : Nat} {bv : Value} {Z T : List Value} {k : Nat} {v : Value} {cs : List Value} {F FI : World → Prop} {c : List Value} {n : Nat} {u : Value} {us : List Value} {G : World → Prop} {o : Option Nat} {d : List Value} {W W' : World} (h : OpS w b5 B bo bp bv Z T k v cs F FI c n u us G o d W) (o' : Option Nat) (hw : W' = W.setRow b5 (PtL bv o').toArray) : OpS w b5 B bo bp bv Z T k v cs F FI c n u us G o' d W' := by
  have h0 := h.ou.lo
  have h1 := h.ou.hi
  have h2 := h.hi
  have h3 := h.box.lt
  refine ⟨h.ou.store o' hw, ?_, ?_, h.hi⟩
  · subst hw; exact (But.row W b5 (PtL bv o').toArray).kept h.box (by omega)
  · subst hw; exact h.rows.but (But.row W b5 (PtL bv o').toArray) (.inl (by omega)) (by omega)
theorem OpS.set {w : World} {b5 B bo bp : Nat} {bv : Value} {Z T : List Value} {k : Nat} {v : Value} {cs : List Value} {F FI : World → Prop} {c : List Value} {n : Nat} {u : Value} {us : List Value} {G : World → Prop} {o : Option Nat} {d : List Value} {W : World} (h : OpS w b5 B bo bp bv Z T k v cs F FI c n u us G o d W) (i : Nat) (x : Value) : OpS w b5 B bo bp bv Z T k v cs F FI c n u us G o (d.set i x) (W.setCell ⟨bp, i, none⟩ x) :=
  have h2 := h.hi
  have h3 := h.box.lt
  have hb := But.cell W bp i x
  ⟨h.ou.but hb (by omega), h.box.set i x, h.rows.but hb (.inr (Nat.le_refl _)) (by omega), h.hi⟩
theorem rs_same_self (l : List Int) : rs_same l l = true := decide_eq_true rfl
theorem rs_same_ne {a b : List Int} (h : ¬ a = b) : rs_same a b = false := decide_eq_false h
/-- What is told of blocks between b5 and h. -/
structure FinS (w : World) (b5 h : Nat) (F : World → Prop) (W : World) : Prop where
  mid : Mid (b5 + 1) h W (fun W => Below w.heap.size w W → F W)
  sz : h ≤ W.heap.size
  bl : Below w.heap.size w W
  lo : w.heap.size < b5
theorem FinS.but {w : World} {b5 h : Nat} {F : World → Prop} {W W' : World} {R : Nat} (k : FinS w b5 h F W) (hb : But R W W') (hR : R ≤ b5 ∨ h ≤ R) (hw : w.heap.size ≤ R) : FinS w b5 h F W' :=
  ⟨mid_other k.mid hb (hR.elim (fun e => .inl (Nat.lt_succ_of_le e)) .inr) k.sz, Nat.le_trans k.sz hb.size, k.bl.trans (hb.under k.bl.size hw), k.lo⟩
theorem FinS.call {w : World} {b5 h : Nat} {F : World → Prop} {W W' : World} (k : FinS w b5 h F W) (hb : Below W.heap.size W W') : FinS w b5 h F W' :=
  ⟨mid_call k.mid hb k.sz, Nat.le_trans k.sz hb.size, k.bl.trans (hb.mono k.bl.size), k.lo⟩
theorem FinS.out {w : World} {b5 h : Nat} {F : World → Prop} {W : World} (k : FinS w b5 h F W) : F W := (k.mid.itm k.sz).out k.bl
/-- A guarded load of a struct. -/
theorem wpList_load_partG (t : TypeId) (c : List Value) (b off : Nat) {m : Nat} {d : TypeDesc} {w : World} {ops : Array Oper} {rest : List Oper} {o : Oper} {a : Act} {Q : Exit → Act → World → Prop} (hgd : Region.wanted o (yielded ops a.tmps) = true) (s : Operand) (ho : o.op = .load t s) (hs : a.eval s = .pointer (some ⟨b, off, none⟩))
    (hr : w.rangeAt b off c) (hu : Tryz.prog.underlying t = some d) (hd : d.isRow = true) (hz : Sized t m) (hc : c.length = m)
    (h : wpList Tryz.prog ops Q rest (a.put o.dst (.agg c.toArray)) w) : wpList Tryz.prog ops Q (o :: rest) a w := by
  refine wpList_step fun K hK => ?_
  rw [if_pos hgd]
  have hl := run_loadVar_mid (P := Tryz.prog) w b off t c d hr hu hd (by rw [hc]; exact hz)
  unfold Oper.wp
  simp only [execOp, ho, hs, Instr.loadAt, Instr.sureAddr, Sem.run_bind, Sem.run_pure, Result.andThen_ok, hl]
  exact hK _ _ h
end Go.Proofs.YtbdnbjemocjlaaaGreatDoor
