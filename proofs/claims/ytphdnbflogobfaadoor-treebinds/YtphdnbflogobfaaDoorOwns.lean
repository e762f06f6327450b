/- Bytes that a call has made itself, and what an append of other bytes behind them leaves. -/
import Derived.Test.YtphdnbflogobfaaDoorHas
import Derived.OwnWalk
import Derived.Laws.AppendOwn
import Derived.Laws.AppendOwnNone
import Derived.Deep.WholeRow
namespace Go.Proofs.YtphdnbflogobfaaDoor
open Go.RowKit
set_option linter.unusedVariables false

def vals (l : List Int) : List Value := l.map (fun x => Value.int .u8 x)
theorem vals_length (l : List Int) : (vals l).length = l.length := by simp [vals]
theorem vals_append (a b : List Int) : vals (a ++ b) = vals a ++ vals b := by simp [vals]
theorem vals_get (l : List Int) (j : Nat) (h : j < l.length) : (vals l)[j]? = some (.int .u8 (l.getD j 0)) := by
  simp [vals, List.getD, List.getElem?_eq_getElem h]
theorem vals_one (l : List Int) : ∀ u ∈ vals l, u.oneCell' = true := by
  intro u hu
  obtain ⟨x, _, rfl⟩ := List.mem_map.1 hu
  rfl

/-- A slice of bytes that lies in memory made since 'base'. -/
def Own (w : World) (base : Nat) (v : Value) (l : List Int) : Prop := w.ownsRow base 5 1 v l.length (vals l)

theorem Own.nil (w : World) (base : Nat) : Own w base (.slice none 0 0) [] := World.ownsRow_nil w base 5 1

theorem Own.has {w : World} {base : Nat} {v : Value} {l : List Int} (h : Own w base v l) : Has w v l := by
  rcases h.2 with ⟨rfl, h0⟩ | ⟨g, cap, cur, rfl, hb, hg, hn, hc, hs, ht⟩
  · exact .inl ⟨none, 0, rfl, List.eq_nil_of_length_eq_zero h0, by unfold maxLen; omega, fun _ => rfl⟩
  · by_cases h0 : l.length = 0
    · have : l = [] := List.eq_nil_of_length_eq_zero h0
      subst this
      exact .inl ⟨_, cap, rfl, rfl, hc, fun h => by cases h⟩
    · refine .inr ⟨g, 0, cap, rfl, by omega, hn, hc, fun j hj => ?_⟩
      have hcell := World.ownsRow.cells h (g := g) rfl j _ (vals_get l j hj)
      rw [Addr.add_lit] at hcell
      exact hcell

theorem Own.form {w : World} {base : Nat} {v : Value} {l : List Int} (h : Own w base v l) : ∃ a cap, v = .slice a l.length cap ∧ l.length ≤ cap ∧ cap ≤ maxLen := by
  rcases h.2 with ⟨rfl, h0⟩ | ⟨g, cap, cur, rfl, hb, hg, hn, hc, hs, ht⟩
  · exact ⟨none, 0, by rw [h0], by omega, by unfold maxLen; omega⟩
  · exact ⟨_, cap, rfl, hn, hc⟩

/-- What a call leaves alone stays. -/
theorem Own.below {w w' : World} {base : Nat} {v : Value} {l : List Int} (h : Own w base v l) (hb : Below w.heap.size w w') : Own w' base v l := by
  refine ⟨h.1, ?_⟩
  rcases h.2 with h0 | ⟨g, cap, cur, rfl, hbg, hg, hn, hc, hs, ht⟩
  · exact .inl h0
  · have hlt : g < w.heap.size := by
      rcases Nat.lt_or_ge g w.heap.size with hlt | hge
      · exact hlt
      · rw [Array.getElem?_eq_none hge] at hg; cases hg
    exact .inr ⟨g, cap, cur, rfl, hbg, by rw [hb.block g hlt]; exact hg, hn, hc, hs, ht⟩

theorem Own.mono {w : World} {base base' : Nat} {v : Value} {l : List Int} (h : Own w base v l) (hb : base' ≤ base) : Own w base' v l := by
  refine ⟨h.1, ?_⟩
  rcases h.2 with h0 | ⟨g, cap, cur, rfl, hbg, hg, hn, hc, hs, ht⟩
  · exact .inl h0
  · exact .inr ⟨g, cap, cur, rfl, Nat.le_trans hb hbg, hg, hn, hc, hs, ht⟩

theorem Own.block {w : World} {base : Nat} {v : Value} {l : List Int} (h : Own w base v l) : ∀ k, v.ownBlock = some k → base ≤ k ∧ k < w.heap.size := World.ownsRow.lt h

theorem nextcap_le {need old : Nat} (h : old < need) (hn : 1024 ≤ need) : Builtin.nextslicecap need old ≤ need + need / 2 := by
  unfold Builtin.nextslicecap
  split
  · omega
  · split
    · omega
    · simp only [Builtin.growBy]
      repeat' split
      all_goals omega

theorem grown_own (w : World) (base C : Nat) (xs l : List Int) (h1 : xs.length + l.length ≤ C) (h2 : C ≤ maxLen) (hbase : base ≤ w.heap.size) :
    Own (w.drew.alloc (.cells ((vals xs).toArray ++ (vals l).toArray ++ Builtin.zeroCells (Value.int .u8 0).cells (C - (xs.length + l.length))) 5)) base (.slice (some ⟨w.heap.size, 0, none⟩) (xs.length + l.length) C) (xs ++ l) := by
  refine ⟨by simp [vals], .inr ⟨w.heap.size, C, _, by rw [List.length_append], hbase, heap_alloc_new w.drew _, by rw [List.length_append]; exact h1, h2, ?_, ?_⟩⟩
  · simp only [Array.size_append, List.size_toArray, size_zeroCells, vals_length]
    simp [Value.cells]
    omega
  · simp only [Array.toList_append]
    rw [← vals_append, List.length_append, Nat.mul_one, ← List.length_append, ← vals_length (xs ++ l)]
    exact List.take_left
theorem grown_kept (w : World) (o : Obj) (row : Option Nat) : w.grownBy (w.drew.alloc o) row := ⟨rfl, rfl, rfl, by simp, fun k hk _ => heap_alloc_old w.drew _ hk⟩

/-- An append of any bytes onto bytes of the call's own: room for 180 000 000 000 000 of them. -/
theorem run_append_bytes (w : World) (base : Nat) (v : Value) (xs : List Int) (hown : Own w base v xs) (x : Value) (l : List Int) (hx : Has w x l) (hbd : xs.length + l.length ≤ 180000000000000) (hbase : base ≤ w.heap.size) (ty : TypeId) :
    ∃ v' w', (Builtin.append_ #[23, 23] ty #[v, x]).run Tryd.prog w = .ok v' w' ∧ Own w' base v' (xs ++ l) ∧ w.grownBy w' v.ownBlock := by
  obtain ⟨i, hi, hz, hs, hby⟩ := info_u8
  have hml : xs.length + l.length ≤ maxLen := by unfold maxLen; omega
  -- a source with an address
  have main : ∀ (a : Addr) (c : Nat), x = .slice (some a) l.length c → (∀ j u, (vals l)[j]? = some u → w.cell? (a.add j) = some u) →
      ∃ v' w', (Builtin.append_ #[23, 23] ty #[v, x]).run Tryd.prog w = .ok v' w' ∧ Own w' base v' (xs ++ l) ∧ w.grownBy w' v.ownBlock := by
    intro a c hxa hnews
    subst hxa
    by_cases hsm : xs.length + l.length ≤ 140737488355328
    · obtain ⟨v', w', hr, h2, h3, _⟩ := run_append_own (P := Tryd.prog) w base 23 ty 5 i (.int .u8 0) 1 1 Tryd.underlying23 hi hz hs hby rfl (by decide) v xs.length (vals xs) hown a l.length c (vals l) (by simp [vals]) hnews (vals_one l) hml (by omega) hbase
      exact ⟨v', w', hr, by unfold Own; rw [List.length_append, vals_append]; exact h2, h3⟩
    · rcases hown.2 with ⟨rfl, h0⟩ | ⟨g, cap, cur, rfl, hbg, hg, hn, hc, hsz, ht⟩
      · have hxs : xs = [] := List.eq_nil_of_length_eq_zero h0
        subst hxs
        have hr := run_append_nil (P := Tryd.prog) w 23 ty 5 i (.int .u8 0) Tryd.underlying23 hi hz a l.length c (vals l) (by simp [vals, hs]) hnews (by simp at hsm; omega) (by simp at hbd; omega) (by simp [hby] at hbd ⊢; omega)
        have ho := grown_own w base (grownCap w l.length 0 5) [] l (by simpa using grownCap_ge w l.length 0 5) (grownCap_le_maxLen w l.length 0 5 (by simpa using hml)) hbase
        simp only [vals, List.map_nil, List.length_nil, Nat.zero_add, List.nil_append, Array.empty_append] at ho hr ⊢
        exact ⟨_, _, hr, ho, grown_kept _ _ _⟩
      · by_cases hroom : xs.length + l.length ≤ cap
        · obtain ⟨w', hr, h2, h3⟩ := run_append_fits (P := Tryd.prog) w base 23 ty 5 i 1 Tryd.underlying23 hi hs g xs.length cap (vals xs) hown a l.length c (vals l) (by simp [vals]) hnews (vals_one l) hroom
          exact ⟨_, w', hr, by unfold Own; rw [List.length_append, vals_append]; exact h2, h3⟩
        · have holds : ∀ j u, (vals xs)[j]? = some u → w.cell? ((⟨g, 0, none⟩ : Addr).add j) = some u := World.ownsRow.cells hown (g := g) rfl
          have hnc := nextcap_le (need := xs.length + l.length) (old := cap) (by omega) (by omega)
          have hr := run_append_grow (P := Tryd.prog) w 23 ty 5 i (.int .u8 0) Tryd.underlying23 hi hz ⟨g, 0, none⟩ xs.length cap (vals xs) (by simp [vals, hs]) holds a l.length c (vals l) (by simp [vals, hs]) hnews (by omega) (by omega) (by rw [hby]; omega)
          exact ⟨_, _, hr, grown_own w base _ xs l (grownCap_ge w _ cap 5) (grownCap_le_maxLen w _ cap 5 hml) hbase, grown_kept _ _ _⟩
  rcases hx with ⟨a, cap, rfl, rfl, hm, hn⟩ | ⟨b, off, cap, rfl, h0, h1, hm, hc⟩
  · cases a with
    | none =>
      obtain rfl := hn rfl
      have hr := run_append_owned_none (P := Tryd.prog) (w := w) base 23 ty 5 i 1 Tryd.underlying23 hi v xs.length (vals xs) hown
      exact ⟨v, w, hr, by rw [List.append_nil]; exact hown, ⟨rfl, rfl, rfl, Nat.le_refl _, fun _ _ _ => rfl⟩⟩
    | some a => exact main a cap rfl (fun j u hu => by simp [vals] at hu)
  · refine main ⟨b, off, none⟩ cap rfl (fun j u hu => ?_)
    have hj : j < l.length := by
      have := List.getElem?_eq_some_iff.1 hu
      obtain ⟨h, _⟩ := this
      rwa [vals_length] at h
    rw [vals_get l j hj] at hu
    rw [Addr.add_lit, ← hu]
    exact hc j hj

/-- The same, at the list of a region's operations: for the walk. -/
theorem wpList_append_bytes (w : World) {ops : Array Oper} {rest : List Oper} {o : Oper} {a : Act} {Q : Exit → Act → World → Prop} (hgd : o.guard = none) (s x : Operand)
    (ho : o.op = .call { callee := .builtin .append, args := #[s, x], argTypes := #[23, 23] })
    (base : Nat) (v : Value) (xs : List Int) (hs : a.eval s = v) (hown : Own w base v xs) (vx : Value) (l : List Int) (hx : a.eval x = vx) (hhas : Has w vx l) (hbd : xs.length + l.length ≤ 180000000000000) (hbase : base ≤ w.heap.size)
    (h : ∀ v' w', Own w' base v' (xs ++ l) → w.grownBy w' v.ownBlock → wpList Tryd.prog ops Q rest (a.put o.dst v') w') : wpList Tryd.prog ops Q (o :: rest) a w := by
  refine wpList_plain hgd fun K hK => ?_
  obtain ⟨v', w', hr, h2, h3⟩ := run_append_bytes w base v xs hown vx l hhas hbd hbase o.type
  unfold Oper.wp
  simp only [execOp, ho, resolve, invoke, builtin, Sem.run_bind, Sem.run_pure, Result.andThen_ok, List.map_toArray, List.map_cons, List.map_nil, hs, hx, hr]
  exact hK _ _ (h v' w' h2 h3)

theorem results_cell1 {fn : Func} {t : Tmp} {ty : TypeId} {b : Nat} {v : Value} {w : World} {tmps : Array Value} (h : fn.results = #[.cell t ty]) (ha : tmps.getD t undef = .pointer (some ⟨b, 0, none⟩)) (hl : (loadVar ty ⟨b, 0, none⟩).run Tryd.prog w = .ok v w) :
    (results fn tmps).run Tryd.prog w = .ok v w := by
  simp only [Array.getD_eq_getD_getElem?] at ha
  simp [results, h, asAddr, ha, hl]
theorem results_cell2 {fn : Func} {t u : Tmp} {ty : TypeId} {b : Nat} {v : Value} {w : World} {tmps : Array Value} (h : fn.results = #[.cell t ty, .tmp u]) (ha : tmps.getD t undef = .pointer (some ⟨b, 0, none⟩)) (hl : (loadVar ty ⟨b, 0, none⟩).run Tryd.prog w = .ok v w) :
    (results fn tmps).run Tryd.prog w = .ok (.tuple #[v, tmps.getD u undef]) w := by
  simp only [Array.getD_eq_getD_getElem?] at ha
  simp [results, h, asAddr, ha, hl, Result.andThen]
/-- A whole array, or struct, is loaded: at the list of a region's operations. -/
theorem wpList_load_is (t : TypeId) (v : Value) (b : Nat) {w : World} {ops : Array Oper} {rest : List Oper} {o : Oper} {a : Act} {Q : Exit → Act → World → Prop} (hgd : o.guard = none) (s : Operand) (ho : o.op = .load t s)
    (hs : a.eval s = .pointer (some ⟨b, 0, none⟩)) (hl : (Instr.loadAt t (.pointer (some ⟨b, 0, none⟩))).run Tryd.prog w = .ok v w)
    (h : wpList Tryd.prog ops Q rest (a.put o.dst v) w) : wpList Tryd.prog ops Q (o :: rest) a w := by
  refine wpList_plain hgd fun K hK => ?_
  unfold Oper.wp
  simp only [execOp, ho, hs, Sem.run_bind, Sem.run_pure, Result.andThen_ok, hl]
  exact hK _ _ h
/-- A whole array, or struct, is stored. -/
theorem wpList_store_is (t : TypeId) (v : Value) (b : Nat) {w w' : World} {ops : Array Oper} {rest : List Oper} {o : Oper} {a : Act} {Q : Exit → Act → World → Prop} (hgd : o.guard = none) (s x : Operand) (ho : o.op = .store t s x)
    (hs : a.eval s = .pointer (some ⟨b, 0, none⟩)) (hx : a.eval x = v) (hl : (Instr.storeAt t (.pointer (some ⟨b, 0, none⟩)) v).run Tryd.prog w = .ok () w')
    (h : wpList Tryd.prog ops Q rest (a.put o.dst undef) w') : wpList Tryd.prog ops Q (o :: rest) a w := by
  refine wpList_plain hgd fun K hK => ?_
  unfold Oper.wp
  simp only [execOp, ho, hs, hx, Sem.run_bind, Sem.run_pure, Result.andThen_ok, hl]
  exact hK _ _ h

/-- How many cells a value of type t takes. -/
def Sized (t : TypeId) (n : Nat) : Prop := (Tryd.prog.info? t).map (·.size) = some n

theorem wpList_load_arr (t : TypeId) (c : List Value) (b : Nat) {n m : Nat} {e : TypeId} {w : World} {ops : Array Oper} {rest : List Oper} {o : Oper} {a : Act} {Q : Exit → Act → World → Prop} (hi : Is w b c t) (hu : Tryd.prog.underlying t = some (.array n e)) (hz : Sized t m) (hc : c.length = m)
    (hgd : o.guard = none) (s : Operand) (ho : o.op = .load t s) (hs : a.eval s = .pointer (some ⟨b, 0, none⟩))
    (h : wpList Tryd.prog ops Q rest (a.put o.dst (.agg c.toArray)) w) : wpList Tryd.prog ops Q (o :: rest) a w :=
  wpList_load_is t (.agg c.toArray) b hgd s ho hs (hi.load hu (by rw [hc]; exact hz)) h
theorem wpList_load_str (t : TypeId) (c : List Value) (b : Nat) {m : Nat} {fs : Array Field} {w : World} {ops : Array Oper} {rest : List Oper} {o : Oper} {a : Act} {Q : Exit → Act → World → Prop} (hi : Is w b c t) (hu : Tryd.prog.underlying t = some (.struct fs)) (hz : Sized t m) (hc : c.length = m)
    (hgd : o.guard = none) (s : Operand) (ho : o.op = .load t s) (hs : a.eval s = .pointer (some ⟨b, 0, none⟩))
    (h : wpList Tryd.prog ops Q rest (a.put o.dst (.agg c.toArray)) w) : wpList Tryd.prog ops Q (o :: rest) a w :=
  wpList_load_is t (.agg c.toArray) b hgd s ho hs (hi.loadS hu (by rw [hc]; exact hz)) h
theorem wpList_store_row (t : TypeId) (c c' : List Value) (b : Nat) {m : Nat} {w : World} {ops : Array Oper} {rest : List Oper} {o : Oper} {a : Act} {Q : Exit → Act → World → Prop} (hi : Is w b c t) (hz : Sized t m) (hc : c.length = m) (hc' : c'.length = m) (h1 : ∀ v ∈ c', v.oneCell' = true)
    (hgd : o.guard = none) (s x : Operand) (ho : o.op = .store t s x) (hs : a.eval s = .pointer (some ⟨b, 0, none⟩)) (hx : a.eval x = .agg c'.toArray) (hd : o.dst = none)
    (h : wpList Tryd.prog ops Q rest a (w.setRow b c'.toArray)) : wpList Tryd.prog ops Q (o :: rest) a w :=
  wpList_store_is t (.agg c'.toArray) b hgd s x ho hs hx (hi.store (by rw [hc']; exact hz) (by rw [hc, hc']) h1) (by rw [hd]; exact h)
theorem wpList_store_new (t : TypeId) (c c' : List Value) {m : Nat} (w : World) {ops : Array Oper} {rest : List Oper} {o : Oper} {a : Act} {Q : Exit → Act → World → Prop} (hz : Sized t m) (hc : c.length = m) (hc' : c'.length = m) (h1 : ∀ v ∈ c', v.oneCell' = true)
    (hgd : o.guard = none) (s x : Operand) (ho : o.op = .store t s x) (hs : a.eval s = .pointer (some ⟨w.heap.size, 0, none⟩)) (hx : a.eval x = .agg c'.toArray) (hd : o.dst = none)
    (h : wpList Tryd.prog ops Q rest a (w.alloc (.cells c'.toArray t))) : wpList Tryd.prog ops Q (o :: rest) a (w.alloc (.cells c.toArray t)) := by
  refine wpList_store_row t c c' w.heap.size (Is.new w c t) hz hc hc' h1 hgd s x ho hs hx hd ?_
  rw [World.setRow_alloc_new]
  exact h

/-- What else stands behind a store of a whole block. -/
theorem wpList_store_any (t : TypeId) (c c' : List Value) (b : Nat) {m : Nat} {w : World} {ops : Array Oper} {rest : List Oper} {o : Oper} {a : Act} {Q : Exit → Act → World → Prop} (hi : Is w b c t) (hz : Sized t m) (hc : c.length = m) (hc' : c'.length = m) (h1 : ∀ v ∈ c', v.oneCell' = true)
    (hgd : o.guard = none) (s x : Operand) (ho : o.op = .store t s x) (hs : a.eval s = .pointer (some ⟨b, 0, none⟩)) (hx : a.eval x = .agg c'.toArray) (hd : o.dst = none)
    (h : ∀ w2, Is w2 b c' t → (∀ B w0, Below B w0 w → B ≤ b → Below B w0 w2) → (∀ b' c2 t2, b' ≠ b → Is w b' c2 t2 → Is w2 b' c2 t2) → w2.heap.size = w.heap.size → wpList Tryd.prog ops Q rest a w2) : wpList Tryd.prog ops Q (o :: rest) a w :=
  wpList_store_row t c c' b hi hz hc hc' h1 hgd s x ho hs hx hd (h _ (hi.row c') (fun B w0 h0 hB => h0.trans ⟨rfl, rfl, rfl, by simp [World.setRow], fun k hk => setRow_other w b k _ (by omega)⟩)
    (fun b' c2 t2 hne h0 => by unfold Is; rw [setRow_other _ _ _ _ hne]; exact h0) (by simp))

/-- An element of an array by value. -/
theorem run_index_any (t e : TypeId) (n k : Nat) (c : List Value) (v : Value) (w : World) (hu : Tryd.prog.underlying t = some (.array n e)) (hz : Sized e 1) (ha : ∀ w, (isAgg e).run Tryd.prog w = .ok false w) (hk : k < n) (hv : c[k]? = some v) :
    (Instr.index t (.agg c.toArray) (.int .i64 (k : Int))).run Tryd.prog w = .ok v w := by
  have hs : ∀ w, (sizeOf e).run Tryd.prog w = .ok 1 w := fun w => by
    unfold Sized at hz
    cases hq : Tryd.prog.info? e with
    | none => simp [hq] at hz
    | some i => simp [hq] at hz; simp [sizeOf, typeInfo, hq, hz]
  have hun : (underlying t).run Tryd.prog w = .ok (.array n e) w := by simp [underlying, hu]
  simp [Instr.index, asIntOf, hun, hs, hk, part, ha, hv, Result.andThen]
theorem wpList_index_any (t e : TypeId) (n k : Nat) (c : List Value) (v : Value) {w : World} {ops : Array Oper} {rest : List Oper} {o : Oper} {a : Act} {Q : Exit → Act → World → Prop} (hu : Tryd.prog.underlying t = some (.array n e)) (hz : Sized e 1) (ha : ∀ w, (isAgg e).run Tryd.prog w = .ok false w) (hk : k < n) (hv : c[k]? = some v)
    (hgd : o.guard = none) (x i : Operand) (ho : o.op = .index t x i) (hx : a.eval x = .agg c.toArray) (hi : a.eval i = .int .i64 (k : Int))
    (h : wpList Tryd.prog ops Q rest (a.put o.dst v) w) : wpList Tryd.prog ops Q (o :: rest) a w := by
  refine wpList_plain hgd fun K hK => ?_
  unfold Oper.wp
  simp only [execOp, ho, hx, hi, Sem.run_bind, Sem.run_pure, Result.andThen_ok, run_index_any t e n k c v w hu hz ha hk hv]
  exact hK _ _ h
theorem vals_set (l : List Int) (i : Nat) (x : Int) : (vals l).set i (.int .u8 x) = vals (l.set i x) := by unfold vals; rw [← List.map_set]
theorem size_dig : Sized 26 32 := by unfold Sized; kernel_rfl
end Go.Proofs.YtphdnbflogobfaaDoor
