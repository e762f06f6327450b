/- A slice that is built of one whole array, at the list of a region's operations. -/
import Derived.Test.YtphdnbflogobfaaDoorShEq
import Derived.Great.BuildSlice
namespace Go.Proofs.YtphdnbflogobfaaDoor
open Go.RowKit
set_option linter.unusedVariables false

theorem fold_set (c : List Value) : ∀ (k off : Nat) (base : Array Value), off + k + c.length ≤ base.size →
    ((c.zipIdx k).foldl (fun (cs : Array Value) (x : Value × Nat) => cs.setIfInBounds (off + x.2) x.1) base).size = base.size ∧
    ∀ i, ((c.zipIdx k).foldl (fun (cs : Array Value) (x : Value × Nat) => cs.setIfInBounds (off + x.2) x.1) base)[i]? = if off + k ≤ i ∧ i < off + k + c.length then c[i - (off + k)]? else base[i]? := by
  induction c with
  | nil => intro k off base h; exact ⟨rfl, fun i => by rw [if_neg (by simp)]; rfl⟩
  | cons v c ih =>
    intro k off base h
    rw [List.length_cons] at h
    have := ih (k + 1) off (base.setIfInBounds (off + k) v) (by simp; omega)
    rw [List.zipIdx_cons, List.foldl_cons]
    refine ⟨by rw [this.1]; simp, fun i => ?_⟩
    rw [this.2 i]
    by_cases h1 : off + (k + 1) ≤ i ∧ i < off + (k + 1) + c.length
    · rw [if_pos h1, if_pos (by rw [List.length_cons]; omega), show i - (off + k) = (i - (off + (k + 1))) + 1 by omega, List.getElem?_cons_succ]
    · rw [if_neg h1]
      by_cases h2 : off + k = i
      · subst h2
        rw [if_pos (by rw [List.length_cons]; omega), Nat.sub_self, List.getElem?_cons_zero, Array.getElem?_setIfInBounds_self_of_lt (by omega)]
      · rw [if_neg (by rw [List.length_cons]; omega), Array.getElem?_setIfInBounds_ne h2]
theorem fill_one (c : List Value) (base : Array Value) (m : Nat) (hc : c.length = m) (hb : base.size = m) : Instr.fill (fun i => some (i * m, m)) base [(0, .agg c.toArray)] = some c.toArray := by
  have h := fold_set c 0 0 base (by omega)
  have e : (c.toArray.zipIdx.foldl (fun (cs : Array Value) (x : Value × Nat) => cs.setIfInBounds (0 * m + x.2) x.1) base) = c.toArray := by
    have e2 : c.toArray.zipIdx = (c.zipIdx).toArray := by simp
    rw [e2, Nat.zero_mul, List.size_toArray, List.foldl_toArray' _ _ _ (by simp)]
    apply Array.ext
    · rw [h.1, hb]; simp [hc]
    · intro i h1 h2
      have := h.2 i
      have e3 : c[i]? = some c[i] := List.getElem?_eq_getElem (by simpa using h2)
      rw [if_pos (by simp at h2; omega), Array.getElem?_eq_getElem h1, show i - (0 + 0) = i by omega, e3] at this
      injection this
  have hsz : (Value.agg c.toArray).cells.size = m := by simp [Value.cells, hc]
  have h0 : ¬ ((decide ((Value.agg c.toArray).cells.size ≠ m) || decide (0 * m + (Value.agg c.toArray).cells.size > base.size)) = true) := by rw [hsz, hb]; simp
  unfold Instr.fill
  simp only []
  rw [if_neg h0]
  exact congrArg some e
theorem wpList_build_one (t el : TypeId) (c : List Value) {m : Nat} {w : World} {ops : Array Oper} {rest : List Oper} {o : Oper} {a : Act} {Q : Exit → Act → World → Prop} (hgd : o.guard = none) (s : Operand) (ho : o.op = .buildSlice t 1 #[(0, s)]) (hs : a.eval s = .agg c.toArray)
    (hu : Tryd.prog.underlying t = some (.slice el)) (z : List Value) (hzv : (Tryd.prog.info? el).map (fun i => (i.zero, i.size)) = some (some (.agg z.toArray), m)) (hm : 0 < m) (hm2 : m ≤ 1000) (hc : c.length = m)
    (h : wpList Tryd.prog ops Q rest (a.put o.dst (.slice (some ⟨w.heap.size, 0, none⟩) 1 1)) (w.alloc (.cells c.toArray el))) : wpList Tryd.prog ops Q (o :: rest) a w := by
  cases hi : Tryd.prog.info? el with
  | none => rw [hi] at hzv; cases hzv
  | some i =>
    rw [hi] at hzv
    simp only [Option.map_some, Option.some.injEq, Prod.mk.injEq] at hzv
    refine wpList_buildSlice hgd t el 1 #[(0, s)] ho c.toArray i (.agg z.toArray) hu hi hzv.1 (by rw [hzv.2]; omega) (by rw [hzv.2]; omega) ?_ h
    rw [hzv.2]
    simp only [List.map_toArray, List.map_cons, List.map_nil, hs]
    exact fill_one c _ m hc (by simp)
/-- The same as one step of a region that draws its order. -/
theorem step_build_one (t el : TypeId) (c : List Value) {m : Nat} {w : World} {ops : Array Oper} {o : Oper} {a : Act} {K : Act → World → Prop} {Q : Exit → Act → World → Prop} {E : Prop} (hgd : o.guard = none) (s : Operand) (ho : o.op = .buildSlice t 1 #[(0, s)]) (hs : a.eval s = .agg c.toArray)
    (hu : Tryd.prog.underlying t = some (.slice el)) (z : List Value) (hzv : (Tryd.prog.info? el).map (fun i => (i.zero, i.size)) = some (some (.agg z.toArray), m)) (hm : 0 < m) (hm2 : m ≤ 1000) (hc : c.length = m)
    (h : K (a.put o.dst (.slice (some ⟨w.heap.size, 0, none⟩) 1 1)) (w.alloc (.cells c.toArray el))) :
    if Region.wanted o (yielded ops a.tmps) = true then Oper.wp Tryd.prog o a w K Q else E := by
  have hw : Region.wanted o (yielded ops a.tmps) = true := by simp [Region.wanted, hgd]
  rw [if_pos hw]
  cases hi : Tryd.prog.info? el with
  | none => rw [hi] at hzv; cases hzv
  | some i =>
    rw [hi] at hzv
    simp only [Option.map_some, Option.some.injEq, Prod.mk.injEq] at hzv
    refine wp_buildSlice t el 1 #[(0, s)] ho c.toArray i (.agg z.toArray) hu hi hzv.1 (by rw [hzv.2]; omega) (by rw [hzv.2]; omega) ?_ h
    rw [hzv.2]
    simp only [List.map_toArray, List.map_cons, List.map_nil, hs]
    exact fill_one c _ m hc (by simp)
theorem info_dig : (Tryd.prog.info? 26).map (fun i => (i.zero, i.size)) = some (some (.agg (vals (List.replicate 32 0)).toArray), 32) := by kernel_rfl
end Go.Proofs.YtphdnbflogobfaaDoor
