/- A slice that is built of two whole arrays, at the list of a region's operations. -/
import Derived.Test.YtphdnbflogobfaaDoorBuild1
namespace Go.Proofs.YtphdnbflogobfaaDoor
open Go.RowKit
set_option linter.unusedVariables false

theorem fill_fold (c : List Value) (off : Nat) (base : List Value) (h : off + c.length ≤ base.length) :
    c.toArray.zipIdx.foldl (fun (cs : Array Value) (x : Value × Nat) => cs.setIfInBounds (off + x.2) x.1) base.toArray = (base.take off ++ c ++ base.drop (off + c.length)).toArray := by
  have hf := fold_set c 0 off base.toArray (by simpa using h)
  have e2 : c.toArray.zipIdx = (c.zipIdx).toArray := by simp
  rw [e2, List.size_toArray, List.foldl_toArray' _ _ _ (by simp)]
  apply Array.ext'
  apply List.ext_getElem?
  intro i
  have := hf.2 i
  rw [Array.getElem?_toList, this]
  simp only [Nat.add_zero, List.append_assoc]
  by_cases h1 : off ≤ i ∧ i < off + c.length
  · rw [if_pos h1, List.getElem?_append_right (by rw [List.length_take]; omega), List.getElem?_append_left (by rw [List.length_take]; omega), List.length_take, Nat.min_eq_left (by omega)]
  · rw [if_neg h1]
    by_cases h2 : i < off
    · rw [List.getElem?_append_left (by rw [List.length_take]; omega), List.getElem?_take, if_pos h2]; simp
    · rw [List.getElem?_append_right (by rw [List.length_take]; omega), List.getElem?_append_right (by rw [List.length_take]; omega), List.length_take, Nat.min_eq_left (by omega), List.getElem?_drop]
      simp only [List.getElem?_toArray]
      congr 1
      omega
theorem fill_step (place : Nat → Option (Nat × Nat)) (base : List Value) (i off : Nat) (v : Value) (c : List Value) (rest : List (Nat × Value)) (hp : place i = some (off, c.length)) (hv : v.cells = c.toArray) (h : off + c.length ≤ base.length) :
    Instr.fill place base.toArray ((i, v) :: rest) = Instr.fill place (base.take off ++ c ++ base.drop (off + c.length)).toArray rest := by
  rw [Instr.fill, hp]
  simp only [hv]
  rw [if_neg (by simp; omega), fill_fold c off base h]
theorem fill_two (c d : List Value) (arr : Array Value) (m : Nat) (hc : c.length = m) (hd : d.length = m) (hb : arr.size = 2 * m) : Instr.fill (fun i => some (i * m, m)) arr [(0, .agg c.toArray), (1, .agg d.toArray)] = some (c ++ d).toArray := by
  obtain ⟨base⟩ := arr
  replace hb : base.length = 2 * m := by simpa using hb
  rw [fill_step _ base 0 0 (.agg c.toArray) c _ (by simp [hc]) rfl (by omega)]
  rw [List.take_zero, List.nil_append]
  rw [fill_step _ _ 1 m (.agg d.toArray) d _ (by simp [hd]) rfl (by simp; omega)]
  have e1 : (c ++ base.drop (0 + c.length)).take m = c := by rw [List.take_append_of_le_length (by omega), List.take_of_length_le (by omega)]
  have e2 : (c ++ base.drop (0 + c.length)).drop (m + d.length) = [] := List.drop_eq_nil_of_le (by simp; omega)
  rw [e1, e2, List.append_nil]
  simp [Instr.fill]
theorem wpList_build_two (t el : TypeId) (c d : List Value) {m : Nat} {w : World} {ops : Array Oper} {rest : List Oper} {o : Oper} {a : Act} {Q : Exit → Act → World → Prop} (hgd : o.guard = none) (s x : Operand) (ho : o.op = .buildSlice t 2 #[(0, s), (1, x)]) (hs : a.eval s = .agg c.toArray) (hx : a.eval x = .agg d.toArray)
    (hu : Tryd.prog.underlying t = some (.slice el)) (z : List Value) (hzv : (Tryd.prog.info? el).map (fun i => (i.zero, i.size)) = some (some (.agg z.toArray), m)) (hz : z.length = m) (hm : 0 < m) (hm2 : m ≤ 1000) (hc : c.length = m) (hd : d.length = m)
    (h : wpList Tryd.prog ops Q rest (a.put o.dst (.slice (some ⟨w.heap.size, 0, none⟩) 2 2)) (w.alloc (.cells (c ++ d).toArray el))) : wpList Tryd.prog ops Q (o :: rest) a w := by
  cases hi : Tryd.prog.info? el with
  | none => rw [hi] at hzv; cases hzv
  | some i =>
    rw [hi] at hzv
    simp only [Option.map_some, Option.some.injEq, Prod.mk.injEq] at hzv
    refine wpList_buildSlice hgd t el 2 #[(0, s), (1, x)] ho (c ++ d).toArray i (.agg z.toArray) hu hi hzv.1 (by rw [hzv.2]; omega) (by rw [hzv.2]; omega) ?_ h
    rw [hzv.2]
    simp only [List.map_toArray, List.map_cons, List.map_nil, hs, hx]
    exact fill_two c d _ m hc hd (by simp)
end Go.Proofs.YtphdnbflogobfaaDoor
