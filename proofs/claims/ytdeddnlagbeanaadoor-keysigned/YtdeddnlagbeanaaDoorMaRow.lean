/- Blocks of slices, and what stays of a block where another one grows. -/
import Derived.Test.YtdeddnlagbeanaaDoorMaMac
namespace Go.Proofs.YtdeddnlagbeanaaDoor
open Go.RowKit
set_option linter.unusedVariables false

/-- A block of three slices. -/
theorem rows_three {W : World} {K : Nat} {a0 a1 a2 : Option Addr} {n0 n1 n2 c0 c1 c2 : Nat} {l0 l1 l2 : List Int} (hK : Is W K [.slice a0 n0 c0, .slice a1 n1 c1, .slice a2 n2 c2] 24) (h0 : Has W (.slice a0 n0 c0) l0) (h1 : Has W (.slice a1 n1 c1) l1) (h2 : Has W (.slice a2 n2 c2) l2) :
    HasRows W (some ⟨K, 0, none⟩) 3 [l0, l1, l2] :=
  ⟨rfl, fun i hi => by
    match i, hi with
    | 0, _ => exact ⟨K, 0, a0, n0, c0, rfl, by rw [hK.cell]; rfl, h0⟩
    | 1, _ => exact ⟨K, 0, a1, n1, c1, rfl, by rw [hK.cell]; rfl, h1⟩
    | 2, _ => exact ⟨K, 0, a2, n2, c2, rfl, by rw [hK.cell]; rfl, h2⟩⟩

theorem Is.grown {w w' : World} {b : Nat} {c : List Value} {t : TypeId} {row : Option Nat} (h : Is w b c t) (k : w.grownBy w' row) (hne : row ≠ some b) : Is w' b c t := by
  unfold Is
  rw [k.block b h.lt (fun e => hne e.symm)]
  exact h
/-- The first bytes of a block. -/
theorem Is.front {w : World} {b : Nat} {L : List Int} {t : TypeId} (h : Is w b (vals L) t) {n : Nat} (hn : L.length = n) (d : Nat) (hd : d ≤ n) (hm : n ≤ 140737488355328 := by omega) : Has w (.slice (some ⟨b, 0, none⟩) d n) (L.take d) := by
  subst hn
  have e : (L.take d).length = d := by rw [List.length_take]; omega
  by_cases h0 : d = 0
  · subst h0; exact .inl ⟨_, _, rfl, by simp, by unfold maxLen; omega, fun h => by cases h⟩
  · refine .inr ⟨b, 0, L.length, by rw [e], by omega, by omega, by unfold maxLen; omega, fun j hj => ?_⟩
    rw [h.cell, Nat.zero_add, vals_get _ _ (by omega)]
    simp only [List.getD, List.getElem?_take]
    rw [if_pos (by omega)]

theorem nil_has (w : World) : Has w (.slice none 0 0) [] := .inl ⟨none, 0, rfl, rfl, by unfold maxLen; omega, fun _ => rfl⟩
/-- What stands while the other digest is told. -/
theorem kept_below {w W W' : World} {D x : List Int} {b : Nat} {v : Value} (h : W.rangeAt b 0 (vals D) ∧ Below w.heap.size w W ∧ Has W v x) (hb : Below W.heap.size W W') : W'.rangeAt b 0 (vals D) ∧ Below w.heap.size w W' ∧ Has W' v x :=
  ⟨range_below h.1 hb, h.2.1.trans (hb.mono h.2.1.size), h.2.2.below hb⟩

end Go.Proofs.YtdeddnlagbeanaaDoor
