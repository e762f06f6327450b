/- The contract of moneyersame.Bytes: whether two lists of bytes are the same. -/
import Derived.Test.YtkdihbgjeanjdaaDoorHas
import Derived.Deep.QuietTactic
import Derived.BigQuiet
namespace Go.Proofs.YtkdihbgjeanjdaaDoor
open Go.RowKit
set_option linter.unusedVariables false

theorem quietBelow (w : World) (n : Nat) : Below w.heap.size w (w.drewN n) := by
  induction n with
  | zero => exact Below.refl _ _
  | succ n ih => exact ih.drew

/-- Two lists are the same: a Bool that the walk does not look into. -/
def sameB (a b : List Int) : Bool := decide (a = b)

theorem take_eq_of (a b : List Int) (n : Nat) (hl : a.length = b.length) (h : ∀ j, j < n → a.getD j 0 = b.getD j 0) : a.take n = b.take n := by
  apply List.ext_getElem?
  intro j
  simp only [List.getElem?_take]
  by_cases hj : j < n
  · rw [if_pos hj, if_pos hj]
    have := h j hj
    by_cases ha : j < a.length
    · have hb : j < b.length := by omega
      simp [List.getD, List.getElem?_eq_getElem ha, List.getElem?_eq_getElem hb] at this
      rw [List.getElem?_eq_getElem ha, List.getElem?_eq_getElem hb, this]
    · rw [List.getElem?_eq_none (by omega), List.getElem?_eq_none (by omega)]
  · rw [if_neg hj, if_neg hj]

theorem Has.front {w : World} {b off cap : Nat} {l : List Int} (hc : ∀ j, j < l.length → w.cell? ⟨b, off + j, none⟩ = some (.int .u8 (l.getD j 0))) (hcap : l.length ≤ cap) (hm : cap ≤ maxLen) (n : Nat) (hn : n ≤ l.length) :
    Has w (.slice (some ⟨b, off, none⟩) n cap) (l.take n) := by
  have e : (l.take n).length = n := by rw [List.length_take]; omega
  by_cases h0 : n = 0
  · subst h0; exact .inl ⟨_, cap, rfl, by simp, hm, fun h => by cases h⟩
  · refine .inr ⟨b, off, cap, by rw [e], by omega, by omega, hm, fun j hj => ?_⟩
    rw [hc j (by omega)]
    have e2 : (l.take n).getD j 0 = l.getD j 0 := by
      simp only [List.getD, List.getElem?_take]
      rw [if_pos (by omega)]
    rw [e2]

end Go.Proofs.YtkdihbgjeanjdaaDoor
