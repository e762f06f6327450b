/- Two digests compared. -/
import Derived.Test.YtphdnbflogobfaaDoorOwns
import Derived.ChangeKeysEq
namespace Go.Proofs.YtphdnbflogobfaaDoor
open Go.RowKit
set_option linter.unusedVariables false

theorem cells_u8 : Tryd.prog.cellsOf 5 = 1 := by kernel_rfl
theorem part_u8 (A : List Int) (i : Nat) (h : i < A.length) (w : World) : (part 5 (vals A).toArray i).run Tryd.prog w = .ok (.int .u8 (A.getD i 0)) w := by
  have hv := vals_get A i h
  simp [part, hv, Result.andThen]
theorem eqItems_u8 (d : Nat) (A B : List Int) (w : World) : ∀ is : List Nat, (∀ i ∈ is, i < A.length ∧ i < B.length) →
    (Op.eqItems (d + 1) 5 1 (vals A).toArray (vals B).toArray is).run Tryd.prog w = .ok (is.all fun i => A.getD i 0 == B.getD i 0) w
  | [], _ => by simp [Op.eqItems]
  | i :: is, h => by
    have hi := h i (by simp)
    have ih := eqItems_u8 d A B w is (fun j hj => h j (by simp [hj]))
    simp only [Op.eqItems, Sem.run_bind, Nat.mul_one, part_u8 A i hi.1 w, part_u8 B i hi.2 w, Result.andThen_ok, run_equalIn_int w d 5 .u8 .u8 _ _ Tryd.underlying5, List.all_cons]
    by_cases e : A.getD i 0 = B.getD i 0
    · have : (A.getD i 0 == B.getD i 0) = true := beq_iff_eq.2 e
      rw [this]
      simpa using ih
    · have : (A.getD i 0 == B.getD i 0) = false := beq_eq_false_iff_ne.2 e
      rw [this]
      simp
theorem all_range (A B : List Int) (h : A.length = B.length) : ((List.range A.length).all fun i => A.getD i 0 == B.getD i 0) = decide (A = B) := by
  by_cases e : A = B
  · subst e; simp
  · have : decide (A = B) = false := by simp [e]
    rw [this, Bool.eq_false_iff]
    intro hall
    apply e
    apply List.ext_getElem h
    intro i h1 h2
    have := (List.all_eq_true.1 hall) i (by simpa using h1)
    simpa [List.getD, List.getElem?_eq_getElem h1, List.getElem?_eq_getElem h2] using this
/-- Two digests are held against each other. -/
theorem dig_eq (A B : List Int) (hA : A.length = 32) (hB : B.length = 32) (w : World) : (Op.equalIn 10000 26 (.agg (vals A).toArray) (.agg (vals B).toArray)).run Tryd.prog w = .ok (decide (A = B)) w := by
  obtain ⟨i, hi, hz, hs, hby⟩ := info_u8
  rw [run_equalIn_array w 9999 _ _ Tryd.underlying26 hi, cells_u8, eqItems_u8 9998 A B w (List.range 32) (fun i hi => by simp at hi; omega), ← all_range A B (by omega), hA]
theorem guard_dig : Tryd.prog.eqGuardType Tryd.prog.depth 26 = false := by kernel_rfl
theorem zero_dig (w : World) : (zeroValue 26).run Tryd.prog w = .ok (.agg (vals (List.replicate 32 0)).toArray) w := by
  have h : (Tryd.prog.info? 26).map (fun i => (i.zero, i.size)) = some (some (.agg (vals (List.replicate 32 0)).toArray), 32) := by kernel_rfl
  exact (zero_of_info h).1 w
/-- A digest held against the one of bytes 0. -/
theorem dig_zero (D : List Int) (hD : D.length = 32) (hne : D ≠ List.replicate 32 0) (w : World) : (Op.equalIn 10000 26 (.agg (vals D).toArray) (.agg (vals (List.replicate 32 0)).toArray)).run Tryd.prog w = .ok false w := by
  rw [dig_eq _ _ hD (by simp), decide_eq_false hne]
end Go.Proofs.YtphdnbflogobfaaDoor
