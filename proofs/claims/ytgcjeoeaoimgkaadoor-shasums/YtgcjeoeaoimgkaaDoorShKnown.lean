/- Two digests compared; the contract of known: the digest of three bytes is as it is known. -/
import Derived.Test.YtgcjeoeaoimgkaaDoorShSum
import Derived.ChangeKeysEq
import Derived.Lib.SlBytesConst
namespace Go.Proofs.YtgcjeoeaoimgkaaDoor
open Go.RowKit
set_option linter.unusedVariables false

theorem cells_u8 : Tryd.prog.cellsOf 5 = 1 := by kernel_rfl
theorem part_u8 (A : List Int) (i : Nat) (h : i < A.length) (w : World) : (part 5 (vals A).toArray i).run Tryd.prog w = .ok (.int .u8 (A.getD i 0)) w := by
  have hv := vals_get A i h
  simp [part, hv, Result.andThen]
theorem eqItems_u8 (d : Nat) (A B : List Int) (w : World) : ∀ is : List Nat, (∀ i ∈ is, i < A.length ∧ i < B.length) →
    (Op.eqItems (d + 1) 5 1 (vals A).toArray (vals B).toArray is).run Tryd.prog w = .ok (is.all fun i => A.getD i 0 == B.getD i 0) w
  | [], _ => by simp [Op.eqItems]
  | i :: is, h => by
    have hi := h i (by simp)
    have ih := eqItems_u8 d A B w is (fun j hj => h j (by simp [hj]))
    simp only [Op.eqItems, Sem.run_bind, Nat.mul_one, part_u8 A i hi.1 w, part_u8 B i hi.2 w, Result.andThen_ok, run_equalIn_int w d 5 .u8 .u8 _ _ Tryd.underlying5, List.all_cons]
    by_cases e : A.getD i 0 = B.getD i 0
    · have : (A.getD i 0 == B.getD i 0) = true := beq_iff_eq.2 e
      rw [this]
      simpa using ih
    · have : (A.getD i 0 == B.getD i 0) = false := beq_eq_false_iff_ne.2 e
      rw [this]
      simp
theorem all_range (A B : List Int) (h : A.length = B.length) : ((List.range A.length).all fun i => A.getD i 0 == B.getD i 0) = decide (A = B) := by
  by_cases e : A = B
  · subst e; simp
  · have : decide (A = B) = false := by simp [e]
    rw [this, Bool.eq_false_iff]
    intro hall
    apply e
    apply List.ext_getElem h
    intro i h1 h2
    have := (List.all_eq_true.1 hall) i (by simpa using h1)
    simpa [List.getD, List.getElem?_eq_getElem h1, List.getElem?_eq_getElem h2] using this
/-- Two digests are held against each other. -/
theorem dig_eq (A B : List Int) (hA : A.length = 32) (hB : B.length = 32) (w : World) : (Op.equalIn 10000 25 (.agg (vals A).toArray) (.agg (vals B).toArray)).run Tryd.prog w = .ok (decide (A = B)) w := by
  obtain ⟨i, hi, hz, hs, hby⟩ := info_u8
  rw [run_equalIn_array w 9999 _ _ Tryd.underlying25 hi, cells_u8, eqItems_u8 9998 A B w (List.range 32) (fun i hi => by simp at hi; omega), ← all_range A B (by omega), hA]
theorem guard_dig : Tryd.prog.eqGuardType Tryd.prog.depth 25 = false := by kernel_rfl

theorem abc_get : (Sh.sum [97, 98, 99]).getD 0 0 = 186 ∧ (Sh.sum [97, 98, 99]).getD 1 0 = 120 ∧ (Sh.sum [97, 98, 99]).getD 31 0 = 173 := by
  have h := Sh.abc
  injection h with h1 h
  injection h with h2 h3
  exact ⟨h1, h2, h3⟩

set_option maxRecDepth 100000 in
set_option maxHeartbeats 400000 in
theorem known_any (w : World) (ht : Tab w) (hw : 0 < w.heap.size) :
    Calls Tryd.prog 5 #[] w fun e w' => e = .returned (.bool true) ∧ Below w.heap.size w w' := by
  have hdl : (Sh.sum [97, 98, 99]).length = 32 := by simp [Sh.sum, Sh.digest]
  obtain ⟨h0, h1, h31⟩ := abc_get
  have hcv := Lib.run_convert_bytes_const w 22 5 #[.int .u8 97, .int .u8 98, .int .u8 99] 3 3 Tryd.underlying22 Tryd.underlying5
  have hs : Calls Tryd.prog 6 #[.slice (some ⟨w.heap.size, 0, none⟩) 3 3] (w.alloc (.cells #[.int .u8 97, .int .u8 98, .int .u8 99] 5 (3, 4))) fun e w' => e = .returned (.agg (vals (Sh.sum [97, 98, 99])).toArray) ∧ Below (w.alloc (.cells #[.int .u8 97, .int .u8 98, .int .u8 99] 5 (3, 4))).heap.size (w.alloc (.cells #[.int .u8 97, .int .u8 98, .int .u8 99] 5 (3, 4))) w' := by
    refine sum_any _ [97, 98, 99] _ (.inr ⟨w.heap.size, 0, 3, rfl, by decide, by decide, by unfold maxLen; omega, fun j hj => ?_⟩) (fun x hx => ?_) (ht.below (below_alloc w _) hw) (Nat.lt_of_lt_of_le hw (below_alloc w _).size) (by decide)
    · rw [cell_of_row _ _ _ _ _ _ (heap_alloc_new w _), Nat.zero_add]
      show (vals [97, 98, 99]).toArray[j]? = _
      rw [List.getElem?_toArray]
      exact vals_get [97, 98, 99] j hj
    · simp at hx; rcases hx with rfl | rfl | rfl <;> omega
  generalize Sh.sum [97, 98, 99] = D at *
  have v0 : (vals D)[0]? = some (.int .u8 186) := by rw [vals_get _ _ (by omega), h0]
  have v1 : (vals D)[1]? = some (.int .u8 120) := by rw [vals_get _ _ (by omega), h1]
  have v31 : (vals D)[31]? = some (.int .u8 173) := by rw [vals_get _ _ (by omega), h31]
  have hvl : (vals D).length = 32 := by rw [vals_length]; exact hdl
  have HS := hide hs
  have HV0 := hide v0
  have HV1 := hide v1
  have HV31 := hide v31
  have HVL := hide hvl
  have HBA := hide (fun o => below_alloc w o)
  clear hs h0 h1 h31 hdl v0 v1 v31 hvl
  go_enter Tryd.func5, Tryd.ntmps5
  go_wp2_with (first
    | (go_at_call 6; refine HS.out.mono ?_; rintro e w1 ⟨rfl, hb1⟩)
    | (refine wpList_store_any 25 (vals (List.replicate 32 0)) (vals D) w1.heap.size (Is.new w1 _ _) size_dig (by simp [vals]) HVL.out (vals_one _) rfl (.tmp 1) (.tmp 4) rfl rfl rfl rfl ?_; intro w2 hi2 hb2 hk2 hz2; have c0 : w2.cell? ⟨w1.heap.size, 0, none⟩ = some (.int .u8 186) := (by rw [hi2.cell]; exact HV0.out); have c1 : w2.cell? ⟨w1.heap.size, 1, none⟩ = some (.int .u8 120) := (by rw [hi2.cell]; exact HV1.out); have c31 : w2.cell? ⟨w1.heap.size, 31, none⟩ = some (.int .u8 173) := (by rw [hi2.cell]; exact HV31.out)))
  go_ret
  have hb1' : Below w.heap.size w w1 := (HBA.out _).trans (hb1.mono (by simp))
  exact ⟨rfl, hb2 _ _ (hb1'.alloc hb1'.size _) hb1'.size⟩
end Go.Proofs.YtgcjeoeaoimgkaaDoor
