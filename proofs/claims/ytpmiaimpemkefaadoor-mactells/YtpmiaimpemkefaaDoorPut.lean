/- The contract of moneyerref1.Put: a number in so many bytes, the highest one first. -/
import Derived.Test.YtpmiaimpemkefaaDoorOwnNew
namespace Go.Proofs.YtpmiaimpemkefaaDoor
open Go.RowKit
set_option linter.unusedVariables false

set_option maxHeartbeats 800000 in
theorem put_any (n : Int) (k : Nat) (w : World) (h : 0 ≤ n) (hn : n ≤ 9223372036854775807) (hk0 : 1 ≤ k) (hk8 : k ≤ 8) :
    Calls Tryd.prog 22 #[.int .i64 n, .int .i64 k] w fun e w' => ∃ b, e = .returned (.tuple #[.slice (some ⟨w.heap.size, 0, none⟩) k k, .bool b]) ∧
      Has w' (.slice (some ⟨w.heap.size, 0, none⟩) k k) (Sz.low k n) ∧ Below w.heap.size w w' := by
  have hmk := fun w => make_bytes k (by omega) w
  have HZ : Hid (∀ j, j < k → (zeros k)[j]? = some (.int .u8 0)) := fun j hj => zeros_get _ j hj
  have hkn : ¬ (k : Int) < 1 := by omega
  have hkx : ¬ (8 : Int) < (k : Int) := by omega
  have hnn : ¬ n < 0 := by omega
  go_enter Tryd.func22, Tryd.ntmps22
  go_wp2
  go_loopw [0, 7] (fun m i wr => ∃ q : Nat, q ≤ k ∧ i = .int .i64 ((q : Int) - 1) ∧ m = .int .i64 (n / Sz.pw (k - q)) ∧ Below w.heap.size w wr ∧ (∀ j, wr.frozen? ⟨w.heap.size, j, none⟩ = false) ∧
      ∀ j, j < k → wr.cell? ⟨w.heap.size, j, none⟩ = some (.int .u8 ((Sz.part2 k q n).getD j 0))) (fun _ i _ => (intOf i + 1).toNat)
  case atStart =>
    refine ⟨k, Nat.le_refl _, rfl, by simp [Sz.pw], (Below.refl _ _).alloc (Nat.le_refl _) _, fun j => by simp, fun j hj => ?_⟩
    rw [World.cell?_alloc_new, Sz.part2_full, HZ.out j hj]
    simp [List.getD, hj]
  case round =>
    obtain ⟨q, hq, rfl, rfl, hbel, hfr, hcell⟩ := hrel
    have hm0 : 0 ≤ n / Sz.pw (k - q) := Int.ediv_nonneg h (Int.le_of_lt (Sz.pw_pos _))
    have hm1 : n / Sz.pw (k - q) ≤ n := Int.ediv_le_self _ h
    by_cases h0 : 0 < q
    · obtain ⟨r, rfl⟩ : ∃ r, q = r + 1 := ⟨q - 1, by omega⟩
      have hcq := hcell r (by omega)
      have hfq := hfr r
      have hq1 : (r : Int) < (k : Int) := by omega
      have e1 : (((r + 1 : Nat) : Int) - 1) = (r : Int) := by omega
      rw [e1]
      have HC := hide hcell
      clear hcell
      generalize hm : n / Sz.pw (k - (r + 1)) = m at *
      have HM := hide hm
      clear hm
      have hm2 : m.tmod 256 = m % 256 := Int.tmod_eq_emod_of_nonneg hm0
      have hm3 : m.tdiv 256 = m / 256 := Int.tdiv_eq_ediv_of_nonneg hm0
      go_wp2
      go_roundw
      case rel =>
        refine ⟨r, by omega, rfl, ?_, hbel.setCell (Nat.le_refl _) _, fun j => by rw [World.frozen?_setCell]; exact hfr j, fun j hj => ?_⟩
        · rw [← HM.out, show k - r = (k - (r + 1)) + 1 from by omega, Sz.ediv_pw]
        · rw [cell_stored hcq, HC.out j hj, Sz.part2_step k r n h (by omega) j, HM.out]
          by_cases e : j = r
          · rw [if_pos e, if_pos e]
          · rw [if_neg e, if_neg e]
      case measure => simp [intOf]
    · obtain rfl : q = 0 := by omega
      go_wp2
      go_ret2
      refine ⟨_, rfl, ?_, hbel⟩
      have hl := Sz.low_length k n
      refine .inr ⟨w.heap.size, 0, k, by rw [hl], by omega, by omega, by unfold maxLen; omega, fun j hj => ?_⟩
      rw [Nat.zero_add, hcell j (by omega), Sz.part2_zero]


end Go.Proofs.YtpmiaimpemkefaaDoor
