/- The contract of size.Write: what it answers for each number, and that nothing that was there is turned. -/
import Derived.Test.YtmoijbdpbpfljaaDoorBase
namespace Go.Proofs.YtmoijbdpbpfljaaDoor
open Go.RowKit
set_option linter.unusedVariables false

set_option maxHeartbeats 400000 in
theorem write_neg (n : Int) (w : World) (h : n < 0) :
    Calls Tryd.prog 47 #[.int .i64 n] w fun e w' => e = .returned (.tuple #[.slice none 0 0, .iface 35 (.int .i64 2)]) ∧ w = w' := by
  go_enter Tryd.func47, Tryd.ntmps47
  go_wp2
  go_ret2
  exact ⟨rfl, rfl⟩

set_option maxHeartbeats 400000 in
theorem write_yes (n : Int) (w : World) (h : 0 ≤ n) (hn : n ≤ 9223372036854775807) :
    Calls Tryd.prog 47 #[.int .i64 n] w fun e w' => e = .returned (.tuple #[.slice (some ⟨w.heap.size, 0, none⟩) (Sz.wr n).length (Sz.wr n).length, .nilIface]) ∧
      Has w' (.slice (some ⟨w.heap.size, 0, none⟩) (Sz.wr n).length (Sz.wr n).length) (Sz.wr n) ∧ Below w.heap.size w w' := by
  have hf := Sz.fst_bd n h
  have hw8 := Sz.wid_le (Sz.fst n)
  have hnn : ¬ n < 0 := by omega
  have hwr : IntKind.u64.wrap n = n := by simp [IntKind.wrap, IntKind.bits, IntKind.signed]; omega
  have hmk := fun w => make_bytes (1 + Sz.wid (Sz.fst n)) (by omega) w
  rw [show (((1 + Sz.wid (Sz.fst n) : Nat)) : Int) = 1 + (Sz.wid (Sz.fst n) : Int) from by omega] at hmk
  have hz0 := zeros_get (1 + Sz.wid (Sz.fst n)) 0 (by omega)
  have HW : Hid (Sz.wr n = Sz.fst n :: Sz.low (Sz.wid (Sz.fst n)) n) := rfl
  have HZ : Hid (∀ j, j < 1 + Sz.wid (Sz.fst n) → (zeros (1 + Sz.wid (Sz.fst n)))[j]? = some (.int .u8 0)) := fun j hj => zeros_get _ j hj
  go_enter Tryd.func47, Tryd.ntmps47
  go_wp2_with (first
    | (go_at_call 61; refine (firstOf_any n _ h (by omega)).mono ?_; rintro e w' ⟨rfl, rfl⟩)
    | (go_at_call 62; refine (behind_any _ _).mono ?_; rintro e w' ⟨rfl, rfl⟩))
  generalize hk : Sz.wid (Sz.fst n) = k at *
  go_loopw [0, 6] (fun m i wr => ∃ q : Nat, q ≤ k ∧ i = .int .i64 q ∧ m = .int .i64 (n / Sz.pw (k - q)) ∧ Below w.heap.size w wr ∧ (∀ j, wr.frozen? ⟨w.heap.size, j, none⟩ = false) ∧
      ∀ j, j < 1 + k → wr.cell? ⟨w.heap.size, j, none⟩ = some (.int .u8 ((Sz.part k q n).getD j 0))) (fun _ i _ => (intOf i).toNat)
  case atStart =>
    refine ⟨k, Nat.le_refl _, by go_num, by simp [Sz.pw], (Below.refl _ _).alloc (Nat.le_refl _) _, fun j => by simp, fun j hj => ?_⟩
    rw [World.cell?_alloc_new, Sz.part_full]
    have hz := HZ.out j hj
    have hsz : (zeros (1 + k)).size = 1 + k := by simp [zeros, madeCells]
    cases j with
    | zero => rw [Array.getElem?_setIfInBounds, if_pos rfl, if_pos (by omega)]; rfl
    | succ j => simp only [Array.getElem?_setIfInBounds]; rw [if_neg (by omega), hz]; simp [List.getD, show j < k from by omega]
  case round =>
    obtain ⟨q, hq, rfl, rfl, hbel, hfr, hcell⟩ := hrel
    have hm0 : 0 ≤ n / Sz.pw (k - q) := Int.ediv_nonneg h (Int.le_of_lt (Sz.pw_pos _))
    have hm1 : n / Sz.pw (k - q) ≤ n := Int.ediv_le_self _ h
    by_cases h0 : 0 < q
    · have hcq := hcell q (by omega)
      have hfq := hfr q
      have hq1 : (q : Int) < 1 + (k : Int) := by omega
      have HC : Hid (∀ j, j < 1 + k → wr.cell? ⟨w.heap.size, j, none⟩ = some (.int .u8 ((Sz.part k q n).getD j 0))) := hcell
      clear hcell
      go_wp2
      go_roundw
      case rel =>
        refine ⟨q - 1, by omega, by go_num, ?_, hbel.setCell (Nat.le_refl _) _, fun j => by rw [World.frozen?_setCell]; exact hfr j, fun j hj => ?_⟩
        · rw [show k - (q - 1) = (k - q) + 1 from by omega, Sz.ediv_pw]
        · rw [cell_stored hcq, HC.out j hj, Sz.part_step k (q - 1) n h (by omega) j, show q - 1 + 1 = q from by omega]
          by_cases e : j = q
          · rw [if_pos e, if_pos e]
          · rw [if_neg e, if_neg e]
      case measure => simp [intOf]; omega
    · obtain rfl : q = 0 := by omega
      go_wp2
      go_ret2
      have hl : (Sz.wr n).length = 1 + k := by rw [Sz.wr_length, hk]
      refine ⟨by rw [hl]; rfl, .inr ⟨w.heap.size, 0, 1 + k, by rw [hl], by omega, by omega, by unfold maxLen; omega, fun j hj => ?_⟩, hbel⟩
      rw [Nat.zero_add, hcell j (by omega), Sz.part_zero, HW.out]
end Go.Proofs.YtmoijbdpbpfljaaDoor
