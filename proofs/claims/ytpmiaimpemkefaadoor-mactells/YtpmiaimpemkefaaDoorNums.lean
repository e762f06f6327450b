/- The contract of moneyerref1.Num: the number of one to eight bytes, where it is no greater than an int. -/
import Derived.Test.YtpmiaimpemkefaaDoorOwns
import Derived.Deep.QuietTactic
import Derived.BigQuiet
namespace Go.Proofs.YtpmiaimpemkefaaDoor
open Go.RowKit
set_option linter.unusedVariables false

theorem byte64 (x : Int) (h0 : 0 ≤ x) (h1 : x < 256) : IntKind.i64.wrap x = x := by simp [IntKind.wrap, IntKind.bits, IntKind.signed]; omega

set_option maxHeartbeats 800000 in
theorem num_ok (b off cap k : Nat) (l : List Int) (w : World) (hl : l.length = k) (hc : ∀ j, j < l.length → w.cell? ⟨b, off + j, none⟩ = some (.int .u8 (l.getD j 0))) (hb : Sz.Byt l) (hk0 : 0 < k) (hk8 : k ≤ 8) (hmax : Sz.joinL l ≤ 9223372036854775807) :
    Calls Tryd.prog 29 #[.slice (some ⟨b, off, none⟩) k cap] w fun e w' => e = .returned (.tuple #[.int .i64 (Sz.joinL l), .bool true]) ∧ Below w.heap.size w w' := by
  have hlt : b < w.heap.size := World.block_lt_of_cell? w ⟨b, off + 0, none⟩ (hc 0 (by omega))
  have hc0 : w.cell? ⟨b, off, none⟩ = some (.int .u8 (l.getD 0 0)) := by simpa using hc 0 (by omega)
  have hk0' : ((k : Int) == 0) = false := by simp; omega
  have hk8' : ¬ (8 : Int) < (k : Int) := by omega
  have body : ∀ w1, Below w.heap.size w w1 → ∀ j, j < k → w1.cell? ⟨b, off + j, none⟩ = some (.int .u8 (l.getD j 0)) := fun w1 h1 j hj => by
    rw [h1.cell (p := ⟨b, off + j, none⟩) hlt]; exact hc j (by omega)
  have HBD := hide body
  clear body
  have step : ∀ j, j < k → Sz.joinL (l.take (j + 1)) = Sz.joinL (l.take j) * 256 + l.getD j 0 ∧ 0 ≤ Sz.joinL (l.take j) ∧ Sz.joinL (l.take j) * 256 + l.getD j 0 ≤ 9223372036854775807 ∧ 0 ≤ l.getD j 0 ∧ l.getD j 0 < 256 := fun j hj => by
    have hg := hb.getD j
    have e := take_snoc l j (by omega)
    have hj0 := Sz.joinL_bd (l.take j) (hb.take j)
    have e2 : Sz.joinL (l.take (j + 1)) = Sz.joinL (l.take j) * 256 + l.getD j 0 := by rw [e, Sz.joinL_snoc]
    refine ⟨e2, hj0.1, ?_, hg.1, hg.2⟩
    rw [← e2]
    have mono : ∀ d, Sz.joinL (l.take (j + 1)) ≤ Sz.joinL (l.take (j + 1 + d)) := by
      intro d
      induction d with
      | zero => exact Int.le_refl _
      | succ d ih =>
        by_cases hd : j + 1 + d < l.length
        · have e3 := take_snoc l (j + 1 + d) hd
          have hg3 := hb.getD (j + 1 + d)
          have hj3 := Sz.joinL_bd (l.take (j + 1 + d)) (hb.take _)
          have e4 : Sz.joinL (l.take (j + 1 + (d + 1))) = Sz.joinL (l.take (j + 1 + d)) * 256 + l.getD (j + 1 + d) 0 := by
            rw [show j + 1 + (d + 1) = (j + 1 + d) + 1 from by omega, e3, Sz.joinL_snoc]
          rw [e4]; omega
        · have e3 : l.take (j + 1 + (d + 1)) = l.take (j + 1 + d) := by rw [List.take_of_length_le (by omega), List.take_of_length_le (by omega)]
          rw [e3]; exact ih
    have := mono k
    rw [List.take_of_length_le (i := j + 1 + k) (by omega)] at this
    omega
  have HST := hide step
  have HTK : Hid (l.take k = l) := List.take_of_length_le (by omega)
  have hg0 := hb.getD 0
  have hcond : k = 8 → l.getD 0 0 < 128 := fun h8 => by
    have := (Sz.join_top l hb (by omega)); omega
  clear step hmax hc hb
  by_cases h8 : k = 8
  · have hx := hcond h8
    have h8' : ((k : Int) == 8) = true := by simp; omega
    clear hcond h8
    generalize l.getD 0 0 = x at *
    have hx' : ¬ (128 : Int) ≤ x := by omega
    go_enter Tryd.func29, Tryd.ntmps29
    go_wp2
    go_loop [4, 5] (fun n i => ∃ j : Nat, j ≤ k ∧ i = .int .i64 j ∧ n = .int .i64 (Sz.joinL (l.take j))) (fun _ i => k - (intOf i).toNat)
    case atStart => exact ⟨0, Nat.zero_le _, rfl, rfl⟩
    case round =>
      obtain ⟨j, hj, rfl, rfl⟩ := hrel
      by_cases hlt2 : j < k
      · have hcj := HBD.out w (Below.refl _ _) j hlt2
        obtain ⟨e1, e2, e3, e4, e5⟩ := HST.out j hlt2
        have HE1 := hide e1
        have hw := byte64 _ e4 e5
        clear e1
        generalize l.getD j 0 = y at *
        generalize Sz.joinL (l.take j) = s at *
        have hki : (j : Int) < (k : Int) := by omega
        go_wp2
        go_round
        case rel => exact ⟨j + 1, by omega, by go_num, by rw [HE1.out]⟩
        case measure => simp [intOf]; omega
      · obtain rfl : j = k := by omega
        rw [HTK.out]
        go_wp2
        go_ret2
        exact ⟨rfl, Below.refl _ _⟩
  · have h8' : ((k : Int) == 8) = false := by simp; omega
    clear hcond h8 hc0
    go_enter Tryd.func29, Tryd.ntmps29
    go_wp2
    go_loop [4, 5] (fun n i => ∃ j : Nat, j ≤ k ∧ i = .int .i64 j ∧ n = .int .i64 (Sz.joinL (l.take j))) (fun _ i => k - (intOf i).toNat)
    case atStart => exact ⟨0, Nat.zero_le _, rfl, rfl⟩
    case round =>
      obtain ⟨j, hj, rfl, rfl⟩ := hrel
      by_cases hlt2 : j < k
      · have hcj := HBD.out w (Below.refl _ _) j hlt2
        obtain ⟨e1, e2, e3, e4, e5⟩ := HST.out j hlt2
        have HE1 := hide e1
        have hw := byte64 _ e4 e5
        clear e1
        generalize l.getD j 0 = y at *
        generalize Sz.joinL (l.take j) = s at *
        have hki : (j : Int) < (k : Int) := by omega
        go_wp2
        go_round
        case rel => exact ⟨j + 1, by omega, by go_num, by rw [HE1.out]⟩
        case measure => simp [intOf]; omega
      · obtain rfl : j = k := by omega
        rw [HTK.out]
        go_wp2
        go_ret2
        exact ⟨rfl, Below.refl _ _⟩

set_option maxHeartbeats 400000 in
theorem num_big (b off cap : Nat) (x : Int) (w : World) (hc0 : w.cell? ⟨b, off, none⟩ = some (.int .u8 x)) (hx : 128 ≤ x) :
    Calls Tryd.prog 29 #[.slice (some ⟨b, off, none⟩) 8 cap] w fun e w' => e = .returned (.tuple #[.int .i64 0, .bool false]) ∧ Below w.heap.size w w' := by
  go_enter Tryd.func29, Tryd.ntmps29
  go_wp2
  go_ret2
  exact ⟨rfl, Below.refl _ _⟩
end Go.Proofs.YtpmiaimpemkefaaDoor
