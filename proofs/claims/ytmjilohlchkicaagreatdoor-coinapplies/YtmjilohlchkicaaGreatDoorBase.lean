/- The contracts of the small functions of package size: the first byte of a number and how many bytes stand behind it. -/
import Derived.Test.YtmjilohlchkicaaGreatDoorHas
namespace Go.Proofs.YtmjilohlchkicaaGreatDoor
open Go.RowKit
set_option linter.unusedVariables false

theorem firstOf_any (n : Int) (w : World) (h0 : 0 ≤ n) (h1 : n < 18446744073709551616) :
    Calls Tryz.prog 112 #[.int .u64 n] w fun e w' => e = .returned (.int .u8 (Sz.fst n)) ∧ w = w' := by
  by_cases a : n < 253
  · have e : Sz.fst n = n := by unfold Sz.fst; rw [if_pos a]
    rw [e]; clear e
    go_enter Tryz.func112, Tryz.ntmps112
    go_wp2
    go_ret
    exact ⟨rfl, rfl⟩
  · by_cases b : n ≤ 65535
    · have e : Sz.fst n = 253 := by unfold Sz.fst; rw [if_neg a, if_pos b]
      rw [e]; clear e
      go_enter Tryz.func112, Tryz.ntmps112
      go_wp2
      go_ret
      exact ⟨rfl, rfl⟩
    · by_cases c : n ≤ 4294967295
      · have e : Sz.fst n = 254 := by unfold Sz.fst; rw [if_neg a, if_neg b, if_pos c]
        rw [e]; clear e
        go_enter Tryz.func112, Tryz.ntmps112
        go_wp2
        go_ret
        exact ⟨rfl, rfl⟩
      · have e : Sz.fst n = 255 := by unfold Sz.fst; rw [if_neg a, if_neg b, if_neg c]
        rw [e]; clear e
        go_enter Tryz.func112, Tryz.ntmps112
        go_wp2
        go_ret
        exact ⟨rfl, rfl⟩

theorem behind_any (f : Int) (w : World) :
    Calls Tryz.prog 113 #[.int .u8 f] w fun e w' => e = .returned (.int .i64 (Sz.wid f : Nat)) ∧ w = w' := by
  by_cases a : f = 253
  · subst a
    go_enter Tryz.func113, Tryz.ntmps113
    go_wp2
    go_ret
    exact ⟨rfl, rfl⟩
  · by_cases b : f = 254
    · subst b
      go_enter Tryz.func113, Tryz.ntmps113
      go_wp2
      go_ret
      exact ⟨rfl, rfl⟩
    · by_cases c : f = 255
      · subst c
        go_enter Tryz.func113, Tryz.ntmps113
        go_wp2
        go_ret
        exact ⟨rfl, rfl⟩
      · have e : Sz.wid f = 0 := by unfold Sz.wid; rw [if_neg a, if_neg b, if_neg c]
        rw [e]; clear e
        have a' : (f == 253) = false := by simpa using a
        have b' : (f == 254) = false := by simpa using b
        have c' : (f == 255) = false := by simpa using c
        clear a b c
        go_enter Tryz.func113, Tryz.ntmps113
        go_wp2
        go_ret
        exact ⟨rfl, rfl⟩

/-- One round of join. -/
theorem or_step (a x : Int) (h0 : 0 ≤ a) (h1 : a * 256 < 18446744073709551616) (h2 : 0 ≤ x) (h3 : x < 256) :
    bits BinOp.or IntKind.u64 (IntKind.u64.wrap (a * 256)) (IntKind.u64.wrap x) = a * 256 + x := by
  have w1 : IntKind.u64.wrap (a * 256) = a * 256 := by simp [IntKind.wrap, IntKind.bits, IntKind.signed]; omega
  have w2 : IntKind.u64.wrap x = x := by simp [IntKind.wrap, IntKind.bits, IntKind.signed]; omega
  rw [w1, w2, u64_or _ _ (by omega) h1 h2 (by omega)]
  obtain ⟨m, rfl⟩ := Int.eq_ofNat_of_zero_le h0
  obtain ⟨y, rfl⟩ := Int.eq_ofNat_of_zero_le h2
  have e : ((m : Int) * 256).toNat = m <<< 8 := by rw [Nat.shiftLeft_eq]; omega
  have h := Nat.shiftLeft_add_eq_or_of_lt (a := m) (b := y) (i := 8) (by omega)
  rw [e, Int.toNat_natCast, ← h, Nat.shiftLeft_eq]
  omega

theorem pw_shift (k : Nat) (h : k < 8) : Sz.pw k * 256 ≤ 18446744073709551616 := by
  have := Sz.pw_le8 (k + 1) (by omega)
  rw [Sz.pw] at this
  omega

end Go.Proofs.YtmjilohlchkicaaGreatDoor
