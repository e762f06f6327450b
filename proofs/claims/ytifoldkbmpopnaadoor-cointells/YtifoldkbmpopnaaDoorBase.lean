/- The contracts of the small functions of package size: the first byte of a number and how many bytes stand behind it. -/
import Derived.Test.YtifoldkbmpopnaaDoorHas
namespace Go.Proofs.YtifoldkbmpopnaaDoor
open Go.RowKit
set_option linter.unusedVariables false

/-- One round of join. -/
theorem or_step (a x : Int) (h0 : 0 ≤ a) (h1 : a * 256 < 18446744073709551616) (h2 : 0 ≤ x) (h3 : x < 256) :
    bits BinOp.or IntKind.u64 (IntKind.u64.wrap (a * 256)) (IntKind.u64.wrap x) = a * 256 + x := by
  have w1 : IntKind.u64.wrap (a * 256) = a * 256 := by simp [IntKind.wrap, IntKind.bits, IntKind.signed]; omega
  have w2 : IntKind.u64.wrap x = x := by simp [IntKind.wrap, IntKind.bits, IntKind.signed]; omega
  rw [w1, w2, u64_or _ _ (by omega) h1 h2 (by omega)]
  obtain ⟨m, rfl⟩ := Int.eq_ofNat_of_zero_le h0
  obtain ⟨y, rfl⟩ := Int.eq_ofNat_of_zero_le h2
  have e : ((m : Int) * 256).toNat = m <<< 8 := by rw [Nat.shiftLeft_eq]; omega
  have h := Nat.shiftLeft_add_eq_or_of_lt (a := m) (b := y) (i := 8) (by omega)
  rw [e, Int.toNat_natCast, ← h, Nat.shiftLeft_eq]
  omega

theorem pw_shift (k : Nat) (h : k < 8) : Sz.pw k * 256 ≤ 18446744073709551616 := by
  have := Sz.pw_le8 (k + 1) (by omega)
  rw [Sz.pw] at this
  omega

end Go.Proofs.YtifoldkbmpopnaaDoor
