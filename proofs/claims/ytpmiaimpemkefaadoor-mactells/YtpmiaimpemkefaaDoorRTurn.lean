/- Words of 32 bits in ints of 64: and, or, unlike; the contract of moneyerref1.turn. -/
import Derived.Test.YtpmiaimpemkefaaDoorShTurn
import Derived.Deep.QuietTactic
import Derived.BigQuiet
namespace Go.Proofs.YtpmiaimpemkefaaDoor
open Go.RowKit
set_option linter.unusedVariables false

theorem i64_wrap (a : Nat) (h : a < 9223372036854775808) : IntKind.i64.wrap (a : Int) = (a : Int) := by
  simp [IntKind.wrap, IntKind.bits, IntKind.signed]; omega
theorem i64_and_nat (a b : Nat) (ha : a < 9223372036854775808) (hb : b < 9223372036854775808) : bits .and .i64 (a : Int) (b : Int) = ((a &&& b : Nat) : Int) := by
  show IntKind.i64.wrap ((BitVec.ofInt 64 (a : Int) &&& BitVec.ofInt 64 (b : Int)).toNat : Int) = _
  rw [BitVec.toNat_and, ofInt_u64 a (by omega), ofInt_u64 b (by omega)]
  exact i64_wrap _ (Nat.lt_of_le_of_lt Nat.and_le_left ha)
theorem i64_or_nat (a b : Nat) (ha : a < 9223372036854775808) (hb : b < 9223372036854775808) : bits .or .i64 (a : Int) (b : Int) = ((a ||| b : Nat) : Int) := by
  show IntKind.i64.wrap ((BitVec.ofInt 64 (a : Int) ||| BitVec.ofInt 64 (b : Int)).toNat : Int) = _
  rw [BitVec.toNat_or, ofInt_u64 a (by omega), ofInt_u64 b (by omega)]
  exact i64_wrap _ (Nat.or_lt_two_pow (n := 63) ha hb)
theorem i64_xor_nat (a b : Nat) (ha : a < 9223372036854775808) (hb : b < 9223372036854775808) : bits .xor .i64 (a : Int) (b : Int) = ((a ^^^ b : Nat) : Int) := by
  show IntKind.i64.wrap ((BitVec.ofInt 64 (a : Int) ^^^ BitVec.ofInt 64 (b : Int)).toNat : Int) = _
  rw [BitVec.toNat_xor, ofInt_u64 a (by omega), ofInt_u64 b (by omega)]
  exact i64_wrap _ (Nat.xor_lt_two_pow (n := 63) ha hb)
theorem and_all (x : Nat) (h : x < 9223372036854775808) : bits .and .i64 (x : Int) 4294967295 = ((x % 4294967296 : Nat) : Int) := by
  have := i64_and_nat x 4294967295 h (by omega)
  rw [show ((4294967295 : Nat) : Int) = 4294967295 from rfl] at this
  rw [this, show (4294967295 : Nat) = 2 ^ 32 - 1 from rfl, Nat.and_two_pow_sub_one_eq_mod]

theorem rturn_end (n s x : Nat) (hs : n + s = 32) (h0 : 0 < n) (hx : x < 4294967296) : bits BinOp.or IntKind.i64 ((x : Int) / 2 ^ n) (bits BinOp.and IntKind.i64 ((x : Int) * 2 ^ s) 4294967295) = ((Sh.rotr n x : Nat) : Int) := by
  have hlt : x * 2 ^ s < 9223372036854775808 := by
    have h1 : 2 ^ s ≤ 2 ^ 31 := Nat.pow_le_pow_right (by decide) (by omega)
    have h2 : x * 2 ^ s ≤ 4294967295 * 2 ^ 31 := Nat.mul_le_mul (by omega) h1
    omega
  have e1 : (x : Int) * 2 ^ s = ((x * 2 ^ s : Nat) : Int) := by rw [Int.natCast_mul, Int.natCast_pow]; rfl
  have e2 : (x : Int) / 2 ^ n = ((x >>> n : Nat) : Int) := by rw [Nat.shiftRight_eq_div_pow, Int.natCast_ediv, Int.natCast_pow]; rfl
  rw [e1, e2, and_all _ hlt, i64_or_nat _ _ (Nat.lt_trans (Sh.shr_lt _ _ hx) (by omega)) (by omega)]
  unfold Sh.rotr
  rw [show 32 - n = s by omega, Nat.shiftLeft_eq]

theorem rturn_any (n x : Nat) (w : World) (h0 : 0 < n) (h1 : n < 32) (hx : x < 4294967296) :
    Calls Tryd.prog 30 #[.int .i64 x, .int .i64 n] w fun e w' => e = .returned (.int .i64 (Sh.rotr n x : Nat)) ∧ ∃ m, w' = w.drewN m := by
  obtain ⟨s, hs⟩ : ∃ s, n + s = 32 := ⟨32 - n, by omega⟩
  have he := rturn_end n s x hs h0 hx
  have hm : (32 : Int) - n = s := by omega
  have HE := hide he
  have hlt : (x : Int) * 2 ^ s < 9223372036854775808 := by
    have h1 : 2 ^ s ≤ 2 ^ 31 := Nat.pow_le_pow_right (by decide) (by omega)
    have h2 : x * 2 ^ s ≤ 4294967295 * 2 ^ 31 := Nat.mul_le_mul (by omega) h1
    have e1 : (x : Int) * 2 ^ s = ((x * 2 ^ s : Nat) : Int) := by rw [Int.natCast_mul, Int.natCast_pow]; rfl
    omega
  have hge : 0 ≤ (x : Int) * 2 ^ s := Int.mul_nonneg (by omega) (Int.pow_nonneg (by omega))
  clear he
  go_enter Tryd.func30, Tryd.ntmps30
  go_wp2
  go_quiet (fail)
  go_wp2
  go_ret
  exact ⟨ret_int HE.out, _, rfl⟩

theorem lt63 {x : Nat} (h : x < 4294967296) : x < 9223372036854775808 := by omega
theorem s0_bits64 (x : Nat) (h : x < 4294967296) : bits .xor .i64 (bits .xor .i64 (Sh.rotr 7 x : Nat) (Sh.rotr 18 x : Nat)) ((x : Int) / 8) = (Sh.s0 x : Nat) := by
  have e := shr_cast x 3 8 rfl
  rw [show ((8 : Nat) : Int) = 8 from rfl] at e
  rw [e, i64_xor_nat _ _ (lt63 (Sh.rotr_lt _ _ h)) (lt63 (Sh.rotr_lt _ _ h)), i64_xor_nat _ _ (lt63 (Sh.xor_lt (Sh.rotr_lt _ _ h) (Sh.rotr_lt _ _ h))) (lt63 (Sh.shr_lt _ _ h))]
  rfl
theorem s1_bits64 (x : Nat) (h : x < 4294967296) : bits .xor .i64 (bits .xor .i64 (Sh.rotr 17 x : Nat) (Sh.rotr 19 x : Nat)) ((x : Int) / 1024) = (Sh.s1 x : Nat) := by
  have e := shr_cast x 10 1024 rfl
  rw [show ((1024 : Nat) : Int) = 1024 from rfl] at e
  rw [e, i64_xor_nat _ _ (lt63 (Sh.rotr_lt _ _ h)) (lt63 (Sh.rotr_lt _ _ h)), i64_xor_nat _ _ (lt63 (Sh.xor_lt (Sh.rotr_lt _ _ h) (Sh.rotr_lt _ _ h))) (lt63 (Sh.shr_lt _ _ h))]
  rfl
theorem S1_bits64 (x : Nat) (h : x < 4294967296) : bits .xor .i64 (bits .xor .i64 (Sh.rotr 6 x : Nat) (Sh.rotr 11 x : Nat)) (Sh.rotr 25 x : Nat) = (Sh.S1 x : Nat) := by
  rw [i64_xor_nat _ _ (lt63 (Sh.rotr_lt _ _ h)) (lt63 (Sh.rotr_lt _ _ h)), i64_xor_nat _ _ (lt63 (Sh.xor_lt (Sh.rotr_lt _ _ h) (Sh.rotr_lt _ _ h))) (lt63 (Sh.rotr_lt _ _ h))]
  rfl
theorem S0_bits64 (x : Nat) (h : x < 4294967296) : bits .xor .i64 (bits .xor .i64 (Sh.rotr 2 x : Nat) (Sh.rotr 13 x : Nat)) (Sh.rotr 22 x : Nat) = (Sh.S0 x : Nat) := by
  rw [i64_xor_nat _ _ (lt63 (Sh.rotr_lt _ _ h)) (lt63 (Sh.rotr_lt _ _ h)), i64_xor_nat _ _ (lt63 (Sh.xor_lt (Sh.rotr_lt _ _ h) (Sh.rotr_lt _ _ h))) (lt63 (Sh.rotr_lt _ _ h))]
  rfl
theorem ch_bits64 (e f g : Nat) (he : e < 4294967296) (hf : f < 4294967296) (hg : g < 4294967296) :
    bits .xor .i64 (bits .and .i64 (e : Int) (f : Int)) (bits .and .i64 (4294967295 - (e : Int)) (g : Int)) = (Sh.ch e f g : Nat) := by
  rw [show (4294967295 : Int) - (e : Int) = ((4294967295 - e : Nat) : Int) by omega, i64_and_nat _ _ (lt63 he) (lt63 hf), i64_and_nat _ _ (by omega) (lt63 hg), i64_xor_nat _ _ (lt63 (Sh.and_lt he)) (lt63 (Sh.and_lt (by omega)))]
  rfl
theorem maj_bits64 (a b c : Nat) (ha : a < 4294967296) (hb : b < 4294967296) (hc : c < 4294967296) :
    bits .xor .i64 (bits .xor .i64 (bits .and .i64 (a : Int) (b : Int)) (bits .and .i64 (a : Int) (c : Int))) (bits .and .i64 (b : Int) (c : Int)) = (Sh.maj a b c : Nat) := by
  rw [i64_and_nat _ _ (lt63 ha) (lt63 hb), i64_and_nat _ _ (lt63 ha) (lt63 hc), i64_and_nat _ _ (lt63 hb) (lt63 hc), i64_xor_nat _ _ (lt63 (Sh.and_lt ha)) (lt63 (Sh.and_lt ha)), i64_xor_nat _ _ (lt63 (Sh.xor_lt (Sh.and_lt ha) (Sh.and_lt ha))) (lt63 (Sh.and_lt hb))]
  rfl
theorem rturn_int (n : Int) (x : Nat) (w : World) (h0 : 0 < n) (h1 : n < 32) (hx : x < 4294967296) :
    Calls Tryd.prog 30 #[.int .i64 x, .int .i64 n] w fun e w' => e = .returned (.int .i64 (Sh.rotr n.toNat x : Nat)) ∧ ∃ m, w' = w.drewN m := by
  have h := rturn_any n.toNat x w (by omega) (by omega) hx
  rwa [show ((n.toNat : Nat) : Int) = n by omega] at h
end Go.Proofs.YtpmiaimpemkefaaDoor
