/- The contract of the turn of a word. -/
import Derived.Test.YtkdihbgjeanjdaaDoorHas
import Derived.Test.YtkdihbgjeanjdaaDoorSh
namespace Go.Proofs.YtkdihbgjeanjdaaDoor
open Go.RowKit
set_option linter.unusedVariables false

theorem rot_mask (n : Nat) (h0 : 0 < n) (h1 : n < 32) : bits BinOp.and IntKind.u64 (IntKind.u64.wrap (-(n : Int))) 31 = ((32 - n : Nat) : Int) := by
  have h : IntKind.u64.wrap (-(n : Int)) = ((18446744073709551616 - n : Nat) : Int) := by
    simp [IntKind.wrap, IntKind.bits, IntKind.signed]; omega
  rw [h]
  have := u64_and_nat (18446744073709551616 - n) 31 (by omega) (by omega)
  rw [show ((31 : Nat) : Int) = 31 from rfl] at this
  rw [this, nat_mask5]
  congr 1; omega

theorem rot_end (n s x : Nat) (hs : n + s = 32) (h0 : 0 < n) (hx : x < 4294967296) : bits BinOp.or IntKind.u32 (IntKind.u32.wrap ((x : Int) * 2 ^ s)) ((x : Int) / 2 ^ n) = ((Sh.rotr n x : Nat) : Int) := by
  have e1 : IntKind.u32.wrap ((x : Int) * 2 ^ s) = ((x <<< s % 4294967296 : Nat) : Int) := by
    rw [IntKind.wrap_u32', Nat.shiftLeft_eq, Int.natCast_emod, Int.natCast_mul, Int.natCast_pow]; rfl
  have e2 : (x : Int) / 2 ^ n = ((x >>> n : Nat) : Int) := by rw [Nat.shiftRight_eq_div_pow]; push_cast; rfl
  rw [e1, e2, u32_or_nat _ _ (Nat.mod_lt _ (by omega)) (Sh.shr_lt _ _ hx), Nat.or_comm]
  unfold Sh.rotr
  rw [show 32 - n = s by omega]

theorem rotl_any (n x : Nat) (w : World) (h0 : 0 < n) (h1 : n < 32) (hx : x < 4294967296) :
    Calls Tryd.prog 85 #[.int .u32 x, .int .i64 (-(n : Int))] w fun e w' => e = .returned (.int .u32 (Sh.rotr n x : Nat)) ∧ w = w' := by
  obtain ⟨s, hs⟩ : ∃ s, n + s = 32 := ⟨32 - n, by omega⟩
  have hb := rot_mask n h0 h1
  rw [show 32 - n = s by omega] at hb
  have he := rot_end n s x hs h0 hx
  have hm : (32 : Int) - s = n := by omega
  have HE := hide he
  clear he
  have hsu : (s : Int) < 32 := by omega
  go_enter Tryd.func85, Tryd.ntmps85
  go_wp2
  go_ret
  exact ⟨ret_int (by rw [← HE.out, IntKind.wrap_u32']), rfl⟩

theorem turn_any (n x : Nat) (w : World) (h0 : 0 < n) (h1 : n < 32) (hx : x < 4294967296) :
    Calls Tryd.prog 69 #[.int .u32 x, .int .i64 n] w fun e w' => e = .returned (.int .u32 (Sh.rotr n x : Nat)) ∧ w = w' := by
  go_enter Tryd.func69, Tryd.ntmps69
  go_wp2_with fail
  refine (rotl_any n x w h0 h1 hx).mono ?_
  rintro e w1 ⟨rfl, rfl⟩
  go_wp2
  go_ret
  exact ⟨rfl, rfl⟩

theorem turn_int (n : Int) (x : Nat) (w : World) (h0 : 0 < n) (h1 : n < 32) (hx : x < 4294967296) :
    Calls Tryd.prog 69 #[.int .u32 x, .int .i64 n] w fun e w' => e = .returned (.int .u32 (Sh.rotr n.toNat x : Nat)) ∧ w = w' := by
  have h := turn_any n.toNat x w (by omega) (by omega) hx
  rwa [show ((n.toNat : Nat) : Int) = n by omega] at h

theorem turn_q (n : Int) (x : Nat) (w : World) (h0 : 0 < n) (h1 : n < 32) (hx : x < 4294967296) :
    Calls Tryd.prog 69 #[.int .u32 x, .int .i64 n] w fun e w' => e = .returned (.int .u32 (Sh.rotr n.toNat x : Nat)) ∧ w' = w :=
  (turn_int n x w h0 h1 hx).mono fun _ _ ⟨a, b⟩ => ⟨a, b.symm⟩

theorem shr_cast (x n m : Nat) (h : 2 ^ n = m) : (x : Int) / (m : Nat) = ((x >>> n : Nat) : Int) := by rw [Nat.shiftRight_eq_div_pow, h]; rfl
theorem s0_bits (x : Nat) (h : x < 4294967296) : bits .xor .u32 (bits .xor .u32 (Sh.rotr 7 x : Nat) (Sh.rotr 18 x : Nat)) ((x : Int) / 8) = (Sh.s0 x : Nat) := by
  have e := shr_cast x 3 8 rfl
  rw [show ((8 : Nat) : Int) = 8 from rfl] at e
  rw [e, u32_xor_nat _ _ (Sh.rotr_lt _ _ h) (Sh.rotr_lt _ _ h), u32_xor_nat _ _ (Sh.xor_lt (Sh.rotr_lt _ _ h) (Sh.rotr_lt _ _ h)) (Sh.shr_lt _ _ h)]
  rfl
theorem s1_bits (x : Nat) (h : x < 4294967296) : bits .xor .u32 (bits .xor .u32 (Sh.rotr 17 x : Nat) (Sh.rotr 19 x : Nat)) ((x : Int) / 1024) = (Sh.s1 x : Nat) := by
  have e := shr_cast x 10 1024 rfl
  rw [show ((1024 : Nat) : Int) = 1024 from rfl] at e
  rw [e, u32_xor_nat _ _ (Sh.rotr_lt _ _ h) (Sh.rotr_lt _ _ h), u32_xor_nat _ _ (Sh.xor_lt (Sh.rotr_lt _ _ h) (Sh.rotr_lt _ _ h)) (Sh.shr_lt _ _ h)]
  rfl
theorem not_bits (e : Nat) (h : e < 4294967296) : bits .xor .u32 (if IntKind.u32.signed = true then -1 else IntKind.u32.max) (e : Int) = ((4294967295 - e : Nat) : Int) := by
  have h1 : (if IntKind.u32.signed = true then -1 else IntKind.u32.max) = ((4294967295 : Nat) : Int) := by decide
  rw [h1, u32_xor_nat _ _ (by omega) h]
  congr 1
  apply Nat.eq_of_testBit_eq
  intro i
  rw [Nat.testBit_xor, show (4294967295 : Nat) - e = 2 ^ 32 - (e + 1) by omega, Nat.testBit_two_pow_sub_succ h, show (4294967295 : Nat) = 2 ^ 32 - 1 by rfl, Nat.testBit_two_pow_sub_one]
  by_cases hi : i < 32
  · simp [hi]
  · have : e.testBit i = false := Nat.testBit_lt_two_pow (Nat.lt_of_lt_of_le h (show (2 : Nat) ^ 32 ≤ 2 ^ i from Nat.pow_le_pow_right (by decide) (Nat.le_of_not_lt hi)))
    simp [hi, this]
theorem S1_bits (x : Nat) (h : x < 4294967296) : bits .xor .u32 (bits .xor .u32 (Sh.rotr 6 x : Nat) (Sh.rotr 11 x : Nat)) (Sh.rotr 25 x : Nat) = (Sh.S1 x : Nat) := by
  rw [u32_xor_nat _ _ (Sh.rotr_lt _ _ h) (Sh.rotr_lt _ _ h), u32_xor_nat _ _ (Sh.xor_lt (Sh.rotr_lt _ _ h) (Sh.rotr_lt _ _ h)) (Sh.rotr_lt _ _ h)]
  rfl
theorem S0_bits (x : Nat) (h : x < 4294967296) : bits .xor .u32 (bits .xor .u32 (Sh.rotr 2 x : Nat) (Sh.rotr 13 x : Nat)) (Sh.rotr 22 x : Nat) = (Sh.S0 x : Nat) := by
  rw [u32_xor_nat _ _ (Sh.rotr_lt _ _ h) (Sh.rotr_lt _ _ h), u32_xor_nat _ _ (Sh.xor_lt (Sh.rotr_lt _ _ h) (Sh.rotr_lt _ _ h)) (Sh.rotr_lt _ _ h)]
  rfl
theorem ch_bits (e f g : Nat) (he : e < 4294967296) (hf : f < 4294967296) (hg : g < 4294967296) :
    bits .xor .u32 (bits .and .u32 (e : Int) (f : Int)) (bits .and .u32 (bits .xor .u32 (if IntKind.u32.signed = true then -1 else IntKind.u32.max) (e : Int)) (g : Int)) = (Sh.ch e f g : Nat) := by
  rw [not_bits e he, u32_and_nat _ _ he hf, u32_and_nat _ _ (by omega) hg, u32_xor_nat _ _ (Sh.and_lt he) (Sh.and_lt (by omega))]
  rfl
theorem maj_bits (a b c : Nat) (ha : a < 4294967296) (hb : b < 4294967296) (hc : c < 4294967296) :
    bits .xor .u32 (bits .xor .u32 (bits .and .u32 (a : Int) (b : Int)) (bits .and .u32 (a : Int) (c : Int))) (bits .and .u32 (b : Int) (c : Int)) = (Sh.maj a b c : Nat) := by
  rw [u32_and_nat _ _ ha hb, u32_and_nat _ _ ha hc, u32_and_nat _ _ hb hc, u32_xor_nat _ _ (Sh.and_lt ha) (Sh.and_lt ha), u32_xor_nat _ _ (Sh.xor_lt (Sh.and_lt ha) (Sh.and_lt ha)) (Sh.and_lt hb)]
  rfl
theorem word_or (x0 x1 x2 x3 : Int) (b0 : 0 ≤ x0 ∧ x0 < 256) (b1 : 0 ≤ x1 ∧ x1 < 256) (b2 : 0 ≤ x2 ∧ x2 < 256) (b3 : 0 ≤ x3 ∧ x3 < 256) :
    bits .or .u32 (bits .or .u32 (bits .or .u32 (x0 * 16777216) (x1 * 65536)) (x2 * 256)) x3 = ((x0.toNat * 16777216 + x1.toNat * 65536 + x2.toNat * 256 + x3.toNat : Nat) : Int) := by
  obtain ⟨a, rfl⟩ := Int.eq_ofNat_of_zero_le b0.1
  obtain ⟨b, rfl⟩ := Int.eq_ofNat_of_zero_le b1.1
  obtain ⟨c, rfl⟩ := Int.eq_ofNat_of_zero_le b2.1
  obtain ⟨d, rfl⟩ := Int.eq_ofNat_of_zero_le b3.1
  simp only [Int.toNat_natCast]
  rw [show (a : Int) * 16777216 = ((a * 16777216 : Nat) : Int) by omega, show (b : Int) * 65536 = ((b * 65536 : Nat) : Int) by omega, show (c : Int) * 256 = ((c * 256 : Nat) : Int) by omega]
  have hb : b < 256 := by omega
  have hc : c < 256 := by omega
  have hd : d < 256 := by omega
  rw [u32_or_nat _ _ (by omega) (by omega), nat_join 24 _ _ (by omega) (by omega), u32_or_nat _ _ (by omega) (by omega), nat_join 16 _ _ (by omega) (by omega), u32_or_nat _ _ (by omega) (by omega), nat_join 8 _ _ (by omega) (by omega)]
end Go.Proofs.YtkdihbgjeanjdaaDoor
