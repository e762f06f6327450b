/- The texts Put, Nums, RTurn, RBlock, RSum, RMac, one behind the other. -/
import Derived.Test.YtphdnbflogobfaaDoorOwnNew
import Derived.Test.YtphdnbflogobfaaDoorOwns
import Derived.Deep.QuietTactic
import Derived.BigQuiet
import Derived.Test.YtphdnbflogobfaaDoorZSh
import Derived.Test.YtphdnbflogobfaaDoorGMa
import Derived.Test.YtphdnbflogobfaaDoorOwn2
/- The contract of moneyerref1.Put: a number in so many bytes, the highest one first. -/
namespace Go.Proofs.YtphdnbflogobfaaDoor
open Go.RowKit
set_option linter.unusedVariables false

set_option maxHeartbeats 800000 in
theorem rput_any (n : Int) (k : Nat) (w : World) (h : 0 ≤ n) (hn : n ≤ 9223372036854775807) (hk0 : 1 ≤ k) (hk8 : k ≤ 8) :
    Calls Tryd.prog 33 #[.int .i64 n, .int .i64 k] w fun e w' => ∃ b, e = .returned (.tuple #[.slice (some ⟨w.heap.size, 0, none⟩) k k, .bool b]) ∧
      Has w' (.slice (some ⟨w.heap.size, 0, none⟩) k k) (Sz.low k n) ∧ Below w.heap.size w w' := by
  have hmk := fun w => make_bytes k (by omega) w
  have HZ : Hid (∀ j, j < k → (zeros k)[j]? = some (.int .u8 0)) := fun j hj => zeros_get _ j hj
  have hkn : ¬ (k : Int) < 1 := by omega
  have hkx : ¬ (8 : Int) < (k : Int) := by omega
  have hnn : ¬ n < 0 := by omega
  go_enter Tryd.func33, Tryd.ntmps33
  go_wp2
  go_loopw [0, 7] (fun m i wr => ∃ q : Nat, q ≤ k ∧ i = .int .i64 ((q : Int) - 1) ∧ m = .int .i64 (n / Sz.pw (k - q)) ∧ Below w.heap.size w wr ∧ (∀ j, wr.frozen? ⟨w.heap.size, j, none⟩ = false) ∧
      ∀ j, j < k → wr.cell? ⟨w.heap.size, j, none⟩ = some (.int .u8 ((Sz.part2 k q n).getD j 0))) (fun _ i _ => (intOf i + 1).toNat)
  case atStart =>
    refine ⟨k, Nat.le_refl _, rfl, by simp [Sz.pw], (Below.refl _ _).alloc (Nat.le_refl _) _, fun j => by simp, fun j hj => ?_⟩
    rw [World.cell?_alloc_new, Sz.part2_full, HZ.out j hj]
    simp [List.getD, hj]
  case round =>
    obtain ⟨q, hq, rfl, rfl, hbel, hfr, hcell⟩ := hrel
    have hm0 : 0 ≤ n / Sz.pw (k - q) := Int.ediv_nonneg h (Int.le_of_lt (Sz.pw_pos _))
    have hm1 : n / Sz.pw (k - q) ≤ n := Int.ediv_le_self _ h
    by_cases h0 : 0 < q
    · obtain ⟨r, rfl⟩ : ∃ r, q = r + 1 := ⟨q - 1, by omega⟩
      have hcq := hcell r (by omega)
      have hfq := hfr r
      have hq1 : (r : Int) < (k : Int) := by omega
      have e1 : (((r + 1 : Nat) : Int) - 1) = (r : Int) := by omega
      rw [e1]
      have HC := hide hcell
      clear hcell
      generalize hm : n / Sz.pw (k - (r + 1)) = m at *
      have HM := hide hm
      clear hm
      have hm2 : m.tmod 256 = m % 256 := Int.tmod_eq_emod_of_nonneg hm0
      have hm3 : m.tdiv 256 = m / 256 := Int.tdiv_eq_ediv_of_nonneg hm0
      go_wp2
      go_roundw
      case rel =>
        refine ⟨r, by omega, rfl, ?_, hbel.setCell (Nat.le_refl _) _, fun j => by rw [World.frozen?_setCell]; exact hfr j, fun j hj => ?_⟩
        · rw [← HM.out, show k - r = (k - (r + 1)) + 1 from by omega, Sz.ediv_pw]
        · rw [cell_stored hcq, HC.out j hj, Sz.part2_step k r n h (by omega) j, HM.out]
          by_cases e : j = r
          · rw [if_pos e, if_pos e]
          · rw [if_neg e, if_neg e]
      case measure => simp [intOf]
    · obtain rfl : q = 0 := by omega
      go_wp2
      go_ret2
      refine ⟨_, rfl, ?_, hbel⟩
      have hl := Sz.low_length k n
      refine .inr ⟨w.heap.size, 0, k, by rw [hl], by omega, by omega, by unfold maxLen; omega, fun j hj => ?_⟩
      rw [Nat.zero_add, hcell j (by omega), Sz.part2_zero]


end Go.Proofs.YtphdnbflogobfaaDoor

/- The contract of moneyerref1.Num: the number of one to eight bytes, where it is no greater than an int. -/
namespace Go.Proofs.YtphdnbflogobfaaDoor
open Go.RowKit
set_option linter.unusedVariables false

theorem byte64 (x : Int) (h0 : 0 ≤ x) (h1 : x < 256) : IntKind.i64.wrap x = x := by simp [IntKind.wrap, IntKind.bits, IntKind.signed]; omega

set_option maxHeartbeats 800000 in
theorem num_ok (b off cap k : Nat) (l : List Int) (w : World) (hl : l.length = k) (hc : ∀ j, j < l.length → w.cell? ⟨b, off + j, none⟩ = some (.int .u8 (l.getD j 0))) (hb : Sz.Byt l) (hk0 : 0 < k) (hk8 : k ≤ 8) (hmax : Sz.joinL l ≤ 9223372036854775807) :
    Calls Tryd.prog 42 #[.slice (some ⟨b, off, none⟩) k cap] w fun e w' => e = .returned (.tuple #[.int .i64 (Sz.joinL l), .bool true]) ∧ Below w.heap.size w w' := by
  have hlt : b < w.heap.size := World.block_lt_of_cell? w ⟨b, off + 0, none⟩ (hc 0 (by omega))
  have hc0 : w.cell? ⟨b, off, none⟩ = some (.int .u8 (l.getD 0 0)) := by simpa using hc 0 (by omega)
  have hk0' : ((k : Int) == 0) = false := by simp; omega
  have hk8' : ¬ (8 : Int) < (k : Int) := by omega
  have body : ∀ w1, Below w.heap.size w w1 → ∀ j, j < k → w1.cell? ⟨b, off + j, none⟩ = some (.int .u8 (l.getD j 0)) := fun w1 h1 j hj => by
    rw [h1.cell (p := ⟨b, off + j, none⟩) hlt]; exact hc j (by omega)
  have HBD := hide body
  clear body
  have step : ∀ j, j < k → Sz.joinL (l.take (j + 1)) = Sz.joinL (l.take j) * 256 + l.getD j 0 ∧ 0 ≤ Sz.joinL (l.take j) ∧ Sz.joinL (l.take j) * 256 + l.getD j 0 ≤ 9223372036854775807 ∧ 0 ≤ l.getD j 0 ∧ l.getD j 0 < 256 := fun j hj => by
    have hg := hb.getD j
    have e := take_snoc l j (by omega)
    have hj0 := Sz.joinL_bd (l.take j) (hb.take j)
    have e2 : Sz.joinL (l.take (j + 1)) = Sz.joinL (l.take j) * 256 + l.getD j 0 := by rw [e, Sz.joinL_snoc]
    refine ⟨e2, hj0.1, ?_, hg.1, hg.2⟩
    rw [← e2]
    have mono : ∀ d, Sz.joinL (l.take (j + 1)) ≤ Sz.joinL (l.take (j + 1 + d)) := by
      intro d
      induction d with
      | zero => exact Int.le_refl _
      | succ d ih =>
        by_cases hd : j + 1 + d < l.length
        · have e3 := take_snoc l (j + 1 + d) hd
          have hg3 := hb.getD (j + 1 + d)
          have hj3 := Sz.joinL_bd (l.take (j + 1 + d)) (hb.take _)
          have e4 : Sz.joinL (l.take (j + 1 + (d + 1))) = Sz.joinL (l.take (j + 1 + d)) * 256 + l.getD (j + 1 + d) 0 := by
            rw [show j + 1 + (d + 1) = (j + 1 + d) + 1 from by omega, e3, Sz.joinL_snoc]
          rw [e4]; omega
        · have e3 : l.take (j + 1 + (d + 1)) = l.take (j + 1 + d) := by rw [List.take_of_length_le (by omega), List.take_of_length_le (by omega)]
          rw [e3]; exact ih
    have := mono k
    rw [List.take_of_length_le (i := j + 1 + k) (by omega)] at this
    omega
  have HST := hide step
  have HTK : Hid (l.take k = l) := List.take_of_length_le (by omega)
  have hg0 := hb.getD 0
  have hcond : k = 8 → l.getD 0 0 < 128 := fun h8 => by
    have := (Sz.join_top l hb (by omega)); omega
  clear step hmax hc hb
  by_cases h8 : k = 8
  · have hx := hcond h8
    have h8' : ((k : Int) == 8) = true := by simp; omega
    clear hcond h8
    generalize l.getD 0 0 = x at *
    have hx' : ¬ (128 : Int) ≤ x := by omega
    go_enter Tryd.func42, Tryd.ntmps42
    go_wp2
    go_loop [4, 5] (fun n i => ∃ j : Nat, j ≤ k ∧ i = .int .i64 j ∧ n = .int .i64 (Sz.joinL (l.take j))) (fun _ i => k - (intOf i).toNat)
    case atStart => exact ⟨0, Nat.zero_le _, rfl, rfl⟩
    case round =>
      obtain ⟨j, hj, rfl, rfl⟩ := hrel
      by_cases hlt2 : j < k
      · have hcj := HBD.out w (Below.refl _ _) j hlt2
        obtain ⟨e1, e2, e3, e4, e5⟩ := HST.out j hlt2
        have HE1 := hide e1
        have hw := byte64 _ e4 e5
        clear e1
        generalize l.getD j 0 = y at *
        generalize Sz.joinL (l.take j) = s at *
        have hki : (j : Int) < (k : Int) := by omega
        go_wp2
        go_round
        case rel => exact ⟨j + 1, by omega, by go_num, by rw [HE1.out]⟩
        case measure => simp [intOf]; omega
      · obtain rfl : j = k := by omega
        rw [HTK.out]
        go_wp2
        go_ret2
        exact ⟨rfl, Below.refl _ _⟩
  · have h8' : ((k : Int) == 8) = false := by simp; omega
    clear hcond h8 hc0
    go_enter Tryd.func42, Tryd.ntmps42
    go_wp2
    go_loop [4, 5] (fun n i => ∃ j : Nat, j ≤ k ∧ i = .int .i64 j ∧ n = .int .i64 (Sz.joinL (l.take j))) (fun _ i => k - (intOf i).toNat)
    case atStart => exact ⟨0, Nat.zero_le _, rfl, rfl⟩
    case round =>
      obtain ⟨j, hj, rfl, rfl⟩ := hrel
      by_cases hlt2 : j < k
      · have hcj := HBD.out w (Below.refl _ _) j hlt2
        obtain ⟨e1, e2, e3, e4, e5⟩ := HST.out j hlt2
        have HE1 := hide e1
        have hw := byte64 _ e4 e5
        clear e1
        generalize l.getD j 0 = y at *
        generalize Sz.joinL (l.take j) = s at *
        have hki : (j : Int) < (k : Int) := by omega
        go_wp2
        go_round
        case rel => exact ⟨j + 1, by omega, by go_num, by rw [HE1.out]⟩
        case measure => simp [intOf]; omega
      · obtain rfl : j = k := by omega
        rw [HTK.out]
        go_wp2
        go_ret2
        exact ⟨rfl, Below.refl _ _⟩

set_option maxHeartbeats 400000 in
theorem num_big (b off cap : Nat) (x : Int) (w : World) (hc0 : w.cell? ⟨b, off, none⟩ = some (.int .u8 x)) (hx : 128 ≤ x) :
    Calls Tryd.prog 42 #[.slice (some ⟨b, off, none⟩) 8 cap] w fun e w' => e = .returned (.tuple #[.int .i64 0, .bool false]) ∧ Below w.heap.size w w' := by
  go_enter Tryd.func42, Tryd.ntmps42
  go_wp2
  go_ret2
  exact ⟨rfl, Below.refl _ _⟩
end Go.Proofs.YtphdnbflogobfaaDoor

/- Words of 32 bits in ints of 64: and, or, unlike; the contract of moneyerref1.turn. -/
namespace Go.Proofs.YtphdnbflogobfaaDoor
open Go.RowKit
set_option linter.unusedVariables false

theorem i64_wrap (a : Nat) (h : a < 9223372036854775808) : IntKind.i64.wrap (a : Int) = (a : Int) := by
  simp [IntKind.wrap, IntKind.bits, IntKind.signed]; omega
theorem i64_and_nat (a b : Nat) (ha : a < 9223372036854775808) (hb : b < 9223372036854775808) : bits .and .i64 (a : Int) (b : Int) = ((a &&& b : Nat) : Int) := by
  show IntKind.i64.wrap ((BitVec.ofInt 64 (a : Int) &&& BitVec.ofInt 64 (b : Int)).toNat : Int) = _
  rw [BitVec.toNat_and, ofInt_u64 a (by omega), ofInt_u64 b (by omega)]
  exact i64_wrap _ (Nat.lt_of_le_of_lt Nat.and_le_left ha)
theorem i64_or_nat (a b : Nat) (ha : a < 9223372036854775808) (hb : b < 9223372036854775808) : bits .or .i64 (a : Int) (b : Int) = ((a ||| b : Nat) : Int) := by
  show IntKind.i64.wrap ((BitVec.ofInt 64 (a : Int) ||| BitVec.ofInt 64 (b : Int)).toNat : Int) = _
  rw [BitVec.toNat_or, ofInt_u64 a (by omega), ofInt_u64 b (by omega)]
  exact i64_wrap _ (Nat.or_lt_two_pow (n := 63) ha hb)
theorem i64_xor_nat (a b : Nat) (ha : a < 9223372036854775808) (hb : b < 9223372036854775808) : bits .xor .i64 (a : Int) (b : Int) = ((a ^^^ b : Nat) : Int) := by
  show IntKind.i64.wrap ((BitVec.ofInt 64 (a : Int) ^^^ BitVec.ofInt 64 (b : Int)).toNat : Int) = _
  rw [BitVec.toNat_xor, ofInt_u64 a (by omega), ofInt_u64 b (by omega)]
  exact i64_wrap _ (Nat.xor_lt_two_pow (n := 63) ha hb)
theorem and_all (x : Nat) (h : x < 9223372036854775808) : bits .and .i64 (x : Int) 4294967295 = ((x % 4294967296 : Nat) : Int) := by
  have := i64_and_nat x 4294967295 h (by omega)
  rw [show ((4294967295 : Nat) : Int) = 4294967295 from rfl] at this
  rw [this, show (4294967295 : Nat) = 2 ^ 32 - 1 from rfl, Nat.and_two_pow_sub_one_eq_mod]

theorem rturn_end (n s x : Nat) (hs : n + s = 32) (h0 : 0 < n) (hx : x < 4294967296) : bits BinOp.or IntKind.i64 ((x : Int) / 2 ^ n) (bits BinOp.and IntKind.i64 ((x : Int) * 2 ^ s) 4294967295) = ((Sh.rotr n x : Nat) : Int) := by
  have hlt : x * 2 ^ s < 9223372036854775808 := by
    have h1 : 2 ^ s ≤ 2 ^ 31 := Nat.pow_le_pow_right (by decide) (by omega)
    have h2 : x * 2 ^ s ≤ 4294967295 * 2 ^ 31 := Nat.mul_le_mul (by omega) h1
    omega
  have e1 : (x : Int) * 2 ^ s = ((x * 2 ^ s : Nat) : Int) := by rw [Int.natCast_mul, Int.natCast_pow]; rfl
  have e2 : (x : Int) / 2 ^ n = ((x >>> n : Nat) : Int) := by rw [Nat.shiftRight_eq_div_pow, Int.natCast_ediv, Int.natCast_pow]; rfl
  rw [e1, e2, and_all _ hlt, i64_or_nat _ _ (Nat.lt_trans (Sh.shr_lt _ _ hx) (by omega)) (by omega)]
  unfold Sh.rotr
  rw [show 32 - n = s by omega, Nat.shiftLeft_eq]

theorem rturn_any (n x : Nat) (w : World) (h0 : 0 < n) (h1 : n < 32) (hx : x < 4294967296) :
    Calls Tryd.prog 43 #[.int .i64 x, .int .i64 n] w fun e w' => e = .returned (.int .i64 (Sh.rotr n x : Nat)) ∧ ∃ m, w' = w.drewN m := by
  obtain ⟨s, hs⟩ : ∃ s, n + s = 32 := ⟨32 - n, by omega⟩
  have he := rturn_end n s x hs h0 hx
  have hm : (32 : Int) - n = s := by omega
  have HE := hide he
  have hlt : (x : Int) * 2 ^ s < 9223372036854775808 := by
    have h1 : 2 ^ s ≤ 2 ^ 31 := Nat.pow_le_pow_right (by decide) (by omega)
    have h2 : x * 2 ^ s ≤ 4294967295 * 2 ^ 31 := Nat.mul_le_mul (by omega) h1
    have e1 : (x : Int) * 2 ^ s = ((x * 2 ^ s : Nat) : Int) := by rw [Int.natCast_mul, Int.natCast_pow]; rfl
    omega
  have hge : 0 ≤ (x : Int) * 2 ^ s := Int.mul_nonneg (by omega) (Int.pow_nonneg (by omega))
  clear he
  go_enter Tryd.func43, Tryd.ntmps43
  go_wp2
  go_quiet (fail)
  go_wp2
  go_ret
  exact ⟨ret_int HE.out, _, rfl⟩

theorem lt63 {x : Nat} (h : x < 4294967296) : x < 9223372036854775808 := by omega
theorem s0_bits64 (x : Nat) (h : x < 4294967296) : bits .xor .i64 (bits .xor .i64 (Sh.rotr 7 x : Nat) (Sh.rotr 18 x : Nat)) ((x : Int) / 8) = (Sh.s0 x : Nat) := by
  have e := shr_cast x 3 8 rfl
  rw [show ((8 : Nat) : Int) = 8 from rfl] at e
  rw [e, i64_xor_nat _ _ (lt63 (Sh.rotr_lt _ _ h)) (lt63 (Sh.rotr_lt _ _ h)), i64_xor_nat _ _ (lt63 (Sh.xor_lt (Sh.rotr_lt _ _ h) (Sh.rotr_lt _ _ h))) (lt63 (Sh.shr_lt _ _ h))]
  rfl
theorem s1_bits64 (x : Nat) (h : x < 4294967296) : bits .xor .i64 (bits .xor .i64 (Sh.rotr 17 x : Nat) (Sh.rotr 19 x : Nat)) ((x : Int) / 1024) = (Sh.s1 x : Nat) := by
  have e := shr_cast x 10 1024 rfl
  rw [show ((1024 : Nat) : Int) = 1024 from rfl] at e
  rw [e, i64_xor_nat _ _ (lt63 (Sh.rotr_lt _ _ h)) (lt63 (Sh.rotr_lt _ _ h)), i64_xor_nat _ _ (lt63 (Sh.xor_lt (Sh.rotr_lt _ _ h) (Sh.rotr_lt _ _ h))) (lt63 (Sh.shr_lt _ _ h))]
  rfl
theorem S1_bits64 (x : Nat) (h : x < 4294967296) : bits .xor .i64 (bits .xor .i64 (Sh.rotr 6 x : Nat) (Sh.rotr 11 x : Nat)) (Sh.rotr 25 x : Nat) = (Sh.S1 x : Nat) := by
  rw [i64_xor_nat _ _ (lt63 (Sh.rotr_lt _ _ h)) (lt63 (Sh.rotr_lt _ _ h)), i64_xor_nat _ _ (lt63 (Sh.xor_lt (Sh.rotr_lt _ _ h) (Sh.rotr_lt _ _ h))) (lt63 (Sh.rotr_lt _ _ h))]
  rfl
theorem S0_bits64 (x : Nat) (h : x < 4294967296) : bits .xor .i64 (bits .xor .i64 (Sh.rotr 2 x : Nat) (Sh.rotr 13 x : Nat)) (Sh.rotr 22 x : Nat) = (Sh.S0 x : Nat) := by
  rw [i64_xor_nat _ _ (lt63 (Sh.rotr_lt _ _ h)) (lt63 (Sh.rotr_lt _ _ h)), i64_xor_nat _ _ (lt63 (Sh.xor_lt (Sh.rotr_lt _ _ h) (Sh.rotr_lt _ _ h))) (lt63 (Sh.rotr_lt _ _ h))]
  rfl
theorem ch_bits64 (e f g : Nat) (he : e < 4294967296) (hf : f < 4294967296) (hg : g < 4294967296) :
    bits .xor .i64 (bits .and .i64 (e : Int) (f : Int)) (bits .and .i64 (4294967295 - (e : Int)) (g : Int)) = (Sh.ch e f g : Nat) := by
  rw [show (4294967295 : Int) - (e : Int) = ((4294967295 - e : Nat) : Int) by omega, i64_and_nat _ _ (lt63 he) (lt63 hf), i64_and_nat _ _ (by omega) (lt63 hg), i64_xor_nat _ _ (lt63 (Sh.and_lt he)) (lt63 (Sh.and_lt (by omega)))]
  rfl
theorem maj_bits64 (a b c : Nat) (ha : a < 4294967296) (hb : b < 4294967296) (hc : c < 4294967296) :
    bits .xor .i64 (bits .xor .i64 (bits .and .i64 (a : Int) (b : Int)) (bits .and .i64 (a : Int) (c : Int))) (bits .and .i64 (b : Int) (c : Int)) = (Sh.maj a b c : Nat) := by
  rw [i64_and_nat _ _ (lt63 ha) (lt63 hb), i64_and_nat _ _ (lt63 ha) (lt63 hc), i64_and_nat _ _ (lt63 hb) (lt63 hc), i64_xor_nat _ _ (lt63 (Sh.and_lt ha)) (lt63 (Sh.and_lt ha)), i64_xor_nat _ _ (lt63 (Sh.xor_lt (Sh.and_lt ha) (Sh.and_lt ha))) (lt63 (Sh.and_lt hb))]
  rfl
theorem rturn_int (n : Int) (x : Nat) (w : World) (h0 : 0 < n) (h1 : n < 32) (hx : x < 4294967296) :
    Calls Tryd.prog 43 #[.int .i64 x, .int .i64 n] w fun e w' => e = .returned (.int .i64 (Sh.rotr n.toNat x : Nat)) ∧ ∃ m, w' = w.drewN m := by
  have h := rturn_any n.toNat x w (by omega) (by omega) hx
  rwa [show ((n.toNat : Nat) : Int) = n by omega] at h
end Go.Proofs.YtphdnbflogobfaaDoor

/- The contract of moneyerref1.block: a block is brought into eight words, in ints. -/
namespace Go.Proofs.YtphdnbflogobfaaDoor
open Go.RowKit
set_option linter.unusedVariables false

def jvals (l : List Nat) : List Value := l.map (fun x => Value.int .i64 (x : Nat))
theorem jvals_length (l : List Nat) : (jvals l).length = l.length := by simp [jvals]
theorem jvals_get (l : List Nat) (j : Nat) (h : j < l.length) : (jvals l)[j]? = some (.int .i64 (l.getD j 0 : Nat)) := by
  simp [jvals, List.getD, List.getElem?_eq_getElem h]
theorem jvals_set (l : List Nat) (i x : Nat) : (jvals l).set i (.int .i64 (x : Nat)) = jvals (l.set i x) := by unfold jvals; rw [← List.map_set]
theorem jvals_one (l : List Nat) : ∀ u ∈ jvals l, u.oneCell' = true := by
  intro u hu
  obtain ⟨x, _, rfl⟩ := List.mem_map.1 hu
  rfl

theorem info_intR : ∃ i, Tryd.prog.info? 3 = some i ∧ i.zero = some (.int .i64 0) ∧ i.size = 1 ∧ i.bytes = 8 := by
  have h : (Tryd.prog.info? 3).map (fun i => (i.zero, i.size, i.bytes)) = some (some (.int .i64 0), 1, 8) := by kernel_rfl
  cases hi : Tryd.prog.info? 3 with
  | none => rw [hi] at h; cases h
  | some i =>
    rw [hi] at h
    simp only [Option.map_some, Option.some.injEq, Prod.mk.injEq] at h
    exact ⟨i, rfl, h.1, h.2.1, h.2.2⟩
theorem made64 : madeCells #[.int .i64 0] 64 = (jvals (List.replicate 64 0)).toArray := by kernel_rfl
theorem make_ints (w : World) : (Instr.makeSlice 56 (.int .i64 64) (.int .i64 64)).run Tryd.prog w = .ok (.slice (some ⟨w.heap.size, 0, none⟩) 64 64) (w.alloc (.cells (jvals (List.replicate 64 0)).toArray 3)) := by
  obtain ⟨i, hi, hz, hs, hby⟩ := info_intR
  have hr := run_make (P := Tryd.prog) w 56 3 i (.int .i64 0) Tryd.underlying56 hi hz .i64 .i64 64 64 (by omega) (Int.le_refl _) (by rw [hby]; omega) (by omega)
  simpa [Value.cells, hs, made64] using hr

/-- The words that are made already, and 0 behind them. -/
def pz (W : List Nat) (k : Nat) : List Nat := W.take k ++ List.replicate (64 - k) 0
theorem pz_length (W : List Nat) (k : Nat) (h : W.length = 64) (hk : k ≤ 64) : (pz W k).length = 64 := by simp [pz, h]; omega
theorem pz_all (W : List Nat) (h : W.length = 64) : pz W 64 = W := by simp [pz, List.take_of_length_le (Nat.le_of_eq h)]
theorem pz_get (W : List Nat) (k i : Nat) (h : W.length = 64) (hk : k ≤ 64) (hi : i < k) : (pz W k).getD i 0 = W.getD i 0 := by
  simp only [List.getD, pz]
  rw [List.getElem?_append_left (by rw [List.length_take]; omega), List.getElem?_take, if_pos hi]
theorem pz_step (W : List Nat) (k : Nat) (h : W.length = 64) (hk : k < 64) : (pz W k).set k (W.getD k 0) = pz W (k + 1) := by
  unfold pz
  have e : W.getD k 0 = W[k] := by simp [List.getD, List.getElem?_eq_getElem (show k < W.length by omega)]
  have hl : (W.take k).length = k := by rw [List.length_take]; omega
  rw [List.set_append_right _ _ (by omega), hl, Nat.sub_self, show 64 - k = (64 - (k + 1)) + 1 by omega, List.replicate_succ, List.set_cons_zero, e, List.take_succ_eq_append_getElem (by omega), List.append_assoc]
  rfl

theorem slice_four (b off cap j : Nat) (w : World) (hj : j < 16) (hc : 64 ≤ cap) : (Instr.slice 23 (.slice (some ⟨b, off, none⟩) 64 cap) (some (.int .i64 (4 * (j : Int)))) (some (.int .i64 (4 * (j : Int) + 4))) none).run Tryd.prog w = .ok (.slice (some ⟨b, off + 4 * j, none⟩) 4 (cap - 4 * j)) w := by
  have hu := Tryd.underlying23
  have he : Tryd.prog.elem 23 = 5 := by simp [Program.elem, hu]
  obtain ⟨i, hi, hz, hs, hby⟩ := info_u8
  have hsz : (sizeOf 5).run Tryd.prog w = .ok 1 w := by simp [sizeOf, typeInfo, hi, hs]
  have := run_slice_lh (P := Tryd.prog) w 23 (some ⟨b, off, none⟩) 64 cap (by rw [he]; exact hu) .i64 .i64 (4 * (j : Int)) (4 * (j : Int) + 4) (by omega) (by omega) (by omega)
  rw [this, he, hsz]
  have e1 : (4 * (j : Int)).toNat = 4 * j := by omega
  have e2 : (4 * (j : Int) + 4).toNat = 4 * j + 4 := by omega
  simp [sliced, Addr.add_lit, e1, e2, show ¬ cap = 4 * j by omega]
theorem join_word (l : List Int) (j : Nat) (hl : l.length = 64) (hb : Sz.Byt l) (hj : j < 16) : Sz.joinL ((l.drop (4 * j)).take 4) = ((Sh.word l j : Nat) : Int) := by
  have e : (l.drop (4 * j)).take 4 = [l.getD (4 * j) 0, l.getD (4 * j + 1) 0, l.getD (4 * j + 2) 0, l.getD (4 * j + 3) 0] := by
    apply List.ext_getElem
    · simp; omega
    · intro i h1 h2
      simp at h1 h2
      rw [List.getElem_take, List.getElem_drop]
      match i, h2 with
      | 0, _ => simp [List.getElem?_eq_getElem (show 4 * j < l.length by omega)]
      | 1, _ => simp [List.getElem?_eq_getElem (show 4 * j + 1 < l.length by omega)]
      | 2, _ => simp [List.getElem?_eq_getElem (show 4 * j + 2 < l.length by omega)]
      | 3, _ => simp [List.getElem?_eq_getElem (show 4 * j + 3 < l.length by omega)]
  have h0 := hb.getD (4 * j)
  have h1 := hb.getD (4 * j + 1)
  have h2 := hb.getD (4 * j + 2)
  have h3 := hb.getD (4 * j + 3)
  rw [e]
  unfold Sh.word
  simp only [Sz.joinL, List.foldl_cons, List.foldl_nil]
  omega

/-- Eight words, those behind place q moved up by one. -/
def psh (L : List Nat) (q : Nat) : List Nat := (List.range 8).map fun j => if q < j then L.getD (j - 1) 0 else L.getD j 0
theorem psh_length (L : List Nat) (q : Nat) : (psh L q).length = 8 := by simp [psh]
theorem psh_get (L : List Nat) (r : Nat) (h : r < 7) : (psh L (r + 1)).getD r 0 = L.getD r 0 := by
  have h8 : r < (List.range 8).length := by simp; omega
  simp only [psh, List.getD, List.getElem?_map, List.getElem?_eq_getElem h8, List.getElem_range, Option.map_some, Option.getD_some]
  rw [if_neg (by omega)]
theorem psh_step (L : List Nat) (r : Nat) (h : r < 7) : (psh L (r + 1)).set (r + 1) (L.getD r 0) = psh L r := by
  apply List.ext_getElem
  · simp [psh]
  · intro i h1 h2
    simp only [psh, List.getElem_set, List.getElem_map, List.getElem_range]
    by_cases e : r + 1 = i
    · subst e; rw [if_pos rfl, if_pos (by omega), Nat.add_sub_cancel]
    · rw [if_neg e]
      by_cases e2 : r + 1 < i
      · rw [if_pos e2, if_pos (by omega)]
      · rw [if_neg e2, if_neg (by omega)]
theorem add_comm' (x y : Sh.St) : x.add y = y.add x := by
  unfold Sh.St.add
  simp only [Nat.add_comm]

/-- A slice of ints in memory made since 'base'. -/
def OwnIR (w : World) (base : Nat) (v : Value) (l : List Nat) : Prop := w.ownsRow base 3 1 v l.length (jvals l)
theorem own_isR {w : World} {base : Nat} {v : Value} {l : List Nat} (h : OwnIR w base v l) (h0 : 0 < l.length) : ∃ vb vcap rest, v = .slice (some ⟨vb, 0, none⟩) l.length vcap ∧ base ≤ vb ∧ l.length ≤ vcap ∧ vcap ≤ maxLen ∧ Is w vb (jvals l ++ rest) 3 := by
  rcases h.2 with ⟨rfl, h1⟩ | ⟨g, cap, cur, rfl, hbg, hg, hn, hc, hs, ht⟩
  · omega
  · refine ⟨g, cap, cur.toList.drop (l.length * 1), rfl, hbg, hn, hc, ?_⟩
    unfold Is
    rw [← ht, List.take_append_drop]
    exact hg
theorem own_is8 {w : World} {base : Nat} {v : Value} {l : List Nat} (h : OwnIR w base v l) (h8 : l.length = 8) : ∃ vb vcap rest, v = .slice (some ⟨vb, 0, none⟩) 8 vcap ∧ base ≤ vb ∧ 8 ≤ vcap ∧ vcap ≤ maxLen ∧ Is w vb (jvals l ++ rest) 3 := by
  have := own_isR h (by omega)
  rwa [h8] at this
theorem wpList_append_intsR (w : World) {ops : Array Oper} {rest : List Oper} {o : Oper} {a : Act} {Q : Exit → Act → World → Prop} (hgd : o.guard = none) (s x : Operand)
    (ho : o.op = .call { callee := .builtin .append, args := #[s, x], argTypes := #[56, 56] })
    (base : Nat) (v : Value) (xs : List Nat) (hs : a.eval s = v) (hown : OwnIR w base v xs) (ad : Addr) (c : Nat) (l : List Nat) (hx : a.eval x = .slice (some ad) l.length c) (hnews : ∀ j u, (jvals l)[j]? = some u → w.cell? (ad.add j) = some u) (hbd : xs.length + l.length ≤ 100000) (hbase : base ≤ w.heap.size)
    (h : ∀ v' w', OwnIR w' base v' (xs ++ l) → w.grownBy w' v.ownBlock → wpList Tryd.prog ops Q rest (a.put o.dst v') w') : wpList Tryd.prog ops Q (o :: rest) a w := by
  refine wpList_plain hgd fun K hK => ?_
  obtain ⟨i, hi, hz, hsz, hby⟩ := info_intR
  obtain ⟨v', w', hr, h2, h3, _⟩ := run_append_own (P := Tryd.prog) w base 56 o.type 3 i (.int .i64 0) 1 8 Tryd.underlying56 hi hz hsz hby rfl (by decide) v xs.length (jvals xs) hown ad l.length c (jvals l) (by simp [jvals]) hnews (jvals_one l) (by unfold maxLen; omega) (by omega) hbase
  unfold Oper.wp
  simp only [execOp, ho, resolve, invoke, builtin, Sem.run_bind, Sem.run_pure, Result.andThen_ok, List.map_toArray, List.map_cons, List.map_nil, hs, hx, hr]
  exact hK _ _ (h v' w' (by unfold OwnIR; rw [List.length_append, show jvals (xs ++ l) = jvals xs ++ jvals l by simp [jvals]]; exact h2) h3)
theorem OwnIR.none (w : World) (base : Nat) (hb : base ≤ w.heap.size) : OwnIR (w.alloc (.cells #[] 3)) base (.slice (some ⟨w.heap.size, 0, none⟩) 0 0) [] :=
  ⟨rfl, .inr ⟨w.heap.size, 0, #[], rfl, hb, heap_alloc_new w _, Nat.le_refl _, by unfold maxLen; omega, rfl, rfl⟩⟩

set_option maxRecDepth 100000 in
set_option maxHeartbeats 1600000 in
theorem rblock_any (hb kb mb moff hcap kcap mcap : Nat) (s : Sh.St) (l : List Int) (w : World) (hok : s.Ok) (hl : l.length = 64) (hbt : Sz.Byt l) (hc8 : 8 ≤ hcap) (hc8' : hcap ≤ maxLen) (kc : 64 ≤ kcap) (mc : 64 ≤ mcap) (mc' : mcap ≤ maxLen)
    (hh : ∀ j, j < 8 → w.cell? ⟨hb, j, none⟩ = some (.int .i64 (s.list.getD j 0 : Nat))) (hk : ∀ t, t < 64 → w.cell? ⟨kb, t, none⟩ = some (.int .i64 (Sh.ks.getD t 0 : Nat))) (hm : ∀ j, j < 64 → w.cell? ⟨mb, moff + j, none⟩ = some (.int .u8 (l.getD j 0))) :
    Calls Tryd.prog 35 #[.slice (some ⟨hb, 0, none⟩) 8 hcap, .slice (some ⟨kb, 0, none⟩) 64 kcap, .slice (some ⟨mb, moff, none⟩) 64 mcap] w fun e w' =>
      ∃ vb vcap, e = .returned (.slice (some ⟨vb, 0, none⟩) 8 vcap) ∧ 8 ≤ vcap ∧ vcap ≤ maxLen ∧ (∀ j, j < 8 → w'.cell? ⟨vb, j, none⟩ = some (.int .i64 ((Sh.mix s l).list.getD j 0 : Nat))) ∧ Below w.heap.size w w' := by
  have hhb : hb < w.heap.size := World.block_lt_of_cell? w ⟨hb, 0, none⟩ (hh 0 (by omega))
  have hkb : kb < w.heap.size := World.block_lt_of_cell? w ⟨kb, 0, none⟩ (hk 0 (by omega))
  have hmb : mb < w.heap.size := World.block_lt_of_cell? w ⟨mb, moff + 0, none⟩ (hm 0 (by omega))
  obtain ⟨W, hW⟩ : ∃ W, W = Sh.sched l := ⟨_, rfl⟩
  have hWl : W.length = 64 := by rw [hW]; exact Sh.sched_length l
  have hWb : ∀ i, W.getD i 0 < 4294967296 := by rw [hW]; exact Sh.sched_lt l hbt
  have hlo : ∀ t, t < 16 → W.getD t 0 = Sh.word l t := by rw [hW]; exact Sh.sched_lo l
  have hhi : ∀ j, j < 48 → W.getD (16 + j) 0 = (Sh.s1 (W.getD (14 + j) 0) + W.getD (9 + j) 0 + Sh.s0 (W.getD (1 + j) 0) + W.getD j 0) % 4294967296 := by rw [hW]; exact Sh.sched_hi l
  have hmx : Hid (Sh.mix s l = s.add (Sh.rnds s W 64)) := by rw [hW]; rfl
  have hmk := fun w => make_ints w
  obtain ⟨Z, hZ⟩ : ∃ Z, Z = jvals (List.replicate 64 0) := ⟨_, rfl⟩
  rw [← hZ] at hmk
  have hZ0 : Hid (Z = jvals (pz W 0)) := by rw [hZ]; rfl
  have HH := hide hh
  have HK := hide hk
  have HM := hide hm
  have HWL := hide hWl
  have HWB := hide hWb
  have HLO := hide hlo
  have HHI := hide hhi
  clear hW hZ hWl hWb hlo hhi hh hk hm
  go_enter Tryd.func35, Tryd.ntmps35
  go_wp2
  go_loopw [8] (fun t wr => ∃ j : Nat, j ≤ 64 ∧ t = .int .i64 j ∧ Below w.heap.size w wr ∧ Is wr w.heap.size (jvals (pz W j)) 3) (fun t _ => 64 - (intOf t).toNat)
  case atStart => exact ⟨0, by omega, rfl, below_alloc w _, by rw [← hZ0.out]; exact Is.new w Z 3⟩
  case round =>
    obtain ⟨j, hj, rfl, hbel, hI⟩ := hrel
    by_cases h64 : j < 64
    · have HI := hide hI
      have hcj := hI.cell j
      rw [jvals_get _ _ (by rw [pz_length _ _ HWL.out hj]; exact h64)] at hcj
      have hfj := hI.frozen j
      have HST := hide (pz_step W j HWL.out h64)
      generalize (pz W j).getD j 0 = y at *
      by_cases h16 : j < 16
      · have hsl := fun w => slice_four mb moff mcap j w h16 mc
        have hl4 : ((l.drop (4 * j)).take 4).length = 4 := by rw [List.length_take, List.length_drop]; omega
        have hjw := join_word l j hl hbt h16
        have HNUM := hide (num_ok mb (moff + 4 * j) (mcap - 4 * j) 4 ((l.drop (4 * j)).take 4) wr hl4 (fun i hi => by
          rw [hbel.cell (p := ⟨mb, moff + 4 * j + i, none⟩) hmb, Nat.add_assoc, HM.out (4 * j + i) (by omega)]
          simp only [List.getD, List.getElem?_take, List.getElem?_drop]
          rw [if_pos (by omega)]) ((hbt.drop _).take _) (by omega) (by omega) (by rw [hjw]; have := Sh.word_lt l hbt j; omega))
        rw [hjw, ← HLO.out j h16] at HNUM
        generalize W.getD j 0 = x at *
        have hlt0 := hI.lt
        clear hI hl4 hjw
        go_wp2_with (go_at_call 42; refine HNUM.out.mono ?_; rintro e w3 ⟨rfl, hb3⟩; have hI3 := HI.out.below hb3 hlt0; have HI3 := hide hI3; have hc3 : w3.cell? ⟨w.heap.size, j, none⟩ = some (.int .i64 (y : Nat)) := (by rw [hb3.cell (p := ⟨w.heap.size, j, none⟩) hlt0]; exact hcj); have hf3 := hI3.frozen j; clear hI3)
        go_roundw
        case rel =>
          refine ⟨j + 1, by omega, by go_num, (hbel.trans (hb3.mono hbel.size)).setCell (p := ⟨w.heap.size, j, none⟩) (Nat.le_refl _) _, ?_⟩
          rw [← HST.out, ← jvals_set]
          exact HI3.out.set j _
        case measure => simp [intOf]; omega
      · obtain ⟨i, hi⟩ : ∃ i, j = 16 + i := ⟨j - 16, by omega⟩
        have hX := HHI.out i (by omega)
        rw [← hi] at hX
        have gt : ∀ t, t < j → wr.cell? ⟨w.heap.size, t, none⟩ = some (.int .i64 (W.getD t 0 : Nat)) := fun t ht => by
          rw [hI.cell, jvals_get _ _ (by rw [pz_length _ _ HWL.out hj]; omega), pz_get _ _ _ HWL.out hj ht]
        have c0 := gt (1 + i) (by omega)
        have c1 := gt (14 + i) (by omega)
        have c2 := gt (9 + i) (by omega)
        have c3 := gt i (by omega)
        have l0 := HWB.out (1 + i)
        have l1 := HWB.out (14 + i)
        have l2 := HWB.out (9 + i)
        have l3 := HWB.out i
        have i0 : (j : Int) - 15 = ((1 + i : Nat) : Int) := by omega
        have i1 : (j : Int) - 2 = ((14 + i : Nat) : Int) := by omega
        have i2 : (j : Int) - 7 = ((9 + i : Nat) : Int) := by omega
        have i3 : (j : Int) - 16 = ((i : Nat) : Int) := by omega
        generalize W.getD (1 + i) 0 = x at *
        generalize W.getD (14 + i) 0 = z1 at *
        generalize W.getD (9 + i) 0 = z2 at *
        generalize W.getD i 0 = z3 at *
        generalize W.getD j 0 = X at *
        obtain ⟨p0, hp0⟩ : ∃ p, p = 1 + i := ⟨_, rfl⟩
        obtain ⟨p1, hp1⟩ : ∃ p, p = 14 + i := ⟨_, rfl⟩
        obtain ⟨p2, hp2⟩ : ∃ p, p = 9 + i := ⟨_, rfl⟩
        rw [← hp0] at i0 c0
        rw [← hp1] at i1 c1
        rw [← hp2] at i2 c2
        have q0 : p0 < 64 := by omega
        have q1 : p1 < 64 := by omega
        have q2 : p2 < 64 := by omega
        have q3 : i < 64 := by omega
        have hs0 := s0_bits64 x l0
        have hs1 := s1_bits64 z1 l1
        have ls0 := Sh.s0_lt x l0
        have ls1 := Sh.s1_lt z1 l1
        have HX := hide hX
        have hln : ¬ (j : Int) < 16 := by omega
        clear hX gt hp0 hp1 hp2 hi hI h16
        generalize Sh.s0 x = S0x at *
        generalize Sh.s1 z1 = S1x at *
        go_wp2_with (go_at_call 43; refine (rturn_int _ _ _ (by decide) (by decide) (by assumption)).mono ?_; rintro e w' ⟨rfl, m, rfl⟩)
        go_region
        go_wp2
        go_roundw
        case rel =>
          have e : bits .and .i64 ((S1x : Int) + (z2 : Int) + (S0x : Int) + (z3 : Int)) 4294967295 = ((X : Nat) : Int) := by
            rw [show (S1x : Int) + (z2 : Int) + (S0x : Int) + (z3 : Int) = ((S1x + z2 + S0x + z3 : Nat) : Int) by omega, and_all _ (by omega), HX.out]
          rw [e]
          refine ⟨j + 1, by omega, by go_num, (below_drewN hbel _).setCell (p := ⟨w.heap.size, j, none⟩) (Nat.le_refl _) _, ?_⟩
          rw [← HST.out, ← jvals_set]
          exact Is.set (w := wr.drewN _) HI.out j _
        case measure => simp [intOf]; omega
    · have hj' : j = 64 := by omega
      rw [hj', pz_all W HWL.out] at hI
      have hjn : ¬ (j : Int) < 64 := by omega
      obtain ⟨wA, rfl⟩ : ∃ wA, wA = wr := ⟨_, rfl⟩
      have hnews : ∀ (w' : World), Below w.heap.size w w' → ∀ i u, (jvals s.list)[i]? = some u → w'.cell? ((⟨hb, 0, none⟩ : Addr).add i) = some u := fun w' hb' i u hu => by
        have hi : i < s.list.length := by have := (List.getElem?_eq_some_iff.1 hu).1; rwa [jvals_length] at this
        rw [Addr.add_lit, Nat.zero_add, hb'.cell (p := ⟨hb, i, none⟩) hhb, HH.out i hi, ← hu, jvals_get _ _ hi]
      have HNEWS := hide hnews
      have HI := hide hI
      have hsz := hbel.size
      clear hI hj' h64 hj hnews HLO HHI hZ0 HM
      go_wp2_with (at_builtin; refine wpList_append_intsR _ rfl _ _ rfl wA.heap.size _ _ rfl (OwnIR.none wA wA.heap.size (Nat.le_refl _)) ⟨hb, 0, none⟩ hcap s.list rfl (HNEWS.out _ (hbel.alloc hbel.size _)) (by show 0 + 8 ≤ 100000; omega) (by simp) ?_; intro v4 w4 ho4 hg4)
      have hltA := HI.out.lt
      obtain ⟨vb, vcap, rest, rfl, hvb, hvc1, hvc2, hIv⟩ := own_is8 ho4 rfl
      have hb4 : Below w.heap.size w w4 := (hbel.alloc hbel.size _).grown hg4 (by simp; omega) (fun k hk => by injection hk with hk; rw [← hk]; show _ ≤ wA.heap.size; exact hbel.size)
      have hI4 : Is w4 w.heap.size (jvals W) 3 := by
        unfold Is
        rw [hg4.block w.heap.size (by simp; omega) (fun e => by injection e with e; have : w.heap.size = wA.heap.size := e; omega)]
        exact (HI.out.alloc _)
      rw [List.nil_append] at hIv
      have hvbw : w.heap.size < vb := by omega
      have HB4 := hide hb4
      have HI4 := hide hI4
      have HIV := hide hIv
      clear hb4 hI4 hIv ho4 hg4 HI HNEWS
      go_loopw [14] (fun t wr => ∃ (j : Nat) (st : Sh.St), j ≤ 64 ∧ t = .int .i64 j ∧ st = Sh.rnds s W j ∧ Below w.heap.size w wr ∧ Is wr w.heap.size (jvals W) 3 ∧ Is wr vb (jvals st.list ++ rest) 3) (fun t _ => 64 - (intOf t).toNat)
      case atStart => exact ⟨0, s, by omega, rfl, rfl, HB4.out, HI4.out, HIV.out⟩
      case round =>
        obtain ⟨i, st, hi, rfl, hst, hb5, hI5, hIv⟩ := hrel
        clear HB4 HI4 HIV
        have hok5 := Sh.rnds_ok s W hok i
        rw [← hst] at hok5
        by_cases hi64 : i < 64
        · have hnx : Hid (Sh.rnds s W (i + 1) = Sh.rnd (Sh.rnds s W i) (Sh.ks.getD i 0) (W.getD i 0)) := rfl
          rw [← hst] at hnx
          obtain ⟨l1, l2, l3, l4, l5, l6, l7, l8⟩ := hok5
          have c0 : wr.cell? ⟨vb, 0, none⟩ = some (.int .i64 (st.a : Nat)) := hIv.cell 0
          have c1 : wr.cell? ⟨vb, 1, none⟩ = some (.int .i64 (st.b : Nat)) := hIv.cell 1
          have c2 : wr.cell? ⟨vb, 2, none⟩ = some (.int .i64 (st.c : Nat)) := hIv.cell 2
          have c4 : wr.cell? ⟨vb, 4, none⟩ = some (.int .i64 (st.e : Nat)) := hIv.cell 4
          have c5 : wr.cell? ⟨vb, 5, none⟩ = some (.int .i64 (st.f : Nat)) := hIv.cell 5
          have c6 : wr.cell? ⟨vb, 6, none⟩ = some (.int .i64 (st.g : Nat)) := hIv.cell 6
          have c7 : wr.cell? ⟨vb, 7, none⟩ = some (.int .i64 (st.h : Nat)) := hIv.cell 7
          have ck : wr.cell? ⟨kb, i, none⟩ = some (.int .i64 (Sh.ks.getD i 0 : Nat)) := by rw [hb5.cell (p := ⟨kb, i, none⟩) hkb]; exact HK.out i hi64
          have cw : wr.cell? ⟨w.heap.size, i, none⟩ = some (.int .i64 (W.getD i 0 : Nat)) := by rw [hI5.cell, jvals_get _ _ (by rw [HWL.out]; exact hi64)]
          have lw := HWB.out i
          have lk := Sh.ks_lt i
          generalize Sh.ks.getD i 0 = kk at *
          generalize W.getD i 0 = wk at *
          have eS1 := S1_bits64 st.e l5
          have eCH := ch_bits64 st.e st.f st.g l5 l6 l7
          have eS0 := S0_bits64 st.a l1
          have eMJ := maj_bits64 st.a st.b st.c l1 l2 l3
          have bS1 := Sh.S1_lt st.e l5
          have bCH := Sh.ch_lt st.e st.f st.g l5
          have bS0 := Sh.S0_lt st.a l1
          have bMJ := Sh.maj_lt st.a st.b st.c l1 l2
          have hrd : Hid (Sh.rnd st kk wk = ⟨(st.h + Sh.S1 st.e + Sh.ch st.e st.f st.g + kk + wk + (Sh.S0 st.a + Sh.maj st.a st.b st.c)) % 4294967296, st.a, st.b, st.c, (st.d + (st.h + Sh.S1 st.e + Sh.ch st.e st.f st.g + kk + wk)) % 4294967296, st.e, st.f, st.g⟩) := rfl
          generalize Sh.S1 st.e = xS1 at *
          generalize Sh.ch st.e st.f st.g = xCH at *
          generalize Sh.S0 st.a = xS0 at *
          generalize Sh.maj st.a st.b st.c = xMJ at *
          have HI5 := hide hI5
          have HIV := hide hIv
          clear hI5 hIv hst hi
          obtain ⟨wB, rfl⟩ : ∃ wB, wB = wr := ⟨_, rfl⟩
          go_wp2
          go_quiet ((go_at_call 43; exact Calls.quiet_of (rturn_int _ _ _ (by decide) (by decide) (by assumption))))
          go_wp2
          obtain ⟨wC, hwC⟩ : ∃ wC, wC = wB.drewN nq := ⟨_, rfl⟩
          have d0 : wC.cell? ⟨vb, 0, none⟩ = some (.int .i64 (st.a : Nat)) := by rw [hwC]; exact c0
          have d1 : wC.cell? ⟨vb, 1, none⟩ = some (.int .i64 (st.b : Nat)) := by rw [hwC]; exact c1
          have d2 : wC.cell? ⟨vb, 2, none⟩ = some (.int .i64 (st.c : Nat)) := by rw [hwC]; exact c2
          have hb6 : Below w.heap.size w wC := by rw [hwC]; exact below_drewN hb5 _
          have HI6 : Hid (Is wC w.heap.size (jvals W) 3) := by rw [hwC]; exact HI5.out
          have HIV6 : Hid (Is wC vb (jvals st.list ++ rest) 3) := by rw [hwC]; exact HIV.out
          rw [← hwC]
          clear hwC c0 c1 c2 c4 c5 c6 c7 ck cw HI5 HIV hb5
          go_quiet ((go_at_call 43; exact Calls.quiet_of (rturn_int _ _ _ (by decide) (by decide) (by assumption))))
          clear d0 d1 d2 eS1 eCH eS0 eMJ
          go_wp2
          obtain ⟨P, hP⟩ : ∃ P : Nat, P = st.h + xS1 + xCH + kk + wk := ⟨_, rfl⟩
          obtain ⟨Q, hQ⟩ : ∃ Q : Nat, Q = xS0 + xMJ := ⟨_, rfl⟩
          have hPi : (st.h : Int) + (xS1 : Int) + (xCH : Int) + (kk : Int) + (wk : Int) = (P : Int) := by omega
          have hQi : (xS0 : Int) + (xMJ : Int) = (Q : Int) := by omega
          rw [hPi, hQi]
          have hPl : P < 21474836480 := by omega
          have hQl : Q < 8589934592 := by omega
          rw [← hP, ← hQ] at hrd
          clear hPi hQi hP hQ bS1 bCH bS0 bMJ lk lw
          go_loopw [19] (fun x wr => ∃ q : Nat, q ≤ 7 ∧ x = .int .i64 q ∧ Below w.heap.size w wr ∧ Is wr w.heap.size (jvals W) 3 ∧ Is wr vb (jvals (psh st.list q) ++ rest) 3) (fun x _ => (intOf x).toNat)
          case atStart => exact ⟨7, by omega, rfl, below_drewN hb6 _, HI6.out, HIV6.out⟩
          case round =>
            obtain ⟨q, hq, rfl, hb7, hI7, hIv7⟩ := hrel
            have HI7 := hide hI7
            have HIV7 := hide hIv7
            clear HI6 HIV6 hb6
            by_cases hq0 : 0 < q
            · obtain ⟨r, rfl⟩ : ∃ r, q = r + 1 := ⟨q - 1, by omega⟩
              have hr7 : r < 7 := by omega
              have g0 := hIv7.cell r
              rw [List.getElem?_append_left (by rw [jvals_length, psh_length]; omega), jvals_get _ _ (by rw [psh_length]; omega), psh_get _ _ hr7] at g0
              have g1 := hIv7.cell (r + 1)
              rw [List.getElem?_append_left (by rw [jvals_length, psh_length]; omega), jvals_get _ _ (by rw [psh_length]; omega)] at g1
              have f1 := hIv7.frozen (r + 1)
              have HS7 := hide (psh_step st.list r hr7)
              have hr1 : (((r + 1 : Nat) : Int)) - 1 = (r : Int) := by omega
              generalize st.list.getD r 0 = y at *
              generalize (psh st.list (r + 1)).getD (r + 1) 0 = y' at *
              clear hI7 hIv7
              go_wp2
              go_roundw
              case rel =>
                refine ⟨r, by omega, rfl, hb7.setCell (p := ⟨vb, r + 1, none⟩) (by show w.heap.size ≤ vb; omega) _, HI7.out.other ⟨vb, r + 1, none⟩ _ (by show vb ≠ w.heap.size; omega), ?_⟩
                have h8 := HIV7.out.set (r + 1) (.int .i64 (y : Nat))
                rw [List.set_append_left _ _ (by rw [jvals_length, psh_length]; omega), jvals_set, HS7.out] at h8
                exact h8
              case measure => simp [intOf]
            · have hq' : q = 0 := by omega
              have hqn : ¬ (0 : Int) < (q : Int) := by omega
              rw [hq'] at hIv7
              have d0 : wr.cell? ⟨vb, 0, none⟩ = some (.int .i64 (st.a : Nat)) := hIv7.cell 0
              have d4 : wr.cell? ⟨vb, 4, none⟩ = some (.int .i64 (st.d : Nat)) := hIv7.cell 4
              have f0 := hIv7.frozen 0
              have f4 := hIv7.frozen 4
              have e4 : bits .and .i64 ((st.d : Int) + (P : Int)) 4294967295 = (((st.d + P) % 4294967296 : Nat) : Int) := by
                rw [show (st.d : Int) + (P : Int) = ((st.d + P : Nat) : Int) by omega]; exact and_all _ (by omega)
              have e0 : bits .and .i64 ((P : Int) + (Q : Int)) 4294967295 = (((P + Q) % 4294967296 : Nat) : Int) := by
                rw [show (P : Int) + (Q : Int) = ((P + Q : Nat) : Int) by omega]; exact and_all _ (by omega)
              generalize hE4 : (st.d + P) % 4294967296 = E4 at *
              generalize hE0 : (P + Q) % 4294967296 = E0 at *
              have h8 : Is ((wr.setCell ⟨vb, 4, none⟩ (.int .i64 (E4 : Nat))).setCell ⟨vb, 0, none⟩ (.int .i64 (E0 : Nat))) vb (jvals (Sh.St.list ⟨E0, st.a, st.b, st.c, E4, st.e, st.f, st.g⟩) ++ rest) 3 := (hIv7.set 4 _).set 0 _
              rw [← hrd.out] at h8
              have H8 := hide h8
              clear hI7 hIv7 HIV7 hq' hq hq0 hE4 hE0 h8 hrd
              go_wp2
              go_roundw
              case rel =>
                exact ⟨i + 1, Sh.rnd st kk wk, by omega, by go_num, hnx.out.symm, (hb7.setCell (p := ⟨vb, 4, none⟩) (by show w.heap.size ≤ vb; omega) _).setCell (p := ⟨vb, 0, none⟩) (by show w.heap.size ≤ vb; omega) _, (HI7.out.other ⟨vb, 4, none⟩ _ (by show vb ≠ w.heap.size; omega)).other ⟨vb, 0, none⟩ _ (by show vb ≠ w.heap.size; omega), H8.out⟩
              case measure => simp [intOf]; omega
        · have hi' : i = 64 := by omega
          have hin : ¬ (i : Int) < 64 := by omega
          rw [hi'] at hst
          have HST := hide hst
          have HIV := hide hIv
          obtain ⟨wB, rfl⟩ : ∃ wB, wB = wr := ⟨_, rfl⟩
          clear hi' hi64 hi hst hI5 hIv
          go_wp2
          go_loopw [20] (fun x wr => ∃ q : Nat, q ≤ 8 ∧ x = .int .i64 q ∧ Below w.heap.size w wr ∧ Is wr vb (jvals (Sh.padd st s q) ++ rest) 3) (fun x _ => 8 - (intOf x).toNat)
          case atStart => exact ⟨0, by omega, rfl, hb5, HIV.out⟩
          case round =>
            obtain ⟨q, hq, rfl, hb7, hIv7⟩ := hrel
            clear HIV hb5
            by_cases hq8 : q < 8
            · have g0 := hIv7.cell q
              rw [List.getElem?_append_left (by rw [jvals_length, Sh.padd_length]; exact hq8), jvals_get _ _ (by rw [Sh.padd_length]; exact hq8), Sh.padd_get _ _ _ hq8] at g0
              have f0 := hIv7.frozen q
              have g1 : wr.cell? ⟨hb, q, none⟩ = some (.int .i64 (s.list.getD q 0 : Nat)) := by rw [hb7.cell (p := ⟨hb, q, none⟩) hhb]; exact HH.out q hq8
              have lx := Sh.getD_lt (Sh.list_lt st hok5) (by omega) q
              have ly := Sh.getD_lt (Sh.list_lt s hok) (by omega) q
              have HS7 := hide (Sh.padd_step st s q hq8)
              generalize st.list.getD q 0 = x at *
              generalize s.list.getD q 0 = y at *
              have e0 : bits .and .i64 ((x : Int) + (y : Int)) 4294967295 = (((x + y) % 4294967296 : Nat) : Int) := by
                rw [show (x : Int) + (y : Int) = ((x + y : Nat) : Int) by omega]; exact and_all _ (by omega)
              generalize hE0 : (x + y) % 4294967296 = E0 at *
              have HIV7 := hide hIv7
              clear hIv7 hE0
              go_wp2
              go_region
              go_wp2
              go_roundw
              case rel =>
                refine ⟨q + 1, by omega, by go_num, (hb7.setCell (p := ⟨vb, q, none⟩) (by show w.heap.size ≤ vb; omega) _).drew, ?_⟩
                have h8 := (HIV7.out.set q (.int .i64 (E0 : Nat))).drew
                rw [List.set_append_left _ _ (by rw [jvals_length, Sh.padd_length]; exact hq8), jvals_set, HS7.out] at h8
                exact h8
              case measure => simp [intOf]; omega
            · have hq' : q = 8 := by omega
              have hqn : ¬ (q : Int) < 8 := by omega
              rw [hq', Sh.padd_all, add_comm', HST.out] at hIv7
              have HIV7 := hide hIv7
              clear hIv7 hq' hq8 hq
              go_wp2
              go_ret
              refine ⟨vb, vcap, rfl, hvc1, hvc2, fun j hj => ?_, hb7⟩
              rw [hmx.out, HIV7.out.cell, List.getElem?_append_left (by rw [jvals_length]; exact hj), jvals_get _ _ hj]
              rfl
end Go.Proofs.YtphdnbflogobfaaDoor

/- The contract of moneyerref1.Sum: the document's digest of bytes. -/
namespace Go.Proofs.YtphdnbflogobfaaDoor
open Go.RowKit
set_option linter.unusedVariables false

set_option maxRecDepth 100000 in
theorem rrounds_any (w : World) : Calls Tryd.prog 34 #[] w fun e w' => e = .returned (.slice (some ⟨w.heap.size, 0, none⟩) 64 64) ∧ Is w' w.heap.size (jvals Sh.ks) 3 ∧ Below w.heap.size w w' := by
  go_enter Tryd.func34, Tryd.ntmps34
  go_wp2
  go_ret
  exact ⟨rfl, Is.new w (jvals Sh.ks) 3, below_alloc w _⟩

theorem low_be8 (n : Nat) : Sz.low 8 (n : Int) = Sh.be8 n := by
  have hp : ∀ j : Nat, Sz.pw j = ((256 ^ j : Nat) : Int) := fun j => by
    induction j with
    | zero => rfl
    | succ j ih => rw [Sz.pw, ih, Nat.pow_succ]; omega
  have hd : ∀ j : Nat, (n : Int) / Sz.pw j % 256 = (((n / 256 ^ j) % 256 : Nat) : Int) := fun j => by rw [hp]; omega
  have hs : ∀ a b : Nat, 2 ^ a = 256 ^ b → n >>> a = n / 256 ^ b := fun a b h => by rw [Nat.shiftRight_eq_div_pow, h]
  rw [Sz.low_cons 7 _ (by omega), Sz.low_cons 6 _ (by omega), Sz.low_cons 5 _ (by omega), Sz.low_cons 4 _ (by omega), Sz.low_cons 3 _ (by omega), Sz.low_cons 2 _ (by omega), Sz.low_cons 1 _ (by omega), Sz.low_cons 0 _ (by omega), hd, hd, hd, hd, hd, hd, hd, hd]
  show _ = [((n >>> 56 % 256 : Nat) : Int), ((n >>> 48 % 256 : Nat) : Int), ((n >>> 40 % 256 : Nat) : Int), ((n >>> 32 % 256 : Nat) : Int), ((n >>> 24 % 256 : Nat) : Int), ((n >>> 16 % 256 : Nat) : Int), ((n >>> 8 % 256 : Nat) : Int), ((n >>> 0 % 256 : Nat) : Int)]
  rw [hs 56 7 (by decide), hs 48 6 (by decide), hs 40 5 (by decide), hs 32 4 (by decide), hs 24 3 (by decide), hs 16 2 (by decide), hs 8 1 (by decide), hs 0 0 (by decide)]
  rfl

theorem pad_test (n k : Nat) (hk : k < Sh.zeros n) : (n + 1 + k) % 64 ≠ 56 := by unfold Sh.zeros at hk; omega
theorem pad_end (n : Nat) : (n + 1 + Sh.zeros n) % 64 = 56 := by unfold Sh.zeros; omega
theorem padded_length (l : List Int) : (Sh.padded l).length = l.length + 9 + Sh.zeros l.length := by rw [Sh.padded, List.length_append, ending_length]; omega
theorem padded_mod (l : List Int) : (Sh.padded l).length % 64 = 0 := by rw [padded_length]; have := pad_end l.length; omega
theorem padded_eq (l : List Int) : Sh.padded l = (l ++ ((128 : Int) :: List.replicate (Sh.zeros l.length) 0)) ++ Sh.be8 (l.length * 8) := by
  unfold Sh.padded Sh.ending
  simp
theorem padded_byt (l : List Int) (h : Sz.Byt l) : Sz.Byt (Sh.padded l) := h.append (ending_byt _)

/-- The first k bytes of a digest, and 0 behind them. -/
def pd32 (s : Sh.St) (k : Nat) : List Int := (List.range 32).map fun i => if i < k then dby s i else 0
theorem pd32_length (s : Sh.St) (k : Nat) : (pd32 s k).length = 32 := by simp [pd32]
theorem pd32_step (s : Sh.St) (k : Nat) : (pd32 s k).set k (dby s k) = pd32 s (k + 1) := by
  apply List.ext_getElem
  · simp [pd32]
  · intro i h1 h2
    simp only [pd32, List.getElem_set, List.getElem_map, List.getElem_range]
    by_cases e : k = i
    · subst e; rw [if_pos rfl, if_pos (by omega)]
    · rw [if_neg e]
      by_cases e2 : i < k
      · rw [if_pos e2, if_pos (by omega)]
      · rw [if_neg e2, if_neg (by omega)]
theorem pd32_all (s : Sh.St) : pd32 s 32 = Sh.digest s := by
  unfold pd32 Sh.digest
  apply List.map_congr_left
  intro i hi
  rw [if_pos (by simpa using hi)]
  rfl
theorem slice_64 (b cap n k : Nat) (w : World) (hk : 64 * k + 64 ≤ n) (hc : n ≤ cap) : (Instr.slice 23 (.slice (some ⟨b, 0, none⟩) n cap) (some (.int .i64 (64 * (k : Int)))) (some (.int .i64 (64 * (k : Int) + 64))) none).run Tryd.prog w = .ok (.slice (some ⟨b, 64 * k, none⟩) 64 (cap - 64 * k)) w := by
  have hu := Tryd.underlying23
  have he : Tryd.prog.elem 23 = 5 := by simp [Program.elem, hu]
  obtain ⟨i, hi, hz, hs, hby⟩ := info_u8
  have hsz : (sizeOf 5).run Tryd.prog w = .ok 1 w := by simp [sizeOf, typeInfo, hi, hs]
  have := run_slice_lh (P := Tryd.prog) w 23 (some ⟨b, 0, none⟩) n cap (by rw [he]; exact hu) .i64 .i64 (64 * (k : Int)) (64 * (k : Int) + 64) (by omega) (by omega) (by omega)
  rw [this, he, hsz]
  have e1 : (64 * (k : Int)).toNat = 64 * k := by omega
  have e2 : (64 * (k : Int) + 64).toNat = 64 * k + 64 := by omega
  simp [sliced, Addr.add_lit, e1, e2, show ¬ cap = 64 * k by omega]

theorem own_at {w : World} {base : Nat} {v : Value} {l : List Int} (h : Own w base v l) (h0 : 0 < l.length) : ∃ b cap, v = .slice (some ⟨b, 0, none⟩) l.length cap ∧ b < w.heap.size ∧ l.length ≤ cap ∧ cap ≤ maxLen ∧ ∀ j, j < l.length → w.cell? ⟨b, j, none⟩ = some (.int .u8 (l.getD j 0)) := by
  rcases h.2 with ⟨rfl, h1⟩ | ⟨g, cap, cur, rfl, hb, hg, hn, hc, hs, ht⟩
  · omega
  · refine ⟨g, cap, rfl, (Array.getElem?_eq_some_iff.1 hg).1, hn, hc, fun j hj => ?_⟩
    have hcell := World.ownsRow.cells h (g := g) rfl j _ (vals_get l j hj)
    rw [Addr.add_lit, Nat.zero_add] at hcell
    exact hcell

set_option maxRecDepth 100000 in
set_option maxHeartbeats 1600000 in
theorem rsum_any (v : Value) (l : List Int) (w : World) (h : Has w v l) (hbt : Sz.Byt l) (hlen : l.length ≤ 149000000000000) :
    Calls Tryd.prog 24 #[v] w fun e w' => e = .returned (.agg (vals (Sh.sum l)).toArray) ∧ Below w.heap.size w w' := by
  obtain ⟨va, vc, rfl⟩ : ∃ a cap, v = .slice a l.length cap := by
    rcases h with ⟨a, c, rfl, rfl, _⟩ | ⟨b, off, cap, rfl, _⟩
    · exact ⟨a, c, rfl⟩
    · exact ⟨_, _, rfl⟩
  have HH := hide h
  have hzl := zeros_lt l.length
  obtain ⟨n, hn⟩ : ∃ n, n = l.length := ⟨_, rfl⟩
  have HD0 := hide (Is.new w (vals (List.replicate 32 0)) 26)
  have hl2 : n ≤ 149000000000000 := by omega
  clear h
  go_enter Tryd.func24, Tryd.ntmps24
  go_wp2_with (first
    | (at_builtin; refine wpList_append_bytes _ rfl _ _ rfl (w.heap.size + 1) _ _ rfl (Own.empty' (k := w.heap.size + 1) (w.heap.size + 1) (by simp) (by simp)) _ _ rfl (HH.out.below (below_alloc2 w _ _)) (by show 0 + l.length ≤ _; omega) (by simp) ?_; intro v1 w1 ho1 hg1; rw [List.nil_append] at ho1)
    | (at_builtin; refine wpList_append_bytes _ rfl _ _ rfl (w.heap.size + 1) _ _ rfl (ho1.below (below_alloc w1 _)) _ _ rfl (Own.byte w1 128) (by show l.length + 1 ≤ _; omega) (by have := hg1.size; simp at this ⊢; omega) ?_; intro v2 w2 ho2 hg2))
  have hbd0 : Below (w.heap.size + 1) (w.alloc (.cells (vals (List.replicate 32 0)).toArray 26)) w1 := ((Below.refl (w.heap.size + 1) (w.alloc (.cells (vals (List.replicate 32 0)).toArray 26))).alloc (by simp) _).grown hg1 (by simp) (fun k hk => by injection hk with hk; rw [← hk]; exact Nat.le_refl _)
  have hbd : Below (w.heap.size + 1) (w.alloc (.cells (vals (List.replicate 32 0)).toArray 26)) w2 := (hbd0.alloc (by have := hbd0.size; simp at this; omega) _).grown hg2 (by have := hbd0.size; simp at this ⊢; omega) (fun k hk => (ho1.block k hk).1)
  have hbw := below_alloc w (.cells (vals (List.replicate 32 0)).toArray 26)
  have hsd : (w.alloc (.cells (vals (List.replicate 32 0)).toArray 26)).heap.size = w.heap.size + 1 := by simp
  have HD := HD0
  generalize w.alloc (.cells (vals (List.replicate 32 0)).toArray 26) = wd at *
  clear hbd0 hg1 hg2 ho1 HD0
  rw [← hsd] at hbd ho2
  go_loopw [3] (fun m wr => ∃ k : Nat, k ≤ Sh.zeros n ∧ Own wr wd.heap.size m (l ++ (128 : Int) :: List.replicate k 0) ∧ Below wd.heap.size wd wr) (fun m _ => n + 100 - lenOf m)
  case atStart => exact ⟨0, by omega, ho2, hbd⟩
  case round =>
    obtain ⟨k, hk, ho3, hb3⟩ := hrel
    clear hbd ho2
    obtain ⟨ma, mc, rfl, hmc1, hmc2⟩ := ho3.form
    have hml : (l ++ (128 : Int) :: List.replicate k 0).length = n + 1 + k := by simp; omega
    have hmi : ((n + 1 + k : Nat) : Int).tmod 64 = (((n + 1 + k) % 64 : Nat) : Int) := by rw [Int.tmod_eq_emod_of_nonneg (by omega)]; rfl
    rw [hml]
    have HO3 := hide ho3
    have hzz : Sh.zeros n < 64 := zeros_lt n
    by_cases hkz : k < Sh.zeros n
    · have hte : ((((n + 1 + k) % 64 : Nat) : Int) != 56) = true := by have := pad_test n k hkz; simp; omega
      obtain ⟨N, hN⟩ : ∃ N, N = n + 1 + k := ⟨_, rfl⟩
      rw [← hN] at hmi hte hml ⊢
      obtain ⟨r, hr⟩ : ∃ r, r = N % 64 := ⟨_, rfl⟩
      rw [← hr] at hmi hte
      have HML := hide hml
      have HN := hide hN
      have hN2 : N < 150000000000000 := by omega
      clear ho3 hml hr hN
      go_wp2_with (at_builtin; refine wpList_append_bytes _ rfl _ _ rfl wd.heap.size _ _ (by rw [← HML.out]; rfl) (HO3.out.below (below_alloc wr _)) _ _ rfl (Own.byte wr 0) (by show _ + 1 ≤ _; rw [HML.out]; omega) (by have := hb3.size; simp; omega) ?_; intro v4 w4 ho4 hg4)
      go_roundw
      case rel =>
        refine ⟨k + 1, by omega, ?_, (hb3.alloc hb3.size _).grown hg4 (by have := hb3.size; simp; omega) (fun q hq => (HO3.out.block q hq).1)⟩
        have e : l ++ (128 : Int) :: List.replicate (k + 1) 0 = (l ++ (128 : Int) :: List.replicate k 0) ++ [0] := by
          rw [List.replicate_succ']; simp
        rw [e]; exact ho4
      case measure =>
        obtain ⟨a4, c4, e4, _, _⟩ := ho4.form
        rw [e4]
        have h1 := HML.out
        have h2 := HN.out
        simp only [lenOf, List.length_append, List.length_cons, List.length_nil] at h1 ⊢
        omega
    · have hkz' : k = Sh.zeros n := by omega
      have hte : ((((n + 1 + k) % 64 : Nat) : Int) != 56) = false := by have := pad_end n; rw [← hkz'] at this; simp; omega
      obtain ⟨N, hN⟩ : ∃ N, N = n + 1 + k := ⟨_, rfl⟩
      rw [← hN] at hmi hte hml ⊢
      obtain ⟨r, hr⟩ : ∃ r, r = N % 64 := ⟨_, rfl⟩
      rw [← hr] at hmi hte
      have hN2 : N < 150000000000000 := by omega
      have HML := hide hml
      obtain ⟨xs, hxs⟩ : ∃ xs, xs = l ++ (128 : Int) :: List.replicate k 0 := ⟨_, rfl⟩
      rw [← hxs] at HO3 HML
      have hpad : Hid (Sh.padded l = xs ++ Sh.be8 (l.length * 8)) := by show _ = _; rw [padded_eq, hxs, hkz', hn]
      have hbe : (Sh.be8 (l.length * 8)).length = 8 := by simp [Sh.be8]
      have hpp : (Sh.padded l).length = N + 8 := by rw [padded_length, ← hn]; omega
      have hpm := padded_mod l
      have hpb := padded_byt l hbt
      have HP := hide (rput_any ((l.length : Int) * 8) 8 wr (by omega) (by omega) (by omega) (by omega))
      rw [show ((l.length : Int) * 8) = ((l.length * 8 : Nat) : Int) by omega, low_be8] at HP
      rw [show ((l.length * 8 : Nat) : Int) = (l.length : Int) * 8 by omega] at HP
      have HSM : Hid (Sh.sum l = Sh.digest (Sh.comp (Sh.padded l) ((Sh.padded l).length / 64))) := rfl
      generalize Sh.be8 (l.length * 8) = be at *
      generalize Sh.padded l = PL at *
      have HBE := hide hbe
      have hgo := hb3.size
      obtain ⟨wA, rfl⟩ : ∃ wA, wA = wr := ⟨_, rfl⟩
      clear ho3 hml hr hN hkz' hkz hk hxs hbe
      go_wp2_with (first
        | (go_at_call 33; refine HP.out.mono ?_; rintro e w5 ⟨b5, rfl, hh5, hb5⟩)
        | (go_at_call 34; refine (rrounds_any _).mono ?_; rintro e w7 ⟨rfl, hk7, hb7⟩)
        | (at_builtin; refine wpList_append_bytes _ rfl _ _ rfl wd.heap.size _ _ (by rw [← HML.out]; rfl) (HO3.out.below hb5) _ _ (by rw [← HBE.out]; rfl) hh5 (by rw [HML.out, HBE.out]; omega) (Nat.le_trans hgo hb5.size) ?_; intro v6 w6 ho6 hg6))
      have hb6 : Below wd.heap.size wd w6 := (hb3.trans (hb5.mono hgo)).grown hg6 (Nat.le_trans hgo hb5.size) (fun q hq => ((HO3.out.below hb5).block q hq).1)
      have hb7w : Below w6.heap.size w6 w7 := (below_alloc w6 _).trans (hb7.mono (by simp))
      have hb7d : Below wd.heap.size wd w7 := hb6.trans (hb7w.mono hb6.size)
      have hI7 : Is w7 w6.heap.size (jvals Sh.init.list) 3 := (Is.new w6 (jvals Sh.init.list) 3).below hb7 (by simp)
      have hk7' : Is w7 (w6.heap.size + 1) (jvals Sh.ks) 3 := by simpa using hk7
      rw [← hpad.out] at ho6
      obtain ⟨mb, mcap, rfl, hmb, hmc3, hmc4, hmcell⟩ := own_at ho6 (by omega)
      have hmcell7 : ∀ j, j < PL.length → w7.cell? ⟨mb, j, none⟩ = some (.int .u8 (PL.getD j 0)) := fun j hj => by rw [hb7w.cell (p := ⟨mb, j, none⟩) hmb]; exact hmcell j hj
      have hmb7 : mb < w7.heap.size := Nat.lt_of_lt_of_le hmb hb7w.size
      have hD7 : Is w7 w.heap.size (vals (List.replicate 32 0)) 26 := HD.out.below hb7d (by omega)
      obtain ⟨M, hM⟩ : ∃ M, M = PL.length := ⟨_, rfl⟩
      rw [← hM] at hpp hpm hmc3 hmcell7 HSM ⊢
      have HM7 := hide hmcell7
      have HK7 := hide hk7'
      have HI7 := hide hI7
      have HD7 := hide hD7
      have HB7 := hide hb7d
      have hkb7 := hk7'.lt
      have HPB := hide hpb
      have HMM := hide hM
      have hM2 : M < 160000000000000 := by omega
      clear hpp hb7 hb7w hb7d hI7 hk7 hk7' hmcell hmcell7 ho6 hg6 hh5 hb5 hb6 hb3 HO3 HP hD7 hpb hM hmi hte HD
      unfold maxLen at hmc4
      go_loopw [6, 8] (fun h x wr => ∃ (k hb hcap : Nat), 64 * k ≤ M ∧ x = .int .i64 (64 * (k : Int)) ∧ h = .slice (some ⟨hb, 0, none⟩) 8 hcap ∧ 8 ≤ hcap ∧ hcap ≤ maxLen ∧ (∀ j, j < 8 → wr.cell? ⟨hb, j, none⟩ = some (.int .i64 ((Sh.comp PL k).list.getD j 0 : Nat))) ∧ Below w7.heap.size w7 wr) (fun _ x _ => M - (intOf x).toNat)
      case atStart =>
        refine ⟨0, w6.heap.size, 8, by omega, rfl, rfl, by omega, by unfold maxLen; omega, fun j hj => ?_, Below.refl _ _⟩
        rw [HI7.out.cell, jvals_get _ _ hj]
        rfl
      case round =>
        obtain ⟨q, hb, hcap, hq, rfl, rfl, hc1, hc2, hcells, hbr⟩ := hrel
        clear HI7
        have hbl : hb < wr.heap.size := World.block_lt_of_cell? wr ⟨hb, 0, none⟩ (hcells 0 (by omega))
        by_cases hqm : 64 * q < M
        · have hq2 : 64 * q + 64 ≤ M := by omega
          have hsl := fun w => slice_64 mb mcap M q w hq2 hmc3
          have hblen : ((PL.drop (64 * q)).take 64).length = 64 := by have := HMM.out; rw [List.length_take, List.length_drop]; omega
          have HRB := hide (rblock_any hb (w6.heap.size + 1) mb (64 * q) hcap 64 (mcap - 64 * q) (Sh.comp PL q) ((PL.drop (64 * q)).take 64) wr (Sh.comp_ok _ _) hblen ((HPB.out.drop _).take _) hc1 hc2 (Nat.le_refl _) (by omega) (by unfold maxLen; omega) hcells
            (fun t ht => by rw [hbr.cell (p := ⟨w6.heap.size + 1, t, none⟩) hkb7, HK7.out.cell, jvals_get _ _ (by rw [Sh.ks_len]; exact ht)])
            (fun j hj => by
              rw [hbr.cell (p := ⟨mb, 64 * q + j, none⟩) hmb7, HM7.out (64 * q + j) (by omega)]
              simp only [List.getD, List.getElem?_take, List.getElem?_drop]
              rw [if_pos hj]))
          have hnx : Hid (Sh.comp PL (q + 1) = Sh.mix (Sh.comp PL q) ((PL.drop (64 * q)).take 64)) := rfl
          generalize Sh.mix (Sh.comp PL q) ((PL.drop (64 * q)).take 64) = st' at *
          have hqi : (64 : Int) * (q : Int) < (M : Int) := by omega
          clear hcells hblen
          go_wp2_with (go_at_call 35; refine HRB.out.mono ?_; rintro e w8 ⟨vb, vcap, rfl, hv1, hv2, hv3, hb8⟩)
          go_roundw
          case rel =>
            exact ⟨q + 1, vb, vcap, by omega, by go_num, rfl, hv1, hv2, by rw [hnx.out]; exact hv3, hbr.trans (hb8.mono hbr.size)⟩
          case measure => simp [intOf]; omega
        · have hq' : q = M / 64 := by omega
          have hqn : ¬ (64 : Int) * (q : Int) < (M : Int) := by omega
          rw [hq'] at hcells
          obtain ⟨wB, rfl⟩ : ∃ wB, wB = wr := ⟨_, rfl⟩
          have hstok := Sh.comp_ok PL (M / 64)
          generalize Sh.comp PL (M / 64) = st at *
          have HC := hide hcells
          clear hcells hq' hqm hq HK7 HM7
          go_wp2
          go_loopw [10] (fun x wr => ∃ k : Nat, k ≤ 32 ∧ x = .int .i64 k ∧ Below wB.heap.size wB wr ∧ Is wr wB.heap.size (vals (pd32 st k)) 26) (fun x _ => 32 - (intOf x).toNat)
          case atStart => exact ⟨0, by omega, rfl, below_alloc wB _, Is.new wB (vals (pd32 st 0)) 26⟩
          case round =>
            obtain ⟨k, hk, rfl, hb9, hI9⟩ := hrel
            have HI9 := hide hI9
            by_cases hk32 : k < 32
            · have g0 := hI9.cell k
              rw [vals_get _ _ (by rw [pd32_length]; exact hk32)] at g0
              have f0 := hI9.frozen k
              have g1 : wr.cell? ⟨hb, k / 4, none⟩ = some (.int .i64 (st.list.getD (k / 4) 0 : Nat)) := by rw [hb9.cell (p := ⟨hb, k / 4, none⟩) hbl]; exact HC.out (k / 4) (by omega)
              have HS9 := hide (pd32_step st k)
              have HDB : Hid (dby st k = (((st.list.getD (k / 4) 0) >>> (24 - k % 4 * 8) % 256 : Nat) : Int)) := rfl
              have lx := Sh.getD_lt (Sh.list_lt st hstok) (by omega) (k / 4)
              generalize st.list.getD (k / 4) 0 = x at *
              generalize (pd32 st k).getD k 0 = y at *
              have t0 : (k : Int).tdiv 4 = ((k / 4 : Nat) : Int) := by rw [Int.tdiv_eq_ediv_of_nonneg (by omega)]; omega
              have t1 : (k : Int).tmod 4 = ((k % 4 : Nat) : Int) := by rw [Int.tmod_eq_emod_of_nonneg (by omega)]; omega
              have t2 : (24 : Int) - ((k % 4 : Nat) : Int) * 8 = ((24 - k % 4 * 8 : Nat) : Int) := by omega
              have t3 : k % 4 < 4 := by omega
              have t4 : k / 4 < 8 := by omega
              have t5 : 24 - k % 4 * 8 < 64 := by omega
              generalize 24 - k % 4 * 8 = m at *
              generalize k % 4 = k4 at *
              generalize k / 4 = kq at *
              clear hI9
              go_wp2
              go_roundw
              case rel =>
                have e : (x : Int) / 2 ^ m % 256 = dby st k := by
                  rw [HDB.out, Nat.shiftRight_eq_div_pow, Int.natCast_emod, Int.natCast_ediv, Int.natCast_pow]; rfl
                rw [e]
                refine ⟨k + 1, by omega, by go_num, hb9.setCell (p := ⟨wB.heap.size, k, none⟩) (Nat.le_refl _) _, ?_⟩
                rw [← HS9.out, ← vals_set]
                exact HI9.out.set k _
              case measure => simp [intOf]; omega
            · have hk' : k = 32 := by omega
              have hkn : ¬ (k : Int) < 32 := by omega
              rw [hk', pd32_all] at hI9
              have hdl : (Sh.digest st).length = 32 := by simp [Sh.digest]
              have hI9d : Is wr w.heap.size (vals (List.replicate 32 0)) 26 := (HD7.out.below hbr HD7.out.lt).below hb9 (Nat.lt_of_lt_of_le HD7.out.lt hbr.size)
              generalize Sh.digest st = D at *
              have H9 := hide hI9
              have H9D := hide hI9d
              have HDL := hide hdl
              clear hI9 hI9d hdl HI9 hk' hk32 hk
              go_wp2_with (first
                | (refine wpList_load_arr 26 (vals D) wB.heap.size H9.out Tryd.underlying26 size_dig (by rw [vals_length]; exact HDL.out) rfl (.tmp 9) rfl rfl ?_)
                | (refine wpList_store_any 26 (vals (List.replicate 32 0)) (vals D) w.heap.size H9D.out size_dig (by simp [vals]) (by rw [vals_length]; exact HDL.out) (vals_one _) rfl (.tmp 2) (.tmp 66) rfl rfl rfl rfl ?_; intro wE hiE hbE hkE hzE))
              have hr := hiE.cellsOf Tryd.underlying26 (by rw [vals_length, HDL.out]; exact size_dig)
              refine bodyPost_ret (v := .agg (vals D).toArray) (results_cell1 Tryd.results24 rfl hr) rfl ⟨?_, ?_⟩
              · rw [HSM.out]
              · refine hbE _ _ ?_ (Nat.le_refl _)
                exact hbw.trans ((HB7.out.trans ((hbr.trans (hb9.mono hbr.size)).mono HB7.out.size)).mono (by omega))
end Go.Proofs.YtphdnbflogobfaaDoor

/- The contract of moneyerref1.Mac: the document's digest with a key. -/
namespace Go.Proofs.YtphdnbflogobfaaDoor
open Go.RowKit
set_option linter.unusedVariables false

theorem Own.grown {w w' : World} {base : Nat} {v : Value} {l : List Int} {row : Option Nat} (h : Own w base v l) (k : w.grownBy w' row) (hne : ∀ b, v.ownBlock = some b → row ≠ some b) : Own w' base v l := by
  refine ⟨h.1, ?_⟩
  rcases h.2 with h0 | ⟨g, cap, cur, rfl, hbg, hg, hn, hc, hs, ht⟩
  · exact .inl h0
  · have hlt : g < w.heap.size := by
      rcases Nat.lt_or_ge g w.heap.size with hlt | hge
      · exact hlt
      · rw [Array.getElem?_eq_none hge] at hg; cases hg
    exact .inr ⟨g, cap, cur, rfl, hbg, by rw [k.block g hlt (fun e => hne g rfl e.symm)]; exact hg, hn, hc, hs, ht⟩

theorem block_at (k : List Int) (i : Nat) (h : i < (Mc.short k).length) : (Mc.block k).getD i 0 = (Mc.short k).getD i 0 := by
  simp only [Mc.block, List.getD]
  rw [List.getElem?_append_left h]
theorem block_past (k : List Int) (i : Nat) (h : ¬ i < (Mc.short k).length) : (Mc.block k).getD i 0 = 0 := by
  simp only [Mc.block, List.getD]
  rw [List.getElem?_append_right (by omega), List.getElem?_replicate]
  split <;> rfl
theorem mask_at (c : Nat) (B : List Int) (i : Nat) (h : i < B.length) : (Mc.mask c B).getD i 0 = (((B.getD i 0).toNat ^^^ c : Nat) : Int) := by
  simp [Mc.mask, List.getD, List.getElem?_eq_getElem h]

end Go.Proofs.YtphdnbflogobfaaDoor
