/- The contracts of bits.Len64, bits.Len and tree.half. -/
import Derived.Test.YtphdnbflogobfaaDoorTeM
import Derived.Lib.Tables
import Derived.BigQuiet
import Derived.Deep.QuietTactic
namespace Go.Proofs.YtphdnbflogobfaaDoor
open Go.RowKit
set_option linter.unusedVariables false
set_option linter.unusedSimpArgs false

theorem below_drewN {B : Nat} {a w : World} (h : Below B a w) (n : Nat) : Below B a (w.drewN n) := ⟨h.os, h.tape, h.output, h.size, h.block⟩
theorem len8_bits (n : Nat) (h : n < 256) : Lib.len8 (n : Int) = (Te.bits n : Int) := by
  have := (by decide +kernel : ∀ i : Fin 256, Lib.len8 ((i.1 : Nat) : Int) = (Te.bits i.1 : Int)) ⟨n, h⟩
  exact this

set_option maxRecDepth 100000 in
set_option maxHeartbeats 400000 in
theorem len64_any (n : Nat) (w : World) (h : n < 256) :
    Calls Tryd.prog 58 #[.int .u64 (n : Int)] w fun e w' => e = .returned (.int .i64 (Te.bits n)) ∧ Below w.heap.size w w' := by
  have hlb := len8_bits n h
  have h9 : Te.bits n ≤ 8 := Te.bits_pow 8 n h
  generalize Te.bits n = B at *
  have hc1 : ¬ (4294967296 : Int) ≤ (n : Int) := by omega
  have hc2 : ¬ (65536 : Int) ≤ (n : Int) := by omega
  have hc3 : ¬ (256 : Int) ≤ (n : Int) := by omega
  have hn0 : (0 : Int) ≤ (n : Int) := by omega
  have hn1 : (n : Int) ≤ 255 := by omega
  go_enter Tryd.func58, Tryd.ntmps58
  go_wp2
  exact bodyPost_ret (v := .int .i64 B) (by simp [results, Tryd.results58, hlb]) rfl ⟨rfl, Below.refl _ _⟩

set_option maxRecDepth 100000 in
set_option maxHeartbeats 400000 in
theorem len_any (n : Nat) (w : World) (h : n < 256) :
    Calls Tryd.prog 51 #[.int .u64 (n : Int)] w fun e w' => e = .returned (.int .i64 (Te.bits n)) ∧ Below w.heap.size w w' := by
  have HC := hide (fun W => len64_any n W h)
  generalize Te.bits n = B at *
  go_enter Tryd.func51, Tryd.ntmps51
  go_wp2_with (go_at_call 58; refine (HC.out _).mono ?_; rintro e w2 ⟨rfl, hb2⟩)
  exact bodyPost_ret (v := .int .i64 B) (by simp [results, Tryd.results51]) rfl ⟨rfl, hb2⟩

set_option maxRecDepth 100000 in
set_option maxHeartbeats 400000 in
theorem half_any (n : Nat) (w : World) (h2 : 2 ≤ n) (h : n ≤ 256) :
    Calls Tryd.prog 41 #[.int .i64 (n : Int)] w fun e w' => e = .returned (.int .i64 (Te.half n)) ∧ Below w.heap.size w w' := by
  have HC := hide (fun W => len_any (n - 1) W (by omega))
  have hb : Te.bits (n - 1) = Nat.log2 (n - 1) + 1 := by unfold Te.bits; rw [if_neg (by omega)]
  have hj : Nat.log2 (n - 1) < 8 := (Nat.log2_lt (by omega)).2 (by omega)
  have hh : Te.half n = 2 ^ Nat.log2 (n - 1) := rfl
  rw [hb] at HC
  rw [hh]
  rw [show (((n - 1 : Nat)) : Int) = (n : Int) - 1 by omega] at HC
  generalize Nat.log2 (n - 1) = j at *
  clear hb hh
  have hn1 : wrap64 ((n : Int) - 1) = (n : Int) - 1 := by simp [wrap64]; omega
  have hn2 : (0 : Int) ≤ (n : Int) - 1 := by omega
  have hn3 : (n : Int) - 1 ≤ 255 := by omega
  go_enter Tryd.func41, Tryd.ntmps41
  go_wp2_with (go_at_call 51; refine (HC.out _).mono ?_; rintro e w2 ⟨rfl, hb2⟩)
  have hw8 : wrap64 ((2 : Int) ^ j) = (((2 ^ j : Nat)) : Int) := (by decide +kernel : ∀ i : Fin 8, wrap64 ((2 : Int) ^ i.1) = (((2 ^ i.1 : Nat)) : Int)) ⟨j, hj⟩
  exact bodyPost_ret (v := .int .i64 ((2 ^ j : Nat) : Int)) (by simp [results, Tryd.results41, hw8]) rfl ⟨rfl, hb2⟩

set_option maxRecDepth 100000 in
set_option maxHeartbeats 400000 in
theorem halves_any (b off n cap : Nat) (w : World) (h2 : 2 ≤ n) (h : n ≤ 256) (hc : n ≤ cap) (hm : cap ≤ maxLen) :
    Calls Tryd.prog 39 #[.slice (some ⟨b, off, none⟩) n cap] w fun e w' => e = .returned (.tuple #[.slice (some ⟨b, off, none⟩) (Te.half n) (Te.half n), .slice (some ⟨b, off + Te.half n * 32, none⟩) (n - Te.half n) (cap - Te.half n)]) ∧ Below w.heap.size w w' := by
  have HC := hide (fun W => half_any n W h2 h)
  have hp := Te.half_pos n
  have hl := Te.half_lt n h2
  generalize Te.half n = k at *
  have hkc : ¬ cap = k := by omega
  have hk1 : k ≤ cap := by omega
  have hi1 : (k : Int) ≤ (cap : Int) := by omega
  have hi2 : (0 : Int) ≤ (k : Int) := by omega
  have hi3 : (k : Int) ≤ (n : Int) := by omega
  go_enter Tryd.func39, Tryd.ntmps39
  go_wp2_with (go_at_call 41; refine (HC.out _).mono ?_; rintro e w2 ⟨rfl, hb2⟩)
  go_quiet (fail)
  go_wp2
  exact bodyPost_ret (v := .tuple #[.slice (some ⟨b, off, none⟩) k k, .slice (some ⟨b, off + k * 32, none⟩) (n - k) (cap - k)]) (by simp [results, Tryd.results39]) rfl ⟨rfl, below_drewN hb2 _⟩
end Go.Proofs.YtphdnbflogobfaaDoor
