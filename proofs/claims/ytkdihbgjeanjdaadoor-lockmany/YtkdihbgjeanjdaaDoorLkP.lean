/- lock.wayEnd: where a way ends. -/
import Derived.Test.YtkdihbgjeanjdaaDoorLkO
namespace Go.Proofs.YtkdihbgjeanjdaaDoor
open Go.RowKit
set_option linter.unusedVariables false

theorem HasOps.length_le {w : World} {v : Value} {R : List (Lk.Op × Value)} (h : HasOps w v R) : R.length ≤ maxLen := by
  rcases h.1 with ⟨a, cap, _, rfl⟩ | ⟨b, off, cap, hv, h0, h1, h2, h3, hc⟩
  · simp
  · omega
def opsOf (R : List (Lk.Op × Value)) : List Lk.Op := R.map Prod.fst
theorem opsOf_length (R : List (Lk.Op × Value)) : (opsOf R).length = R.length := by simp [opsOf]
theorem opsOf_drop (R : List (Lk.Op × Value)) (k : Nat) (h : k < R.length) : (opsOf R).drop k = R[k].1 :: (opsOf R).drop (k + 1) := by
  rw [List.drop_eq_getElem_cons (by rw [opsOf_length]; exact h)]; simp [opsOf]

/-- The cells of one op of a slice. -/
theorem range_op {w : World} {b off : Nat} {R : List (Lk.Op × Value)} (h : w.rangeAt b off (opCells R)) (k : Nat) (hk : k < R.length) :
    w.cell? ⟨b, off + k * 3, none⟩ = some (.int .i64 R[k].1.op) ∧ w.cell? ⟨b, off + k * 3 + 1, none⟩ = some (.int .i64 R[k].1.n) ∧ w.cell? ⟨b, off + k * 3 + 2, none⟩ = some R[k].2 := by
  obtain ⟨h1, h2, h3⟩ := opCells_get R k hk
  exact ⟨h _ _ h1, by have := h _ _ h2; rwa [← Nat.add_assoc] at this, by have := h _ _ h3; rwa [← Nat.add_assoc] at this⟩

set_option maxRecDepth 100000 in
set_option maxHeartbeats 1600000 in
theorem wayEnd_any (R : List (Lk.Op × Value)) (b off cap : Nat) (p : Nat) (w : World) (hp : p < R.length) (hm : R.length ≤ maxLen) (hr : w.rangeAt b off (opCells R)) :
    Calls Tryd.prog 58 #[.slice (some ⟨b, off, none⟩) R.length cap, .int .i64 p] w fun e w' => w = w' ∧ ∃ q : Nat, e = .returned (.int .i64 q) ∧ p < q ∧ q ≤ R.length ∧ (opsOf R).drop (q + 1) = Lk.skip 0 ((opsOf R).drop (p + 1)) := by
  unfold maxLen at hm
  have HR := hide hr
  clear hr
  generalize hS : Lk.skip 0 ((opsOf R).drop (p + 1)) = S
  have HS := hide hS
  clear hS
  generalize hn : R.length = n at *
  have HN := hide hn
  clear hn
  have hp1 : (p : Int) + 1 ≤ 9223372036854775807 := by omega
  go_enter Tryd.func58, Tryd.ntmps58
  go_wp2
  go_loop [1, 5] (fun i c => ∃ (k d : Nat), k ≤ n ∧ p < k ∧ d ≤ k ∧ i = .int .i64 k ∧ c = .int .i64 d ∧ Lk.skip d ((opsOf R).drop k) = S) (fun i _ => n - (intOf i).toNat)
  case atStart => exact ⟨p + 1, 0, by omega, by omega, by omega, by go_num, rfl, HS.out⟩
  case round =>
    obtain ⟨k, d, hk, hpk, hd, rfl, rfl, ht⟩ := hrel
    by_cases hlt : k < n
    · have hkR : k < R.length := by rw [HN.out]; exact hlt
      have hc0 := (range_op HR.out k hkR).1
      rw [opsOf_drop R k hkR] at ht
      have HT := hide ht
      generalize hop : R[k].1 = o at *
      obtain ⟨op, on, od⟩ := o
      simp only at hc0
      clear ht hop
      by_cases h11 : op = 11
      · subst h11
        have HT2 : Hid (Lk.skip (d + 1) ((opsOf R).drop (k + 1)) = S) := by have := HT.out; rwa [Lk.skip_if _ _ _ rfl] at this
        clear HT
        go_wp2
        go_round
        case rel => exact ⟨k + 1, d + 1, by omega, by omega, by omega, by go_num, by go_num, HT2.out⟩
        case measure => simp [intOf]; omega
      by_cases h12 : op = 12
      · subst h12
        by_cases hd0 : d = 0
        · subst hd0
          have HT2 : Hid ((opsOf R).drop (k + 1) = S) := by have := HT.out; rwa [Lk.skip_else _ _ _ rfl, if_pos rfl] at this
          clear HT
          go_wp2
          go_ret
          exact ⟨rfl, k, rfl, hpk, by omega, HT2.out⟩
        · have HT2 : Hid (Lk.skip d ((opsOf R).drop (k + 1)) = S) := by have := HT.out; rwa [Lk.skip_else _ _ _ rfl, if_neg hd0] at this
          have hdi : ((d : Int) == 0) = false := by simp; omega
          have HD := hide hd0
          clear HT hd0
          go_wp2
          go_round
          case rel => exact ⟨k + 1, d, by omega, by omega, by omega, by go_num, rfl, HT2.out⟩
          case measure => simp [intOf]; omega
      by_cases h13 : op = 13
      · subst h13
        by_cases hd0 : d = 0
        · subst hd0
          have HT2 : Hid ((opsOf R).drop (k + 1) = S) := by have := HT.out; rwa [Lk.skip_end _ _ _ rfl, if_pos rfl] at this
          clear HT
          go_wp2
          go_ret
          exact ⟨rfl, k, rfl, hpk, by omega, HT2.out⟩
        · have HT2 : Hid (Lk.skip (d - 1) ((opsOf R).drop (k + 1)) = S) := by have := HT.out; rwa [Lk.skip_end _ _ _ rfl, if_neg hd0] at this
          have hdi : ((d : Int) == 0) = false := by simp; omega
          have HD := hide hd0
          clear HT hd0
          go_wp2
          have hd0 := HD.out
          go_round
          case rel => exact ⟨k + 1, d - 1, by omega, by omega, by omega, by go_num, by go_num, HT2.out⟩
          case measure => simp [intOf]; omega
      · have HT2 : Hid (Lk.skip d ((opsOf R).drop (k + 1)) = S) := by have := HT.out; rwa [Lk.skip_do _ _ _ h11 h12 h13] at this
        have e11 : (op == 11) = false := by simpa using h11
        have e12 : (op == 12) = false := by simpa using h12
        have e13 : (op == 13) = false := by simpa using h13
        clear HT h11 h12 h13
        go_wp2
        go_round
        case rel => exact ⟨k + 1, d, by omega, by omega, by omega, by go_num, rfl, HT2.out⟩
        case measure => simp [intOf]; omega
    · have hke : k = n := by omega
      have hkn : ¬ (k : Int) < n := by omega
      rw [List.drop_eq_nil_of_le (by rw [opsOf_length, HN.out]; omega)] at ht
      have HT : Hid ((opsOf R).drop (n + 1) = S) := by rw [List.drop_eq_nil_of_le (by rw [opsOf_length, HN.out]; omega), ← ht]; rfl
      clear ht
      go_wp2
      go_ret
      exact ⟨rfl, n, rfl, by omega, by omega, HT.out⟩
end Go.Proofs.YtkdihbgjeanjdaaDoor
