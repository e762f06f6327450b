/- The document's Money, Total and MadeAt; an error that is the one told. -/
import Derived.Test.YtlcajpfalggheaaDoorMoSum
import Derived.Test.YtlcajpfalggheaaDoorOwnI
import Derived.Test.YtlcajpfalggheaaDoorTold2
namespace Go.Proofs.YtlcajpfalggheaaDoor
open Go.RowKit
set_option linter.unusedVariables false

theorem error_hit (c k : Int) (w : World) (h : ErrVar w) (e : c = k) : Calls Tryd.prog 5 #[errV c, .int .i64 k] w fun e w' => e = .returned (.bool true) ∧ Below w.heap.size w w' := by
  have := error_any c k w h
  rw [show (c == k) = true from by simp [e]] at this
  exact this

theorem rmoney_good (n : Int) (w : World) (h : Mo.ok n) :
    Calls Tryd.prog 4 #[.int .i64 n] w fun e w' => e = .returned (.bool true) ∧ w = w' := by
  obtain ⟨h0, h1⟩ := h
  go_enter Tryd.func4, Tryd.ntmps4
  go_wp2
  go_ret
  exact ⟨rfl, rfl⟩
theorem rmoney_bad (n : Int) (w : World) (h : ¬ Mo.ok n) :
    Calls Tryd.prog 4 #[.int .i64 n] w fun e w' => e = .returned (.bool false) ∧ w = w' := by
  by_cases a : 0 ≤ n
  · have b : ¬ n ≤ 1125899906842624 := fun h1 => h ⟨a, h1⟩
    clear h
    go_enter Tryd.func4, Tryd.ntmps4
    go_wp2
    go_ret
    exact ⟨rfl, rfl⟩
  · clear h
    go_enter Tryd.func4, Tryd.ntmps4
    go_wp2
    go_ret
    exact ⟨rfl, rfl⟩

set_option maxHeartbeats 800000 in
theorem rtotal_any (v : Value) (l : List Int) (w : World) (h : HasI w v l) :
    Calls Tryd.prog 7 #[v] w fun e w' => e = .returned (.tuple #[.int .i64 (Mo.tot 0 l).1, .int .i64 (Mo.tot 0 l).2]) ∧ w = w' := by
  rcases h with ⟨a, cap, rfl, rfl, _⟩ | ⟨b, off, cap, rfl, h0, hm, hc⟩
  · go_enter Tryd.func7, Tryd.ntmps7
    go_wp2
    refine wp_loop_rounds 1 ?_
    rw [rounds_succ]
    go_wp2
    go_ret2
    exact ⟨rfl, rfl⟩
  · unfold maxLen at hm
    have HCC := hide hc
    clear hc
    go_enter Tryd.func7, Tryd.ntmps7
    go_wp2
    go_loop [4, 5] (fun s i => ∃ (k : Nat) (x : Int), k ≤ l.length ∧ i = .int .i64 k ∧ s = .int .i64 x ∧ 0 ≤ x ∧ x ≤ 1125899906842624 ∧ Mo.tot x (l.drop k) = Mo.tot 0 l) (fun _ i => l.length - (intOf i).toNat)
    case atStart => exact ⟨0, 0, Nat.zero_le _, rfl, rfl, by decide, by decide, by simp⟩
    case round =>
      obtain ⟨k, x, hk, rfl, rfl, hx0, hx1, ht⟩ := hrel
      by_cases hlt : k < l.length
      · have hck := HCC.out k hlt
        have e : l.drop k = l.getD k 0 :: l.drop (k + 1) := by
          rw [List.drop_eq_getElem_cons hlt]; simp [List.getD, List.getElem?_eq_getElem hlt]
        rw [e, Mo.tot_cons_of] at ht
        have HT := hide ht
        clear ht e
        generalize l.getD k 0 = n at *
        by_cases hn : Mo.ok n
        · have HM := hide (rmoney_good n w hn)
          have hn0 := hn.1
          have hn1 := hn.2
          by_cases hs : x + n ≤ 1125899906842624
          · have HT2 : Hid (Mo.tot (x + n) (l.drop (k + 1)) = Mo.tot 0 l) := by have := HT.out; rw [if_pos hn, if_pos hs] at this; exact this
            clear HT hn
            go_wp2_with fail
            refine HM.out.mono ?_
            rintro e w1 ⟨rfl, rfl⟩
            go_wp2
            go_round
            case rel => exact ⟨k + 1, x + n, by omega, by go_num, by go_num, by omega, hs, HT2.out⟩
            case measure => simp [intOf]; omega
          · have HT2 : Hid ((0, 4) = Mo.tot 0 l) := by have := HT.out; rw [if_pos hn, if_neg hs] at this; exact this
            clear HT hn
            go_wp2_with fail
            refine HM.out.mono ?_
            rintro e w1 ⟨rfl, rfl⟩
            go_wp2
            go_ret2
            exact ⟨by rw [← HT2.out]; rfl, rfl⟩
        · have HM := hide (rmoney_bad n w hn)
          have HT2 : Hid ((0, 2) = Mo.tot 0 l) := by have := HT.out; rw [if_neg hn] at this; exact this
          clear HT hn
          go_wp2_with fail
          refine HM.out.mono ?_
          rintro e w1 ⟨rfl, rfl⟩
          go_wp2
          go_ret2
          exact ⟨by rw [← HT2.out]; rfl, rfl⟩
      · have hfin : Mo.tot 0 l = (x, 0) := by rw [← ht, List.drop_eq_nil_of_le (by omega)]; rfl
        have HF := hide hfin
        clear hfin ht
        go_wp2
        go_ret2
        exact ⟨by rw [HF.out]; rfl, rfl⟩

theorem made_zero_on (k d : Nat) (h : Mo.made k = 0) : Mo.made (k + d) = 0 := by
  induction d with
  | zero => exact h
  | succ d ih => rw [← Nat.add_assoc, Mo.made_succ, ih]

set_option maxHeartbeats 800000 in
theorem rmadeAt_any (h : Int) (m : Nat) (w : World) (hh : h / 1000 = (m : Nat)) (h0 : 0 ≤ h) (h1 : h ≤ 2147483648) :
    Calls Tryd.prog 10 #[.int .i64 h] w fun e w' => e = .returned (.int .i64 (Mo.made m : Nat)) ∧ w = w' := by
  have hm : m ≤ 2147484 := by omega
  go_enter Tryd.func10, Tryd.ntmps10
  go_wp2
  go_loop [3, 4] (fun n i => ∃ (k g : Nat), k ≤ m ∧ i = .int .i64 k ∧ n = .int .i64 g ∧ g = Mo.made k) (fun _ i => m - (intOf i).toNat)
  case atStart => exact ⟨0, 1073741824, Nat.zero_le _, rfl, rfl, rfl⟩
  case round =>
    obtain ⟨k, g, hk, rfl, rfl, hg⟩ := hrel
    have hgb := Mo.made_bd k
    rw [← hg] at hgb
    have HG := hide hg
    clear hg
    by_cases h2 : k < m
    · by_cases h3 : 0 < g
      · go_wp2
        go_round
        case rel => exact ⟨k + 1, g / 2, by omega, by go_num, by go_num, by rw [Mo.made_succ, ← HG.out]⟩
        case measure => simp [intOf]; omega
      · obtain rfl : g = 0 := by omega
        have HF : Hid (Mo.made m = 0) := by
          have := made_zero_on k (m - k) HG.out.symm
          rw [show k + (m - k) = m by omega] at this
          exact this
        go_wp2
        go_ret
        exact ⟨by rw [HF.out]; rfl, rfl⟩
    · obtain rfl : k = m := by omega
      go_wp2
      go_ret
      exact ⟨by rw [← HG.out]; rfl, rfl⟩
end Go.Proofs.YtlcajpfalggheaaDoor
