/- money.Sum: the sum of all, one by one. -/
import Derived.Test.YtpnkndagahchhaaDoorZTc
import Derived.Test.YtpnkndagahchhaaDoorHasI
namespace Go.Proofs.YtpnkndagahchhaaDoor
open Go.RowKit
set_option linter.unusedVariables false

theorem add_step (s n : Int) (l : List Int) (h0 : 0 ≤ s) (h1 : s ≤ 1125899906842624) : Mo.tot s (n :: l) = if (Mo.add s n).2 = 0 then Mo.tot (Mo.add s n).1 l else (0, (Mo.add s n).2) := by
  rw [Mo.tot_cons_of]
  unfold Mo.add
  by_cases hn : Mo.ok n
  · rw [if_pos hn, if_pos (show Mo.ok s ∧ Mo.ok n from ⟨⟨h0, h1⟩, hn⟩)]
    by_cases hs : s + n ≤ 1125899906842624
    · rw [if_pos hs, if_pos hs]; rfl
    · rw [if_neg hs, if_neg hs]; rfl
  · rw [if_neg hn, if_neg (show ¬ (Mo.ok s ∧ Mo.ok n) from fun h => hn h.2)]; rfl
theorem add_bd (s n : Int) : 0 ≤ (Mo.add s n).1 ∧ (Mo.add s n).1 ≤ 1125899906842624 := by
  unfold Mo.add
  split
  · rename_i h
    split
    · have := h.1.1; have := h.2.1; simp only; omega
    · decide
  · decide
theorem add_bad (s n : Int) (h : (Mo.add s n).2 ≠ 0) : (Mo.add s n).1 = 0 ∧ ((Mo.add s n).2 = 2 ∨ (Mo.add s n).2 = 4) := by
  unfold Mo.add at h ⊢
  split
  · rename_i h1
    rw [if_pos h1] at h
    split
    · rename_i h2; rw [if_pos h2] at h; exact absurd rfl h
    · exact ⟨rfl, .inr rfl⟩
  · exact ⟨rfl, .inl rfl⟩

set_option maxHeartbeats 800000 in
theorem msum_any (v : Value) (l : List Int) (w : World) (h : HasI w v l) :
    Calls Tryd.prog 37 #[v] w fun e w' => e = .returned (.tuple #[.int .i64 (Mo.tot 0 l).1, errV (Mo.tot 0 l).2]) ∧ w = w' := by
  rcases h with ⟨a, cap, rfl, rfl, _⟩ | ⟨b, off, cap, rfl, h0, hm, hc⟩
  · go_enter Tryd.func37, Tryd.ntmps37
    go_wp2
    refine wp_loop_rounds 1 ?_
    rw [rounds_succ]
    go_wp2
    go_ret2
    exact ⟨rfl, rfl⟩
  · unfold maxLen at hm
    have HCC := hide hc
    clear hc
    go_enter Tryd.func37, Tryd.ntmps37
    go_wp2
    go_loop [4, 11] (fun s i => ∃ (k : Nat) (x : Int), k ≤ l.length ∧ i = .int .i64 k ∧ s = .int .i64 x ∧ 0 ≤ x ∧ x ≤ 1125899906842624 ∧ Mo.tot x (l.drop k) = Mo.tot 0 l) (fun _ i => l.length - (intOf i).toNat)
    case atStart => exact ⟨0, 0, Nat.zero_le _, rfl, rfl, by decide, by decide, by simp⟩
    case round =>
      obtain ⟨k, x, hk, rfl, rfl, hx0, hx1, ht⟩ := hrel
      by_cases hlt : k < l.length
      · have hck := HCC.out k hlt
        have e : l.drop k = l.getD k 0 :: l.drop (k + 1) := by
          rw [List.drop_eq_getElem_cons hlt]; simp [List.getD, List.getElem?_eq_getElem hlt]
        rw [e, add_step _ _ _ hx0 hx1] at ht
        have hb := add_bd x (l.getD k 0)
        have hbad := add_bad x (l.getD k 0)
        have hc1 := madd_any x (l.getD k 0) w
        clear e
        generalize l.getD k 0 = n at hck ht hb hbad hc1
        generalize (Mo.add x n).1 = y at ht hb hbad hc1
        generalize (Mo.add x n).2 = c at ht hbad hc1
        have HT := hide ht
        have HC := hide hc1
        clear hc1 ht
        by_cases hz : c = 0
        · subst hz
          have HT2 : Hid (Mo.tot y (l.drop (k + 1)) = Mo.tot 0 l) := by have := HT.out; rw [if_pos rfl] at this; exact this
          clear HT hbad
          go_wp2_with fail
          refine HC.out.mono ?_
          rintro e w1 ⟨rfl, rfl⟩
          rw [errV_nil]
          go_wp2
          go_round
          case rel => exact ⟨k + 1, y, by omega, by go_num, rfl, hb.1, hb.2, HT2.out⟩
          case measure => simp [intOf]; omega
        · obtain ⟨rfl, h24⟩ := hbad hz
          have HT2 : Hid ((0, c) = Mo.tot 0 l) := by have := HT.out; rw [if_neg hz] at this; exact this
          have hE : errV c = .iface 56 (.int .i64 c) := by unfold errV; rw [if_neg hz]
          clear HT hbad h24 hz
          go_wp2_with fail
          refine HC.out.mono ?_
          rintro e w1 ⟨rfl, rfl⟩
          rw [hE]
          go_wp2
          go_ret2
          exact ⟨by rw [← HT2.out, hE]; rfl, rfl⟩
      · have hfin : Mo.tot 0 l = (x, 0) := by rw [← ht, List.drop_eq_nil_of_le (by omega)]; rfl
        have HF := hide hfin
        clear hfin ht
        go_wp2
        go_ret2
        exact ⟨by rw [HF.out]; rfl, rfl⟩
end Go.Proofs.YtpnkndagahchhaaDoor
