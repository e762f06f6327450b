/- A coin by itself: what is wrong with it. -/
import Derived.Test.YtifoldkbmpopnaaDoorCnM
import Derived.Test.YtifoldkbmpopnaaDoorZTc
import Derived.Test.YtifoldkbmpopnaaDoorZRa
import Derived.Test.YtifoldkbmpopnaaDoorMoRef
namespace Go.Proofs.YtifoldkbmpopnaaDoor
open Go.RowKit
set_option linter.unusedVariables false
set_option linter.unusedSimpArgs false

theorem cn_money (n : Int) (w : World) : Calls Tryd.prog 18 #[.int .i64 n] w fun e w' => e = .returned (.bool (decide (Mo.chk n = 0))) ∧ w = w' := by
  by_cases h : Mo.ok n
  · rw [Mo.chk_good n h]
    obtain ⟨h0, h1⟩ := h
    go_enter Tryd.func18, Tryd.ntmps18
    go_wp2
    go_ret
    exact ⟨rfl, rfl⟩
  · rw [Mo.chk_bad n h]
    by_cases a : 0 ≤ n
    · have b : ¬ n ≤ 1125899906842624 := fun h1 => h ⟨a, h1⟩
      clear h
      go_enter Tryd.func18, Tryd.ntmps18
      go_wp2
      go_ret
      exact ⟨rfl, rfl⟩
    · clear h
      go_enter Tryd.func18, Tryd.ntmps18
      go_wp2
      go_ret
      exact ⟨rfl, rfl⟩
theorem cn_time (n : Int) (w : World) : Calls Tryd.prog 17 #[.int .i64 n] w fun e w' => e = .returned (.bool (decide (0 ≤ n ∧ n ≤ 1073741824))) ∧ w = w' := by
  by_cases a : 0 ≤ n
  · by_cases b : n ≤ 1073741824
    · have e : decide (0 ≤ n ∧ n ≤ 1073741824) = true := decide_eq_true ⟨a, b⟩
      rw [e]
      clear e
      go_enter Tryd.func17, Tryd.ntmps17
      go_wp2
      go_ret
      exact ⟨rfl, rfl⟩
    · have e : decide (0 ≤ n ∧ n ≤ 1073741824) = false := decide_eq_false (fun h => b h.2)
      rw [e]
      clear e
      go_enter Tryd.func17, Tryd.ntmps17
      go_wp2
      go_ret
      exact ⟨rfl, rfl⟩
  · have e : decide (0 ≤ n ∧ n ≤ 1073741824) = false := decide_eq_false (fun h => a h.1)
    rw [e]
    clear e
    go_enter Tryd.func17, Tryd.ntmps17
    go_wp2
    go_ret
    exact ⟨rfl, rfl⟩
theorem isHeight_any (n : Int) (w : World) : Calls Tryd.prog 32 #[.int .i64 n] w fun e w' => e = .returned (.bool (decide (0 ≤ n ∧ n ≤ 1073741824))) ∧ w = w' := by
  by_cases a : 0 ≤ n
  · by_cases b : n ≤ 1073741824
    · have e : decide (0 ≤ n ∧ n ≤ 1073741824) = true := decide_eq_true ⟨a, b⟩
      rw [e]
      clear e
      go_enter Tryd.func32, Tryd.ntmps32
      go_wp2
      go_ret
      exact ⟨rfl, rfl⟩
    · have e : decide (0 ≤ n ∧ n ≤ 1073741824) = false := decide_eq_false (fun h => b h.2)
      rw [e]
      clear e
      go_enter Tryd.func32, Tryd.ntmps32
      go_wp2
      go_ret
      exact ⟨rfl, rfl⟩
  · have e : decide (0 ≤ n ∧ n ≤ 1073741824) = false := decide_eq_false (fun h => a h.1)
    rw [e]
    clear e
    go_enter Tryd.func32, Tryd.ntmps32
    go_wp2
    go_ret
    exact ⟨rfl, rfl⟩
set_option maxRecDepth 100000 in
set_option maxHeartbeats 2000000 in
theorem checkCoin_any (x : CoinV) (w : World) (hx : CoinOk w x) :
    Calls Tryd.prog 21 #[.agg (coinCell x).toArray] w fun e w' => e = .returned (errV (Cn.coinF x.it)) ∧ Below w.heap.size w w' := by
  obtain ⟨tx, at', am, lv, L, ht⟩ := x
  obtain ⟨C, hC⟩ : ∃ C, C = coinCell ⟨tx, at', am, lv, L, ht⟩ := ⟨_, rfl⟩
  obtain ⟨g1, g2, g3, g4⟩ := coin_get hx.1
  simp only [← hC] at g1 g2 g3 g4
  obtain ⟨r, hr⟩ : ∃ r, r = Cn.coinF (CoinV.it ⟨tx, at', am, lv, L, ht⟩) := ⟨_, rfl⟩
  have HR : Hid (r = if at' < 0 ∨ 40 ≤ at' ∨ ¬ (0 ≤ ht ∧ ht ≤ 1073741824) then 2 else if Mo.chk am = 0 then Lk.check (opsOf L) else Mo.chk am) := hide (by rw [hr]; rfl)
  have HLK : Hid (∀ W, Below w.heap.size w W → Calls Tryd.prog 34 #[lv] W fun e w' => e = .returned (errV (Lk.check (opsOf L))) ∧ Below W.heap.size W w') := hide (fun W hW => check_any lv L W (hx.2.2.below hW))
  obtain ⟨la, ln, lc, hlv⟩ := hasOps_slice hx.2.2
  have HI0 := hide (Is.new w C 43)
  have HB0 := hide (below_alloc w (.cells C.toArray 43))
  have hc0 := HI0.out.cell 32
  have hc1 := HI0.out.cell 33
  have hc2 := HI0.out.cell 34
  have hc3 := HI0.out.cell 35
  rw [g1] at hc0
  rw [g2] at hc1
  rw [g3] at hc2
  rw [g4] at hc3
  dsimp only at hlv hc0 hc1 hc2 hc3
  subst hlv
  rw [← hr, ← hC]
  clear hr hC g1 g2 g3 g4 hx
  by_cases h1 : at' < 0
  · have hd1 : decide (at' < 0) = true := decide_eq_true h1
    have hrv : r = 2 := by rw [HR.out, if_pos (.inl h1)]
    rw [hrv, show errV 2 = .iface 28 (.int .i64 2) from rfl]
    clear hrv HR
    go_enter Tryd.func21, Tryd.ntmps21
    go_wp2
    go_ret
    exact ⟨rfl, HB0.out⟩
  have hd1 : decide (at' < 0) = false := decide_eq_false h1
  by_cases h2 : 40 ≤ at'
  · have hd2 : decide (at' ≥ 40) = true := decide_eq_true h2
    have hd3 : decide (40 ≤ at') = true := decide_eq_true h2
    have hrv : r = 2 := by rw [HR.out, if_pos (.inr (.inl h2))]
    rw [hrv, show errV 2 = .iface 28 (.int .i64 2) from rfl]
    clear hrv HR
    go_enter Tryd.func21, Tryd.ntmps21
    go_wp2
    go_ret
    exact ⟨rfl, HB0.out⟩
  have hd2 : decide (at' ≥ 40) = false := decide_eq_false h2
  have hd3 : decide (40 ≤ at') = false := decide_eq_false h2
  by_cases h3 : 0 ≤ ht ∧ ht ≤ 1073741824
  · have HIH : Hid (∀ W : World, Calls Tryd.prog 32 #[.int .i64 ht] W fun e w' => e = .returned (.bool true) ∧ W = w') := hide (fun W => by have := isHeight_any ht W; rw [decide_eq_true h3] at this; exact this)
    have HR2 : Hid (r = if Mo.chk am = 0 then Lk.check (opsOf L) else Mo.chk am) := hide (by rw [HR.out, if_neg (fun h => by rcases h with h | h | h; exact h1 h; exact h2 h; exact h h3)])
    clear h3 HR
    by_cases h4 : Mo.chk am = 0
    · have HMC : Hid (∀ W : World, Calls Tryd.prog 33 #[.int .i64 am] W fun e w' => e = .returned .nilIface ∧ W = w') := hide (fun W => by have := mcheck_any am W; rw [h4] at this; exact this)
      have hrv : r = Lk.check (opsOf L) := by rw [HR2.out, if_pos h4]
      have HRV := hide hrv
      clear hrv HR2 h4
      go_enter Tryd.func21, Tryd.ntmps21
      go_wp2_with (first
        | (go_at_call 32; refine (HIH.out _).mono ?_; rintro e w1 ⟨rfl, rfl⟩)
        | (go_at_call 33; refine (HMC.out _).mono ?_; rintro e w2 ⟨rfl, rfl⟩)
        | (go_at_call 34; refine (HLK.out _ HB0.out).mono ?_; rintro e w3 ⟨rfl, hb3⟩))
      go_ret
      exact ⟨by rw [HRV.out]; rfl, HB0.out.trans (hb3.mono HB0.out.size)⟩
    · have h5 : Mo.chk am = 2 := by
        unfold Mo.chk at h4 ⊢
        by_cases ho : Mo.ok am
        · rw [if_pos ho] at h4; exact absurd rfl h4
        · rw [if_neg ho]
      have HMC : Hid (∀ W : World, Calls Tryd.prog 33 #[.int .i64 am] W fun e w' => e = .returned (.iface 28 (.int .i64 2)) ∧ W = w') := hide (fun W => by have := mcheck_any am W; rw [h5] at this; exact this)
      have hrv : r = 2 := by rw [HR2.out, if_neg h4, h5]
      rw [hrv, show errV 2 = .iface 28 (.int .i64 2) from rfl]
      clear hrv HR2 h4 h5
      go_enter Tryd.func21, Tryd.ntmps21
      go_wp2_with (first
        | (go_at_call 32; refine (HIH.out _).mono ?_; rintro e w1 ⟨rfl, rfl⟩)
        | (go_at_call 33; refine (HMC.out _).mono ?_; rintro e w2 ⟨rfl, rfl⟩))
      go_ret
      exact ⟨rfl, HB0.out⟩
  · have HIH : Hid (∀ W : World, Calls Tryd.prog 32 #[.int .i64 ht] W fun e w' => e = .returned (.bool false) ∧ W = w') := hide (fun W => by have := isHeight_any ht W; rw [decide_eq_false h3] at this; exact this)
    have hrv : r = 2 := by rw [HR.out, if_pos (.inr (.inr h3))]
    rw [hrv, show errV 2 = .iface 28 (.int .i64 2) from rfl]
    clear hrv HR h3
    go_enter Tryd.func21, Tryd.ntmps21
    go_wp2_with (go_at_call 32; refine (HIH.out _).mono ?_; rintro e w1 ⟨rfl, rfl⟩)
    go_ret
    exact ⟨rfl, HB0.out⟩
end Go.Proofs.YtifoldkbmpopnaaDoor
