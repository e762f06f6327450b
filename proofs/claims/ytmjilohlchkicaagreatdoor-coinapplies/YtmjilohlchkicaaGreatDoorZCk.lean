/- The texts CnK, CnChk, CnAt, CnCl, CnRsf, CnSum, CnFd, one behind the other. -/
import Derived.Test.YtmjilohlchkicaaGreatDoorZCm
import Derived.Test.YtmjilohlchkicaaGreatDoorZTc
import Derived.Test.YtmjilohlchkicaaGreatDoorZRa
import Derived.Test.YtmjilohlchkicaaGreatDoorZMo
import Derived.Test.YtmjilohlchkicaaGreatDoorZTs
/- A coin by itself: what is wrong with it. -/
namespace Go.Proofs.YtmjilohlchkicaaGreatDoor
open Go.RowKit
set_option linter.unusedVariables false
set_option linter.unusedSimpArgs false

theorem cn_money (n : Int) (w : World) : Calls Tryz.prog 28 #[.int .i64 n] w fun e w' => e = .returned (.bool (decide (Mo.chk n = 0))) ∧ w = w' := by
  by_cases h : Mo.ok n
  · rw [Mo.chk_good n h]
    obtain ⟨h0, h1⟩ := h
    go_enter Tryz.func28, Tryz.ntmps28
    go_wp2
    go_ret
    exact ⟨rfl, rfl⟩
  · rw [Mo.chk_bad n h]
    by_cases a : 0 ≤ n
    · have b : ¬ n ≤ 1125899906842624 := fun h1 => h ⟨a, h1⟩
      clear h
      go_enter Tryz.func28, Tryz.ntmps28
      go_wp2
      go_ret
      exact ⟨rfl, rfl⟩
    · clear h
      go_enter Tryz.func28, Tryz.ntmps28
      go_wp2
      go_ret
      exact ⟨rfl, rfl⟩
theorem cn_time (n : Int) (w : World) : Calls Tryz.prog 11 #[.int .i64 n] w fun e w' => e = .returned (.bool (decide (0 ≤ n ∧ n ≤ 1073741824))) ∧ w = w' := by
  by_cases a : 0 ≤ n
  · by_cases b : n ≤ 1073741824
    · have e : decide (0 ≤ n ∧ n ≤ 1073741824) = true := decide_eq_true ⟨a, b⟩
      rw [e]
      clear e
      go_enter Tryz.func11, Tryz.ntmps11
      go_wp2
      go_ret
      exact ⟨rfl, rfl⟩
    · have e : decide (0 ≤ n ∧ n ≤ 1073741824) = false := decide_eq_false (fun h => b h.2)
      rw [e]
      clear e
      go_enter Tryz.func11, Tryz.ntmps11
      go_wp2
      go_ret
      exact ⟨rfl, rfl⟩
  · have e : decide (0 ≤ n ∧ n ≤ 1073741824) = false := decide_eq_false (fun h => a h.1)
    rw [e]
    clear e
    go_enter Tryz.func11, Tryz.ntmps11
    go_wp2
    go_ret
    exact ⟨rfl, rfl⟩
theorem isHeight_any (n : Int) (w : World) : Calls Tryz.prog 19 #[.int .i64 n] w fun e w' => e = .returned (.bool (decide (0 ≤ n ∧ n ≤ 1073741824))) ∧ w = w' := by
  by_cases a : 0 ≤ n
  · by_cases b : n ≤ 1073741824
    · have e : decide (0 ≤ n ∧ n ≤ 1073741824) = true := decide_eq_true ⟨a, b⟩
      rw [e]
      clear e
      go_enter Tryz.func19, Tryz.ntmps19
      go_wp2
      go_ret
      exact ⟨rfl, rfl⟩
    · have e : decide (0 ≤ n ∧ n ≤ 1073741824) = false := decide_eq_false (fun h => b h.2)
      rw [e]
      clear e
      go_enter Tryz.func19, Tryz.ntmps19
      go_wp2
      go_ret
      exact ⟨rfl, rfl⟩
  · have e : decide (0 ≤ n ∧ n ≤ 1073741824) = false := decide_eq_false (fun h => a h.1)
    rw [e]
    clear e
    go_enter Tryz.func19, Tryz.ntmps19
    go_wp2
    go_ret
    exact ⟨rfl, rfl⟩
set_option maxRecDepth 100000 in
set_option maxHeartbeats 2000000 in
theorem checkCoin_any (x : CoinV) (w : World) (hx : CoinOk w x) :
    Calls Tryz.prog 34 #[.agg (coinCell x).toArray] w fun e w' => e = .returned (errV (Cn.coinF x.it)) ∧ Below w.heap.size w w' := by
  obtain ⟨tx, at', am, lv, L, ht⟩ := x
  obtain ⟨C, hC⟩ : ∃ C, C = coinCell ⟨tx, at', am, lv, L, ht⟩ := ⟨_, rfl⟩
  obtain ⟨g1, g2, g3, g4⟩ := coin_get hx.1
  simp only [← hC] at g1 g2 g3 g4
  obtain ⟨r, hr⟩ : ∃ r, r = Cn.coinF (CoinV.it ⟨tx, at', am, lv, L, ht⟩) := ⟨_, rfl⟩
  have HR : Hid (r = if at' < 0 ∨ 40 ≤ at' ∨ ¬ (0 ≤ ht ∧ ht ≤ 1073741824) then 2 else if Mo.chk am = 0 then Lk.check (opsOf L) else Mo.chk am) := hide (by rw [hr]; rfl)
  have HLK : Hid (∀ W, Below w.heap.size w W → Calls Tryz.prog 54 #[lv] W fun e w' => e = .returned (errV (Lk.check (opsOf L))) ∧ Below W.heap.size W w') := hide (fun W hW => check_any lv L W (hx.2.2.below hW))
  obtain ⟨la, ln, lc, hlv⟩ := hasOps_slice hx.2.2
  have HI0 := hide (Is.new w C 54)
  have HB0 := hide (below_alloc w (.cells C.toArray 54))
  have hc0 := HI0.out.cell 32
  have hc1 := HI0.out.cell 33
  have hc2 := HI0.out.cell 34
  have hc3 := HI0.out.cell 35
  rw [g1] at hc0
  rw [g2] at hc1
  rw [g3] at hc2
  rw [g4] at hc3
  dsimp only at hlv hc0 hc1 hc2 hc3
  subst hlv
  rw [← hr, ← hC]
  clear hr hC g1 g2 g3 g4 hx
  by_cases h1 : at' < 0
  · have hd1 : decide (at' < 0) = true := decide_eq_true h1
    have hrv : r = 2 := by rw [HR.out, if_pos (.inl h1)]
    rw [hrv, show errV 2 = .iface 27 (.int .i64 2) from rfl]
    clear hrv HR
    go_enter Tryz.func34, Tryz.ntmps34
    go_wp2
    go_ret
    exact ⟨rfl, HB0.out⟩
  have hd1 : decide (at' < 0) = false := decide_eq_false h1
  by_cases h2 : 40 ≤ at'
  · have hd2 : decide (at' ≥ 40) = true := decide_eq_true h2
    have hd3 : decide (40 ≤ at') = true := decide_eq_true h2
    have hrv : r = 2 := by rw [HR.out, if_pos (.inr (.inl h2))]
    rw [hrv, show errV 2 = .iface 27 (.int .i64 2) from rfl]
    clear hrv HR
    go_enter Tryz.func34, Tryz.ntmps34
    go_wp2
    go_ret
    exact ⟨rfl, HB0.out⟩
  have hd2 : decide (at' ≥ 40) = false := decide_eq_false h2
  have hd3 : decide (40 ≤ at') = false := decide_eq_false h2
  by_cases h3 : 0 ≤ ht ∧ ht ≤ 1073741824
  · have HIH : Hid (∀ W : World, Calls Tryz.prog 19 #[.int .i64 ht] W fun e w' => e = .returned (.bool true) ∧ W = w') := hide (fun W => by have := isHeight_any ht W; rw [decide_eq_true h3] at this; exact this)
    have HR2 : Hid (r = if Mo.chk am = 0 then Lk.check (opsOf L) else Mo.chk am) := hide (by rw [HR.out, if_neg (fun h => by rcases h with h | h | h; exact h1 h; exact h2 h; exact h h3)])
    clear h3 HR
    by_cases h4 : Mo.chk am = 0
    · have HMC : Hid (∀ W : World, Calls Tryz.prog 53 #[.int .i64 am] W fun e w' => e = .returned .nilIface ∧ W = w') := hide (fun W => by have := mcheck_any am W; rw [h4] at this; exact this)
      have hrv : r = Lk.check (opsOf L) := by rw [HR2.out, if_pos h4]
      have HRV := hide hrv
      clear hrv HR2 h4
      go_enter Tryz.func34, Tryz.ntmps34
      go_wp2_with (first
        | (go_at_call 19; refine (HIH.out _).mono ?_; rintro e w1 ⟨rfl, rfl⟩)
        | (go_at_call 53; refine (HMC.out _).mono ?_; rintro e w2 ⟨rfl, rfl⟩)
        | (go_at_call 54; refine (HLK.out _ HB0.out).mono ?_; rintro e w3 ⟨rfl, hb3⟩))
      go_ret
      exact ⟨by rw [HRV.out]; rfl, HB0.out.trans (hb3.mono HB0.out.size)⟩
    · have h5 : Mo.chk am = 2 := by
        unfold Mo.chk at h4 ⊢
        by_cases ho : Mo.ok am
        · rw [if_pos ho] at h4; exact absurd rfl h4
        · rw [if_neg ho]
      have HMC : Hid (∀ W : World, Calls Tryz.prog 53 #[.int .i64 am] W fun e w' => e = .returned (.iface 27 (.int .i64 2)) ∧ W = w') := hide (fun W => by have := mcheck_any am W; rw [h5] at this; exact this)
      have hrv : r = 2 := by rw [HR2.out, if_neg h4, h5]
      rw [hrv, show errV 2 = .iface 27 (.int .i64 2) from rfl]
      clear hrv HR2 h4 h5
      go_enter Tryz.func34, Tryz.ntmps34
      go_wp2_with (first
        | (go_at_call 19; refine (HIH.out _).mono ?_; rintro e w1 ⟨rfl, rfl⟩)
        | (go_at_call 53; refine (HMC.out _).mono ?_; rintro e w2 ⟨rfl, rfl⟩))
      go_ret
      exact ⟨rfl, HB0.out⟩
  · have HIH : Hid (∀ W : World, Calls Tryz.prog 19 #[.int .i64 ht] W fun e w' => e = .returned (.bool false) ∧ W = w') := hide (fun W => by have := isHeight_any ht W; rw [decide_eq_false h3] at this; exact this)
    have hrv : r = 2 := by rw [HR.out, if_pos (.inr (.inr h3))]
    rw [hrv, show errV 2 = .iface 27 (.int .i64 2) from rfl]
    clear hrv HR h3
    go_enter Tryz.func34, Tryz.ntmps34
    go_wp2_with (go_at_call 19; refine (HIH.out _).mono ?_; rintro e w1 ⟨rfl, rfl⟩)
    go_ret
    exact ⟨rfl, HB0.out⟩
end Go.Proofs.YtmjilohlchkicaaGreatDoor

/- What is wrong with a set. -/
namespace Go.Proofs.YtmjilohlchkicaaGreatDoor
open Go.RowKit
set_option linter.unusedVariables false
set_option linter.unusedSimpArgs false

theorem ck_new {w : World} {c c' : List Value} {t : TypeId} : Below w.heap.size w ((w.alloc (.cells c.toArray t)).setRow w.heap.size c'.toArray) :=
  (below_alloc w _).trans ⟨rfl, rfl, rfl, by simp [World.setRow], fun k hk => setRow_other _ _ k _ (by omega)⟩
/-- A coin's box, and what is below. -/
structure CkS (w : World) (g : Nat) (C : List Value) (W : World) : Prop where
  below : Below w.heap.size w W
  box : Is W g C 54
theorem CkS.drew {w : World} {g : Nat} {C : List Value} {W : World} (h : CkS w g C W) : CkS w g C W.drew := ⟨h.below.drew, h.box.drew⟩
theorem CkS.call {w : World} {g : Nat} {C : List Value} {W W' : World} (h : CkS w g C W) (hb : Below W.heap.size W W') : CkS w g C W' := ⟨h.below.trans (hb.mono h.below.size), h.box.below hb h.box.lt⟩
/-- The place of a coin ahead, and of that in the box. -/
theorem ck_keep {w W W' : World} {b o g : Nat} {PJ PK C : List Value} (h : W.rangeAt b o PJ ∧ W.rangeAt g 0 PK ∧ Hid (CkS w g C W ∧ b < W.heap.size)) (hb : Below W.heap.size W W') : W'.rangeAt b o PJ ∧ W'.rangeAt g 0 PK ∧ Hid (CkS w g C W' ∧ b < W'.heap.size) := by
  obtain ⟨h1, h2, h3⟩ := h
  obtain ⟨h4, h5⟩ := h3.out
  exact ⟨range_keep h1 hb h5, range_keep h2 hb h4.box.lt, hide ⟨h4.call hb, Nat.lt_of_lt_of_le h5 hb.size⟩⟩
theorem place_range {W : World} {g : Nat} {x : CoinV} (h : Is W g (coinCell x) 54) : W.rangeAt g 0 (vals x.tx ++ [.int .i64 x.at']) := by
  have := is_range h
  rw [coin_parts] at this
  exact (tx_range_part this).1
set_option maxRecDepth 100000 in
set_option maxHeartbeats 4000000 in
theorem ccheck_some (R : List CoinV) (b off cap : Nat) (w : World) (h0 : 0 < R.length) (hm : R.length ≤ 1000) (h1 : R.length ≤ cap) (h : ∀ x ∈ R, CoinOk w x) (hb : b < w.heap.size) (hc : w.rangeAt b off (coinCells R)) :
    Calls Tryz.prog 17 #[.slice (some ⟨b, off, none⟩) R.length cap] w fun e w' => e = .returned (errV (Cn.setF (R.map CoinV.it))) ∧ Below w.heap.size w w' := by
  have HOK : Hid (∀ W, Below w.heap.size w W → CoinOk W R[0]) := hide (fun W hW => (h _ (List.getElem_mem h0)).below hW)
  clear HOK
  obtain ⟨r, hr⟩ : ∃ r, r = Cn.setG none (R.map CoinV.it) := ⟨_, rfl⟩
  have e0 : Cn.setF (R.map CoinV.it) = r := by unfold Cn.setF; rw [if_neg (by rw [List.length_map]; omega), hr]
  rw [e0]
  have HOKA : Hid (∀ k (hk : k < R.length) W, Below w.heap.size w W → CoinOk W R[k]) := hide (fun k hk W hW => (h _ (List.getElem_mem hk)).below hW)
  have HRNG : Hid (∀ k (hk : k < R.length) W, Below w.heap.size w W → W.rangeAt b (off + k * 36) (coinCell R[k])) := hide (fun k hk W hW => range_keep (range_at hc (fun x hx => coinCell_length x (h x hx).1) k hk) hW hb)
  have HSLV : Hid (∀ k (hk : k < R.length), ∃ a n c, R[k].lv = .slice a n c) := hide (fun k hk => hasOps_slice (h _ (List.getElem_mem hk)).2.2)
  have HL32 : Hid (∀ k (hk : k < R.length), R[k].tx.length = 32 ∧ Sz.Byt R[k].tx) := hide (fun k hk => ⟨(h _ (List.getElem_mem hk)).1, (h _ (List.getElem_mem hk)).2.1⟩)
  have HBLW := hide hb
  have HR0 : Hid (r = Cn.setG none ((R.map CoinV.it).drop 0)) := hide (by rw [hr]; rfl)
  have hzc := zero_coin
  obtain ⟨Z, hZ⟩ : ∃ Z, Z = vals (List.replicate 32 0) ++ ([.int .i64 0, .int .i64 0, .slice none 0 0, .int .i64 0] : List Value) := ⟨_, rfl⟩
  rw [← hZ] at hzc
  have hZl : Z.length = 36 := by rw [hZ]; simp [vals]
  have hZp : ¬ Z = [] := by intro h; rw [h] at hZl; cases hZl
  have HZL := hide hZl
  obtain ⟨n, hn⟩ : ∃ n, n = R.length := ⟨_, rfl⟩
  have HN := hide hn
  rw [← hn] at hm h1 h0 ⊢
  clear h hb hc hr e0 hZ hZl hn
  go_enter Tryz.func17, Tryz.ntmps17
  go_wp2
  go_loopw [12] (fun i wr => ∃ k : Nat, k ≤ n ∧ i = .int .i64 k ∧ ∃ pv : Option (List Int × Int), r = Cn.setG pv ((R.map CoinV.it).drop k) ∧ (True → pv = (if hk : 0 < k ∧ k - 1 < R.length then some (Cn.place (R[k - 1]'hk.2).it) else none) ∧ Below w.heap.size w wr)) (fun i _ => n - (intOf i).toNat)
  case atStart => exact ⟨0, by omega, rfl, none, HR0.out, fun _ => ⟨rfl, Below.refl _ _⟩⟩
  case round =>
    obtain ⟨k, hk, rfl, pv, hrg, hpb⟩ := hrel
    obtain ⟨hpv, hbel⟩ := hpb trivial
    have HRG := hide hrg
    have HPB := hide hpv
    have HBEL := hide hbel
    clear hrg hpb hpv hbel
    by_cases hltn : k < n
    · have hki : (k : Int) < (n : Int) := by omega
      have hlt : k < R.length := by rw [← HN.out]; exact hltn
      have HOK := hide (HOKA.out k hlt)
      obtain ⟨C, hC⟩ : ∃ C, C = coinCell R[k] := ⟨_, rfl⟩
      have HCE := hide hC
      have hCl : C.length = 36 := by rw [hC]; exact coinCell_length _ (HL32.out k hlt).1
      have hC1 : ∀ v ∈ C, v.oneCell' = true := by rw [hC]; exact coin_ones _ (HSLV.out k hlt)
      have HCLN := hide hCl
      have HC1 := hide hC1
      have HRC : Hid (wr.rangeAt b (off + k * 36) C) := hide (by rw [hC]; exact HRNG.out k hlt wr HBEL.out)
      have HBWR : Hid (b < wr.heap.size) := hide (Nat.lt_of_lt_of_le HBLW.out HBEL.out.size)
      clear hC hCl hC1
      by_cases hk0 : k = 0
      · have HPV0 : Hid (pv = none) := hide (by rw [HPB.out, dif_neg (by omega)])
        have hdk : decide ((k : Int) > 0) = false := decide_eq_false (by omega)
        have hdk2 : decide (0 < (k : Int)) = false := decide_eq_false (by omega)
        have hnk : ¬ 0 < (k : Int) := by omega
        have hdk3 : decide (0 < k) = false := decide_eq_false (by omega)
        clear hk0
        go_wp2_with (first
          | (refine wpList_load_part 54 C b (off + k * 36) rfl (.tmp 15) rfl rfl HRC.out Tryz.underlying54 rfl size_coin HCLN.out ?_)
          | (refine wpList_store_any3 54 Z C wr.heap.size rfl (.tmp 4) (.tmp 16) rfl rfl rfl rfl (Is.new wr _ _) size_coin HZL.out HCLN.out HC1.out ?_; intro w3 hi3 hw3; have hb3 : Below wr.heap.size wr w3 := (by rw [hw3]; exact ck_new); have HC3 : Hid (CkS w wr.heap.size C w3) := hide ⟨HBEL.out.trans (hb3.mono HBEL.out.size), hi3⟩; clear hi3 hw3 hb3))
        refine wp_region_held_drew (S := fun W : World => Hid (CkS w wr.heap.size C W)) (by kernel_rfl) ?_ (fun hHeld0 => ?_)
        · exact hide HC3.out.drew
        refine wpAnyH_take (i := 0) (v := ?_) rfl (by kernel_rfl) (by kernel_rfl) (by kernel_rfl) (fun _ _ _ h => h) (Or.inl ⟨by rfl, ?_⟩) hHeld0 ?_
        rotate_left
        · (intro w hSw; (try dsimp only at hSw); go_simp <;> (try with_reducible rfl))
        simp only [Act.put, List.getElem_toArray, List.getElem_cons_zero, List.getElem_cons_succ, List.setIfInBounds_toArray, List.set_cons_zero, List.set_cons_succ]
        refine wpAnyH_take (i := 1) (v := ?_) rfl (by kernel_rfl) (by kernel_rfl) (by kernel_rfl) (fun _ _ _ h => h) (Or.inl ⟨by rfl, ?_⟩) hHeld0 ?_
        rotate_left
        · (intro w hSw; (try dsimp only at hSw); go_simp <;> (try with_reducible rfl))
        simp only [Act.put, List.getElem_toArray, List.getElem_cons_zero, List.getElem_cons_succ, List.setIfInBounds_toArray, List.set_cons_zero, List.set_cons_succ]
        refine wpAnyH_take (i := 2) (v := ?_) rfl (by kernel_rfl) (by kernel_rfl) (by kernel_rfl) (fun _ _ _ h => h) (Or.inl ⟨by rfl, ?_⟩) hHeld0 ?_
        rotate_left
        · (intro w hSw; (try dsimp only at hSw); go_simp <;> (try with_reducible rfl))
        simp only [Act.put, List.getElem_toArray, List.getElem_cons_zero, List.getElem_cons_succ, List.setIfInBounds_toArray, List.set_cons_zero, List.set_cons_succ]
        refine wpAnyH_take (i := 3) (v := undef) rfl (by kernel_rfl) (by kernel_rfl) (by kernel_rfl) (fun _ _ _ h => h) (Or.inr ⟨by rfl, rfl⟩) hHeld0 ?_
        simp only [Act.put, List.getElem_toArray, List.getElem_cons_zero, List.getElem_cons_succ, List.setIfInBounds_toArray, List.set_cons_zero, List.set_cons_succ]
        refine wpAnyH_take (i := 4) (v := undef) rfl (by kernel_rfl) (by kernel_rfl) (by kernel_rfl) (fun _ _ _ h => h) (Or.inr ⟨by rfl, rfl⟩) hHeld0 ?_
        simp only [Act.put, List.getElem_toArray, List.getElem_cons_zero, List.getElem_cons_succ, List.setIfInBounds_toArray, List.set_cons_zero, List.set_cons_succ]
        refine wpAnyH_take (i := 5) (v := undef) rfl (by kernel_rfl) (by kernel_rfl) (by kernel_rfl) (fun _ _ _ h => h) (Or.inr ⟨by rfl, rfl⟩) hHeld0 ?_
        simp only [Act.put, List.getElem_toArray, List.getElem_cons_zero, List.getElem_cons_succ, List.setIfInBounds_toArray, List.set_cons_zero, List.set_cons_succ]
        refine wpAnyH_take (i := 6) (v := undef) rfl (by kernel_rfl) (by kernel_rfl) (by kernel_rfl) (fun _ _ _ h => h) (Or.inr ⟨by rfl, rfl⟩) hHeld0 ?_
        simp only [Act.put, List.getElem_toArray, List.getElem_cons_zero, List.getElem_cons_succ, List.setIfInBounds_toArray, List.set_cons_zero, List.set_cons_succ]
        refine wpAnyH_take (i := 7) (v := undef) rfl (by kernel_rfl) (by kernel_rfl) (by kernel_rfl) (fun _ _ _ h => h) (Or.inr ⟨by rfl, rfl⟩) hHeld0 ?_
        simp only [Act.put, List.getElem_toArray, List.getElem_cons_zero, List.getElem_cons_succ, List.setIfInBounds_toArray, List.set_cons_zero, List.set_cons_succ]
        refine wpAnyH_take (i := 8) (v := undef) rfl (by kernel_rfl) (by kernel_rfl) (by kernel_rfl) (fun _ _ _ h => h) (Or.inr ⟨by rfl, rfl⟩) hHeld0 ?_
        simp only [Act.put, List.getElem_toArray, List.getElem_cons_zero, List.getElem_cons_succ, List.setIfInBounds_toArray, List.set_cons_zero, List.set_cons_succ]
        refine wpAnyH_take (i := 9) (v := undef) rfl (by kernel_rfl) (by kernel_rfl) (by kernel_rfl) (fun _ _ _ h => h) (Or.inr ⟨by rfl, rfl⟩) hHeld0 ?_
        simp only [Act.put, List.getElem_toArray, List.getElem_cons_zero, List.getElem_cons_succ, List.setIfInBounds_toArray, List.set_cons_zero, List.set_cons_succ]
        refine wpAnyH_take (i := 10) (v := undef) rfl (by kernel_rfl) (by kernel_rfl) (by kernel_rfl) (fun _ _ _ h => h) (Or.inr ⟨by rfl, rfl⟩) hHeld0 ?_
        simp only [Act.put, List.getElem_toArray, List.getElem_cons_zero, List.getElem_cons_succ, List.setIfInBounds_toArray, List.set_cons_zero, List.set_cons_succ]
        refine wpAnyH_take (i := 11) (v := undef) rfl (by kernel_rfl) (by kernel_rfl) (by kernel_rfl) (fun _ _ _ h => h) (Or.inr ⟨by rfl, rfl⟩) hHeld0 ?_
        simp only [Act.put, List.getElem_toArray, List.getElem_cons_zero, List.getElem_cons_succ, List.setIfInBounds_toArray, List.set_cons_zero, List.set_cons_succ]
        refine wpAnyH_take (i := 12) (v := undef) rfl (by kernel_rfl) (by kernel_rfl) (by kernel_rfl) (fun _ _ _ h => h) (Or.inr ⟨by rfl, rfl⟩) hHeld0 ?_
        simp only [Act.put, List.getElem_toArray, List.getElem_cons_zero, List.getElem_cons_succ, List.setIfInBounds_toArray, List.set_cons_zero, List.set_cons_succ]
        refine wpAnyH_take (i := 13) (v := ?_) rfl (by kernel_rfl) (by kernel_rfl) (by kernel_rfl) (fun _ _ _ h => h) (Or.inl ⟨by rfl, ?_⟩) hHeld0 ?_
        rotate_left
        · (intro w hSw; (try dsimp only at hSw); go_simp <;> (try with_reducible rfl))
        simp only [Act.put, List.getElem_toArray, List.getElem_cons_zero, List.getElem_cons_succ, List.setIfInBounds_toArray, List.set_cons_zero, List.set_cons_succ]
        refine wpAnyH_done (by kernel_rfl) ?_ _
        have HCL := hide hHeld0.out
        clear hHeld0
        have HBH : Hid (Cn.behind pv R[k].it) := hide (fun z hz => by rw [HPV0.out] at hz; cases hz)
        by_cases hck : Cn.coinF R[k].it = 0
        · have HNX : Hid (r = Cn.setG (some (Cn.place R[k].it)) ((R.map CoinV.it).drop (k + 1))) := hide (by rw [HRG.out, Cn.setG_next (p := pv) (l := R.map CoinV.it) (by simpa using hlt) (by simpa using HBH.out) (by simpa using hck)]; simp)
          have HCC := hide (checkCoin_any R[k] _ (HOK.out _ HCL.out.below))
          rw [hck, ← HCE.out, show errV 0 = .nilIface from rfl] at HCC
          clear hck
          go_wp2_with (first
            | (refine wpList_load_part 54 C wr.heap.size 0 rfl (.tmp 4) rfl rfl (is_range HCL.out.box) Tryz.underlying54 rfl size_coin HCLN.out ?_)
            | (go_at_call 34; refine HCC.out.mono ?_; rintro e W2 ⟨rfl, hb2⟩))
          have HCM2 := hide (HCL.out.call hb2)
          clear hb2
          go_roundw
          case rel => exact ⟨k + 1, by omega, by go_num, some (Cn.place R[k].it), HNX.out, fun _ => ⟨by rw [dif_pos ⟨by omega, by simpa using hlt⟩]; rfl, HCM2.out.below⟩⟩
          case measure => simp [intOf]; omega
        · have HNX : Hid (r = Cn.coinF R[k].it) := hide (by rw [HRG.out, Cn.setG_bad (p := pv) (l := R.map CoinV.it) (by simpa using hlt) (by simpa using HBH.out) (by simpa using hck)]; simp)
          have HCC := hide (checkCoin_any R[k] _ (HOK.out _ HCL.out.below))
          rw [← HCE.out] at HCC
          obtain ⟨cc, hcc⟩ : ∃ c, c = Cn.coinF R[k].it := ⟨_, rfl⟩
          rw [← hcc] at HCC HNX hck
          rw [show errV cc = .iface 27 (.int .i64 cc) from by unfold errV; rw [if_neg hck]] at HCC
          have HNZ := hide hck
          clear hck hcc
          go_wp2_with (first
            | (refine wpList_load_part 54 C wr.heap.size 0 rfl (.tmp 4) rfl rfl (is_range HCL.out.box) Tryz.underlying54 rfl size_coin HCLN.out ?_)
            | (go_at_call 34; refine HCC.out.mono ?_; rintro e W2 ⟨rfl, hb2⟩))
          go_ret
          exact ⟨by rw [HNX.out]; unfold errV; rw [if_neg HNZ.out]; rfl, (HCL.out.call hb2).below⟩
      · have hk1 : k - 1 < R.length := by omega
        have HPV : Hid (pv = some (Cn.place (R[k - 1]'hk1).it)) := hide (by rw [HPB.out, dif_pos ⟨by omega, hk1⟩])
        have hdk : decide ((k : Int) > 0) = true := decide_eq_true (by omega)
        have hdk2 : decide (0 < (k : Int)) = true := decide_eq_true (by omega)
        have hpk : 0 < (k : Int) := by omega
        have hdk3 : decide (0 < k) = true := decide_eq_true (by omega)
        have hpkn : 0 < k := by omega
        have hk1i : (k : Int) - 1 < (n : Int) := by omega
        have hk1t : ((k : Int) - 1).toNat = k - 1 := by omega
        have hk10 : (0 : Int) ≤ (k : Int) - 1 := by omega
        have hk11 : (1 : Int) ≤ (k : Int) := by omega
        have hk12 : 1 ≤ k := by omega
        have hwk : IntKind.i64.wrap ((k : Int) - 1) = (k : Int) - 1 := by simp [IntKind.wrap, IntKind.bits, IntKind.signed]; omega
        obtain ⟨PJ, hPJ⟩ : ∃ P, P = vals (R[k - 1]'hk1).tx ++ [Value.int .i64 (R[k - 1]'hk1).at'] := ⟨_, rfl⟩
        obtain ⟨PK, hPK⟩ : ∃ P, P = vals R[k].tx ++ [Value.int .i64 R[k].at'] := ⟨_, rfl⟩
        have hszj : (Tryz.prog.info? 46).map (·.size) = some PJ.length := by rw [hPJ, List.length_append, vals_length, (HL32.out _ hk1).1]; exact size_placeC
        have hszk : (Tryz.prog.info? 46).map (·.size) = some PK.length := by rw [hPK, List.length_append, vals_length, (HL32.out _ hlt).1]; exact size_placeC
        obtain ⟨q, hq⟩ : ∃ q, q = Cn.pl (Cn.place (R[k - 1]'hk1).it) (Cn.place R[k].it) := ⟨_, rfl⟩
        have HQ := hide hq
        have HCM : Hid (∀ W : World, Calls Tryz.prog 33 #[.agg PJ.toArray, .agg PK.toArray] W fun e w' => e = .returned (.int .i64 q) ∧ Below W.heap.size W w') := hide (fun W => by rw [hPJ, hPK, hq]; exact compare_any _ _ _ _ W (HL32.out _ hk1).1 (HL32.out _ hlt).1 (HL32.out _ hk1).2 (HL32.out _ hlt).2)
        have HJR : Hid (∀ W, Below w.heap.size w W → W.rangeAt b (off + (k - 1) * 36) PJ) := hide (fun W hW => by rw [hPJ]; have := HRNG.out _ hk1 W hW; rw [coin_parts] at this; exact (tx_range_part this).1)
        have HKR : Hid (∀ W, Is W wr.heap.size C 54 → W.rangeAt wr.heap.size 0 PK) := hide (fun W hW => by rw [HCE.out] at hW; rw [hPK]; exact place_range hW)
        clear hk0 hPJ hPK hq
        go_wp2_with (first
          | (refine wpList_load_part 54 C b (off + k * 36) rfl (.tmp 15) rfl rfl HRC.out Tryz.underlying54 rfl size_coin HCLN.out ?_)
          | (refine wpList_store_any3 54 Z C wr.heap.size rfl (.tmp 4) (.tmp 16) rfl rfl rfl rfl (Is.new wr _ _) size_coin HZL.out HCLN.out HC1.out ?_; intro w3 hi3 hw3; have hb3 : Below wr.heap.size wr w3 := (by rw [hw3]; exact ck_new); have HC3 : Hid (CkS w wr.heap.size C w3) := hide ⟨HBEL.out.trans (hb3.mono HBEL.out.size), hi3⟩; clear hi3 hw3 hb3))
        have HRJ : Hid (w3.drew.rangeAt b (off + (k - 1) * 36) PJ) := hide (HJR.out _ HC3.out.below.drew)
        have HRK : Hid (w3.drew.rangeAt wr.heap.size 0 PK) := hide (HKR.out _ HC3.out.box.drew)
        have HBLT : Hid (b < w3.drew.heap.size) := hide (Nat.lt_of_lt_of_le HBLW.out HC3.out.below.drew.size)
        refine wp_region_held_drew (S := fun W : World => W.rangeAt b (off + (k - 1) * 36) PJ ∧ W.rangeAt wr.heap.size 0 PK ∧ Hid (CkS w wr.heap.size C W ∧ b < W.heap.size)) (by kernel_rfl) ?_ (fun hHeld0 => ?_)
        · exact ⟨HRJ.out, HRK.out, hide ⟨HC3.out.drew, HBLT.out⟩⟩
        refine wpAnyH_take (i := 0) (v := ?_) rfl (by kernel_rfl) (by kernel_rfl) (by kernel_rfl) (fun _ _ _ h => h) (Or.inl ⟨by rfl, ?_⟩) hHeld0 ?_
        rotate_left
        · (intro w hSw; (try dsimp only at hSw); go_simp <;> (try with_reducible rfl))
        simp only [Act.put, List.getElem_toArray, List.getElem_cons_zero, List.getElem_cons_succ, List.setIfInBounds_toArray, List.set_cons_zero, List.set_cons_succ]
        refine wpAnyH_take (i := 1) (v := ?_) rfl (by kernel_rfl) (by kernel_rfl) (by kernel_rfl) (fun _ _ _ h => h) (Or.inl ⟨by rfl, ?_⟩) hHeld0 ?_
        rotate_left
        · (intro w hSw; (try dsimp only at hSw); go_simp <;> (try with_reducible rfl))
        simp only [Act.put, List.getElem_toArray, List.getElem_cons_zero, List.getElem_cons_succ, List.setIfInBounds_toArray, List.set_cons_zero, List.set_cons_succ]
        refine wpAnyH_take (i := 2) (v := ?_) rfl (by kernel_rfl) (by kernel_rfl) (by kernel_rfl) (fun _ _ _ h => h) (Or.inl ⟨by rfl, ?_⟩) hHeld0 ?_
        rotate_left
        · (intro w hSw; (try dsimp only at hSw); go_simp <;> (try with_reducible rfl))
        simp only [Act.put, List.getElem_toArray, List.getElem_cons_zero, List.getElem_cons_succ, List.setIfInBounds_toArray, List.set_cons_zero, List.set_cons_succ]
        refine wpAnyH_take (i := 3) (v := ?_) rfl (by kernel_rfl) (by kernel_rfl) (by kernel_rfl) (fun _ _ _ h => h) (Or.inl ⟨by rfl, ?_⟩) hHeld0 ?_
        rotate_left
        · (intro w hSw; (try dsimp only at hSw); go_simp <;> (try with_reducible rfl))
        simp only [Act.put, List.getElem_toArray, List.getElem_cons_zero, List.getElem_cons_succ, List.setIfInBounds_toArray, List.set_cons_zero, List.set_cons_succ]
        refine wpAnyH_take (i := 4) (v := ?_) rfl (by kernel_rfl) (by kernel_rfl) (by kernel_rfl) (fun _ _ _ h => h) (Or.inl ⟨by rfl, ?_⟩) hHeld0 ?_
        rotate_left
        · (intro w hSw; (try dsimp only at hSw); go_simp <;> (try with_reducible rfl))
        simp only [Act.put, List.getElem_toArray, List.getElem_cons_zero, List.getElem_cons_succ, List.setIfInBounds_toArray, List.set_cons_zero, List.set_cons_succ]
        refine wpAnyH_take (i := 5) (v := ?_) rfl (by kernel_rfl) (by kernel_rfl) (by kernel_rfl) (fun _ _ _ h => h) (Or.inl ⟨by rfl, ?_⟩) hHeld0 ?_
        rotate_left
        · (intro w hSw; (try dsimp only at hSw); go_simp <;> (try with_reducible rfl))
        simp only [Act.put, List.getElem_toArray, List.getElem_cons_zero, List.getElem_cons_succ, List.setIfInBounds_toArray, List.set_cons_zero, List.set_cons_succ]
        refine wpAnyH_take (i := 6) (v := ?_) rfl (by kernel_rfl) (by kernel_rfl) (by kernel_rfl) (fun _ _ _ h => h) (Or.inl ⟨by rfl, ?_⟩) hHeld0 ?_
        rotate_left
        · (intro w hSw; (try dsimp only at hSw); go_simp <;> (try with_reducible rfl))
        simp only [Act.put, List.getElem_toArray, List.getElem_cons_zero, List.getElem_cons_succ, List.setIfInBounds_toArray, List.set_cons_zero, List.set_cons_succ]
        refine wpAnyH_take (i := 7) (v := ?_) rfl (by kernel_rfl) (by kernel_rfl) (by kernel_rfl) (fun _ _ _ h => h) (Or.inl ⟨by rfl, ?_⟩) hHeld0 ?_
        rotate_left
        · (intro w hSw; (try dsimp only at hSw); go_simp <;> (try with_reducible rfl))
        simp only [Act.put, List.getElem_toArray, List.getElem_cons_zero, List.getElem_cons_succ, List.setIfInBounds_toArray, List.set_cons_zero, List.set_cons_succ]
        refine wpAnyH_take (i := 8) (v := .agg (PJ).toArray) rfl (by kernel_rfl) (by kernel_rfl) (by kernel_rfl) (fun _ _ _ h => h) (yieldsIf_load_mid (by rfl) _ _ rfl _ _ rfl (PJ) _ (fun w hSw => hSw.1) Tryz.underlying46 rfl hszj) hHeld0 ?_
        simp only [Act.put, List.getElem_toArray, List.getElem_cons_zero, List.getElem_cons_succ, List.setIfInBounds_toArray, List.set_cons_zero, List.set_cons_succ]
        refine wpAnyH_take (i := 9) (v := ?_) rfl (by kernel_rfl) (by kernel_rfl) (by kernel_rfl) (fun _ _ _ h => h) (Or.inl ⟨by rfl, ?_⟩) hHeld0 ?_
        rotate_left
        · (intro w hSw; (try dsimp only at hSw); go_simp <;> (try with_reducible rfl))
        simp only [Act.put, List.getElem_toArray, List.getElem_cons_zero, List.getElem_cons_succ, List.setIfInBounds_toArray, List.set_cons_zero, List.set_cons_succ]
        refine wpAnyH_take (i := 10) (v := .agg (PK).toArray) rfl (by kernel_rfl) (by kernel_rfl) (by kernel_rfl) (fun _ _ _ h => h) (yieldsIf_load_mid (by rfl) _ _ rfl _ _ rfl (PK) _ (fun w hSw => hSw.2.1) Tryz.underlying46 rfl hszk) hHeld0 ?_
        simp only [Act.put, List.getElem_toArray, List.getElem_cons_zero, List.getElem_cons_succ, List.setIfInBounds_toArray, List.set_cons_zero, List.set_cons_succ]
        refine wpAnyH_ready (rs := [11]) (by kernel_rfl) (by simp) ?_
        refine AllReadyH.cons rfl (fun K hK => ?_) AllReadyH.nil
        go_simp
        go_wp2_with ((go_at_call 33; refine (HCM.out _).mono ?_; rintro e W1 ⟨rfl, hb1⟩))
        refine hK.out _ _ (by exact ck_keep hHeld0 hb1) (fun hHeld1 => ?_)
        clear hK K hHeld0
        try simp only [Act.put, List.getElem_toArray, List.getElem_cons_zero, List.getElem_cons_succ, List.setIfInBounds_toArray, List.set_cons_zero, List.set_cons_succ]
        refine wpAnyH_take (i := 12) (v := ?_) rfl (by kernel_rfl) (by kernel_rfl) (by kernel_rfl) (fun _ _ _ h => h) (Or.inl ⟨by rfl, ?_⟩) hHeld1 ?_
        rotate_left
        · (intro w hSw; (try dsimp only at hSw); go_simp <;> (try with_reducible rfl))
        simp only [Act.put, List.getElem_toArray, List.getElem_cons_zero, List.getElem_cons_succ, List.setIfInBounds_toArray, List.set_cons_zero, List.set_cons_succ]
        refine wpAnyH_take (i := 13) (v := ?_) rfl (by kernel_rfl) (by kernel_rfl) (by kernel_rfl) (fun _ _ _ h => h) (Or.inl ⟨by rfl, ?_⟩) hHeld1 ?_
        rotate_left
        · (intro w hSw; (try dsimp only at hSw); go_simp <;> (try with_reducible rfl))
        simp only [Act.put, List.getElem_toArray, List.getElem_cons_zero, List.getElem_cons_succ, List.setIfInBounds_toArray, List.set_cons_zero, List.set_cons_succ]
        refine wpAnyH_done (by kernel_rfl) ?_ _
        have HCL := hide hHeld1.2.2.out.1
        clear hHeld1
        by_cases hq : q < 0
        · skip
          have hd2 : ¬ 0 ≤ q := by omega
          have HBH : Hid (Cn.behind pv R[k].it) := hide (fun z hz => by rw [HPV.out] at hz; cases hz; rw [← HQ.out]; exact hq)
          clear hq
          by_cases hck : Cn.coinF R[k].it = 0
          · have HNX : Hid (r = Cn.setG (some (Cn.place R[k].it)) ((R.map CoinV.it).drop (k + 1))) := hide (by rw [HRG.out, Cn.setG_next (p := pv) (l := R.map CoinV.it) (by simpa using hlt) (by simpa using HBH.out) (by simpa using hck)]; simp)
            have HCC := hide (checkCoin_any R[k] _ (HOK.out _ HCL.out.below))
            rw [hck, ← HCE.out, show errV 0 = .nilIface from rfl] at HCC
            clear hck
            go_wp2_with (first
              | (refine wpList_load_part 54 C wr.heap.size 0 rfl (.tmp 4) rfl rfl (is_range HCL.out.box) Tryz.underlying54 rfl size_coin HCLN.out ?_)
              | (go_at_call 34; refine HCC.out.mono ?_; rintro e W2 ⟨rfl, hb2⟩))
            have HCM2 := hide (HCL.out.call hb2)
            clear hb2
            go_roundw
            case rel => exact ⟨k + 1, by omega, by go_num, some (Cn.place R[k].it), HNX.out, fun _ => ⟨by rw [dif_pos ⟨by omega, by simpa using hlt⟩]; rfl, HCM2.out.below⟩⟩
            case measure => simp [intOf]; omega
          · have HNX : Hid (r = Cn.coinF R[k].it) := hide (by rw [HRG.out, Cn.setG_bad (p := pv) (l := R.map CoinV.it) (by simpa using hlt) (by simpa using HBH.out) (by simpa using hck)]; simp)
            have HCC := hide (checkCoin_any R[k] _ (HOK.out _ HCL.out.below))
            rw [← HCE.out] at HCC
            obtain ⟨cc, hcc⟩ : ∃ c, c = Cn.coinF R[k].it := ⟨_, rfl⟩
            rw [← hcc] at HCC HNX hck
            rw [show errV cc = .iface 27 (.int .i64 cc) from by unfold errV; rw [if_neg hck]] at HCC
            have HNZ := hide hck
            clear hck hcc
            go_wp2_with (first
              | (refine wpList_load_part 54 C wr.heap.size 0 rfl (.tmp 4) rfl rfl (is_range HCL.out.box) Tryz.underlying54 rfl size_coin HCLN.out ?_)
              | (go_at_call 34; refine HCC.out.mono ?_; rintro e W2 ⟨rfl, hb2⟩))
            go_ret
            exact ⟨by rw [HNX.out]; unfold errV; rw [if_neg HNZ.out]; rfl, (HCL.out.call hb2).below⟩
        · skip
          have hd2 : 0 ≤ q := by omega
          have HTW : Hid (r = 6) := hide (by rw [HRG.out, Cn.setG_twice (p := pv) (l := R.map CoinV.it) (by simpa using hlt) (fun h => hq (by have := h _ HPV.out; simp only [List.getElem_map] at this; rw [← HQ.out] at this; exact this))])
          clear hq
          go_wp2
          go_ret
          exact ⟨by rw [HTW.out]; rfl, HCL.out.below⟩
    · have hki : ¬ (k : Int) < (n : Int) := by omega
      have HEND : Hid (r = 0) := hide (by rw [HRG.out, List.drop_eq_nil_of_le (by rw [List.length_map, ← HN.out]; omega)]; rfl)
      go_wp2
      go_ret
      exact ⟨by rw [HEND.out]; rfl, HBEL.out⟩
end Go.Proofs.YtmjilohlchkicaaGreatDoor

/- A coin of a set is looked for. -/
namespace Go.Proofs.YtmjilohlchkicaaGreatDoor
open Go.RowKit
set_option linter.unusedVariables false
set_option linter.unusedSimpArgs false

theorem call_atF (xs : Array Value) (W : World) : (callFunc 38 xs).run Tryz.prog W = .ok (.enter 38 xs) W := by
  simp [callFunc, Tryz.func38, Tryz.f38]
/-- A coin at a place; none there. -/
def FoundAt (R : List CoinV) (m : Nat) (p : List Int × Int) : Prop := ∃ h : m < R.length, Cn.place R[m].it = p
def DownTo (R : List CoinV) (lo : Nat) (p : List Int × Int) : Prop := ∀ t (h : t < R.length), t < lo → Cn.pl (Cn.place R[t].it) p < 0
def UpFrom (R : List CoinV) (hi : Nat) (p : List Int × Int) : Prop := ∀ t (h : t < R.length), hi ≤ t → ¬ Cn.pl (Cn.place R[t].it) p < 0
def NoneAt (R : List CoinV) (p : List Int × Int) : Prop := ∀ t (h : t < R.length), Cn.place R[t].it ≠ p
set_option maxRecDepth 100000 in
set_option maxHeartbeats 1000000 in
theorem catF_any (x : CoinV) (B : List Int) (y : Int) (w : World) (hx : CoinOk w x) (hB : B.length = 32) (hBb : Sz.Byt B) :
    Calls Tryz.prog 38 #[.agg (coinCell x).toArray, .agg (vals B ++ [Value.int .i64 y]).toArray] w fun e w' => e = .returned (.int .i64 (Cn.pl (Cn.place x.it) (B, y))) ∧ Below w.heap.size w w' := by
  obtain ⟨C, hC⟩ : ∃ C, C = coinCell x := ⟨_, rfl⟩
  obtain ⟨Q, hQ⟩ : ∃ Q, Q = vals B ++ [Value.int .i64 y] := ⟨_, rfl⟩
  obtain ⟨P, hP⟩ : ∃ P, P = vals x.tx ++ [Value.int .i64 x.at'] := ⟨_, rfl⟩
  obtain ⟨r, hr⟩ : ∃ r, r = Cn.pl (Cn.place x.it) (B, y) := ⟨_, rfl⟩
  have hPl : P.length = 33 := by rw [hP]; simp [vals_length, hx.1]
  have hQl : Q.length = 33 := by rw [hQ]; simp [vals_length, hB]
  have hCl : C.length = 36 := by rw [hC]; exact coinCell_length x hx.1
  have HPL := hide hPl
  have HQL := hide hQl
  have hCp : ¬ C = [] := by intro h; rw [h] at hCl; cases hCl
  have hQp : ¬ Q = [] := by intro h; rw [h] at hQl; cases hQl
  have HI0 : Hid (Is ((w.alloc (.cells C.toArray 54)).alloc (.cells Q.toArray 46)) w.heap.size C 54) := hide ((Is.new w C 54).alloc _)
  have HQ0 : Hid (Is ((w.alloc (.cells C.toArray 54)).alloc (.cells Q.toArray 46)) (w.heap.size + 1) Q 46) := hide (Is.new' Q 46 (by simp))
  have HR0 : Hid (((w.alloc (.cells C.toArray 54)).alloc (.cells Q.toArray 46)).rangeAt w.heap.size 0 P) := hide (by have h := HI0.out; rw [hC] at h; rw [hC, hP]; exact place_range h)
  have HB0 := hide (below_alloc2 w (.cells C.toArray 54) (.cells Q.toArray 46))
  have HCM : Hid (∀ W : World, Calls Tryz.prog 33 #[.agg P.toArray, .agg Q.toArray] W fun e w' => e = .returned (.int .i64 r) ∧ Below W.heap.size W w') := hide (fun W => by rw [hP, hQ, hr]; exact compare_any x.tx B x.at' y W hx.1 hB hx.2.1 hBb)
  rw [← hr, ← hC, ← hQ]
  clear hr hC hQ hP hPl hQl hx hB hBb
  go_enter Tryz.func38, Tryz.ntmps38
  go_wp2_with (first
    | (refine wpList_load_part 46 P w.heap.size 0 rfl (.tmp 5) rfl rfl HR0.out Tryz.underlying46 rfl size_placeC HPL.out ?_)
    | (refine wpList_load_part 46 Q (w.heap.size + 1) 0 rfl (.tmp 3) rfl rfl (is_range HQ0.out) Tryz.underlying46 rfl size_placeC HQL.out ?_)
    | (go_at_call 33; refine (HCM.out _).mono ?_; rintro e w1 ⟨rfl, hb1⟩))
  go_ret
  exact ⟨rfl, HB0.out.trans (hb1.mono HB0.out.size)⟩
/-- What a search keeps. -/
theorem at_keep {w W0 W W' : World} {b o g : Nat} {P C : List Value} (h : W.rangeAt b o C ∧ W.rangeAt g 0 P ∧ Hid (Below W0.heap.size W0 W ∧ b < W.heap.size ∧ g < W.heap.size)) (hb : Below W.heap.size W W') : W'.rangeAt b o C ∧ W'.rangeAt g 0 P ∧ Hid (Below W0.heap.size W0 W' ∧ b < W'.heap.size ∧ g < W'.heap.size) := by
  obtain ⟨h1, h2, h3⟩ := h
  obtain ⟨a, c, d⟩ := h3.out
  exact ⟨range_keep h1 hb c, range_keep h2 hb d, hide ⟨a.trans (hb.mono a.size), Nat.lt_of_lt_of_le c hb.size, Nat.lt_of_lt_of_le d hb.size⟩⟩
theorem half_of (lo hi : Nat) (h : lo < hi) : ∃ m : Nat, ((lo : Int) + (hi : Int)) / 2 = (m : Int) ∧ lo ≤ m ∧ m < hi := ⟨(lo + hi) / 2, by omega, by omega, by omega⟩
set_option maxRecDepth 100000 in
set_option maxHeartbeats 4000000 in
theorem bsf_some (R : List CoinV) (b off cap : Nat) (B : List Int) (y : Int) (w : World) (h0 : 0 < R.length) (h1 : R.length ≤ cap) (hs : Cn.setF (R.map CoinV.it) = 0) (h : ∀ x ∈ R, CoinOk w x) (hb : b < w.heap.size) (hc : w.rangeAt b off (coinCells R)) (hB : B.length = 32) (hBb : Sz.Byt B) :
    Calls Tryz.prog 37 #[.slice (some ⟨b, off, none⟩) R.length cap, .agg (vals B ++ [Value.int .i64 y]).toArray, .func (.func 38) #[] #[]] w fun e w' => (∃ (m : Nat) (f : Bool), e = .returned (.tuple #[.int .i64 (m : Int), .bool f]) ∧ (f = true → FoundAt R m (B, y)) ∧ (f = false → NoneAt R (B, y))) ∧ Below w.heap.size w w' := by
  have hm : R.length ≤ 1000 := by have := (Cn.setF_zero hs).1; rwa [List.length_map] at this
  have HDOWN : Hid (∀ m (hm : m < R.length), Cn.pl (Cn.place R[m].it) (B, y) < 0 → DownTo R (m + 1) (B, y)) := hide (fun m hm hp t ht htm' => by
    have htm : t ≤ m := by omega
    have := Cn.set_down hs (p := (B, y)) (m := m) (by rw [List.length_map]; exact hm) (by simpa using hp) t htm
    simpa using this)
  have HUPP : Hid (∀ m (hm : m < R.length), ¬ Cn.pl (Cn.place R[m].it) (B, y) < 0 → UpFrom R m (B, y)) := hide (fun m hm hp t ht htm => by
    have := Cn.set_up hs (p := (B, y)) (m := m) (by rw [List.length_map]; exact hm) (by simpa using hp) t htm (by rw [List.length_map]; exact ht)
    simpa using this)
  have HONE : Hid (∀ i j (hi : i < R.length) (hj : j < R.length), i < j → Cn.pl (Cn.place R[i].it) (Cn.place R[j].it) < 0) := hide (fun i j hi hj hij => by
    have := (Cn.setF_zero hs).2.2 i j hij (by rw [List.length_map]; exact hj)
    simpa using this)
  have HOKA : Hid (∀ k (hk : k < R.length) W, Below w.heap.size w W → CoinOk W R[k]) := hide (fun k hk W hW => (h _ (List.getElem_mem hk)).below hW)
  have HRNG : Hid (∀ k (hk : k < R.length) W, Below w.heap.size w W → W.rangeAt b (off + k * 36) (coinCell R[k])) := hide (fun k hk W hW => range_keep (range_at hc (fun x hx => coinCell_length x (h x hx).1) k hk) hW hb)
  have HL32 : Hid (∀ k (hk : k < R.length), R[k].tx.length = 32) := hide (fun k hk => (h _ (List.getElem_mem hk)).1)
  have HBLW := hide hb
  obtain ⟨P, hP⟩ : ∃ P, P = vals B ++ [Value.int .i64 y] := ⟨_, rfl⟩
  have hPl : P.length = 33 := by rw [hP]; simp [vals_length, hB]
  have hPp : ¬ P = [] := by intro h; rw [h] at hPl; cases hPl
  have hszp : (Tryz.prog.info? 46).map (·.size) = some P.length := by rw [hPl]; exact size_placeC
  obtain ⟨W0, hW0⟩ : ∃ W0, W0 = w.alloc (.cells P.toArray 46) := ⟨_, rfl⟩
  have HI0 : Hid (Is W0 w.heap.size P 46) := hide (by rw [hW0]; exact Is.new w P 46)
  have HB0 : Hid (Below w.heap.size w W0) := hide (by rw [hW0]; exact below_alloc w _)
  have HCMA : Hid (∀ k (hk : k < R.length) W, Below W0.heap.size W0 W → Calls Tryz.prog 38 #[.agg (coinCell R[k]).toArray, .agg P.toArray] W fun e w' => e = .returned (.int .i64 (Cn.pl (Cn.place R[k].it) (B, y))) ∧ Below W.heap.size W w') := hide (fun k hk W hW => by rw [hP]; exact catF_any R[k] B y W (HOKA.out k hk W (HB0.out.trans (hW.mono HB0.out.size))) hB hBb)
  obtain ⟨n, hn⟩ : ∃ n, n = R.length := ⟨_, rfl⟩
  have HN := hide hn
  rw [← hn, ← hP]
  rw [← hn] at hm h1 h0
  have heg := call_atF
  clear h hb hc hs hP hPl hn hB hBb
  go_enter Tryz.func37, Tryz.ntmps37
  go_wp2
  rw [← hW0]
  clear hW0
  go_loopw [9, 10] (fun i j wr => ∃ lo hi : Nat, lo ≤ hi ∧ hi ≤ n ∧ i = .int .i64 lo ∧ j = .int .i64 hi ∧ DownTo R lo (B, y) ∧ UpFrom R hi (B, y) ∧ Below W0.heap.size W0 wr) (fun i j _ => (intOf j - intOf i).toNat)
  case atStart => exact ⟨0, n, by omega, Nat.le_refl _, rfl, rfl, fun t h ht => absurd ht (by omega), fun t h ht => absurd h (by rw [← HN.out]; omega), Below.refl _ _⟩
  case round =>
    obtain ⟨lo, hi, hlh, hhi, rfl, rfl, hdn, hup, hbel⟩ := hrel
    have HDO := hide hdn
    have HUP := hide hup
    have HBEL := hide hbel
    clear hdn hup hbel
    by_cases hlt : lo < hi
    · have hki : (lo : Int) < (hi : Int) := by omega
      obtain ⟨m, hm2, hlm, hmh⟩ := half_of lo hi hlt
      have hmR : m < R.length := by rw [← HN.out]; omega
      obtain ⟨C, hC⟩ : ∃ C, C = coinCell R[m] := ⟨_, rfl⟩
      obtain ⟨q, hq⟩ : ∃ q, q = Cn.pl (Cn.place R[m].it) (B, y) := ⟨_, rfl⟩
      have HQE := hide hq
      have hszc : (Tryz.prog.info? 54).map (·.size) = some C.length := by rw [hC, coinCell_length _ (HL32.out m hmR)]; exact size_coin
      have HCM := hide (HCMA.out m hmR)
      rw [← hC, ← hq] at HCM
      have HRC : Hid (wr.drew.rangeAt b (off + m * 36) C) := hide (by rw [hC]; exact HRNG.out m hmR _ (HB0.out.trans (HBEL.out.drew.mono HB0.out.size)))
      have HRP : Hid (wr.drew.rangeAt w.heap.size 0 P) := hide (is_range (HI0.out.below HBEL.out.drew HI0.out.lt))
      have HBW : Hid (Hid (Below W0.heap.size W0 wr.drew ∧ b < wr.drew.heap.size ∧ w.heap.size < wr.drew.heap.size)) := hide (hide ⟨HBEL.out.drew, Nat.lt_of_lt_of_le HBLW.out (Nat.le_trans HB0.out.size HBEL.out.drew.size), Nat.lt_of_lt_of_le HI0.out.lt HBEL.out.drew.size⟩)
      have hmi : (m : Int) < (n : Int) := by omega
      have hm0 : (0 : Int) ≤ (m : Int) := by omega
      have hadd : (lo : Int) + (hi : Int) ≤ 2000 := by omega
      clear hC hq
      go_wp2_with fail
      refine wp_region_held_drew (S := fun W : World => W.rangeAt b (off + m * 36) C ∧ W.rangeAt w.heap.size 0 P ∧ Hid (Below W0.heap.size W0 W ∧ b < W.heap.size ∧ w.heap.size < W.heap.size)) (by kernel_rfl) ?_ (fun hHeld0 => ?_)
      · exact ⟨HRC.out, HRP.out, HBW.out⟩
      refine wpAnyH_take (i := 0) (v := ?_) rfl (by kernel_rfl) (by kernel_rfl) (by kernel_rfl) (fun _ _ _ h => h) (Or.inl ⟨by rfl, ?_⟩) hHeld0 ?_
      rotate_left
      · (intro w hSw; (try dsimp only at hSw); go_simp <;> (try with_reducible rfl))
      simp only [Act.put, List.getElem_toArray, List.getElem_cons_zero, List.getElem_cons_succ, List.setIfInBounds_toArray, List.set_cons_zero, List.set_cons_succ]
      refine wpAnyH_take (i := 1) (v := ?_) rfl (by kernel_rfl) (by kernel_rfl) (by kernel_rfl) (fun _ _ _ h => h) (Or.inl ⟨by rfl, ?_⟩) hHeld0 ?_
      rotate_left
      · (intro w hSw; (try dsimp only at hSw); go_simp <;> (try with_reducible rfl))
      simp only [Act.put, List.getElem_toArray, List.getElem_cons_zero, List.getElem_cons_succ, List.setIfInBounds_toArray, List.set_cons_zero, List.set_cons_succ]
      refine wpAnyH_take (i := 2) (v := ?_) rfl (by kernel_rfl) (by kernel_rfl) (by kernel_rfl) (fun _ _ _ h => h) (Or.inl ⟨by rfl, ?_⟩) hHeld0 ?_
      rotate_left
      · (intro w hSw; (try dsimp only at hSw); go_simp <;> (try with_reducible rfl))
      simp only [Act.put, List.getElem_toArray, List.getElem_cons_zero, List.getElem_cons_succ, List.setIfInBounds_toArray, List.set_cons_zero, List.set_cons_succ]
      refine wpAnyH_take (i := 3) (v := ?_) rfl (by kernel_rfl) (by kernel_rfl) (by kernel_rfl) (fun _ _ _ h => h) (Or.inl ⟨by rfl, ?_⟩) hHeld0 ?_
      rotate_left
      · (intro w hSw; (try dsimp only at hSw); go_simp <;> (try with_reducible rfl))
      simp only [Act.put, List.getElem_toArray, List.getElem_cons_zero, List.getElem_cons_succ, List.setIfInBounds_toArray, List.set_cons_zero, List.set_cons_succ]
      refine wpAnyH_take (i := 4) (v := .agg (C).toArray) rfl (by kernel_rfl) (by kernel_rfl) (by kernel_rfl) (fun _ _ _ h => h) (yieldsIf_load_mid (by rfl) _ _ rfl _ _ rfl (C) _ (fun w hSw => hSw.1) Tryz.underlying54 rfl hszc) hHeld0 ?_
      simp only [Act.put, List.getElem_toArray, List.getElem_cons_zero, List.getElem_cons_succ, List.setIfInBounds_toArray, List.set_cons_zero, List.set_cons_succ]
      refine wpAnyH_take (i := 5) (v := .agg (P).toArray) rfl (by kernel_rfl) (by kernel_rfl) (by kernel_rfl) (fun _ _ _ h => h) (yieldsIf_load_mid (by rfl) _ _ rfl _ _ rfl (P) _ (fun w hSw => hSw.2.1) Tryz.underlying46 rfl hszp) hHeld0 ?_
      simp only [Act.put, List.getElem_toArray, List.getElem_cons_zero, List.getElem_cons_succ, List.setIfInBounds_toArray, List.set_cons_zero, List.set_cons_succ]
      refine wpAnyH_ready (rs := [6]) (by kernel_rfl) (by simp) ?_
      refine AllReadyH.cons rfl (fun K hK => ?_) AllReadyH.nil
      go_simp
      go_wp2_with ((go_at_call 38; refine (HCM.out _ hHeld0.2.2.out.1).mono ?_; rintro e W1 ⟨rfl, hb1⟩))
      refine hK.out _ _ (by exact at_keep (w := w) hHeld0 hb1) (fun hHeld1 => ?_)
      clear hK K hHeld0
      try simp only [Act.put, List.getElem_toArray, List.getElem_cons_zero, List.getElem_cons_succ, List.setIfInBounds_toArray, List.set_cons_zero, List.set_cons_succ]
      refine wpAnyH_take (i := 7) (v := ?_) rfl (by kernel_rfl) (by kernel_rfl) (by kernel_rfl) (fun _ _ _ h => h) (Or.inl ⟨by rfl, ?_⟩) hHeld1 ?_
      rotate_left
      · (intro w hSw; (try dsimp only at hSw); go_simp <;> (try with_reducible rfl))
      simp only [Act.put, List.getElem_toArray, List.getElem_cons_zero, List.getElem_cons_succ, List.setIfInBounds_toArray, List.set_cons_zero, List.set_cons_succ]
      refine wpAnyH_done (by kernel_rfl) ?_ _
      have HBL := hide hHeld1.2.2.out.1
      clear hHeld1
      by_cases hq : q < 0
      · have hd : ¬ 0 ≤ q := by omega
        have HDN : Hid (DownTo R (m + 1) (B, y)) := hide (HDOWN.out m hmR (by rw [← HQE.out]; exact hq))
        have hhn : (m : Int) < (n : Int) := by omega
        clear hq
        go_wp2
        go_roundw
        case rel => exact ⟨m + 1, hi, by omega, hhi, by go_num, rfl, HDN.out, HUP.out, HBL.out⟩
        case measure => simp [intOf]; omega
      · have hd : 0 ≤ q := by omega
        have HUN : Hid (UpFrom R m (B, y)) := hide (HUPP.out m hmR (by rw [← HQE.out]; omega))
        go_wp2
        go_roundw
        case rel => exact ⟨lo, m, hlm, by omega, rfl, rfl, HDO.out, HUN.out, HBL.out⟩
        case measure => simp [intOf]; omega
    · have hki : ¬ (lo : Int) < (hi : Int) := by omega
      obtain rfl : lo = hi := by omega
      by_cases hln : lo < n
      · obtain ⟨m, hmd⟩ : ∃ m, m = lo := ⟨_, rfl⟩
        rw [← hmd] at HDO HUP hki hln hhi ⊢
        clear hmd hlh hlt
        have hmR : m < R.length := by rw [← HN.out]; omega
        obtain ⟨C, hC⟩ : ∃ C, C = coinCell R[m] := ⟨_, rfl⟩
        obtain ⟨q, hq⟩ : ∃ q, q = Cn.pl (Cn.place R[m].it) (B, y) := ⟨_, rfl⟩
        have HQE := hide hq
        have HQN : Hid (¬ q < 0) := hide (by rw [hq]; exact HUP.out m hmR (Nat.le_refl _))
        have HLT : Hid (∀ t (h : t < R.length), m < t → 0 < Cn.pl (Cn.place R[t].it) (B, y)) := hide (fun t h ht => by
          have h1 := HUP.out t h (by omega)
          rcases Cn.pl_range (Cn.place R[t].it) (B, y) with k | k | k
          · omega
          · exfalso
            have e := Cn.pl_zero.1 k
            have h2 := HONE.out m t hmR h ht
            rw [e] at h2
            exact HUP.out m hmR (Nat.le_refl _) h2
          · omega)
        have hszc : (Tryz.prog.info? 54).map (·.size) = some C.length := by rw [hC, coinCell_length _ (HL32.out m hmR)]; exact size_coin
        have HCM := hide (HCMA.out m hmR)
        rw [← hC, ← hq] at HCM
        have HRC : Hid (wr.drew.rangeAt b (off + m * 36) C) := hide (by rw [hC]; exact HRNG.out m hmR _ (HB0.out.trans (HBEL.out.drew.mono HB0.out.size)))
        have HRP : Hid (wr.drew.rangeAt w.heap.size 0 P) := hide (is_range (HI0.out.below HBEL.out.drew HI0.out.lt))
        have HBW : Hid (Hid (Below W0.heap.size W0 wr.drew ∧ b < wr.drew.heap.size ∧ w.heap.size < wr.drew.heap.size)) := hide (hide ⟨HBEL.out.drew, Nat.lt_of_lt_of_le HBLW.out (Nat.le_trans HB0.out.size HBEL.out.drew.size), Nat.lt_of_lt_of_le HI0.out.lt HBEL.out.drew.size⟩)
        have hmi : (m : Int) < (n : Int) := by omega
        have hm0 : (0 : Int) ≤ (m : Int) := by omega
        have hdm : decide ((m : Int) < (n : Int)) = true := decide_eq_true hmi
        have hdm2 : decide (m < n) = true := decide_eq_true hln
        clear hC hq
        go_wp2_with fail
        refine wp_region_held_drew (S := fun W : World => W.rangeAt b (off + m * 36) C ∧ W.rangeAt w.heap.size 0 P ∧ Hid (Below W0.heap.size W0 W ∧ b < W.heap.size ∧ w.heap.size < W.heap.size)) (by kernel_rfl) ?_ (fun hHeld0 => ?_)
        · exact ⟨HRC.out, HRP.out, HBW.out⟩
        refine wpAnyH_take (i := 0) (v := ?_) rfl (by kernel_rfl) (by kernel_rfl) (by kernel_rfl) (fun _ _ _ h => h) (Or.inl ⟨by rfl, ?_⟩) hHeld0 ?_
        rotate_left
        · (intro w hSw; (try dsimp only at hSw); go_simp <;> (try with_reducible rfl))
        simp only [Act.put, List.getElem_toArray, List.getElem_cons_zero, List.getElem_cons_succ, List.setIfInBounds_toArray, List.set_cons_zero, List.set_cons_succ]
        refine wpAnyH_take (i := 1) (v := ?_) rfl (by kernel_rfl) (by kernel_rfl) (by kernel_rfl) (fun _ _ _ h => h) (Or.inl ⟨by rfl, ?_⟩) hHeld0 ?_
        rotate_left
        · (intro w hSw; (try dsimp only at hSw); go_simp <;> (try with_reducible rfl))
        simp only [Act.put, List.getElem_toArray, List.getElem_cons_zero, List.getElem_cons_succ, List.setIfInBounds_toArray, List.set_cons_zero, List.set_cons_succ]
        refine wpAnyH_take (i := 2) (v := ?_) rfl (by kernel_rfl) (by kernel_rfl) (by kernel_rfl) (fun _ _ _ h => h) (Or.inl ⟨by rfl, ?_⟩) hHeld0 ?_
        rotate_left
        · (intro w hSw; (try dsimp only at hSw); go_simp <;> (try with_reducible rfl))
        simp only [Act.put, List.getElem_toArray, List.getElem_cons_zero, List.getElem_cons_succ, List.setIfInBounds_toArray, List.set_cons_zero, List.set_cons_succ]
        refine wpAnyH_take (i := 3) (v := ?_) rfl (by kernel_rfl) (by kernel_rfl) (by kernel_rfl) (fun _ _ _ h => h) (Or.inl ⟨by rfl, ?_⟩) hHeld0 ?_
        rotate_left
        · (intro w hSw; (try dsimp only at hSw); go_simp <;> (try with_reducible rfl))
        simp only [Act.put, List.getElem_toArray, List.getElem_cons_zero, List.getElem_cons_succ, List.setIfInBounds_toArray, List.set_cons_zero, List.set_cons_succ]
        refine wpAnyH_take (i := 4) (v := ?_) rfl (by kernel_rfl) (by kernel_rfl) (by kernel_rfl) (fun _ _ _ h => h) (Or.inl ⟨by rfl, ?_⟩) hHeld0 ?_
        rotate_left
        · (intro w hSw; (try dsimp only at hSw); go_simp <;> (try with_reducible rfl))
        simp only [Act.put, List.getElem_toArray, List.getElem_cons_zero, List.getElem_cons_succ, List.setIfInBounds_toArray, List.set_cons_zero, List.set_cons_succ]
        refine wpAnyH_take (i := 5) (v := ?_) rfl (by kernel_rfl) (by kernel_rfl) (by kernel_rfl) (fun _ _ _ h => h) (Or.inl ⟨by rfl, ?_⟩) hHeld0 ?_
        rotate_left
        · (intro w hSw; (try dsimp only at hSw); go_simp <;> (try with_reducible rfl))
        simp only [Act.put, List.getElem_toArray, List.getElem_cons_zero, List.getElem_cons_succ, List.setIfInBounds_toArray, List.set_cons_zero, List.set_cons_succ]
        refine wpAnyH_take (i := 6) (v := ?_) rfl (by kernel_rfl) (by kernel_rfl) (by kernel_rfl) (fun _ _ _ h => h) (Or.inl ⟨by rfl, ?_⟩) hHeld0 ?_
        rotate_left
        · (intro w hSw; (try dsimp only at hSw); go_simp <;> (try with_reducible rfl))
        simp only [Act.put, List.getElem_toArray, List.getElem_cons_zero, List.getElem_cons_succ, List.setIfInBounds_toArray, List.set_cons_zero, List.set_cons_succ]
        refine wpAnyH_take (i := 7) (v := ?_) rfl (by kernel_rfl) (by kernel_rfl) (by kernel_rfl) (fun _ _ _ h => h) (Or.inl ⟨by rfl, ?_⟩) hHeld0 ?_
        rotate_left
        · (intro w hSw; (try dsimp only at hSw); go_simp <;> (try with_reducible rfl))
        simp only [Act.put, List.getElem_toArray, List.getElem_cons_zero, List.getElem_cons_succ, List.setIfInBounds_toArray, List.set_cons_zero, List.set_cons_succ]
        refine wpAnyH_take (i := 8) (v := ?_) rfl (by kernel_rfl) (by kernel_rfl) (by kernel_rfl) (fun _ _ _ h => h) (Or.inl ⟨by rfl, ?_⟩) hHeld0 ?_
        rotate_left
        · (intro w hSw; (try dsimp only at hSw); go_simp <;> (try with_reducible rfl))
        simp only [Act.put, List.getElem_toArray, List.getElem_cons_zero, List.getElem_cons_succ, List.setIfInBounds_toArray, List.set_cons_zero, List.set_cons_succ]
        refine wpAnyH_take (i := 9) (v := .agg (C).toArray) rfl (by kernel_rfl) (by kernel_rfl) (by kernel_rfl) (fun _ _ _ h => h) (yieldsIf_load_mid (by rfl) _ _ rfl _ _ rfl (C) _ (fun w hSw => hSw.1) Tryz.underlying54 rfl hszc) hHeld0 ?_
        simp only [Act.put, List.getElem_toArray, List.getElem_cons_zero, List.getElem_cons_succ, List.setIfInBounds_toArray, List.set_cons_zero, List.set_cons_succ]
        refine wpAnyH_take (i := 10) (v := .agg (P).toArray) rfl (by kernel_rfl) (by kernel_rfl) (by kernel_rfl) (fun _ _ _ h => h) (yieldsIf_load_mid (by rfl) _ _ rfl _ _ rfl (P) _ (fun w hSw => hSw.2.1) Tryz.underlying46 rfl hszp) hHeld0 ?_
        simp only [Act.put, List.getElem_toArray, List.getElem_cons_zero, List.getElem_cons_succ, List.setIfInBounds_toArray, List.set_cons_zero, List.set_cons_succ]
        refine wpAnyH_ready (rs := [11]) (by kernel_rfl) (by simp) ?_
        refine AllReadyH.cons rfl (fun K hK => ?_) AllReadyH.nil
        go_simp
        go_wp2_with ((go_at_call 38; refine (HCM.out _ hHeld0.2.2.out.1).mono ?_; rintro e W1 ⟨rfl, hb1⟩))
        refine hK.out _ _ (by exact at_keep (w := w) hHeld0 hb1) (fun hHeld1 => ?_)
        clear hK K hHeld0
        try simp only [Act.put, List.getElem_toArray, List.getElem_cons_zero, List.getElem_cons_succ, List.setIfInBounds_toArray, List.set_cons_zero, List.set_cons_succ]
        refine wpAnyH_take (i := 12) (v := ?_) rfl (by kernel_rfl) (by kernel_rfl) (by kernel_rfl) (fun _ _ _ h => h) (Or.inl ⟨by rfl, ?_⟩) hHeld1 ?_
        rotate_left
        · (intro w hSw; (try dsimp only at hSw); go_simp <;> (try with_reducible rfl))
        simp only [Act.put, List.getElem_toArray, List.getElem_cons_zero, List.getElem_cons_succ, List.setIfInBounds_toArray, List.set_cons_zero, List.set_cons_succ]
        refine wpAnyH_take (i := 13) (v := ?_) rfl (by kernel_rfl) (by kernel_rfl) (by kernel_rfl) (fun _ _ _ h => h) (Or.inl ⟨by rfl, ?_⟩) hHeld1 ?_
        rotate_left
        · (intro w hSw; (try dsimp only at hSw); go_simp <;> (try with_reducible rfl))
        simp only [Act.put, List.getElem_toArray, List.getElem_cons_zero, List.getElem_cons_succ, List.setIfInBounds_toArray, List.set_cons_zero, List.set_cons_succ]
        refine wpAnyH_take (i := 14) (v := ?_) rfl (by kernel_rfl) (by kernel_rfl) (by kernel_rfl) (fun _ _ _ h => h) (Or.inl ⟨by rfl, ?_⟩) hHeld1 ?_
        rotate_left
        · (intro w hSw; (try dsimp only at hSw); go_simp <;> (try with_reducible rfl))
        simp only [Act.put, List.getElem_toArray, List.getElem_cons_zero, List.getElem_cons_succ, List.setIfInBounds_toArray, List.set_cons_zero, List.set_cons_succ]
        refine wpAnyH_take (i := 15) (v := ?_) rfl (by kernel_rfl) (by kernel_rfl) (by kernel_rfl) (fun _ _ _ h => h) (Or.inl ⟨by rfl, ?_⟩) hHeld1 ?_
        rotate_left
        · (intro w hSw; (try dsimp only at hSw); go_simp <;> (try with_reducible rfl))
        simp only [Act.put, List.getElem_toArray, List.getElem_cons_zero, List.getElem_cons_succ, List.setIfInBounds_toArray, List.set_cons_zero, List.set_cons_succ]
        refine wpAnyH_done (by kernel_rfl) ?_ _
        have HBL := hide hHeld1.2.2.out.1
        clear hHeld1
        by_cases hq : q = 0
        · have hd : (q == 0) = true := by rw [hq]; rfl
          have HFD : Hid (Cn.place R[m].it = (B, y)) := hide (Cn.pl_zero.1 (by rw [← HQE.out]; exact hq))
          go_wp2
          exact bodyPost_ret (v := .tuple #[.int .i64 (m : Int), .bool true]) (by simp [results, Tryz.results37, go_sem, hd]) rfl ⟨⟨m, true, rfl, fun _ => ⟨hmR, HFD.out⟩, fun h => (by cases h)⟩, HB0.out.trans (HBL.out.mono HB0.out.size)⟩
        · have hd : (q == 0) = false := by rw [beq_eq_false_iff_ne]; exact hq
          have HFD : Hid (∀ t (h : t < R.length), Cn.place R[t].it ≠ (B, y)) := hide (fun t h e => by
            have hz := Cn.pl_zero.2 e
            rcases Nat.lt_trichotomy t m with k | k | k
            · have := HDO.out t h k; omega
            · subst k; exact hq (by rw [HQE.out]; exact hz)
            · have hne := HQN.out
              have := HLT.out t h k
              omega)
          go_wp2
          exact bodyPost_ret (v := .tuple #[.int .i64 (m : Int), .bool false]) (by simp [results, Tryz.results37, go_sem, hd]) rfl ⟨⟨m, false, rfl, fun h => (by cases h), fun _ => HFD.out⟩, HB0.out.trans (HBL.out.mono HB0.out.size)⟩
      · have hni : ¬ (lo : Int) < (n : Int) := by omega
        have hdm : decide ((lo : Int) < (n : Int)) = false := decide_eq_false hni
        have hdm2 : decide (lo < n) = false := decide_eq_false hln
        go_wp2_with fail
        refine wp_region_held_drew (S := fun W : World => Hid (Below W0.heap.size W0 W)) (by kernel_rfl) ?_ (fun hHeld0 => ?_)
        · exact hide HBEL.out.drew
        refine wpAnyH_take (i := 0) (v := ?_) rfl (by kernel_rfl) (by kernel_rfl) (by kernel_rfl) (fun _ _ _ h => h) (Or.inl ⟨by rfl, ?_⟩) hHeld0 ?_
        rotate_left
        · (intro w hSw; (try dsimp only at hSw); go_simp <;> (try with_reducible rfl))
        simp only [Act.put, List.getElem_toArray, List.getElem_cons_zero, List.getElem_cons_succ, List.setIfInBounds_toArray, List.set_cons_zero, List.set_cons_succ]
        refine wpAnyH_take (i := 1) (v := ?_) rfl (by kernel_rfl) (by kernel_rfl) (by kernel_rfl) (fun _ _ _ h => h) (Or.inl ⟨by rfl, ?_⟩) hHeld0 ?_
        rotate_left
        · (intro w hSw; (try dsimp only at hSw); go_simp <;> (try with_reducible rfl))
        simp only [Act.put, List.getElem_toArray, List.getElem_cons_zero, List.getElem_cons_succ, List.setIfInBounds_toArray, List.set_cons_zero, List.set_cons_succ]
        refine wpAnyH_take (i := 2) (v := ?_) rfl (by kernel_rfl) (by kernel_rfl) (by kernel_rfl) (fun _ _ _ h => h) (Or.inl ⟨by rfl, ?_⟩) hHeld0 ?_
        rotate_left
        · (intro w hSw; (try dsimp only at hSw); go_simp <;> (try with_reducible rfl))
        simp only [Act.put, List.getElem_toArray, List.getElem_cons_zero, List.getElem_cons_succ, List.setIfInBounds_toArray, List.set_cons_zero, List.set_cons_succ]
        refine wpAnyH_take (i := 3) (v := ?_) rfl (by kernel_rfl) (by kernel_rfl) (by kernel_rfl) (fun _ _ _ h => h) (Or.inl ⟨by rfl, ?_⟩) hHeld0 ?_
        rotate_left
        · (intro w hSw; (try dsimp only at hSw); go_simp <;> (try with_reducible rfl))
        simp only [Act.put, List.getElem_toArray, List.getElem_cons_zero, List.getElem_cons_succ, List.setIfInBounds_toArray, List.set_cons_zero, List.set_cons_succ]
        refine wpAnyH_take (i := 4) (v := ?_) rfl (by kernel_rfl) (by kernel_rfl) (by kernel_rfl) (fun _ _ _ h => h) (Or.inl ⟨by rfl, ?_⟩) hHeld0 ?_
        rotate_left
        · (intro w hSw; (try dsimp only at hSw); go_simp <;> (try with_reducible rfl))
        simp only [Act.put, List.getElem_toArray, List.getElem_cons_zero, List.getElem_cons_succ, List.setIfInBounds_toArray, List.set_cons_zero, List.set_cons_succ]
        refine wpAnyH_take (i := 5) (v := undef) rfl (by kernel_rfl) (by kernel_rfl) (by kernel_rfl) (fun _ _ _ h => h) (Or.inr ⟨by rfl, rfl⟩) hHeld0 ?_
        simp only [Act.put, List.getElem_toArray, List.getElem_cons_zero, List.getElem_cons_succ, List.setIfInBounds_toArray, List.set_cons_zero, List.set_cons_succ]
        refine wpAnyH_take (i := 6) (v := undef) rfl (by kernel_rfl) (by kernel_rfl) (by kernel_rfl) (fun _ _ _ h => h) (Or.inr ⟨by rfl, rfl⟩) hHeld0 ?_
        simp only [Act.put, List.getElem_toArray, List.getElem_cons_zero, List.getElem_cons_succ, List.setIfInBounds_toArray, List.set_cons_zero, List.set_cons_succ]
        refine wpAnyH_take (i := 7) (v := undef) rfl (by kernel_rfl) (by kernel_rfl) (by kernel_rfl) (fun _ _ _ h => h) (Or.inr ⟨by rfl, rfl⟩) hHeld0 ?_
        simp only [Act.put, List.getElem_toArray, List.getElem_cons_zero, List.getElem_cons_succ, List.setIfInBounds_toArray, List.set_cons_zero, List.set_cons_succ]
        refine wpAnyH_take (i := 8) (v := undef) rfl (by kernel_rfl) (by kernel_rfl) (by kernel_rfl) (fun _ _ _ h => h) (Or.inr ⟨by rfl, rfl⟩) hHeld0 ?_
        simp only [Act.put, List.getElem_toArray, List.getElem_cons_zero, List.getElem_cons_succ, List.setIfInBounds_toArray, List.set_cons_zero, List.set_cons_succ]
        refine wpAnyH_take (i := 9) (v := undef) rfl (by kernel_rfl) (by kernel_rfl) (by kernel_rfl) (fun _ _ _ h => h) (Or.inr ⟨by rfl, rfl⟩) hHeld0 ?_
        simp only [Act.put, List.getElem_toArray, List.getElem_cons_zero, List.getElem_cons_succ, List.setIfInBounds_toArray, List.set_cons_zero, List.set_cons_succ]
        refine wpAnyH_take (i := 10) (v := undef) rfl (by kernel_rfl) (by kernel_rfl) (by kernel_rfl) (fun _ _ _ h => h) (Or.inr ⟨by rfl, rfl⟩) hHeld0 ?_
        simp only [Act.put, List.getElem_toArray, List.getElem_cons_zero, List.getElem_cons_succ, List.setIfInBounds_toArray, List.set_cons_zero, List.set_cons_succ]
        refine wpAnyH_take (i := 11) (v := undef) rfl (by kernel_rfl) (by kernel_rfl) (by kernel_rfl) (fun _ _ _ h => h) (Or.inr ⟨by rfl, rfl⟩) hHeld0 ?_
        simp only [Act.put, List.getElem_toArray, List.getElem_cons_zero, List.getElem_cons_succ, List.setIfInBounds_toArray, List.set_cons_zero, List.set_cons_succ]
        refine wpAnyH_take (i := 12) (v := undef) rfl (by kernel_rfl) (by kernel_rfl) (by kernel_rfl) (fun _ _ _ h => h) (Or.inr ⟨by rfl, rfl⟩) hHeld0 ?_
        simp only [Act.put, List.getElem_toArray, List.getElem_cons_zero, List.getElem_cons_succ, List.setIfInBounds_toArray, List.set_cons_zero, List.set_cons_succ]
        refine wpAnyH_take (i := 13) (v := ?_) rfl (by kernel_rfl) (by kernel_rfl) (by kernel_rfl) (fun _ _ _ h => h) (Or.inl ⟨by rfl, ?_⟩) hHeld0 ?_
        rotate_left
        · (intro w hSw; (try dsimp only at hSw); go_simp <;> (try with_reducible rfl))
        simp only [Act.put, List.getElem_toArray, List.getElem_cons_zero, List.getElem_cons_succ, List.setIfInBounds_toArray, List.set_cons_zero, List.set_cons_succ]
        refine wpAnyH_take (i := 14) (v := ?_) rfl (by kernel_rfl) (by kernel_rfl) (by kernel_rfl) (fun _ _ _ h => h) (Or.inl ⟨by rfl, ?_⟩) hHeld0 ?_
        rotate_left
        · (intro w hSw; (try dsimp only at hSw); go_simp <;> (try with_reducible rfl))
        simp only [Act.put, List.getElem_toArray, List.getElem_cons_zero, List.getElem_cons_succ, List.setIfInBounds_toArray, List.set_cons_zero, List.set_cons_succ]
        refine wpAnyH_take (i := 15) (v := ?_) rfl (by kernel_rfl) (by kernel_rfl) (by kernel_rfl) (fun _ _ _ h => h) (Or.inl ⟨by rfl, ?_⟩) hHeld0 ?_
        rotate_left
        · (intro w hSw; (try dsimp only at hSw); go_simp <;> (try with_reducible rfl))
        simp only [Act.put, List.getElem_toArray, List.getElem_cons_zero, List.getElem_cons_succ, List.setIfInBounds_toArray, List.set_cons_zero, List.set_cons_succ]
        refine wpAnyH_done (by kernel_rfl) ?_ _
        have HBL := hide hHeld0.out
        clear hHeld0
        have HFD : Hid (∀ t (h : t < R.length), Cn.place R[t].it ≠ (B, y)) := hide (fun t h e => by
          have hz := Cn.pl_zero.2 e
          have := HDO.out t h (by rw [← HN.out] at h; omega)
          omega)
        go_wp2
        exact bodyPost_ret (v := .tuple #[.int .i64 (lo : Int), .bool false]) (by simp [results, Tryz.results37, go_sem]) rfl ⟨⟨lo, false, rfl, fun h => (by cases h), fun _ => HFD.out⟩, HB0.out.trans (HBL.out.mono HB0.out.size)⟩
end Go.Proofs.YtmjilohlchkicaaGreatDoor

/- A copy of a coin. -/
namespace Go.Proofs.YtmjilohlchkicaaGreatDoor
open Go.RowKit
set_option linter.unusedVariables false
set_option linter.unusedSimpArgs false

/-- Bytes that lie in a block of which X holds. -/
def HasN (w : World) (X : Nat → Prop) (v : Value) (l : List Int) : Prop :=
  (∃ a cap, v = .slice a 0 cap ∧ l = [] ∧ cap ≤ maxLen ∧ (a = none → cap = 0)) ∨
  ∃ b off cap, v = .slice (some ⟨b, off, none⟩) l.length cap ∧ 0 < l.length ∧ l.length ≤ cap ∧ cap ≤ maxLen ∧ X b ∧ ∀ j, j < l.length → w.cell? ⟨b, off + j, none⟩ = some (.int .u8 (l.getD j 0))
theorem HasN.has {w : World} {X : Nat → Prop} {v : Value} {l : List Int} (h : HasN w X v l) : Has w v l := by
  rcases h with h | ⟨b, off, cap, h1, h2, h3, h4, _, h5⟩
  · exact .inl h
  · exact .inr ⟨b, off, cap, h1, h2, h3, h4, h5⟩
theorem Has.n {w : World} {X : Nat → Prop} {v : Value} {l : List Int} (h : Has w v l) (hX : ∀ b, b < w.heap.size → X b) : HasN w X v l := by
  rcases h with h | ⟨b, off, cap, h1, h2, h3, h4, h5⟩
  · exact .inl h
  · exact .inr ⟨b, off, cap, h1, h2, h3, h4, hX b (World.block_lt_of_cell? w _ (h5 0 h2)), h5⟩
theorem HasN.move {w w' : World} {X Y : Nat → Prop} {v : Value} {l : List Int} (h : HasN w X v l) (hb : ∀ b, b < w.heap.size → X b → w'.heap[b]? = w.heap[b]? ∧ Y b) : HasN w' Y v l := by
  rcases h with h | ⟨b, off, cap, h1, h2, h3, h4, h5, h6⟩
  · exact .inl h
  · have hlt : b < w.heap.size := World.block_lt_of_cell? w _ (h6 0 h2)
    obtain ⟨e, y⟩ := hb b hlt h5
    exact .inr ⟨b, off, cap, h1, h2, h3, h4, y, fun j hj => by rw [World.cell?_of_block (a := ⟨b, off + j, none⟩) e]; exact h6 j hj⟩

theorem own_hasN {w : World} {base : Nat} {v : Value} {l : List Int} {X : Nat → Prop} (h : Own w base v l) (h0 : 0 < l.length) (hX : ∀ b, base ≤ b → X b) : HasN w X v l := by
  obtain ⟨g, cap, rfl, h1, h2, h3, h4, hr⟩ := owns_some h h0
  exact .inr ⟨g, 0, cap, rfl, h0, h3, h4, hX g h1, fun j hj => hr j _ (vals_get l j hj)⟩
theorem own_hasN' {w : World} {base : Nat} {v : Value} {l : List Int} {X : Nat → Prop} (h : Own w base v l) (hX : ∀ b, base ≤ b → X b) : HasN w X v l := by
  by_cases h0 : 0 < l.length
  · exact own_hasN h h0 hX
  · rcases h.has with h1 | ⟨b, off, cap, _, h2, _⟩
    · exact .inl h1
    · exact absurd h2 h0
theorem opCells_set : ∀ (M : List (Lk.Op × Value)) (k : Nat) (hk : k < M.length) (u : Value), (opCells M).set (k * 3 + 2) u = opCells (M.set k (M[k].1, u))
  | p :: M, 0, _, u => rfl
  | p :: M, k + 1, hk, u => by
    have ih := opCells_set M k (by simpa using hk) u
    show (Value.int .i64 p.1.op :: Value.int .i64 p.1.n :: p.2 :: opCells M).set ((k + 1) * 3 + 2) u = _
    rw [show (k + 1) * 3 + 2 = (k * 3 + 2) + 1 + 1 + 1 by omega, List.set_cons_succ, List.set_cons_succ, List.set_cons_succ, ih]
    rfl
theorem cn_but_row (w : World) (g : Nat) (cs : Array Value) : But g w (w.setRow g cs) := Only.setRow (Only.refl g w.heap.size w) (.inl rfl) cs
/-- What a copy's boxes and row hold. -/
structure ClS (w : World) (g k : Nat) (C Z tl : List Value) (M : List (Lk.Op × Value)) (W : World) : Prop where
  below : Below w.heap.size w W
  c : Is W w.heap.size C 54
  z : Is W (w.heap.size + 1) Z 54
  row : Is W g (opCells M ++ tl) 95
  lo : w.heap.size + 1 < g
  has : ∀ j (hj : j < M.length), HasN W (fun b => b ≠ w.heap.size + 1 ∧ b ≠ g ∧ (j < k → w.heap.size ≤ b)) M[j].2 M[j].1.data
theorem ClS.drew {w : World} {g kk : Nat} {C Z tl : List Value} {M : List (Lk.Op × Value)} {W : World} (h : ClS w g kk C Z tl M W) : ClS w g kk C Z tl M W.drew := ⟨h.below.drew, h.c.drew, h.z.drew, h.row.drew, h.lo, fun j hj => h.has j hj⟩
theorem ClS.call {w : World} {g kk : Nat} {C Z tl : List Value} {M : List (Lk.Op × Value)} {W W' : World} (h : ClS w g kk C Z tl M W) (hb : Below W.heap.size W W') : ClS w g kk C Z tl M W' :=
  ⟨h.below.trans (hb.mono h.below.size), h.c.below hb h.c.lt, h.z.below hb h.z.lt, h.row.below hb h.row.lt, h.lo, fun j hj => (h.has j hj).move (fun b hlt hX => ⟨hb.block b hlt, hX⟩)⟩
theorem ClS.range {w : World} {g kk : Nat} {C Z tl : List Value} {M : List (Lk.Op × Value)} {W : World} (h : ClS w g kk C Z tl M W) (k : Nat) (hk : k < M.length) : W.cell? ⟨g, k * 3, none⟩ = some (.int .i64 M[k].1.op) ∧ W.cell? ⟨g, k * 3 + 1, none⟩ = some (.int .i64 M[k].1.n) ∧ W.cell? ⟨g, k * 3 + 2, none⟩ = some M[k].2 := by
  obtain ⟨a, b, c⟩ := opCells_get M k hk
  have hl := opCells_length M
  refine ⟨?_, ?_, ?_⟩
  · rw [h.row.cell, List.getElem?_append_left (by omega)]; exact a
  · rw [h.row.cell, List.getElem?_append_left (by omega)]; exact b
  · rw [h.row.cell, List.getElem?_append_left (by omega)]; exact c
theorem ClS.set {w : World} {g k : Nat} {C Z tl : List Value} {M : List (Lk.Op × Value)} {W : World} (h : ClS w g k C Z tl M W) (hk : k < M.length) (u : Value) (hu : HasN W (fun b => b ≠ w.heap.size + 1 ∧ b ≠ g ∧ w.heap.size ≤ b) u M[k].1.data) : ClS w g (k + 1) C Z tl (M.set k (M[k].1, u)) (W.setCell ⟨g, k * 3 + 2, none⟩ u) := by
  have hl := opCells_length M
  have hlo := h.lo
  have hb := But.cell W g (k * 3 + 2) u
  refine ⟨h.below.trans (hb.under h.below.size (by omega)), hb.kept h.c (by omega), hb.kept h.z (by omega), ?_, h.lo, fun j hj => ?_⟩
  · have := h.row.set (k * 3 + 2) u
    rw [List.set_append_left _ _ (by omega), opCells_set M k hk u] at this
    exact this
  · have hj' : j < M.length := by simpa using hj
    by_cases e : j = k
    · subst e
      rw [List.getElem_set_self]
      exact hu.move (fun b hlt hX => ⟨hb.block b hlt hX.2.1, hX.1, hX.2.1, fun _ => hX.2.2⟩)
    · rw [List.getElem_set_ne (Ne.symm e)]
      exact (h.has j hj').move (fun b hlt hX => ⟨hb.block b hlt hX.2.1, hX.1, hX.2.1, fun hk1 => hX.2.2 (by omega)⟩)
theorem own_is {W : World} {base s n : Nat} {e : TypeId} {v : Value} {cs : List Value} (h : W.ownsRow base e s v n cs) (h0 : 0 < n) : ∃ g cap tl, v = .slice (some ⟨g, 0, none⟩) n cap ∧ base ≤ g ∧ n ≤ cap ∧ cap ≤ maxLen ∧ Is W g (cs ++ tl) e := by
  have hl := h.1
  rcases h.2 with ⟨rfl, hn⟩ | ⟨g, cap, cur, rfl, hbg, hg', hn, hc', hs', ht'⟩
  · omega
  · refine ⟨g, cap, cur.toList.drop cs.length, rfl, hbg, hn, hc', ?_⟩
    have e2 : cs ++ cur.toList.drop cs.length = cur.toList := by
      conv => rhs; rw [← List.take_append_drop cs.length cur.toList]
      congr 1
      rw [hl]
      exact ht'.symm
    unfold Is
    rw [e2]
    exact hg'
/-- A copy: as the coin is, its lock in blocks of its own. -/
def From (lo : Nat) (W : World) (F : World → Prop) : Prop := ∀ W', W.heap.size ≤ W'.heap.size → (∀ k, lo ≤ k → k < W.heap.size → W'.heap[k]? = W.heap[k]?) → F W'
theorem From.out {lo : Nat} {W : World} {F : World → Prop} (h : From lo W F) : F W := h W (Nat.le_refl _) (fun _ _ _ => rfl)
theorem From.but {lo R : Nat} {W W' : World} {F : World → Prop} (h : From lo W F) (hb : But R W W') (hR : R < lo) : From lo W' F := fun W2 h2 k2 => h W2 (Nat.le_trans hb.size h2) (fun k h3 h4 => (k2 k h3 (Nat.lt_of_lt_of_le h4 hb.size)).trans (hb.block k h4 (by omega)))
theorem From.call {lo : Nat} {W W' : World} {F : World → Prop} (h : From lo W F) (hb : Below W.heap.size W W') : From lo W' F := fun W2 h2 k2 => h W2 (Nat.le_trans hb.size h2) (fun k h3 h4 => (k2 k h3 (Nat.lt_of_lt_of_le h4 hb.size)).trans (hb.block k h4))
theorem From.mono {lo lo' : Nat} {W : World} {F : World → Prop} (h : From lo W F) (hl : lo' ≤ lo) : From lo' W F := fun W2 h2 k2 => h W2 h2 (fun k h3 h4 => k2 k (Nat.le_trans hl h3) h4)
def ClTold (x : CoinV) (e : Ending) (lo : Nat) (w' : World) : Prop := ∃ x' : CoinV, e = .returned (.agg (coinCell x').toArray) ∧ x'.it = x.it ∧ From lo w' (fun W => CoinOk W x')
theorem coin_set (tx : List Int) (at' am ht : Int) (lv lv' : Value) (L M : List (Lk.Op × Value)) (h : tx.length = 32) : (coinCell ⟨tx, at', am, lv, L, ht⟩).set 34 lv' = coinCell ⟨tx, at', am, lv', M, ht⟩ := by
  unfold coinCell
  rw [List.set_append_right _ _ (by rw [vals_length, h]; omega), vals_length, h]
  rfl
theorem map_set_fst (M : List (Lk.Op × Value)) (k : Nat) (hk : k < M.length) (u : Value) : (M.set k (M[k].1, u)).map Prod.fst = M.map Prod.fst := by
  rw [List.map_set]
  apply List.ext_getElem (by simp)
  intro i h1 h2
  rw [List.getElem_set]
  split
  · rename_i e; subst e; simp
  · rfl
set_option maxRecDepth 100000 in
set_option maxHeartbeats 4000000 in
theorem cclone_any (x : CoinV) (w : World) (hx : CoinOk w x) (hm : x.L.length ≤ 1000) (hd : ∀ p ∈ x.L, p.1.data.length ≤ 180000000000000) :
    Calls Tryz.prog 41 #[.agg (coinCell x).toArray] w fun e w' => ClTold x e w.heap.size w' ∧ Below w.heap.size w w' := by
  obtain ⟨tx, at', am, lv, L, ht⟩ := x
  dsimp only at hm hd
  obtain ⟨C, hC⟩ : ∃ C, C = coinCell ⟨tx, at', am, lv, L, ht⟩ := ⟨_, rfl⟩
  have h32 := hx.1
  have hbt := hx.2.1
  have hops := hx.2.2
  dsimp only at h32 hbt hops
  have hCl : C.length = 36 := by rw [hC]; exact coinCell_length _ h32
  have hCp : ¬ C = [] := by intro h; rw [h] at hCl; cases hCl
  have HCC : Hid (∀ lv' M, C.set 34 lv' = coinCell ⟨tx, at', am, lv', M, ht⟩) := hide (fun lv' M => by rw [hC]; exact coin_set tx at' am ht lv lv' L M h32)
  have HLEN : Hid (∀ lv' M, (coinCell ⟨tx, at', am, lv', M, ht⟩).length = 36) := hide (fun lv' M => coinCell_length _ h32)
  have HG34 : Hid (C[34]? = some lv) := hide (by rw [hC]; exact (coin_get h32).2.2.1)
  have hzc := zero_coin
  obtain ⟨Z, hZ⟩ : ∃ Z, Z = vals (List.replicate 32 0) ++ ([.int .i64 0, .int .i64 0, .slice none 0 0, .int .i64 0] : List Value) := ⟨_, rfl⟩
  rw [← hZ] at hzc
  have hZl : Z.length = 36 := by rw [hZ]; simp [vals]
  have hZp : ¬ Z = [] := by intro h; rw [h] at hZl; cases hZl
  have HZL := hide hZl
  have HI0 : Hid (Is ((w.alloc (.cells C.toArray 54)).alloc (.cells Z.toArray 54)) w.heap.size C 54) := hide ((Is.new w C 54).alloc _)
  have HZ0 : Hid (Is ((w.alloc (.cells C.toArray 54)).alloc (.cells Z.toArray 54)) (w.heap.size + 1) Z 54) := hide (Is.new' Z 54 (by simp))
  have HB0 := hide (below_alloc2 w (.cells C.toArray 54) (.cells Z.toArray 54))
  obtain ⟨la, ln, lc, hlv⟩ := hasOps_slice hops
  subst hlv
  have hc0 := HI0.out.cell 34
  rw [HG34.out] at hc0
  have hf0 := HI0.out.frozen
  have HCO : Hid (Calls Tryz.prog 64 #[.slice la ln lc] ((w.alloc (.cells C.toArray 54)).alloc (.cells Z.toArray 54)) fun e w' => ∃ a n c, e = .returned (.slice a n c) ∧ w'.ownsRow ((w.alloc (.cells C.toArray 54)).alloc (.cells Z.toArray 54)).heap.size 95 3 (.slice a n c) L.length (opCells L) ∧ Below ((w.alloc (.cells C.toArray 54)).alloc (.cells Z.toArray 54)).heap.size ((w.alloc (.cells C.toArray 54)).alloc (.cells Z.toArray 54)) w') := hide (cloneOps_any _ L _ (hops.below HB0.out) hm)
  have HOPB : Hid (∀ p ∈ L, Has w p.2 p.1.data ∧ Sz.Byt p.1.data) := hide hops.2
  have HD := hide hd
  have HFIN : Hid (∀ (W : World) (lv' : Value) (M : List (Lk.Op × Value)), M.map Prod.fst = L.map Prod.fst → From w.heap.size W (fun W => HasOps W lv' M) → ClTold ⟨tx, at', am, .slice la ln lc, L, ht⟩ (.returned (.agg (coinCell ⟨tx, at', am, lv', M, ht⟩).toArray)) w.heap.size W) := hide (fun W lv' M hM hO => ⟨⟨tx, at', am, lv', M, ht⟩, rfl, by unfold CoinV.it opsOf; rw [hM], fun W' h1 h2 => ⟨h32, hbt, hO W' h1 h2⟩⟩)
  rw [← hC]
  clear hC hCl hZ hZl hx hops h32 hbt hd
  go_enter Tryz.func41, Tryz.ntmps41
  go_wp2_with fail
  refine HCO.out.mono ?_
  rintro e w1 ⟨na, nn, nc, rfl, hown, hb1⟩
  obtain ⟨na2, nc2, hnv⟩ := owns_form hown
  obtain ⟨rfl, rfl, rfl⟩ : na = na2 ∧ nn = L.length ∧ nc = nc2 := by injection hnv with a b c; exact ⟨a, b, c⟩
  have HI1 := hide (HI0.out.below hb1 HI0.out.lt)
  have HZ1 := hide (HZ0.out.below hb1 HZ0.out.lt)
  have HB1 := hide (HB0.out.trans (hb1.mono HB0.out.size))
  have HBC := hide (But.cell w1 w.heap.size 34 (.slice na L.length nc))
  have HI2 : Hid (Is (w1.setCell ⟨w.heap.size, 34, none⟩ (.slice na L.length nc)) w.heap.size (C.set 34 (.slice na L.length nc)) 54) := hide (HI1.out.set 34 _)
  have HZ2 := hide (HBC.out.kept HZ1.out (by omega))
  have HB2 := hide (HB1.out.trans (HBC.out.under HB1.out.size (Nat.le_refl _)))
  have HOW : Hid (w1.ownsRow (w.heap.size + 2) 95 3 (.slice na L.length nc) L.length (opCells L)) := hide (by have h := hown; rw [show ((w.alloc (.cells C.toArray 54)).alloc (.cells Z.toArray 54)).heap.size = w.heap.size + 2 from by simp] at h; exact h)
  have HHAS : Hid (∀ g, w.heap.size + 1 < g → ∀ j (hj : j < L.length), HasN (w1.setCell ⟨w.heap.size, 34, none⟩ (.slice na L.length nc)) (fun b => b ≠ w.heap.size + 1 ∧ b ≠ g ∧ (j < 0 → w.heap.size ≤ b)) L[j].2 L[j].1.data) := hide (fun g hg j hj => ((HOPB.out _ (List.getElem_mem hj)).1.n (X := fun b => b < w.heap.size) (fun b h => h)).move (fun b hlt hX => ⟨HB2.out.block b hlt, by omega, by omega, fun h => absurd h (by omega)⟩))
  have hc1 := HI1.out.cell 34
  rw [HG34.out] at hc1
  have hf1 := HI1.out.frozen
  clear hown hb1 hnv HI0 HZ0 HB0 HCO hc0 hf0
  obtain ⟨n, hn⟩ : ∃ n, n = L.length := ⟨_, rfl⟩
  have HN := hide hn
  by_cases h0 : L.length = 0
  · have hc2 := HI2.out.cell 34
    rw [HCC.out _ []] at HI2 hc2
    have HLL : Hid (L = []) := hide (List.eq_nil_of_length_eq_zero h0)
    rw [h0] at HI2 HZ2 HB2 hc2 ⊢
    have hc3 : (w1.setCell ⟨w.heap.size, 34, none⟩ (.slice na 0 nc)).cell? ⟨w.heap.size, 34, none⟩ = some (.slice na 0 nc) := by rw [HI2.out.cell 34]; exact (coin_get (by have := HLEN.out (.slice none 0 0) []; simp [coinCell, vals_length] at this; exact this)).2.2.1
    clear hn HN h0 hc2
    go_wp2
    refine wp_loop_rounds 1 ?_
    rw [rounds_succ]
    go_wp2_with (first
      | (refine wpList_load_part 54 (coinCell ⟨tx, at', am, .slice na 0 nc, [], ht⟩) w.heap.size 0 rfl (.tmp 1) rfl rfl (is_range HI2.out) Tryz.underlying54 rfl size_coin (HLEN.out _ _) ?_)
      | (refine wpList_store_any3 54 Z (coinCell ⟨tx, at', am, .slice na 0 nc, [], ht⟩) (w.heap.size + 1) rfl (.tmp 2) (.tmp 30) rfl rfl rfl rfl HZ2.out size_coin HZL.out (HLEN.out _ _) (coin_ones _ ⟨_, _, _, rfl⟩) ?_; intro w9 hi9 hw9; have hbr : But (w.heap.size + 1) (w1.setCell ⟨w.heap.size, 34, none⟩ (.slice na 0 nc)) w9 := (by rw [hw9]; exact cn_but_row _ (w.heap.size + 1) _); clear hw9))
    exact bodyPost_ret (v := .agg (coinCell ⟨tx, at', am, .slice na 0 nc, [], ht⟩).toArray) (results_cell1 Tryz.results41 rfl (hi9.cellsOfS Tryz.underlying54 (by rw [HLEN.out]; exact size_coin))) rfl ⟨HFIN.out w9 _ [] (by rw [HLL.out]) (fun W' _ _ => ⟨.inl ⟨_, _, rfl, rfl⟩, fun p hp => (by cases hp)⟩), HB2.out.trans (hbr.under HB2.out.size (by omega))⟩
  · obtain ⟨g, cap, tl, hgv, hbg, hnc, hcm, hrow⟩ := own_is HOW.out (by omega)
    obtain ⟨rfl, rfl⟩ : na = some ⟨g, 0, none⟩ ∧ nc = cap := by injection hgv with a b c; exact ⟨a, c⟩
    rw [HCC.out _ L] at HI2
    obtain ⟨C2, hC2⟩ : ∃ C2, C2 = coinCell ⟨tx, at', am, .slice (some ⟨g, 0, none⟩) L.length nc, L, ht⟩ := ⟨_, rfl⟩
    have HC2E : Hid (∀ M, C2 = coinCell ⟨tx, at', am, .slice (some ⟨g, 0, none⟩) L.length nc, M, ht⟩) := hide (fun M => by rw [hC2]; rfl)
    have HC2L : Hid (C2.length = 36) := hide (by rw [hC2]; exact HLEN.out _ _)
    have HC21 : Hid (∀ v ∈ C2, v.oneCell' = true) := hide (by rw [hC2]; exact coin_ones _ ⟨_, _, _, rfl⟩)
    have HC234 : Hid (C2[34]? = some (.slice (some ⟨g, 0, none⟩) L.length nc)) := hide (by rw [hC2]; exact (coin_get (by have := HLEN.out (.slice none 0 0) []; simp [coinCell, vals_length] at this; exact this)).2.2.1)
    rw [← hC2] at HI2
    have HS0 : Hid (ClS w g 0 C2 Z tl L (w1.setCell ⟨w.heap.size, 34, none⟩ (.slice (some ⟨g, 0, none⟩) L.length nc))) := hide ⟨HB2.out, HI2.out, HZ2.out, HBC.out.kept hrow (by omega), by omega, HHAS.out g (by omega)⟩
    have hg34 := HI2.out.cell 34
    rw [HC234.out] at hg34
    rw [← hn] at hnc HC2E HC234 HS0 hm hg34 ⊢
    clear hgv hrow hC2 HI2 HZ2 HB2 HOW HHAS HI1 HZ1 HB1 HBC hn
    unfold maxLen at hcm
    go_wp2
    go_loopw [15] (fun i wr => ∃ k : Nat, k ≤ n ∧ i = .int .i64 k ∧ ∃ M : List (Lk.Op × Value), M.map Prod.fst = L.map Prod.fst ∧ ClS w g k C2 Z tl M wr) (fun i _ => n - (intOf i).toNat)
    case atStart => exact ⟨0, by omega, rfl, L, rfl, HS0.out⟩
    case round =>
      obtain ⟨k, hk, rfl, M, hM, hst⟩ := hrel
      have HST := hide hst
      have HM := hide hM
      have hml : M.length = n := by have := congrArg List.length hM; rw [List.length_map, List.length_map] at this; rw [this, HN.out]
      have HML := hide hml
      clear hst hM hml
      by_cases hlt : k < n
      · have hki : (k : Int) < (n : Int) := by omega
        have hkm : k < M.length := by rw [HML.out]; exact hlt
        obtain ⟨r1, r2, r3⟩ := HST.out.range k hkm
        obtain ⟨da, dn, dc, hdv⟩ : ∃ a n c, M[k].2 = .slice a n c := by obtain ⟨a, c, e, _⟩ := (HST.out.has k hkm).has.shape; exact ⟨a, _, c, e⟩
        rw [hdv] at r3
        have HHD : Hid (Has wr (.slice da dn dc) M[k].1.data) := hide (by rw [← hdv]; exact (HST.out.has k hkm).has)
        have HDL : Hid (M[k].1.data.length ≤ 180000000000000) := hide (by
          have hmem : M[k].1 ∈ L.map Prod.fst := by rw [← HM.out]; exact List.mem_map.2 ⟨M[k], List.getElem_mem hkm, rfl⟩
          obtain ⟨p, hp, e⟩ := List.mem_map.1 hmem
          rw [← e]; exact HD.out p hp)
        have HDV := hide hdv
        obtain ⟨oo, hoo⟩ : ∃ o, o = M[k].1.op := ⟨_, rfl⟩
        obtain ⟨on, hon⟩ : ∃ o, o = M[k].1.n := ⟨_, rfl⟩
        rw [← hoo] at r1
        rw [← hon] at r2
        have HRO : Hid (wr.rangeAt g (k * 3) [.int .i64 oo, .int .i64 on, .slice da dn dc]) := hide (fun j v hv => by
          match j, hv with
          | 0, hv => cases hv; exact r1
          | 1, hv => cases hv; exact r2
          | 2, hv => cases hv; exact r3)
        have HCB : Hid (∀ W, Has W (.slice da dn dc) M[k].1.data → Calls Tryz.prog 65 #[.slice da dn dc] W fun e w' => ∃ a n c, e = .returned (.slice a n c) ∧ Own w' W.heap.size (.slice a n c) M[k].1.data ∧ Below W.heap.size W w') := hide (fun W hW => cl_bytes _ _ W hW HDL.out)
        clear hoo hon hdv r1 r2 r3
        go_wp2_with (first
          | (refine wpList_load_part 95 [.int .i64 oo, .int .i64 on, .slice da dn dc] g (k * 3) rfl (.tmp 18) rfl rfl HRO.out Tryz.underlying95 rfl size_op rfl ?_)
          | (refine wpList_store_new 95 [.int .i64 0, .int .i64 0, .slice none 0 0] [.int .i64 oo, .int .i64 on, .slice da dn dc] wr size_op rfl rfl (by intro v hv; simp only [List.mem_cons, List.not_mem_nil, or_false] at hv; rcases hv with rfl | rfl | rfl <;> rfl) rfl (.tmp 4) (.tmp 19) rfl rfl rfl rfl ?_; have HBN := hide (below_alloc wr (.cells #[.int .i64 oo, .int .i64 on, .slice da dn dc] 95)); have HS1 := hide (HST.out.call HBN.out); have hcb := HS1.out.drew.c.cell 34; rw [HC234.out] at hcb; have hco := (Is.new wr [.int .i64 oo, .int .i64 on, .slice da dn dc] 95).drew.cell 2; simp only [List.getElem?_cons_zero, List.getElem?_cons_succ] at hco; have HH1 : Hid (Has (wr.alloc (.cells #[.int .i64 oo, .int .i64 on, .slice da dn dc] 95)).drew (.slice da dn dc) M[k].1.data) := hide (HHD.out.below HBN.out.drew); have HLT1 : Hid (wr.heap.size < (wr.alloc (.cells #[.int .i64 oo, .int .i64 on, .slice da dn dc] 95)).drew.heap.size) := hide (by show wr.heap.size < (wr.alloc _).heap.size; simp); have HBIG : Hid (w.heap.size + 1 < g ∧ g < wr.heap.size ∧ wr.heap.size < (wr.alloc (.cells #[.int .i64 oo, .int .i64 on, .slice da dn dc] 95)).drew.heap.size) := hide ⟨HST.out.lo, HST.out.row.lt, HLT1.out⟩))
        refine wp_region_held_drew (S := fun W : World => W.cell? ⟨w.heap.size, 34, none⟩ = some (.slice (some ⟨g, 0, none⟩) n nc) ∧ W.cell? ⟨wr.heap.size, 2, none⟩ = some (.slice da dn dc)) (by kernel_rfl) ?_ (fun hHeld0 => ?_)
        · exact ⟨hcb, hco⟩
        refine wpAnyH_take (i := 0) (v := ?_) rfl (by kernel_rfl) (by kernel_rfl) (by kernel_rfl) (fun _ _ _ h => h) (Or.inl ⟨by rfl, ?_⟩) hHeld0 ?_
        rotate_left
        · (intro w hSw; (try dsimp only at hSw); go_simp <;> (try with_reducible rfl))
        simp only [Act.put, List.getElem_toArray, List.getElem_cons_zero, List.getElem_cons_succ, List.setIfInBounds_toArray, List.set_cons_zero, List.set_cons_succ]
        refine wpAnyH_take (i := 1) (v := ?_) rfl (by kernel_rfl) (by kernel_rfl) (by kernel_rfl) (fun _ _ _ h => h) (Or.inl ⟨by rfl, ?_⟩) hHeld0 ?_
        rotate_left
        · (intro w hSw; (try dsimp only at hSw); go_simp <;> (try with_reducible rfl))
        simp only [Act.put, List.getElem_toArray, List.getElem_cons_zero, List.getElem_cons_succ, List.setIfInBounds_toArray, List.set_cons_zero, List.set_cons_succ]
        refine wpAnyH_take (i := 2) (v := ?_) rfl (by kernel_rfl) (by kernel_rfl) (by kernel_rfl) (fun _ _ _ h => h) (Or.inl ⟨by rfl, ?_⟩) hHeld0 ?_
        rotate_left
        · (intro w hSw; (try dsimp only at hSw); go_simp <;> (try with_reducible rfl))
        simp only [Act.put, List.getElem_toArray, List.getElem_cons_zero, List.getElem_cons_succ, List.setIfInBounds_toArray, List.set_cons_zero, List.set_cons_succ]
        refine wpAnyH_take (i := 3) (v := ?_) rfl (by kernel_rfl) (by kernel_rfl) (by kernel_rfl) (fun _ _ _ h => h) (Or.inl ⟨by rfl, ?_⟩) hHeld0 ?_
        rotate_left
        · (intro w hSw; (try dsimp only at hSw); go_simp <;> (try with_reducible rfl))
        simp only [Act.put, List.getElem_toArray, List.getElem_cons_zero, List.getElem_cons_succ, List.setIfInBounds_toArray, List.set_cons_zero, List.set_cons_succ]
        refine wpAnyH_take (i := 4) (v := ?_) rfl (by kernel_rfl) (by kernel_rfl) (by kernel_rfl) (fun _ _ _ h => h) (Or.inl ⟨by rfl, ?_⟩) hHeld0 ?_
        rotate_left
        · (intro w hSw; (try dsimp only at hSw); go_simp <;> (try with_reducible rfl))
        simp only [Act.put, List.getElem_toArray, List.getElem_cons_zero, List.getElem_cons_succ, List.setIfInBounds_toArray, List.set_cons_zero, List.set_cons_succ]
        refine wpAnyH_take (i := 5) (v := ?_) rfl (by kernel_rfl) (by kernel_rfl) (by kernel_rfl) (fun _ _ _ h => h) (Or.inl ⟨by rfl, ?_⟩) hHeld0 ?_
        rotate_left
        · (intro w hSw; (try dsimp only at hSw); go_simp <;> (try with_reducible rfl))
        simp only [Act.put, List.getElem_toArray, List.getElem_cons_zero, List.getElem_cons_succ, List.setIfInBounds_toArray, List.set_cons_zero, List.set_cons_succ]
        refine wpAnyH_ready (rs := [6]) (by kernel_rfl) (by simp) ?_
        refine AllReadyH.cons rfl (fun K hK => ?_) AllReadyH.nil
        go_simp
        go_wp2_with ((go_at_call 65; refine (HCB.out _ HH1.out).mono ?_; rintro e w3 ⟨ua, un, uc, rfl, hu3, hb3⟩; have HS3 := hide (HS1.out.drew.call hb3); have HU3 := hide (own_hasN' (X := fun b => b ≠ w.heap.size + 1 ∧ b ≠ g ∧ w.heap.size ≤ b) hu3 (fun b hb => ⟨by have := HBIG.out; omega, by have := HBIG.out; omega, by have := HBIG.out; omega⟩)); have HCO2X := hide (hb3.cell (p := ⟨wr.heap.size, 2, none⟩) HLT1.out)))
        refine hK.out _ _ (by exact ⟨by rw [HS3.out.c.cell 34]; exact HC234.out, by rw [hb3.cell (p := ⟨wr.heap.size, 2, none⟩) HLT1.out]; exact hco⟩) (fun hHeld1 => ?_)
        clear hK K hHeld0
        try simp only [Act.put, List.getElem_toArray, List.getElem_cons_zero, List.getElem_cons_succ, List.setIfInBounds_toArray, List.set_cons_zero, List.set_cons_succ]
        refine wpAnyH_take (i := 7) (v := ?_) rfl (by kernel_rfl) (by kernel_rfl) (by kernel_rfl) (fun _ _ _ h => h) (Or.inl ⟨by rfl, ?_⟩) hHeld1 ?_
        rotate_left
        · (intro w hSw; (try dsimp only at hSw); go_simp <;> (try with_reducible rfl))
        simp only [Act.put, List.getElem_toArray, List.getElem_cons_zero, List.getElem_cons_succ, List.setIfInBounds_toArray, List.set_cons_zero, List.set_cons_succ]
        refine wpAnyH_take (i := 8) (v := ?_) rfl (by kernel_rfl) (by kernel_rfl) (by kernel_rfl) (fun _ _ _ h => h) (Or.inl ⟨by rfl, ?_⟩) hHeld1 ?_
        rotate_left
        · (intro w hSw; (try dsimp only at hSw); go_simp <;> (try with_reducible rfl))
        simp only [Act.put, List.getElem_toArray, List.getElem_cons_zero, List.getElem_cons_succ, List.setIfInBounds_toArray, List.set_cons_zero, List.set_cons_succ]
        refine wpAnyH_ready (rs := [9]) (by kernel_rfl) (by simp) ?_
        refine AllReadyH.cons rfl (fun K hK => ?_) AllReadyH.nil
        have HSET := hide (HS3.out.set hkm (.slice ua un uc) HU3.out)
        have hr3 := (HS3.out.range k hkm).2.2
        rw [HDV.out] at hr3
        have hf3 := HS3.out.row.frozen
        have HCO2 : Hid ((w3.setCell ⟨g, k * 3 + 2, none⟩ (.slice ua un uc)).cell? ⟨wr.heap.size, 2, none⟩ = some (.slice da dn dc)) := hide (by rw [World.cell?_setCell_far _ _ _ _ (by have := HBIG.out; show g ≠ wr.heap.size; omega)]; exact HCO2X.out.trans hco)
        go_simp
        refine hK.out _ _ (by exact ⟨by rw [HSET.out.c.cell 34]; exact HC234.out, HCO2.out⟩) (fun hHeld2 => ?_)
        clear hK K hHeld1
        try simp only [Act.put, List.getElem_toArray, List.getElem_cons_zero, List.getElem_cons_succ, List.setIfInBounds_toArray, List.set_cons_zero, List.set_cons_succ]
        refine wpAnyH_done (by kernel_rfl) ?_ _
        go_wp2
        go_roundw
        case rel => exact ⟨k + 1, by omega, by go_num, M.set k (M[k].1, .slice ua un uc), by rw [map_set_fst M k hkm]; exact HM.out, HSET.out⟩
        case measure => simp [intOf]; omega
      · obtain rfl : k = n := by omega
        have hki : ¬ (k : Int) < (k : Int) := by omega
        have HBY : Hid (∀ p ∈ M, Sz.Byt p.1.data) := hide (fun p hp => by
          have hmem : p.1 ∈ L.map Prod.fst := by rw [← HM.out]; exact List.mem_map.2 ⟨p, hp, rfl⟩
          obtain ⟨q, hq, e⟩ := List.mem_map.1 hmem
          rw [← e]; exact (HOPB.out q hq).2)
        go_wp2_with (first
          | (refine wpList_load_part 54 C2 w.heap.size 0 rfl (.tmp 1) rfl rfl (is_range HST.out.c) Tryz.underlying54 rfl size_coin HC2L.out ?_)
          | (refine wpList_store_any3 54 Z C2 (w.heap.size + 1) rfl (.tmp 2) (.tmp 30) rfl rfl rfl rfl HST.out.z size_coin HZL.out HC2L.out HC21.out ?_; intro w9 hi9 hw9; have hbr : But (w.heap.size + 1) wr w9 := (by rw [hw9]; exact cn_but_row _ (w.heap.size + 1) _); clear hw9))
        have hho : From w.heap.size w9 (fun W => HasOps W (.slice (some ⟨g, 0, none⟩) k nc) M) := fun W' hs hk' => by
          have h := HST.out
          have hlo := h.lo
          have hrow9 : Is W' g (opCells M ++ tl) 95 := by
            have h9 := hbr.kept h.row (by omega)
            unfold Is
            rw [hk' g (by omega) h9.lt]
            exact h9
          refine ⟨.inr ⟨g, 0, nc, by rw [HML.out], by have := HN.out; rw [HML.out]; omega, by rw [HML.out]; exact hnc, by unfold maxLen; omega, hrow9.lt, (tx_range_part (is_range hrow9)).1⟩, fun p hp => ⟨?_, HBY.out p hp⟩⟩
          obtain ⟨j, hj, rfl⟩ := List.getElem_of_mem hp
          exact ((h.has j hj).move (w' := W') (Y := fun _ => True) (fun b hlt hX => ⟨by rw [hk' b (hX.2.2 (by rw [HML.out] at hj; exact hj)) (Nat.lt_of_lt_of_le hlt hbr.size)]; exact hbr.block b hlt hX.1, trivial⟩)).has
        exact bodyPost_ret (v := .agg C2.toArray) (results_cell1 Tryz.results41 rfl (hi9.cellsOfS Tryz.underlying54 (by rw [HC2L.out]; exact size_coin))) rfl ⟨by rw [HC2E.out M]; exact HFIN.out w9 _ M HM.out hho, HST.out.below.trans (hbr.under HST.out.below.size (by omega))⟩
end Go.Proofs.YtmjilohlchkicaaGreatDoor

/- What is wrong with a set, the document's answer. -/
namespace Go.Proofs.YtmjilohlchkicaaGreatDoor
open Go.RowKit
set_option linter.unusedVariables false
set_option linter.unusedSimpArgs false

theorem chk_two {n : Int} (h : ¬ Mo.chk n = 0) : Mo.chk n = 2 := by
  unfold Mo.chk at h ⊢
  by_cases ho : Mo.ok n
  · rw [if_pos ho] at h; exact absurd rfl h
  · rw [if_neg ho]
set_option maxRecDepth 100000 in
set_option maxHeartbeats 4000000 in
theorem rsetFault_some (R : List CoinV) (b off cap : Nat) (w : World) (h0 : 0 < R.length) (hm : R.length ≤ 1000) (h1 : R.length ≤ cap) (h : ∀ x ∈ R, CoinOk w x) (hb : b < w.heap.size) (hc : w.rangeAt b off (coinCells R)) :
    Calls Tryz.prog 9 #[.slice (some ⟨b, off, none⟩) R.length cap] w fun e w' => e = .returned (.int .i64 (Cn.setF (R.map CoinV.it))) ∧ Below w.heap.size w w' := by
  have HOK : Hid (∀ W, Below w.heap.size w W → CoinOk W R[0]) := hide (fun W hW => (h _ (List.getElem_mem h0)).below hW)
  clear HOK
  obtain ⟨r, hr⟩ : ∃ r, r = Cn.setG none (R.map CoinV.it) := ⟨_, rfl⟩
  have e0 : Cn.setF (R.map CoinV.it) = r := by unfold Cn.setF; rw [if_neg (by rw [List.length_map]; omega), hr]
  rw [e0]
  have HOKA : Hid (∀ k (hk : k < R.length) W, Below w.heap.size w W → CoinOk W R[k]) := hide (fun k hk W hW => (h _ (List.getElem_mem hk)).below hW)
  have HRNG : Hid (∀ k (hk : k < R.length) W, Below w.heap.size w W → W.rangeAt b (off + k * 36) (coinCell R[k])) := hide (fun k hk W hW => range_keep (range_at hc (fun x hx => coinCell_length x (h x hx).1) k hk) hW hb)
  have HSLV : Hid (∀ k (hk : k < R.length), ∃ a n c, R[k].lv = .slice a n c) := hide (fun k hk => hasOps_slice (h _ (List.getElem_mem hk)).2.2)
  have HL32 : Hid (∀ k (hk : k < R.length), R[k].tx.length = 32 ∧ Sz.Byt R[k].tx) := hide (fun k hk => ⟨(h _ (List.getElem_mem hk)).1, (h _ (List.getElem_mem hk)).2.1⟩)
  have HBLW := hide hb
  have HR0 : Hid (r = Cn.setG none ((R.map CoinV.it).drop 0)) := hide (by rw [hr]; rfl)
  have hzc := zero_coin
  obtain ⟨Z, hZ⟩ : ∃ Z, Z = vals (List.replicate 32 0) ++ ([.int .i64 0, .int .i64 0, .slice none 0 0, .int .i64 0] : List Value) := ⟨_, rfl⟩
  rw [← hZ] at hzc
  have hZl : Z.length = 36 := by rw [hZ]; simp [vals]
  have hZp : ¬ Z = [] := by intro h; rw [h] at hZl; cases hZl
  have HZL := hide hZl
  obtain ⟨n, hn⟩ : ∃ n, n = R.length := ⟨_, rfl⟩
  have HN := hide hn
  rw [← hn] at hm h1 h0 ⊢
  clear h hb hc hr e0 hZ hZl hn
  go_enter Tryz.func9, Tryz.ntmps9
  go_wp2
  go_loopw [3] (fun i wr => ∃ k : Nat, k ≤ n ∧ i = .int .i64 k ∧ ∃ pv : Option (List Int × Int), r = Cn.setG pv ((R.map CoinV.it).drop k) ∧ (True → pv = (if hk : 0 < k ∧ k - 1 < R.length then some (Cn.place (R[k - 1]'hk.2).it) else none) ∧ Below w.heap.size w wr)) (fun i _ => n - (intOf i).toNat)
  case atStart => exact ⟨0, by omega, rfl, none, HR0.out, fun _ => ⟨rfl, Below.refl _ _⟩⟩
  case round =>
    obtain ⟨k, hk, rfl, pv, hrg, hpb⟩ := hrel
    obtain ⟨hpv, hbel⟩ := hpb trivial
    have HRG := hide hrg
    have HPB := hide hpv
    have HBEL := hide hbel
    clear hrg hpb hpv hbel
    by_cases hltn : k < n
    · have hki : (k : Int) < (n : Int) := by omega
      have hlt : k < R.length := by rw [← HN.out]; exact hltn
      have HOK := hide (HOKA.out k hlt)
      obtain ⟨C, hC⟩ : ∃ C, C = coinCell R[k] := ⟨_, rfl⟩
      have HCE := hide hC
      have hCl : C.length = 36 := by rw [hC]; exact coinCell_length _ (HL32.out k hlt).1
      have hC1 : ∀ v ∈ C, v.oneCell' = true := by rw [hC]; exact coin_ones _ (HSLV.out k hlt)
      have HCLN := hide hCl
      have HC1 := hide hC1
      obtain ⟨xa, hxa⟩ : ∃ x, x = R[k].at' := ⟨_, rfl⟩
      obtain ⟨xm, hxm⟩ : ∃ x, x = R[k].amount := ⟨_, rfl⟩
      obtain ⟨xh, hxh⟩ : ∃ x, x = R[k].height := ⟨_, rfl⟩
      obtain ⟨la, ln, lc, hlv⟩ := HSLV.out k hlt
      obtain ⟨lf, hlf⟩ : ∃ x, x = Lk.check (opsOf R[k].L) := ⟨_, rfl⟩
      have HLFE := hide hlf
      have HLF : Hid (∀ W, Below w.heap.size w W → Calls Tryz.prog 29 #[.slice la ln lc] W fun e w' => e = .returned (.int .i64 lf) ∧ Below W.heap.size W w') := hide (fun W hW => by rw [hlf, ← hlv]; exact rLockFault_any _ _ W ((HOKA.out k hlt W hW).2.2))
      have HG : Hid (C[32]? = some (.int .i64 xa) ∧ C[33]? = some (.int .i64 xm) ∧ C[34]? = some (.slice la ln lc) ∧ C[35]? = some (.int .i64 xh)) := hide (by have h := coin_get (HL32.out k hlt).1; rw [hC, hxa, hxm, hxh, ← hlv]; exact h)
      have HCF : Hid (Cn.coinF R[k].it = if xa < 0 ∨ 40 ≤ xa ∨ ¬ (0 ≤ xh ∧ xh ≤ 1073741824) then 2 else if Mo.chk xm = 0 then Lk.check (opsOf R[k].L) else Mo.chk xm) := hide (by rw [hxa, hxm, hxh]; rfl)
      clear hxa hxm hxh hlv hlf
      have HRC : Hid (wr.rangeAt b (off + k * 36) C) := hide (by rw [hC]; exact HRNG.out k hlt wr HBEL.out)
      have HBWR : Hid (b < wr.heap.size) := hide (Nat.lt_of_lt_of_le HBLW.out HBEL.out.size)
      clear hC hCl hC1
      by_cases hk0 : k = 0
      · have HPV0 : Hid (pv = none) := hide (by rw [HPB.out, dif_neg (by omega)])
        have hdk : decide ((k : Int) > 0) = false := decide_eq_false (by omega)
        have hdk2 : decide (0 < (k : Int)) = false := decide_eq_false (by omega)
        have hnk : ¬ 0 < (k : Int) := by omega
        have hdk3 : decide (0 < k) = false := decide_eq_false (by omega)
        clear hk0
        go_wp2_with (first
          | (refine wpList_load_part 54 C b (off + k * 36) rfl (.tmp 17) rfl rfl HRC.out Tryz.underlying54 rfl size_coin HCLN.out ?_)
          | (refine wpList_store_any3 54 Z C wr.heap.size rfl (.tmp 4) (.tmp 18) rfl rfl rfl rfl (Is.new wr _ _) size_coin HZL.out HCLN.out HC1.out ?_; intro w3 hi3 hw3; have hb3 : Below wr.heap.size wr w3 := (by rw [hw3]; exact ck_new); have HC3 : Hid (CkS w wr.heap.size C w3) := hide ⟨HBEL.out.trans (hb3.mono HBEL.out.size), hi3⟩; clear hi3 hw3 hb3))
        refine wp_region_held_drew (S := fun W : World => Hid (CkS w wr.heap.size C W)) (by kernel_rfl) ?_ (fun hHeld0 => ?_)
        · exact hide HC3.out.drew
        refine wpAnyH_take (i := 0) (v := ?_) rfl (by kernel_rfl) (by kernel_rfl) (by kernel_rfl) (fun _ _ _ h => h) (Or.inl ⟨by rfl, ?_⟩) hHeld0 ?_
        rotate_left
        · (intro w hSw; (try dsimp only at hSw); go_simp <;> (try with_reducible rfl))
        simp only [Act.put, List.getElem_toArray, List.getElem_cons_zero, List.getElem_cons_succ, List.setIfInBounds_toArray, List.set_cons_zero, List.set_cons_succ]
        refine wpAnyH_take (i := 1) (v := ?_) rfl (by kernel_rfl) (by kernel_rfl) (by kernel_rfl) (fun _ _ _ h => h) (Or.inl ⟨by rfl, ?_⟩) hHeld0 ?_
        rotate_left
        · (intro w hSw; (try dsimp only at hSw); go_simp <;> (try with_reducible rfl))
        simp only [Act.put, List.getElem_toArray, List.getElem_cons_zero, List.getElem_cons_succ, List.setIfInBounds_toArray, List.set_cons_zero, List.set_cons_succ]
        refine wpAnyH_take (i := 2) (v := ?_) rfl (by kernel_rfl) (by kernel_rfl) (by kernel_rfl) (fun _ _ _ h => h) (Or.inl ⟨by rfl, ?_⟩) hHeld0 ?_
        rotate_left
        · (intro w hSw; (try dsimp only at hSw); go_simp <;> (try with_reducible rfl))
        simp only [Act.put, List.getElem_toArray, List.getElem_cons_zero, List.getElem_cons_succ, List.setIfInBounds_toArray, List.set_cons_zero, List.set_cons_succ]
        refine wpAnyH_take (i := 3) (v := undef) rfl (by kernel_rfl) (by kernel_rfl) (by kernel_rfl) (fun _ _ _ h => h) (Or.inr ⟨by rfl, rfl⟩) hHeld0 ?_
        simp only [Act.put, List.getElem_toArray, List.getElem_cons_zero, List.getElem_cons_succ, List.setIfInBounds_toArray, List.set_cons_zero, List.set_cons_succ]
        refine wpAnyH_take (i := 4) (v := undef) rfl (by kernel_rfl) (by kernel_rfl) (by kernel_rfl) (fun _ _ _ h => h) (Or.inr ⟨by rfl, rfl⟩) hHeld0 ?_
        simp only [Act.put, List.getElem_toArray, List.getElem_cons_zero, List.getElem_cons_succ, List.setIfInBounds_toArray, List.set_cons_zero, List.set_cons_succ]
        refine wpAnyH_take (i := 5) (v := undef) rfl (by kernel_rfl) (by kernel_rfl) (by kernel_rfl) (fun _ _ _ h => h) (Or.inr ⟨by rfl, rfl⟩) hHeld0 ?_
        simp only [Act.put, List.getElem_toArray, List.getElem_cons_zero, List.getElem_cons_succ, List.setIfInBounds_toArray, List.set_cons_zero, List.set_cons_succ]
        refine wpAnyH_take (i := 6) (v := undef) rfl (by kernel_rfl) (by kernel_rfl) (by kernel_rfl) (fun _ _ _ h => h) (Or.inr ⟨by rfl, rfl⟩) hHeld0 ?_
        simp only [Act.put, List.getElem_toArray, List.getElem_cons_zero, List.getElem_cons_succ, List.setIfInBounds_toArray, List.set_cons_zero, List.set_cons_succ]
        refine wpAnyH_take (i := 7) (v := undef) rfl (by kernel_rfl) (by kernel_rfl) (by kernel_rfl) (fun _ _ _ h => h) (Or.inr ⟨by rfl, rfl⟩) hHeld0 ?_
        simp only [Act.put, List.getElem_toArray, List.getElem_cons_zero, List.getElem_cons_succ, List.setIfInBounds_toArray, List.set_cons_zero, List.set_cons_succ]
        refine wpAnyH_take (i := 8) (v := undef) rfl (by kernel_rfl) (by kernel_rfl) (by kernel_rfl) (fun _ _ _ h => h) (Or.inr ⟨by rfl, rfl⟩) hHeld0 ?_
        simp only [Act.put, List.getElem_toArray, List.getElem_cons_zero, List.getElem_cons_succ, List.setIfInBounds_toArray, List.set_cons_zero, List.set_cons_succ]
        refine wpAnyH_take (i := 9) (v := undef) rfl (by kernel_rfl) (by kernel_rfl) (by kernel_rfl) (fun _ _ _ h => h) (Or.inr ⟨by rfl, rfl⟩) hHeld0 ?_
        simp only [Act.put, List.getElem_toArray, List.getElem_cons_zero, List.getElem_cons_succ, List.setIfInBounds_toArray, List.set_cons_zero, List.set_cons_succ]
        refine wpAnyH_take (i := 10) (v := undef) rfl (by kernel_rfl) (by kernel_rfl) (by kernel_rfl) (fun _ _ _ h => h) (Or.inr ⟨by rfl, rfl⟩) hHeld0 ?_
        simp only [Act.put, List.getElem_toArray, List.getElem_cons_zero, List.getElem_cons_succ, List.setIfInBounds_toArray, List.set_cons_zero, List.set_cons_succ]
        refine wpAnyH_take (i := 11) (v := undef) rfl (by kernel_rfl) (by kernel_rfl) (by kernel_rfl) (fun _ _ _ h => h) (Or.inr ⟨by rfl, rfl⟩) hHeld0 ?_
        simp only [Act.put, List.getElem_toArray, List.getElem_cons_zero, List.getElem_cons_succ, List.setIfInBounds_toArray, List.set_cons_zero, List.set_cons_succ]
        refine wpAnyH_take (i := 12) (v := undef) rfl (by kernel_rfl) (by kernel_rfl) (by kernel_rfl) (fun _ _ _ h => h) (Or.inr ⟨by rfl, rfl⟩) hHeld0 ?_
        simp only [Act.put, List.getElem_toArray, List.getElem_cons_zero, List.getElem_cons_succ, List.setIfInBounds_toArray, List.set_cons_zero, List.set_cons_succ]
        refine wpAnyH_take (i := 13) (v := ?_) rfl (by kernel_rfl) (by kernel_rfl) (by kernel_rfl) (fun _ _ _ h => h) (Or.inl ⟨by rfl, ?_⟩) hHeld0 ?_
        rotate_left
        · (intro w hSw; (try dsimp only at hSw); go_simp <;> (try with_reducible rfl))
        simp only [Act.put, List.getElem_toArray, List.getElem_cons_zero, List.getElem_cons_succ, List.setIfInBounds_toArray, List.set_cons_zero, List.set_cons_succ]
        refine wpAnyH_done (by kernel_rfl) ?_ _
        have HCL := hide hHeld0.out
        clear hHeld0
        have HBH : Hid (Cn.behind pv R[k].it) := hide (fun z hz => by rw [HPV0.out] at hz; cases hz)
        have hcA := HCL.out.box.cell 32
        have hcB := HCL.out.box.cell 33
        have hcC := HCL.out.box.cell 34
        have hcD := HCL.out.box.cell 35
        rw [HG.out.1] at hcA
        rw [HG.out.2.1] at hcB
        rw [HG.out.2.2.1] at hcC
        rw [HG.out.2.2.2] at hcD
        have HBAD : Hid (Cn.coinF R[k].it ≠ 0 → r = Cn.coinF R[k].it) := hide (fun hck => by rw [HRG.out, Cn.setG_bad (p := pv) (l := R.map CoinV.it) (by simpa using hlt) (by simpa using HBH.out) (by simpa using hck)]; simp)
        have HNX : Hid (Cn.coinF R[k].it = 0 → r = Cn.setG (some (Cn.place R[k].it)) ((R.map CoinV.it).drop (k + 1))) := hide (fun hck => by rw [HRG.out, Cn.setG_next (p := pv) (l := R.map CoinV.it) (by simpa using hlt) (by simpa using HBH.out) (by simpa using hck)]; simp)
        by_cases a1 : xa < 0
        · have HRV : Hid (r = 2) := hide (by have h2 : Cn.coinF R[k].it = 2 := by rw [HCF.out, if_pos (.inl a1)]
                                             rw [HBAD.out (by rw [h2]; decide), h2])
          go_wp2
          go_ret
          exact ⟨by rw [HRV.out]; rfl, HCL.out.below⟩
        by_cases a2 : 40 ≤ xa
        · have HRV : Hid (r = 2) := hide (by have h2 : Cn.coinF R[k].it = 2 := by rw [HCF.out, if_pos (.inr (.inl a2))]
                                             rw [HBAD.out (by rw [h2]; decide), h2])
          go_wp2
          go_ret
          exact ⟨by rw [HRV.out]; rfl, HCL.out.below⟩
        by_cases a3 : 0 ≤ xh ∧ xh ≤ 1073741824
        · have HTM : Hid (∀ W : World, Calls Tryz.prog 11 #[.int .i64 xh] W fun e w' => e = .returned (.bool true) ∧ W = w') := hide (fun W => by have := cn_time xh W; rw [decide_eq_true a3] at this; exact this)
          have HC2 : Hid (Cn.coinF R[k].it = if Mo.chk xm = 0 then Lk.check (opsOf R[k].L) else Mo.chk xm) := hide (by rw [HCF.out, if_neg (fun h => by rcases h with h | h | h; exact a1 h; exact a2 h; exact h a3)])
          clear a3
          by_cases a4 : Mo.chk xm = 0
          · have HMN : Hid (∀ W : World, Calls Tryz.prog 28 #[.int .i64 xm] W fun e w' => e = .returned (.bool true) ∧ W = w') := hide (fun W => by have := cn_money xm W; rw [decide_eq_true a4] at this; exact this)
            have HC3 : Hid (Cn.coinF R[k].it = lf) := hide (by rw [HC2.out, if_pos a4, HLFE.out])
            clear a4
            by_cases a5 : lf = 0
            · have HNZ : Hid (r = Cn.setG (some (Cn.place R[k].it)) ((R.map CoinV.it).drop (k + 1))) := hide (HNX.out (by rw [HC3.out, a5]))
              have a5b : (lf != 0) = false := by rw [a5]; rfl
              have a5c : (lf == 0) = true := by rw [a5]; rfl
              go_wp2_with (first
                | (go_at_call 11; refine (HTM.out _).mono ?_; rintro e w4 ⟨rfl, rfl⟩)
                | (go_at_call 28; refine (HMN.out _).mono ?_; rintro e w5 ⟨rfl, rfl⟩)
                | (go_at_call 29; refine (HLF.out _ HCL.out.below).mono ?_; rintro e w6 ⟨rfl, hb6⟩))
              have HCM2 := hide (HCL.out.call hb6)
              clear hb6
              go_roundw
              case rel => exact ⟨k + 1, by omega, by go_num, some (Cn.place R[k].it), HNZ.out, fun _ => ⟨by rw [dif_pos ⟨by omega, by simpa using hlt⟩]; rfl, HCM2.out.below⟩⟩
              case measure => simp [intOf]; omega
            · have HRV : Hid (r = lf) := hide (by rw [HBAD.out (by rw [HC3.out]; exact a5), HC3.out])
              have a5b : (lf != 0) = true := by rw [bne_iff_ne]; exact a5
              have a5c : (lf == 0) = false := by rw [beq_eq_false_iff_ne]; exact a5
              go_wp2_with (first
                | (go_at_call 11; refine (HTM.out _).mono ?_; rintro e w4 ⟨rfl, rfl⟩)
                | (go_at_call 28; refine (HMN.out _).mono ?_; rintro e w5 ⟨rfl, rfl⟩)
                | (go_at_call 29; refine (HLF.out _ HCL.out.below).mono ?_; rintro e w6 ⟨rfl, hb6⟩))
              go_ret
              exact ⟨by rw [HRV.out]; rfl, (HCL.out.call hb6).below⟩
          · have HMN : Hid (∀ W : World, Calls Tryz.prog 28 #[.int .i64 xm] W fun e w' => e = .returned (.bool false) ∧ W = w') := hide (fun W => by have := cn_money xm W; rw [decide_eq_false a4] at this; exact this)
            have HRV : Hid (r = 2) := hide (by have h2 : Cn.coinF R[k].it = 2 := by rw [HC2.out, if_neg a4]; exact chk_two a4
                                               rw [HBAD.out (by rw [h2]; decide), h2])
            clear a4
            go_wp2_with (first
              | (go_at_call 11; refine (HTM.out _).mono ?_; rintro e w4 ⟨rfl, rfl⟩)
              | (go_at_call 28; refine (HMN.out _).mono ?_; rintro e w5 ⟨rfl, rfl⟩))
            go_ret
            exact ⟨by rw [HRV.out]; rfl, HCL.out.below⟩
        · have HTM : Hid (∀ W : World, Calls Tryz.prog 11 #[.int .i64 xh] W fun e w' => e = .returned (.bool false) ∧ W = w') := hide (fun W => by have := cn_time xh W; rw [decide_eq_false a3] at this; exact this)
          have HRV : Hid (r = 2) := hide (by have h2 : Cn.coinF R[k].it = 2 := by rw [HCF.out, if_pos (.inr (.inr a3))]
                                             rw [HBAD.out (by rw [h2]; decide), h2])
          clear a3
          go_wp2_with (go_at_call 11; refine (HTM.out _).mono ?_; rintro e w4 ⟨rfl, rfl⟩)
          go_ret
          exact ⟨by rw [HRV.out]; rfl, HCL.out.below⟩
      · have hk1 : k - 1 < R.length := by omega
        have HPV : Hid (pv = some (Cn.place (R[k - 1]'hk1).it)) := hide (by rw [HPB.out, dif_pos ⟨by omega, hk1⟩])
        have hdk : decide ((k : Int) > 0) = true := decide_eq_true (by omega)
        have hdk2 : decide (0 < (k : Int)) = true := decide_eq_true (by omega)
        have hpk : 0 < (k : Int) := by omega
        have hdk3 : decide (0 < k) = true := decide_eq_true (by omega)
        have hpkn : 0 < k := by omega
        have hk1i : (k : Int) - 1 < (n : Int) := by omega
        have hk1t : ((k : Int) - 1).toNat = k - 1 := by omega
        have hk10 : (0 : Int) ≤ (k : Int) - 1 := by omega
        have hk11 : (1 : Int) ≤ (k : Int) := by omega
        have hk12 : 1 ≤ k := by omega
        have hwk : IntKind.i64.wrap ((k : Int) - 1) = (k : Int) - 1 := by simp [IntKind.wrap, IntKind.bits, IntKind.signed]; omega
        obtain ⟨PJ, hPJ⟩ : ∃ P, P = vals (R[k - 1]'hk1).tx ++ [Value.int .i64 (R[k - 1]'hk1).at'] := ⟨_, rfl⟩
        obtain ⟨PK, hPK⟩ : ∃ P, P = vals R[k].tx ++ [Value.int .i64 R[k].at'] := ⟨_, rfl⟩
        have hszj : (Tryz.prog.info? 46).map (·.size) = some PJ.length := by rw [hPJ, List.length_append, vals_length, (HL32.out _ hk1).1]; exact size_placeC
        have hszk : (Tryz.prog.info? 46).map (·.size) = some PK.length := by rw [hPK, List.length_append, vals_length, (HL32.out _ hlt).1]; exact size_placeC
        obtain ⟨q, hq⟩ : ∃ q, q = Cn.pl (Cn.place (R[k - 1]'hk1).it) (Cn.place R[k].it) := ⟨_, rfl⟩
        have HQ := hide hq
        have HCM : Hid (∀ W : World, Calls Tryz.prog 27 #[.agg PJ.toArray, .agg PK.toArray] W fun e w' => e = .returned (.int .i64 q) ∧ Below W.heap.size W w') := hide (fun W => by rw [hPJ, hPK, hq]; exact rplaces_any _ _ _ _ W (HL32.out _ hk1).1 (HL32.out _ hlt).1)
        have HJR : Hid (∀ W, Below w.heap.size w W → W.rangeAt b (off + (k - 1) * 36) PJ) := hide (fun W hW => by rw [hPJ]; have := HRNG.out _ hk1 W hW; rw [coin_parts] at this; exact (tx_range_part this).1)
        have HKR : Hid (∀ W, Is W wr.heap.size C 54 → W.rangeAt wr.heap.size 0 PK) := hide (fun W hW => by rw [HCE.out] at hW; rw [hPK]; exact place_range hW)
        clear hk0 hPJ hPK hq
        go_wp2_with (first
          | (refine wpList_load_part 54 C b (off + k * 36) rfl (.tmp 17) rfl rfl HRC.out Tryz.underlying54 rfl size_coin HCLN.out ?_)
          | (refine wpList_store_any3 54 Z C wr.heap.size rfl (.tmp 4) (.tmp 18) rfl rfl rfl rfl (Is.new wr _ _) size_coin HZL.out HCLN.out HC1.out ?_; intro w3 hi3 hw3; have hb3 : Below wr.heap.size wr w3 := (by rw [hw3]; exact ck_new); have HC3 : Hid (CkS w wr.heap.size C w3) := hide ⟨HBEL.out.trans (hb3.mono HBEL.out.size), hi3⟩; clear hi3 hw3 hb3))
        have HRJ : Hid (w3.drew.rangeAt b (off + (k - 1) * 36) PJ) := hide (HJR.out _ HC3.out.below.drew)
        have HRK : Hid (w3.drew.rangeAt wr.heap.size 0 PK) := hide (HKR.out _ HC3.out.box.drew)
        have HBLT : Hid (b < w3.drew.heap.size) := hide (Nat.lt_of_lt_of_le HBLW.out HC3.out.below.drew.size)
        refine wp_region_held_drew (S := fun W : World => W.rangeAt b (off + (k - 1) * 36) PJ ∧ W.rangeAt wr.heap.size 0 PK ∧ Hid (CkS w wr.heap.size C W ∧ b < W.heap.size)) (by kernel_rfl) ?_ (fun hHeld0 => ?_)
        · exact ⟨HRJ.out, HRK.out, hide ⟨HC3.out.drew, HBLT.out⟩⟩
        refine wpAnyH_take (i := 0) (v := ?_) rfl (by kernel_rfl) (by kernel_rfl) (by kernel_rfl) (fun _ _ _ h => h) (Or.inl ⟨by rfl, ?_⟩) hHeld0 ?_
        rotate_left
        · (intro w hSw; (try dsimp only at hSw); go_simp <;> (try with_reducible rfl))
        simp only [Act.put, List.getElem_toArray, List.getElem_cons_zero, List.getElem_cons_succ, List.setIfInBounds_toArray, List.set_cons_zero, List.set_cons_succ]
        refine wpAnyH_take (i := 1) (v := ?_) rfl (by kernel_rfl) (by kernel_rfl) (by kernel_rfl) (fun _ _ _ h => h) (Or.inl ⟨by rfl, ?_⟩) hHeld0 ?_
        rotate_left
        · (intro w hSw; (try dsimp only at hSw); go_simp <;> (try with_reducible rfl))
        simp only [Act.put, List.getElem_toArray, List.getElem_cons_zero, List.getElem_cons_succ, List.setIfInBounds_toArray, List.set_cons_zero, List.set_cons_succ]
        refine wpAnyH_take (i := 2) (v := ?_) rfl (by kernel_rfl) (by kernel_rfl) (by kernel_rfl) (fun _ _ _ h => h) (Or.inl ⟨by rfl, ?_⟩) hHeld0 ?_
        rotate_left
        · (intro w hSw; (try dsimp only at hSw); go_simp <;> (try with_reducible rfl))
        simp only [Act.put, List.getElem_toArray, List.getElem_cons_zero, List.getElem_cons_succ, List.setIfInBounds_toArray, List.set_cons_zero, List.set_cons_succ]
        refine wpAnyH_take (i := 3) (v := ?_) rfl (by kernel_rfl) (by kernel_rfl) (by kernel_rfl) (fun _ _ _ h => h) (Or.inl ⟨by rfl, ?_⟩) hHeld0 ?_
        rotate_left
        · (intro w hSw; (try dsimp only at hSw); go_simp <;> (try with_reducible rfl))
        simp only [Act.put, List.getElem_toArray, List.getElem_cons_zero, List.getElem_cons_succ, List.setIfInBounds_toArray, List.set_cons_zero, List.set_cons_succ]
        refine wpAnyH_take (i := 4) (v := ?_) rfl (by kernel_rfl) (by kernel_rfl) (by kernel_rfl) (fun _ _ _ h => h) (Or.inl ⟨by rfl, ?_⟩) hHeld0 ?_
        rotate_left
        · (intro w hSw; (try dsimp only at hSw); go_simp <;> (try with_reducible rfl))
        simp only [Act.put, List.getElem_toArray, List.getElem_cons_zero, List.getElem_cons_succ, List.setIfInBounds_toArray, List.set_cons_zero, List.set_cons_succ]
        refine wpAnyH_take (i := 5) (v := ?_) rfl (by kernel_rfl) (by kernel_rfl) (by kernel_rfl) (fun _ _ _ h => h) (Or.inl ⟨by rfl, ?_⟩) hHeld0 ?_
        rotate_left
        · (intro w hSw; (try dsimp only at hSw); go_simp <;> (try with_reducible rfl))
        simp only [Act.put, List.getElem_toArray, List.getElem_cons_zero, List.getElem_cons_succ, List.setIfInBounds_toArray, List.set_cons_zero, List.set_cons_succ]
        refine wpAnyH_take (i := 6) (v := ?_) rfl (by kernel_rfl) (by kernel_rfl) (by kernel_rfl) (fun _ _ _ h => h) (Or.inl ⟨by rfl, ?_⟩) hHeld0 ?_
        rotate_left
        · (intro w hSw; (try dsimp only at hSw); go_simp <;> (try with_reducible rfl))
        simp only [Act.put, List.getElem_toArray, List.getElem_cons_zero, List.getElem_cons_succ, List.setIfInBounds_toArray, List.set_cons_zero, List.set_cons_succ]
        refine wpAnyH_take (i := 7) (v := ?_) rfl (by kernel_rfl) (by kernel_rfl) (by kernel_rfl) (fun _ _ _ h => h) (Or.inl ⟨by rfl, ?_⟩) hHeld0 ?_
        rotate_left
        · (intro w hSw; (try dsimp only at hSw); go_simp <;> (try with_reducible rfl))
        simp only [Act.put, List.getElem_toArray, List.getElem_cons_zero, List.getElem_cons_succ, List.setIfInBounds_toArray, List.set_cons_zero, List.set_cons_succ]
        refine wpAnyH_take (i := 8) (v := .agg (PJ).toArray) rfl (by kernel_rfl) (by kernel_rfl) (by kernel_rfl) (fun _ _ _ h => h) (yieldsIf_load_mid (by rfl) _ _ rfl _ _ rfl (PJ) _ (fun w hSw => hSw.1) Tryz.underlying46 rfl hszj) hHeld0 ?_
        simp only [Act.put, List.getElem_toArray, List.getElem_cons_zero, List.getElem_cons_succ, List.setIfInBounds_toArray, List.set_cons_zero, List.set_cons_succ]
        refine wpAnyH_take (i := 9) (v := ?_) rfl (by kernel_rfl) (by kernel_rfl) (by kernel_rfl) (fun _ _ _ h => h) (Or.inl ⟨by rfl, ?_⟩) hHeld0 ?_
        rotate_left
        · (intro w hSw; (try dsimp only at hSw); go_simp <;> (try with_reducible rfl))
        simp only [Act.put, List.getElem_toArray, List.getElem_cons_zero, List.getElem_cons_succ, List.setIfInBounds_toArray, List.set_cons_zero, List.set_cons_succ]
        refine wpAnyH_take (i := 10) (v := .agg (PK).toArray) rfl (by kernel_rfl) (by kernel_rfl) (by kernel_rfl) (fun _ _ _ h => h) (yieldsIf_load_mid (by rfl) _ _ rfl _ _ rfl (PK) _ (fun w hSw => hSw.2.1) Tryz.underlying46 rfl hszk) hHeld0 ?_
        simp only [Act.put, List.getElem_toArray, List.getElem_cons_zero, List.getElem_cons_succ, List.setIfInBounds_toArray, List.set_cons_zero, List.set_cons_succ]
        refine wpAnyH_ready (rs := [11]) (by kernel_rfl) (by simp) ?_
        refine AllReadyH.cons rfl (fun K hK => ?_) AllReadyH.nil
        go_simp
        go_wp2_with ((go_at_call 27; refine (HCM.out _).mono ?_; rintro e W1 ⟨rfl, hb1⟩))
        refine hK.out _ _ (by exact ck_keep hHeld0 hb1) (fun hHeld1 => ?_)
        clear hK K hHeld0
        try simp only [Act.put, List.getElem_toArray, List.getElem_cons_zero, List.getElem_cons_succ, List.setIfInBounds_toArray, List.set_cons_zero, List.set_cons_succ]
        refine wpAnyH_take (i := 12) (v := ?_) rfl (by kernel_rfl) (by kernel_rfl) (by kernel_rfl) (fun _ _ _ h => h) (Or.inl ⟨by rfl, ?_⟩) hHeld1 ?_
        rotate_left
        · (intro w hSw; (try dsimp only at hSw); go_simp <;> (try with_reducible rfl))
        simp only [Act.put, List.getElem_toArray, List.getElem_cons_zero, List.getElem_cons_succ, List.setIfInBounds_toArray, List.set_cons_zero, List.set_cons_succ]
        refine wpAnyH_take (i := 13) (v := ?_) rfl (by kernel_rfl) (by kernel_rfl) (by kernel_rfl) (fun _ _ _ h => h) (Or.inl ⟨by rfl, ?_⟩) hHeld1 ?_
        rotate_left
        · (intro w hSw; (try dsimp only at hSw); go_simp <;> (try with_reducible rfl))
        simp only [Act.put, List.getElem_toArray, List.getElem_cons_zero, List.getElem_cons_succ, List.setIfInBounds_toArray, List.set_cons_zero, List.set_cons_succ]
        refine wpAnyH_done (by kernel_rfl) ?_ _
        have HCL := hide hHeld1.2.2.out.1
        clear hHeld1
        by_cases hq : q < 0
        · skip
          have hd2 : ¬ 0 ≤ q := by omega
          have HBH : Hid (Cn.behind pv R[k].it) := hide (fun z hz => by rw [HPV.out] at hz; cases hz; rw [← HQ.out]; exact hq)
          clear hq
          have hcA := HCL.out.box.cell 32
          have hcB := HCL.out.box.cell 33
          have hcC := HCL.out.box.cell 34
          have hcD := HCL.out.box.cell 35
          rw [HG.out.1] at hcA
          rw [HG.out.2.1] at hcB
          rw [HG.out.2.2.1] at hcC
          rw [HG.out.2.2.2] at hcD
          have HBAD : Hid (Cn.coinF R[k].it ≠ 0 → r = Cn.coinF R[k].it) := hide (fun hck => by rw [HRG.out, Cn.setG_bad (p := pv) (l := R.map CoinV.it) (by simpa using hlt) (by simpa using HBH.out) (by simpa using hck)]; simp)
          have HNX : Hid (Cn.coinF R[k].it = 0 → r = Cn.setG (some (Cn.place R[k].it)) ((R.map CoinV.it).drop (k + 1))) := hide (fun hck => by rw [HRG.out, Cn.setG_next (p := pv) (l := R.map CoinV.it) (by simpa using hlt) (by simpa using HBH.out) (by simpa using hck)]; simp)
          by_cases a1 : xa < 0
          · have HRV : Hid (r = 2) := hide (by have h2 : Cn.coinF R[k].it = 2 := by rw [HCF.out, if_pos (.inl a1)]
                                               rw [HBAD.out (by rw [h2]; decide), h2])
            go_wp2
            go_ret
            exact ⟨by rw [HRV.out]; rfl, HCL.out.below⟩
          by_cases a2 : 40 ≤ xa
          · have HRV : Hid (r = 2) := hide (by have h2 : Cn.coinF R[k].it = 2 := by rw [HCF.out, if_pos (.inr (.inl a2))]
                                               rw [HBAD.out (by rw [h2]; decide), h2])
            go_wp2
            go_ret
            exact ⟨by rw [HRV.out]; rfl, HCL.out.below⟩
          by_cases a3 : 0 ≤ xh ∧ xh ≤ 1073741824
          · have HTM : Hid (∀ W : World, Calls Tryz.prog 11 #[.int .i64 xh] W fun e w' => e = .returned (.bool true) ∧ W = w') := hide (fun W => by have := cn_time xh W; rw [decide_eq_true a3] at this; exact this)
            have HC2 : Hid (Cn.coinF R[k].it = if Mo.chk xm = 0 then Lk.check (opsOf R[k].L) else Mo.chk xm) := hide (by rw [HCF.out, if_neg (fun h => by rcases h with h | h | h; exact a1 h; exact a2 h; exact h a3)])
            clear a3
            by_cases a4 : Mo.chk xm = 0
            · have HMN : Hid (∀ W : World, Calls Tryz.prog 28 #[.int .i64 xm] W fun e w' => e = .returned (.bool true) ∧ W = w') := hide (fun W => by have := cn_money xm W; rw [decide_eq_true a4] at this; exact this)
              have HC3 : Hid (Cn.coinF R[k].it = lf) := hide (by rw [HC2.out, if_pos a4, HLFE.out])
              clear a4
              by_cases a5 : lf = 0
              · have HNZ : Hid (r = Cn.setG (some (Cn.place R[k].it)) ((R.map CoinV.it).drop (k + 1))) := hide (HNX.out (by rw [HC3.out, a5]))
                have a5b : (lf != 0) = false := by rw [a5]; rfl
                have a5c : (lf == 0) = true := by rw [a5]; rfl
                go_wp2_with (first
                  | (go_at_call 11; refine (HTM.out _).mono ?_; rintro e w4 ⟨rfl, rfl⟩)
                  | (go_at_call 28; refine (HMN.out _).mono ?_; rintro e w5 ⟨rfl, rfl⟩)
                  | (go_at_call 29; refine (HLF.out _ HCL.out.below).mono ?_; rintro e w6 ⟨rfl, hb6⟩))
                have HCM2 := hide (HCL.out.call hb6)
                clear hb6
                go_roundw
                case rel => exact ⟨k + 1, by omega, by go_num, some (Cn.place R[k].it), HNZ.out, fun _ => ⟨by rw [dif_pos ⟨by omega, by simpa using hlt⟩]; rfl, HCM2.out.below⟩⟩
                case measure => simp [intOf]; omega
              · have HRV : Hid (r = lf) := hide (by rw [HBAD.out (by rw [HC3.out]; exact a5), HC3.out])
                have a5b : (lf != 0) = true := by rw [bne_iff_ne]; exact a5
                have a5c : (lf == 0) = false := by rw [beq_eq_false_iff_ne]; exact a5
                go_wp2_with (first
                  | (go_at_call 11; refine (HTM.out _).mono ?_; rintro e w4 ⟨rfl, rfl⟩)
                  | (go_at_call 28; refine (HMN.out _).mono ?_; rintro e w5 ⟨rfl, rfl⟩)
                  | (go_at_call 29; refine (HLF.out _ HCL.out.below).mono ?_; rintro e w6 ⟨rfl, hb6⟩))
                go_ret
                exact ⟨by rw [HRV.out]; rfl, (HCL.out.call hb6).below⟩
            · have HMN : Hid (∀ W : World, Calls Tryz.prog 28 #[.int .i64 xm] W fun e w' => e = .returned (.bool false) ∧ W = w') := hide (fun W => by have := cn_money xm W; rw [decide_eq_false a4] at this; exact this)
              have HRV : Hid (r = 2) := hide (by have h2 : Cn.coinF R[k].it = 2 := by rw [HC2.out, if_neg a4]; exact chk_two a4
                                                 rw [HBAD.out (by rw [h2]; decide), h2])
              clear a4
              go_wp2_with (first
                | (go_at_call 11; refine (HTM.out _).mono ?_; rintro e w4 ⟨rfl, rfl⟩)
                | (go_at_call 28; refine (HMN.out _).mono ?_; rintro e w5 ⟨rfl, rfl⟩))
              go_ret
              exact ⟨by rw [HRV.out]; rfl, HCL.out.below⟩
          · have HTM : Hid (∀ W : World, Calls Tryz.prog 11 #[.int .i64 xh] W fun e w' => e = .returned (.bool false) ∧ W = w') := hide (fun W => by have := cn_time xh W; rw [decide_eq_false a3] at this; exact this)
            have HRV : Hid (r = 2) := hide (by have h2 : Cn.coinF R[k].it = 2 := by rw [HCF.out, if_pos (.inr (.inr a3))]
                                               rw [HBAD.out (by rw [h2]; decide), h2])
            clear a3
            go_wp2_with (go_at_call 11; refine (HTM.out _).mono ?_; rintro e w4 ⟨rfl, rfl⟩)
            go_ret
            exact ⟨by rw [HRV.out]; rfl, HCL.out.below⟩
        · skip
          have hd2 : 0 ≤ q := by omega
          have HTW : Hid (r = 6) := hide (by rw [HRG.out, Cn.setG_twice (p := pv) (l := R.map CoinV.it) (by simpa using hlt) (fun h => hq (by have := h _ HPV.out; simp only [List.getElem_map] at this; rw [← HQ.out] at this; exact this))])
          clear hq
          go_wp2
          go_ret
          exact ⟨by rw [HTW.out]; rfl, HCL.out.below⟩
    · have hki : ¬ (k : Int) < (n : Int) := by omega
      have HEND : Hid (r = 0) := hide (by rw [HRG.out, List.drop_eq_nil_of_le (by rw [List.length_map, ← HN.out]; omega)]; rfl)
      go_wp2
      go_ret
      exact ⟨by rw [HEND.out]; rfl, HBEL.out⟩
end Go.Proofs.YtmjilohlchkicaaGreatDoor

/- How much coins are, together. -/
namespace Go.Proofs.YtmjilohlchkicaaGreatDoor
open Go.RowKit
set_option linter.unusedVariables false
set_option linter.unusedSimpArgs false

set_option maxHeartbeats 1000000 in
theorem ccheck_any (v : Value) (R : List CoinV) (w : World) (h : HasCoins w v R) :
    Calls Tryz.prog 17 #[v] w fun e w' => e = .returned (errV (Cn.setF (R.map CoinV.it))) ∧ Below w.heap.size w w' := by
  rcases h.1 with ⟨a, cap, rfl, rfl⟩ | ⟨b, off, cap, rfl, h0, h1, h2, h3, hc⟩
  · have e : errV (Cn.setF (([] : List CoinV).map CoinV.it)) = .nilIface := rfl
    rw [e]
    clear h e
    go_enter Tryz.func17, Tryz.ntmps17
    go_wp2
    refine wp_loop_rounds 1 ?_
    rw [rounds_succ]
    go_wp2
    go_ret
    exact ⟨rfl, Below.refl _ _⟩
  · by_cases hm : R.length ≤ 1000
    · exact ccheck_some R b off cap w h0 hm h1 h.2 h3 hc
    · have e : errV (Cn.setF (R.map CoinV.it)) = .iface 27 (.int .i64 4) := by unfold Cn.setF; rw [if_pos (by rw [List.length_map]; omega)]; rfl
      rw [e]
      have hi : (1000 : Int) < (R.length : Int) := by omega
      have hi2 : 1000 < R.length := by omega
      unfold maxLen at h2
      clear hm e hc h
      generalize R.length = n at *
      go_enter Tryz.func17, Tryz.ntmps17
      go_wp2
      go_ret
      exact ⟨rfl, Below.refl _ _⟩
set_option maxHeartbeats 1000000 in
theorem rsetFault_any (v : Value) (R : List CoinV) (w : World) (h : HasCoins w v R) :
    Calls Tryz.prog 9 #[v] w fun e w' => e = .returned (.int .i64 (Cn.setF (R.map CoinV.it))) ∧ Below w.heap.size w w' := by
  rcases h.1 with ⟨a, cap, rfl, rfl⟩ | ⟨b, off, cap, rfl, h0, h1, h2, h3, hc⟩
  · have e : Cn.setF (([] : List CoinV).map CoinV.it) = 0 := rfl
    rw [e]
    clear h e
    go_enter Tryz.func9, Tryz.ntmps9
    go_wp2
    refine wp_loop_rounds 1 ?_
    rw [rounds_succ]
    go_wp2
    go_ret
    exact ⟨rfl, Below.refl _ _⟩
  · by_cases hm : R.length ≤ 1000
    · exact rsetFault_some R b off cap w h0 hm h1 h.2 h3 hc
    · have e : Cn.setF (R.map CoinV.it) = 4 := by unfold Cn.setF; rw [if_pos (by rw [List.length_map]; omega)]
      rw [e]
      have hi : (1000 : Int) < (R.length : Int) := by omega
      have hi2 : 1000 < R.length := by omega
      unfold maxLen at h2
      clear hm e hc h
      generalize R.length = n at *
      go_enter Tryz.func9, Tryz.ntmps9
      go_wp2
      go_ret
      exact ⟨rfl, Below.refl _ _⟩

def amounts (R : List CoinV) : List Int := R.map CoinV.amount
theorem amounts_next (R : List CoinV) (k : Nat) (hk : k < R.length) : amounts (R.take (k + 1)) = amounts (R.take k) ++ [R[k].amount] := by
  unfold amounts; rw [List.take_succ_eq_append_getElem hk, List.map_append]; rfl
theorem amounts_length (R : List CoinV) : (amounts R).length = R.length := by simp [amounts]
def zerosI (n : Nat) : Array Value := madeCells #[.int .i64 0] n
theorem make_roomI (n : Nat) (h : n ≤ 1000000) (w : World) : (Instr.makeSlice 74 (.int .i64 0) (.int .i64 (n : Int))).run Tryz.prog w = .ok (.slice (some ⟨w.heap.size, 0, none⟩) 0 n) (w.alloc (.cells (zerosI n) 3)) := by
  obtain ⟨i, hi, hz, hs, hby⟩ := info_int
  have hr := run_make (P := Tryz.prog) w 74 3 i (.int .i64 0) Tryz.underlying74 hi hz .i64 .i64 0 n (by omega) (by omega) (by rw [hby]; omega) (by omega)
  simpa [zerosI, Value.cells, hs] using hr
theorem OwnI.room (w : World) (base n : Nat) (hb : base ≤ w.heap.size) (hn : n ≤ 1000000) : OwnI (w.alloc (.cells (zerosI n) 3)) base (.slice (some ⟨w.heap.size, 0, none⟩) 0 n) [] :=
  ⟨rfl, .inr ⟨w.heap.size, n, zerosI n, rfl, hb, heap_alloc_new w _, Nat.zero_le _, by unfold maxLen; omega, by simp [zerosI, madeCells], rfl⟩⟩

set_option maxRecDepth 100000 in
set_option maxHeartbeats 2000000 in
theorem ctotal_some (R : List CoinV) (b off cap : Nat) (w : World) (h0 : 0 < R.length) (hm : R.length ≤ 1000) (h1 : R.length ≤ cap) (h : ∀ x ∈ R, CoinOk w x) (hb : b < w.heap.size) (hc : w.rangeAt b off (coinCells R)) :
    Calls Tryz.prog 36 #[.slice (some ⟨b, off, none⟩) R.length cap] w fun e w' => e = .returned (.tuple #[.int .i64 (Mo.tot 0 (amounts R)).1, errV (Mo.tot 0 (amounts R)).2]) ∧ Below w.heap.size w w' := by
  have HRNG : Hid (∀ k (hk : k < R.length) W, Below w.heap.size w W → W.rangeAt b (off + k * 36) (coinCell R[k])) := hide (fun k hk W hW => range_keep (range_at hc (fun x hx => coinCell_length x (h x hx).1) k hk) hW hb)
  have HSLV : Hid (∀ k (hk : k < R.length), ∃ a n c, R[k].lv = .slice a n c) := hide (fun k hk => hasOps_slice (h _ (List.getElem_mem hk)).2.2)
  have HL32 : Hid (∀ k (hk : k < R.length), R[k].tx.length = 32) := hide (fun k hk => (h _ (List.getElem_mem hk)).1)
  have HBLW := hide hb
  have hzc := zero_coin
  obtain ⟨Z, hZ⟩ : ∃ Z, Z = vals (List.replicate 32 0) ++ ([.int .i64 0, .int .i64 0, .slice none 0 0, .int .i64 0] : List Value) := ⟨_, rfl⟩
  rw [← hZ] at hzc
  have hZl : Z.length = 36 := by rw [hZ]; simp [vals]
  have hZp : ¬ Z = [] := by intro h; rw [h] at hZl; cases hZl
  have HZL := hide hZl
  obtain ⟨n, hn⟩ : ∃ n, n = R.length := ⟨_, rfl⟩
  have HN := hide hn
  rw [← hn] at hm h1 h0 ⊢
  obtain ⟨ZI, hZI⟩ : ∃ z, z = zerosI n := ⟨_, rfl⟩
  have hmk := fun w => make_roomI n (by omega) w
  rw [← hZI] at hmk
  have HRM : Hid (OwnI (w.alloc (.cells ZI 3)) w.heap.size (.slice (some ⟨w.heap.size, 0, none⟩) 0 n) (amounts (R.take 0))) := hide (by rw [hZI]; exact OwnI.room w w.heap.size n (Nat.le_refl _) (by omega))
  have HB1 := hide (below_alloc w (.cells ZI 3))
  obtain ⟨s, hs⟩ : ∃ s, s = (Mo.tot 0 (amounts R)).1 := ⟨_, rfl⟩
  obtain ⟨f, hf⟩ : ∃ f, f = errV (Mo.tot 0 (amounts R)).2 := ⟨_, rfl⟩
  have HMS : Hid (∀ v W, HasI W v (amounts R) → Calls Tryz.prog 61 #[v] W fun e w' => e = .returned (.tuple #[.int .i64 s, f]) ∧ W = w') := hide (fun v W hv => by rw [hs, hf]; exact msum_any v _ W hv)
  rw [← hs, ← hf]
  clear h hb hc hZ hZl hn hZI hs hf
  go_enter Tryz.func36, Tryz.ntmps36
  go_wp2
  go_loopw [4, 12] (fun v i wr => ∃ k : Nat, k ≤ n ∧ i = .int .i64 k ∧ OwnI wr w.heap.size v (amounts (R.take k)) ∧ Below w.heap.size w wr) (fun _ i _ => n - (intOf i).toNat)
  case atStart => exact ⟨0, by omega, rfl, HRM.out, HB1.out⟩
  case round =>
    obtain ⟨k, hk, rfl, hown, hbel⟩ := hrel
    obtain ⟨va, vc, rfl, _, _⟩ := hown.form
    have hvl : (amounts (R.take k)).length = k := by rw [amounts_length, List.length_take, ← HN.out]; omega
    rw [hvl] at hown ⊢
    have HOW := hide hown
    have HBEL := hide hbel
    have HVL := hide hvl
    clear hown hbel hvl
    by_cases hltn : k < n
    · have hki : (k : Int) < (n : Int) := by omega
      have hlt : k < R.length := by rw [← HN.out]; exact hltn
      obtain ⟨C, hC⟩ : ∃ C, C = coinCell R[k] := ⟨_, rfl⟩
      obtain ⟨x, hx⟩ : ∃ x, x = R[k].amount := ⟨_, rfl⟩
      have hCl : C.length = 36 := by rw [hC]; exact coinCell_length _ (HL32.out k hlt)
      have hC1 : ∀ v ∈ C, v.oneCell' = true := by rw [hC]; exact coin_ones _ (HSLV.out k hlt)
      have HCX : Hid (C[33]? = some (.int .i64 x)) := hide (by rw [hC, hx]; exact (coin_get (HL32.out k hlt)).2.1)
      have HNX : Hid (amounts (R.take (k + 1)) = amounts (R.take k) ++ [x]) := hide (by rw [hx]; exact amounts_next R k hlt)
      have HCLN := hide hCl
      have HC1 := hide hC1
      have HRC : Hid (wr.rangeAt b (off + k * 36) C) := hide (by rw [hC]; exact HRNG.out k hlt wr HBEL.out)
      clear hC hCl hC1 hx
      go_wp2_with (first
        | (refine wpList_load_part 54 C b (off + k * 36) rfl (.tmp 14) rfl rfl HRC.out Tryz.underlying54 rfl size_coin HCLN.out ?_)
        | (refine wpList_store_any3 54 Z C wr.heap.size rfl (.tmp 6) (.tmp 15) rfl rfl rfl rfl (Is.new wr _ _) size_coin HZL.out HCLN.out HC1.out ?_; intro w3 hi3 hw3; have hb3 : Below wr.heap.size wr w3 := (by rw [hw3]; exact ck_new); have hcX := hi3.cell 33; rw [HCX.out] at hcX; have HB3 := hide (HBEL.out.trans (hb3.mono HBEL.out.size)); have HO3 := hide (HOW.out.below hb3); have HO4 := hide (HO3.out.below (below_alloc w3 (.cells #[.int .i64 x] 3))); have HB4 := hide (HB3.out.trans ((below_alloc w3 (.cells #[.int .i64 x] 3)).mono HB3.out.size)); clear hi3 hw3 hb3)
        | (at_builtin; refine wpList_append_ints _ rfl (.tmp 16) (.tmp 20) rfl w.heap.size _ (amounts (R.take k)) rfl HO4.out (.slice (some ⟨w3.heap.size, 0, none⟩) 1 1) [x] rfl (OwnI.one w3 w3.heap.size x (Nat.le_refl _)).has (by rw [HVL.out]; show k + 1 ≤ _; omega) HB4.out.size ?_; intro v6 w6 ho6 hg6; have HO6 := hide ho6; have HB6 := hide (HB4.out.grown hg6 HB4.out.size (fun q hq => (HO4.out.block q hq).1)); clear ho6 hg6))
      go_roundw
      case rel => exact ⟨k + 1, by omega, by go_num, by rw [HNX.out]; exact HO6.out, HB6.out⟩
      case measure => simp [intOf]; omega
    · have hki : ¬ (k : Int) < (n : Int) := by omega
      have HAL : Hid (R.take k = R) := hide (List.take_of_length_le (by rw [← HN.out]; omega))
      rw [HAL.out] at HOW
      go_wp2_with fail
      refine (HMS.out _ _ HOW.out.has).mono ?_
      rintro e w7 ⟨rfl, rfl⟩
      go_wp2
      exact bodyPost_ret (v := .tuple #[.int .i64 s, f]) (by simp [results, Tryz.results36, go_sem]) rfl ⟨rfl, HBEL.out⟩
set_option maxHeartbeats 1000000 in
theorem ctotal_any (v : Value) (R : List CoinV) (w : World) (h : HasCoins w v R) (hm : R.length ≤ 1000) :
    Calls Tryz.prog 36 #[v] w fun e w' => e = .returned (.tuple #[.int .i64 (Mo.tot 0 (amounts R)).1, errV (Mo.tot 0 (amounts R)).2]) ∧ Below w.heap.size w w' := by
  rcases h.1 with ⟨a, cap, rfl, rfl⟩ | ⟨b, off, cap, rfl, h0, h1, h2, h3, hc⟩
  · have hmk := fun w => make_roomI 0 (by omega) w
    have e : Calls Tryz.prog 61 #[.slice (some ⟨w.heap.size, 0, none⟩) 0 0] (w.alloc (.cells (zerosI 0) 3)) fun e w' => e = .returned (.tuple #[.int .i64 (Mo.tot 0 (amounts [])).1, errV (Mo.tot 0 (amounts [])).2]) ∧ w.alloc (.cells (zerosI 0) 3) = w' := msum_any _ _ _ (OwnI.room w w.heap.size 0 (Nat.le_refl _) (by omega)).has
    have HE := hide e
    have HB := hide (below_alloc w (.cells (zerosI 0) 3))
    obtain ⟨s, hs⟩ : ∃ s, s = (Mo.tot 0 (amounts [])).1 := ⟨_, rfl⟩
    obtain ⟨f, hf⟩ : ∃ f, f = errV (Mo.tot 0 (amounts [])).2 := ⟨_, rfl⟩
    rw [← hs, ← hf] at HE ⊢
    obtain ⟨ZI, hZI⟩ : ∃ z, z = zerosI 0 := ⟨_, rfl⟩
    rw [← hZI] at HE hmk HB
    have hmk0 : ∀ w : World, (Instr.makeSlice 74 (.int .i64 0) (.int .i64 0)).run Tryz.prog w = .ok (.slice (some ⟨w.heap.size, 0, none⟩) 0 0) (w.alloc (.cells ZI 3)) := hmk
    clear h e hs hf hZI hmk
    go_enter Tryz.func36, Tryz.ntmps36
    go_wp2
    refine wp_loop_rounds 1 ?_
    rw [rounds_succ]
    go_wp2_with fail
    refine HE.out.mono ?_
    rintro e w7 ⟨rfl, rfl⟩
    go_wp2
    exact bodyPost_ret (v := .tuple #[.int .i64 s, f]) (by simp [results, Tryz.results36, go_sem]) rfl ⟨rfl, HB.out⟩
  · exact ctotal_some R b off cap w h0 hm h1 h.2 h3 hc

set_option maxRecDepth 100000 in
set_option maxHeartbeats 2000000 in
theorem rworth_some (R : List CoinV) (b off cap : Nat) (w : World) (h0 : 0 < R.length) (hm : R.length ≤ 1000) (h1 : R.length ≤ cap) (h : ∀ x ∈ R, CoinOk w x) (hb : b < w.heap.size) (hc : w.rangeAt b off (coinCells R)) :
    Calls Tryz.prog 13 #[.slice (some ⟨b, off, none⟩) R.length cap] w fun e w' => e = .returned (.tuple #[.int .i64 (Mo.tot 0 (amounts R)).1, .int .i64 (Mo.tot 0 (amounts R)).2]) ∧ Below w.heap.size w w' := by
  have HRNG : Hid (∀ k (hk : k < R.length) W, Below w.heap.size w W → W.cell? ⟨b, off + k * 36 + 33, none⟩ = some (.int .i64 R[k].amount)) := hide (fun k hk W hW => (coin_range (range_keep (range_at hc (fun x hx => coinCell_length x (h x hx).1) k hk) hW hb) (h _ (List.getElem_mem hk)).1).2.2.1)
  obtain ⟨n, hn⟩ : ∃ n, n = R.length := ⟨_, rfl⟩
  have HN := hide hn
  rw [← hn] at hm h1 h0 ⊢
  obtain ⟨s, hs⟩ : ∃ s, s = (Mo.tot 0 (amounts R)).1 := ⟨_, rfl⟩
  obtain ⟨f, hf⟩ : ∃ f, f = (Mo.tot 0 (amounts R)).2 := ⟨_, rfl⟩
  have HMS : Hid (∀ v W, HasI W v (amounts R) → Calls Tryz.prog 30 #[v] W fun e w' => e = .returned (.tuple #[.int .i64 s, .int .i64 f]) ∧ W = w') := hide (fun v W hv => by rw [hs, hf]; exact rtotal_any v _ W hv)
  rw [← hs, ← hf]
  clear h hb hc hn hs hf
  go_enter Tryz.func13, Tryz.ntmps13
  go_wp2
  go_loopw [4, 5] (fun v i wr => ∃ k : Nat, k ≤ n ∧ i = .int .i64 k ∧ OwnI wr w.heap.size v (amounts (R.take k)) ∧ Below w.heap.size w wr) (fun _ i _ => n - (intOf i).toNat)
  case atStart => exact ⟨0, by omega, rfl, OwnI.nil _ _, Below.refl _ _⟩
  case round =>
    obtain ⟨k, hk, rfl, hown, hbel⟩ := hrel
    obtain ⟨va, vc, rfl, _, _⟩ := hown.form
    have hvl : (amounts (R.take k)).length = k := by rw [amounts_length, List.length_take, ← HN.out]; omega
    rw [hvl] at hown ⊢
    have HOW := hide hown
    have HBEL := hide hbel
    have HVL := hide hvl
    clear hown hbel hvl
    by_cases hltn : k < n
    · have hki : (k : Int) < (n : Int) := by omega
      have hlt : k < R.length := by rw [← HN.out]; exact hltn
      have hck := HRNG.out k hlt wr HBEL.out
      obtain ⟨x, hx⟩ : ∃ x, x = R[k].amount := ⟨_, rfl⟩
      rw [← hx] at hck
      have HNX : Hid (amounts (R.take (k + 1)) = amounts (R.take k) ++ [x]) := hide (by rw [hx]; exact amounts_next R k hlt)
      have HO4 := hide (HOW.out.below (below_alloc wr (.cells #[.int .i64 x] 3)))
      have HB4 := hide (HBEL.out.trans ((below_alloc wr (.cells #[.int .i64 x] 3)).mono HBEL.out.size))
      clear hx
      go_wp2_with (at_builtin; refine wpList_append_ints _ rfl (.tmp 12) (.tmp 19) rfl w.heap.size _ (amounts (R.take k)) rfl HO4.out (.slice (some ⟨wr.heap.size, 0, none⟩) 1 1) [x] rfl (OwnI.one wr wr.heap.size x (Nat.le_refl _)).has (by rw [HVL.out]; show k + 1 ≤ _; omega) HB4.out.size ?_; intro v6 w6 ho6 hg6; have HO6 := hide ho6; have HB6 := hide (HB4.out.grown hg6 HB4.out.size (fun q hq => (HO4.out.block q hq).1)); clear ho6 hg6)
      go_roundw
      case rel => exact ⟨k + 1, by omega, by go_num, by rw [HNX.out]; exact HO6.out, HB6.out⟩
      case measure => simp [intOf]; omega
    · have hki : ¬ (k : Int) < (n : Int) := by omega
      have HAL : Hid (R.take k = R) := hide (List.take_of_length_le (by rw [← HN.out]; omega))
      rw [HAL.out] at HOW
      go_wp2_with fail
      refine (HMS.out _ _ HOW.out.has).mono ?_
      rintro e w7 ⟨rfl, rfl⟩
      go_wp2
      exact bodyPost_ret (v := .tuple #[.int .i64 s, .int .i64 f]) (by simp [results, Tryz.results13, go_sem]) rfl ⟨rfl, HBEL.out⟩
set_option maxHeartbeats 1000000 in
theorem rworth_any (v : Value) (R : List CoinV) (w : World) (h : HasCoins w v R) (hm : R.length ≤ 1000) :
    Calls Tryz.prog 13 #[v] w fun e w' => e = .returned (.tuple #[.int .i64 (Mo.tot 0 (amounts R)).1, .int .i64 (Mo.tot 0 (amounts R)).2]) ∧ Below w.heap.size w w' := by
  rcases h.1 with ⟨a, cap, rfl, rfl⟩ | ⟨b, off, cap, rfl, h0, h1, h2, h3, hc⟩
  · have e := rtotal_any (.slice none 0 0) (amounts []) w (OwnI.nil w 0).has
    obtain ⟨s, hs⟩ : ∃ s, s = (Mo.tot 0 (amounts [])).1 := ⟨_, rfl⟩
    obtain ⟨f, hf⟩ : ∃ f, f = (Mo.tot 0 (amounts [])).2 := ⟨_, rfl⟩
    rw [← hs, ← hf] at e ⊢
    have HE := hide e
    clear h e hs hf
    go_enter Tryz.func13, Tryz.ntmps13
    go_wp2
    refine wp_loop_rounds 1 ?_
    rw [rounds_succ]
    go_wp2_with fail
    refine HE.out.mono ?_
    rintro e w7 ⟨rfl, rfl⟩
    go_wp2
    exact bodyPost_ret (v := .tuple #[.int .i64 s, .int .i64 f]) (by simp [results, Tryz.results13, go_sem]) rfl ⟨rfl, Below.refl _ _⟩
  · exact rworth_some R b off cap w h0 hm h1 h.2 h3 hc

end Go.Proofs.YtmjilohlchkicaaGreatDoor

/- A coin is found. -/
namespace Go.Proofs.YtmjilohlchkicaaGreatDoor
open Go.RowKit
set_option linter.unusedVariables false
set_option linter.unusedSimpArgs false

set_option maxRecDepth 100000 in
set_option maxHeartbeats 1000000 in
theorem bsf_none (a : Option Addr) (cap : Nat) (P : List Value) (w : World) (hP : P.length = 33) :
    Calls Tryz.prog 37 #[.slice a 0 cap, .agg P.toArray, .func (.func 38) #[] #[]] w fun e w' => e = .returned (.tuple #[.int .i64 0, .bool false]) ∧ Below w.heap.size w w' := by
  obtain ⟨W0, hW0⟩ : ∃ W0, W0 = w.alloc (.cells P.toArray 46) := ⟨_, rfl⟩
  have HB0 : Hid (Below w.heap.size w W0) := hide (by rw [hW0]; exact below_alloc w _)
  have hPp : ¬ P = [] := by intro h; rw [h] at hP; cases hP
  clear hP
  go_enter Tryz.func37, Tryz.ntmps37
  go_wp2
  rw [← hW0]
  clear hW0
  refine wp_loop_rounds 1 ?_
  rw [rounds_succ]
  go_wp2_with fail
  refine wp_region_held_drew (S := fun W : World => Hid (Below W0.heap.size W0 W)) (by kernel_rfl) ?_ (fun hHeld0 => ?_)
  · exact hide (Below.refl _ _).drew
  refine wpAnyH_take (i := 0) (v := ?_) rfl (by kernel_rfl) (by kernel_rfl) (by kernel_rfl) (fun _ _ _ h => h) (Or.inl ⟨by rfl, ?_⟩) hHeld0 ?_
  rotate_left
  · (intro w hSw; (try dsimp only at hSw); go_simp <;> (try with_reducible rfl))
  simp only [Act.put, List.getElem_toArray, List.getElem_cons_zero, List.getElem_cons_succ, List.setIfInBounds_toArray, List.set_cons_zero, List.set_cons_succ]
  refine wpAnyH_take (i := 1) (v := ?_) rfl (by kernel_rfl) (by kernel_rfl) (by kernel_rfl) (fun _ _ _ h => h) (Or.inl ⟨by rfl, ?_⟩) hHeld0 ?_
  rotate_left
  · (intro w hSw; (try dsimp only at hSw); go_simp <;> (try with_reducible rfl))
  simp only [Act.put, List.getElem_toArray, List.getElem_cons_zero, List.getElem_cons_succ, List.setIfInBounds_toArray, List.set_cons_zero, List.set_cons_succ]
  refine wpAnyH_take (i := 2) (v := ?_) rfl (by kernel_rfl) (by kernel_rfl) (by kernel_rfl) (fun _ _ _ h => h) (Or.inl ⟨by rfl, ?_⟩) hHeld0 ?_
  rotate_left
  · (intro w hSw; (try dsimp only at hSw); go_simp <;> (try with_reducible rfl))
  simp only [Act.put, List.getElem_toArray, List.getElem_cons_zero, List.getElem_cons_succ, List.setIfInBounds_toArray, List.set_cons_zero, List.set_cons_succ]
  refine wpAnyH_take (i := 3) (v := ?_) rfl (by kernel_rfl) (by kernel_rfl) (by kernel_rfl) (fun _ _ _ h => h) (Or.inl ⟨by rfl, ?_⟩) hHeld0 ?_
  rotate_left
  · (intro w hSw; (try dsimp only at hSw); go_simp <;> (try with_reducible rfl))
  simp only [Act.put, List.getElem_toArray, List.getElem_cons_zero, List.getElem_cons_succ, List.setIfInBounds_toArray, List.set_cons_zero, List.set_cons_succ]
  refine wpAnyH_take (i := 4) (v := ?_) rfl (by kernel_rfl) (by kernel_rfl) (by kernel_rfl) (fun _ _ _ h => h) (Or.inl ⟨by rfl, ?_⟩) hHeld0 ?_
  rotate_left
  · (intro w hSw; (try dsimp only at hSw); go_simp <;> (try with_reducible rfl))
  simp only [Act.put, List.getElem_toArray, List.getElem_cons_zero, List.getElem_cons_succ, List.setIfInBounds_toArray, List.set_cons_zero, List.set_cons_succ]
  refine wpAnyH_take (i := 5) (v := undef) rfl (by kernel_rfl) (by kernel_rfl) (by kernel_rfl) (fun _ _ _ h => h) (Or.inr ⟨by rfl, rfl⟩) hHeld0 ?_
  simp only [Act.put, List.getElem_toArray, List.getElem_cons_zero, List.getElem_cons_succ, List.setIfInBounds_toArray, List.set_cons_zero, List.set_cons_succ]
  refine wpAnyH_take (i := 6) (v := undef) rfl (by kernel_rfl) (by kernel_rfl) (by kernel_rfl) (fun _ _ _ h => h) (Or.inr ⟨by rfl, rfl⟩) hHeld0 ?_
  simp only [Act.put, List.getElem_toArray, List.getElem_cons_zero, List.getElem_cons_succ, List.setIfInBounds_toArray, List.set_cons_zero, List.set_cons_succ]
  refine wpAnyH_take (i := 7) (v := undef) rfl (by kernel_rfl) (by kernel_rfl) (by kernel_rfl) (fun _ _ _ h => h) (Or.inr ⟨by rfl, rfl⟩) hHeld0 ?_
  simp only [Act.put, List.getElem_toArray, List.getElem_cons_zero, List.getElem_cons_succ, List.setIfInBounds_toArray, List.set_cons_zero, List.set_cons_succ]
  refine wpAnyH_take (i := 8) (v := undef) rfl (by kernel_rfl) (by kernel_rfl) (by kernel_rfl) (fun _ _ _ h => h) (Or.inr ⟨by rfl, rfl⟩) hHeld0 ?_
  simp only [Act.put, List.getElem_toArray, List.getElem_cons_zero, List.getElem_cons_succ, List.setIfInBounds_toArray, List.set_cons_zero, List.set_cons_succ]
  refine wpAnyH_take (i := 9) (v := undef) rfl (by kernel_rfl) (by kernel_rfl) (by kernel_rfl) (fun _ _ _ h => h) (Or.inr ⟨by rfl, rfl⟩) hHeld0 ?_
  simp only [Act.put, List.getElem_toArray, List.getElem_cons_zero, List.getElem_cons_succ, List.setIfInBounds_toArray, List.set_cons_zero, List.set_cons_succ]
  refine wpAnyH_take (i := 10) (v := undef) rfl (by kernel_rfl) (by kernel_rfl) (by kernel_rfl) (fun _ _ _ h => h) (Or.inr ⟨by rfl, rfl⟩) hHeld0 ?_
  simp only [Act.put, List.getElem_toArray, List.getElem_cons_zero, List.getElem_cons_succ, List.setIfInBounds_toArray, List.set_cons_zero, List.set_cons_succ]
  refine wpAnyH_take (i := 11) (v := undef) rfl (by kernel_rfl) (by kernel_rfl) (by kernel_rfl) (fun _ _ _ h => h) (Or.inr ⟨by rfl, rfl⟩) hHeld0 ?_
  simp only [Act.put, List.getElem_toArray, List.getElem_cons_zero, List.getElem_cons_succ, List.setIfInBounds_toArray, List.set_cons_zero, List.set_cons_succ]
  refine wpAnyH_take (i := 12) (v := undef) rfl (by kernel_rfl) (by kernel_rfl) (by kernel_rfl) (fun _ _ _ h => h) (Or.inr ⟨by rfl, rfl⟩) hHeld0 ?_
  simp only [Act.put, List.getElem_toArray, List.getElem_cons_zero, List.getElem_cons_succ, List.setIfInBounds_toArray, List.set_cons_zero, List.set_cons_succ]
  refine wpAnyH_take (i := 13) (v := ?_) rfl (by kernel_rfl) (by kernel_rfl) (by kernel_rfl) (fun _ _ _ h => h) (Or.inl ⟨by rfl, ?_⟩) hHeld0 ?_
  rotate_left
  · (intro w hSw; (try dsimp only at hSw); go_simp <;> (try with_reducible rfl))
  simp only [Act.put, List.getElem_toArray, List.getElem_cons_zero, List.getElem_cons_succ, List.setIfInBounds_toArray, List.set_cons_zero, List.set_cons_succ]
  refine wpAnyH_take (i := 14) (v := ?_) rfl (by kernel_rfl) (by kernel_rfl) (by kernel_rfl) (fun _ _ _ h => h) (Or.inl ⟨by rfl, ?_⟩) hHeld0 ?_
  rotate_left
  · (intro w hSw; (try dsimp only at hSw); go_simp <;> (try with_reducible rfl))
  simp only [Act.put, List.getElem_toArray, List.getElem_cons_zero, List.getElem_cons_succ, List.setIfInBounds_toArray, List.set_cons_zero, List.set_cons_succ]
  refine wpAnyH_take (i := 15) (v := ?_) rfl (by kernel_rfl) (by kernel_rfl) (by kernel_rfl) (fun _ _ _ h => h) (Or.inl ⟨by rfl, ?_⟩) hHeld0 ?_
  rotate_left
  · (intro w hSw; (try dsimp only at hSw); go_simp <;> (try with_reducible rfl))
  simp only [Act.put, List.getElem_toArray, List.getElem_cons_zero, List.getElem_cons_succ, List.setIfInBounds_toArray, List.set_cons_zero, List.set_cons_succ]
  refine wpAnyH_done (by kernel_rfl) ?_ _
  have HBL := hide hHeld0.out
  clear hHeld0
  go_wp2
  exact bodyPost_ret (v := .tuple #[.int .i64 0, .bool false]) (by simp [results, Tryz.results37, go_sem]) rfl ⟨rfl, HB0.out.trans (HBL.out.mono HB0.out.size)⟩
def ZC : List Value := vals (List.replicate 32 0) ++ ([.int .i64 0, .int .i64 0, .slice none 0 0, .int .i64 0] : List Value)
def AtTold (R : List CoinV) (p : List Int × Int) (e : Ending) : Prop := (∃ x ∈ R, Cn.place x.it = p ∧ e = .returned (.tuple #[.agg (coinCell x).toArray, .bool true])) ∨ (NoneAt R p ∧ e = .returned (.tuple #[.agg ZC.toArray, .bool false]))
set_option maxRecDepth 100000 in
set_option maxHeartbeats 2000000 in
theorem at_any (v : Value) (R : List CoinV) (B : List Int) (y : Int) (w : World) (h : HasCoins w v R) (hs : Cn.setF (R.map CoinV.it) = 0) (hB : B.length = 32) (hBb : Sz.Byt B) :
    Calls Tryz.prog 22 #[v, .agg (vals B ++ [Value.int .i64 y]).toArray] w fun e w' => AtTold R (B, y) e ∧ Below w.heap.size w w' := by
  obtain ⟨P, hP⟩ : ∃ P, P = vals B ++ [Value.int .i64 y] := ⟨_, rfl⟩
  have hPl : P.length = 33 := by rw [hP]; simp [vals_length, hB]
  have hPp : ¬ P = [] := by intro h; rw [h] at hPl; cases hPl
  have HPL := hide hPl
  have hzc := zero_coin
  obtain ⟨Z, hZ⟩ : ∃ Z, Z = ZC := ⟨_, rfl⟩
  have hzc2 : ∀ w : World, (zeroValue 54).run Tryz.prog w = .ok (.agg Z.toArray) w := by rw [hZ]; exact hzc
  have hZl : Z.length = 36 := by rw [hZ]; simp [ZC, vals]
  have hZ1 : ∀ v ∈ Z, v.oneCell' = true := by rw [hZ]; exact coin_ones ⟨List.replicate 32 0, 0, 0, .slice none 0 0, [], 0⟩ ⟨_, _, _, rfl⟩
  have hZp : ¬ Z = [] := by intro h; rw [h] at hZl; cases hZl
  have HZL := hide hZl
  have HZ1 := hide hZ1
  have HZE := hide hZ
  have HI0 : Hid (Is ((w.alloc (.cells P.toArray 46)).alloc (.cells Z.toArray 54)) w.heap.size P 46) := hide ((Is.new w P 46).alloc _)
  have HZ0 : Hid (Is ((w.alloc (.cells P.toArray 46)).alloc (.cells Z.toArray 54)) (w.heap.size + 1) Z 54) := hide (Is.new' Z 54 (by simp))
  have HB0 : Hid (Below w.heap.size w ((w.alloc (.cells P.toArray 46)).alloc (.cells Z.toArray 54))) := hide (below_alloc2 w _ _)
  rw [← hP]
  clear hzc hZ hZl hZ1
  rcases h.1 with ⟨a, cap, rfl, rfl⟩ | ⟨b, off, cap, rfl, h0, h1, h2, h3, hc⟩
  · have HBS := hide (bsf_none a cap P ((w.alloc (.cells P.toArray 46)).alloc (.cells Z.toArray 54)) hPl)
    clear hP hPl h hs
    go_enter Tryz.func22, Tryz.ntmps22
    go_wp2_with (first
      | (refine wpList_load_part 46 P w.heap.size 0 rfl (.tmp 3) rfl rfl (is_range HI0.out) Tryz.underlying46 rfl size_placeC HPL.out ?_)
      | (go_at_call 37; refine HBS.out.mono ?_; rintro e w1 ⟨rfl, hb1⟩; have HZ1w := hide (HZ0.out.below hb1 HZ0.out.lt); have HB1 := hide (HB0.out.trans (hb1.mono HB0.out.size)); clear hb1)
      | (refine wpList_store_any3 54 Z Z (w.heap.size + 1) rfl (.tmp 4) (.tmp 16) rfl rfl rfl rfl HZ1w.out size_coin HZL.out HZL.out HZ1.out ?_; intro w9 hi9 hw9; have hbr : But (w.heap.size + 1) w1 w9 := (by rw [hw9]; exact cn_but_row _ (w.heap.size + 1) _); clear hw9))
    exact bodyPost_ret (v := .tuple #[.agg Z.toArray, .bool false]) (results_cell2 Tryz.results22 rfl (hi9.cellsOfS Tryz.underlying54 (by rw [HZL.out]; exact size_coin))) rfl ⟨.inr ⟨fun t h => absurd h (by simp), by rw [HZE.out]⟩, HB1.out.trans (hbr.under HB1.out.size (by omega))⟩
  · have hm : R.length ≤ 1000 := by have := (Cn.setF_zero hs).1; rwa [List.length_map] at this
    have HBS := hide (bsf_some R b off cap B y ((w.alloc (.cells P.toArray 46)).alloc (.cells Z.toArray 54)) h0 h1 hs (fun x hx => (h.2 x hx).below HB0.out) (Nat.lt_of_lt_of_le h3 HB0.out.size) (range_keep hc HB0.out h3) hB hBb)
    have HRNG : Hid (∀ k (hk : k < R.length) W, Below w.heap.size w W → W.rangeAt b (off + k * 36) (coinCell R[k])) := hide (fun k hk W hW => range_keep (range_at hc (fun x hx => coinCell_length x (h.2 x hx).1) k hk) hW h3)
    have HSLV : Hid (∀ k (hk : k < R.length), ∃ a n c, R[k].lv = .slice a n c) := hide (fun k hk => hasOps_slice (h.2 _ (List.getElem_mem hk)).2.2)
    have HL32 : Hid (∀ k (hk : k < R.length), R[k].tx.length = 32) := hide (fun k hk => (h.2 _ (List.getElem_mem hk)).1)
    rw [← hP] at HBS
    obtain ⟨n, hn⟩ : ∃ n, n = R.length := ⟨_, rfl⟩
    have HN := hide hn
    rw [← hn] at hm h1 h0 HBS ⊢
    clear hP hPl h hs hc hn
    go_enter Tryz.func22, Tryz.ntmps22
    go_wp2_with (refine wpList_load_part 46 P w.heap.size 0 rfl (.tmp 3) rfl rfl (is_range HI0.out) Tryz.underlying46 rfl size_placeC HPL.out ?_)
    refine HBS.out.mono ?_
    rintro e w1 ⟨⟨m, f, rfl, hf1, hf0⟩, hb1⟩
    have HZ1w := hide (HZ0.out.below hb1 HZ0.out.lt)
    have HB1 := hide (HB0.out.trans (hb1.mono HB0.out.size))
    clear hb1 HBS
    cases f with
    | false =>
      have HNA := hide (hf0 rfl)
      clear hf0 hf1
      go_wp2_with (first
        | (refine wpList_store_any3 54 Z Z (w.heap.size + 1) rfl (.tmp 4) (.tmp 16) rfl rfl rfl rfl HZ1w.out size_coin HZL.out HZL.out HZ1.out ?_; intro w9 hi9 hw9; have hbr : But (w.heap.size + 1) w1 w9 := (by rw [hw9]; exact cn_but_row _ (w.heap.size + 1) _); clear hw9))
      exact bodyPost_ret (v := .tuple #[.agg Z.toArray, .bool false]) (results_cell2 Tryz.results22 rfl (hi9.cellsOfS Tryz.underlying54 (by rw [HZL.out]; exact size_coin))) rfl ⟨.inr ⟨HNA.out, by rw [HZE.out]⟩, HB1.out.trans (hbr.under HB1.out.size (by omega))⟩
    | true =>
      obtain ⟨hmR, hpl⟩ := hf1 rfl
      have HPLC := hide hpl
      obtain ⟨C, hC⟩ : ∃ C, C = coinCell R[m] := ⟨_, rfl⟩
      have HCE := hide hC
      have HCLN : Hid (C.length = 36) := hide (by rw [hC]; exact coinCell_length _ (HL32.out m hmR))
      have HC1 : Hid (∀ v ∈ C, v.oneCell' = true) := hide (by rw [hC]; exact coin_ones _ (HSLV.out m hmR))
      have HRC : Hid (w1.rangeAt b (off + m * 36) C) := hide (by rw [hC]; exact HRNG.out m hmR _ HB1.out)
      have hmn : m < n := by rw [HN.out]; exact hmR
      have hmi : (m : Int) < (n : Int) := by omega
      clear hf0 hf1 hpl hC
      go_wp2_with (first
        | (refine wpList_load_part 54 C b (off + m * 36) rfl (.tmp 19) rfl rfl HRC.out Tryz.underlying54 rfl size_coin HCLN.out ?_)
        | (refine wpList_store_any3 54 Z C (w.heap.size + 1) rfl (.tmp 4) (.tmp 20) rfl rfl rfl rfl HZ1w.out size_coin HZL.out HCLN.out HC1.out ?_; intro w9 hi9 hw9; have hbr : But (w.heap.size + 1) w1 w9 := (by rw [hw9]; exact cn_but_row _ (w.heap.size + 1) _); clear hw9))
      exact bodyPost_ret (v := .tuple #[.agg C.toArray, .bool true]) (results_cell2 Tryz.results22 rfl (hi9.cellsOfS Tryz.underlying54 (by rw [HCLN.out]; exact size_coin))) rfl ⟨.inl ⟨R[m], List.getElem_mem hmR, HPLC.out, by rw [← HCE.out]⟩, HB1.out.trans (hbr.under HB1.out.size (by omega))⟩

def NoneTo (R : List CoinV) (k : Nat) (p : List Int × Int) : Prop := ∀ t (h : t < R.length), t < k → Cn.place R[t].it ≠ p
def RcTold (R : List CoinV) (p : List Int × Int) (e : Ending) : Prop := (∃ m : Nat, FoundAt R m p ∧ e = .returned (.int .i64 (m : Int))) ∨ (NoneAt R p ∧ e = .returned (.int .i64 (-1)))
set_option maxRecDepth 100000 in
set_option maxHeartbeats 2000000 in
theorem rcoinAt_any (v : Value) (R : List CoinV) (B : List Int) (y : Int) (w : World) (h : HasCoins w v R) (hm : R.length ≤ 1000) (hB : B.length = 32) :
    Calls Tryz.prog 12 #[v, .agg (vals B ++ [Value.int .i64 y]).toArray] w fun e w' => RcTold R (B, y) e ∧ Below w.heap.size w w' := by
  obtain ⟨P, hP⟩ : ∃ P, P = vals B ++ [Value.int .i64 y] := ⟨_, rfl⟩
  have hPl : P.length = 33 := by rw [hP]; simp [vals_length, hB]
  have hPp : ¬ P = [] := by intro h; rw [h] at hPl; cases hPl
  have hszp : (Tryz.prog.info? 46).map (·.size) = some P.length := by rw [hPl]; exact size_placeC
  obtain ⟨W0, hW0⟩ : ∃ W0, W0 = w.alloc (.cells P.toArray 46) := ⟨_, rfl⟩
  have HI0 : Hid (Is W0 w.heap.size P 46) := hide (by rw [hW0]; exact Is.new w P 46)
  have HB0 : Hid (Below w.heap.size w W0) := hide (by rw [hW0]; exact below_alloc w _)
  rcases h.1 with ⟨a, cap, rfl, rfl⟩ | ⟨b, off, cap, rfl, h0, h1, h2, h3, hc⟩
  · rw [← hP]
    clear hP hPl hszp h
    go_enter Tryz.func12, Tryz.ntmps12
    go_wp2
    rw [← hW0]
    clear hW0
    refine wp_loop_rounds 1 ?_
    rw [rounds_succ]
    go_wp2
    go_ret
    exact ⟨.inr ⟨fun t h => absurd h (by simp), rfl⟩, HB0.out⟩
  · have HRNG : Hid (∀ k (hk : k < R.length) W, Below w.heap.size w W → W.rangeAt b (off + k * 36) (vals R[k].tx ++ [Value.int .i64 R[k].at'])) := hide (fun k hk W hW => by
      have := range_keep (range_at hc (fun x hx => coinCell_length x (h.2 x hx).1) k hk) hW h3
      rw [coin_parts] at this
      exact (tx_range_part this).1)
    have HL32 : Hid (∀ k (hk : k < R.length), R[k].tx.length = 32) := hide (fun k hk => (h.2 _ (List.getElem_mem hk)).1)
    have HQ : Hid (∀ k (hk : k < R.length) (W : World), (Op.equalIn 10000 46 (.agg (vals R[k].tx ++ [Value.int .i64 R[k].at']).toArray) (.agg P.toArray)).run Tryz.prog W = .ok (decide (R[k].tx = B ∧ R[k].at' = y)) W) := hide (fun k hk W => by rw [hP]; exact place_eq _ _ _ _ (HL32.out k hk) hB W)
    obtain ⟨n, hn⟩ : ∃ n, n = R.length := ⟨_, rfl⟩
    have HN := hide hn
    rw [← hn] at hm h1 h0 ⊢
    rw [← hP]
    have hgd := guard_place
    clear hP hPl h hc hn
    go_enter Tryz.func12, Tryz.ntmps12
    go_wp2
    rw [← hW0]
    clear hW0
    go_loopw [5] (fun i wr => ∃ k : Nat, k ≤ n ∧ i = .int .i64 k ∧ NoneTo R k (B, y) ∧ Below W0.heap.size W0 wr) (fun i _ => n - (intOf i).toNat)
    case atStart => exact ⟨0, by omega, rfl, fun t h ht => absurd ht (by omega), Below.refl _ _⟩
    case round =>
      obtain ⟨k, hk, rfl, hno, hbel⟩ := hrel
      have HNO := hide hno
      have HBEL := hide hbel
      clear hno hbel
      by_cases hltn : k < n
      · have hki : (k : Int) < (n : Int) := by omega
        have hlt : k < R.length := by rw [← HN.out]; exact hltn
        obtain ⟨PJ, hPJ⟩ : ∃ P, P = vals R[k].tx ++ [Value.int .i64 R[k].at'] := ⟨_, rfl⟩
        have hszj : (Tryz.prog.info? 46).map (·.size) = some PJ.length := by rw [hPJ, List.length_append, vals_length, HL32.out _ hlt]; exact size_placeC
        have HRJ : Hid (wr.drew.rangeAt b (off + k * 36) PJ) := hide (by rw [hPJ]; exact HRNG.out k hlt _ (HB0.out.trans (HBEL.out.drew.mono HB0.out.size)))
        have HRP : Hid (wr.drew.rangeAt w.heap.size 0 P) := hide (is_range (HI0.out.below HBEL.out.drew HI0.out.lt))
        by_cases hp : R[k].tx = B ∧ R[k].at' = y
        · have hq : ∀ w', (Op.equalIn 10000 46 (.agg PJ.toArray) (.agg P.toArray)).run Tryz.prog w' = .ok true w' := fun w' => by rw [hPJ, HQ.out k hlt w', decide_eq_true hp]
          have HFD : Hid (FoundAt R k (B, y)) := hide ⟨hlt, by show (R[k].tx, R[k].at') = (B, y); rw [hp.1, hp.2]⟩
          clear hPJ hp
          go_wp2_with fail
          refine wp_region_held_drew (S := fun W : World => W.rangeAt b (off + k * 36) PJ ∧ W.rangeAt w.heap.size 0 P ∧ Hid (Below W0.heap.size W0 W)) (by kernel_rfl) ?_ (fun hHeld0 => ?_)
          · exact ⟨HRJ.out, HRP.out, hide HBEL.out.drew⟩
          refine wpAnyH_take (i := 0) (v := ?_) rfl (by kernel_rfl) (by kernel_rfl) (by kernel_rfl) (fun _ _ _ h => h) (Or.inl ⟨by rfl, ?_⟩) hHeld0 ?_
          rotate_left
          · (intro w hSw; (try dsimp only at hSw); go_simp <;> (try with_reducible rfl))
          simp only [Act.put, List.getElem_toArray, List.getElem_cons_zero, List.getElem_cons_succ, List.setIfInBounds_toArray, List.set_cons_zero, List.set_cons_succ]
          refine wpAnyH_take (i := 1) (v := ?_) rfl (by kernel_rfl) (by kernel_rfl) (by kernel_rfl) (fun _ _ _ h => h) (Or.inl ⟨by rfl, ?_⟩) hHeld0 ?_
          rotate_left
          · (intro w hSw; (try dsimp only at hSw); go_simp <;> (try with_reducible rfl))
          simp only [Act.put, List.getElem_toArray, List.getElem_cons_zero, List.getElem_cons_succ, List.setIfInBounds_toArray, List.set_cons_zero, List.set_cons_succ]
          refine wpAnyH_take (i := 2) (v := ?_) rfl (by kernel_rfl) (by kernel_rfl) (by kernel_rfl) (fun _ _ _ h => h) (Or.inl ⟨by rfl, ?_⟩) hHeld0 ?_
          rotate_left
          · (intro w hSw; (try dsimp only at hSw); go_simp <;> (try with_reducible rfl))
          simp only [Act.put, List.getElem_toArray, List.getElem_cons_zero, List.getElem_cons_succ, List.setIfInBounds_toArray, List.set_cons_zero, List.set_cons_succ]
          refine wpAnyH_take (i := 3) (v := ?_) rfl (by kernel_rfl) (by kernel_rfl) (by kernel_rfl) (fun _ _ _ h => h) (Or.inl ⟨by rfl, ?_⟩) hHeld0 ?_
          rotate_left
          · (intro w hSw; (try dsimp only at hSw); go_simp <;> (try with_reducible rfl))
          simp only [Act.put, List.getElem_toArray, List.getElem_cons_zero, List.getElem_cons_succ, List.setIfInBounds_toArray, List.set_cons_zero, List.set_cons_succ]
          refine wpAnyH_take (i := 4) (v := .agg (PJ).toArray) rfl (by kernel_rfl) (by kernel_rfl) (by kernel_rfl) (fun _ _ _ h => h) (yieldsIf_load_mid (by rfl) _ _ rfl _ _ rfl (PJ) _ (fun w hSw => hSw.1) Tryz.underlying46 rfl hszj) hHeld0 ?_
          simp only [Act.put, List.getElem_toArray, List.getElem_cons_zero, List.getElem_cons_succ, List.setIfInBounds_toArray, List.set_cons_zero, List.set_cons_succ]
          refine wpAnyH_take (i := 5) (v := .agg (P).toArray) rfl (by kernel_rfl) (by kernel_rfl) (by kernel_rfl) (fun _ _ _ h => h) (yieldsIf_load_mid (by rfl) _ _ rfl _ _ rfl (P) _ (fun w hSw => hSw.2.1) Tryz.underlying46 rfl hszp) hHeld0 ?_
          simp only [Act.put, List.getElem_toArray, List.getElem_cons_zero, List.getElem_cons_succ, List.setIfInBounds_toArray, List.set_cons_zero, List.set_cons_succ]
          refine wpAnyH_take (i := 6) (v := ?_) rfl (by kernel_rfl) (by kernel_rfl) (by kernel_rfl) (fun _ _ _ h => h) (Or.inl ⟨by rfl, ?_⟩) hHeld0 ?_
          rotate_left
          · (intro w hSw; (try dsimp only at hSw); go_simp <;> (try with_reducible rfl))
          simp only [Act.put, List.getElem_toArray, List.getElem_cons_zero, List.getElem_cons_succ, List.setIfInBounds_toArray, List.set_cons_zero, List.set_cons_succ]
          refine wpAnyH_done (by kernel_rfl) ?_ _
          have HBL := hide hHeld0.2.2.out
          clear hHeld0
          go_wp2
          go_ret
          exact ⟨.inl ⟨k, HFD.out, rfl⟩, HB0.out.trans (HBL.out.mono HB0.out.size)⟩
        · have hq : ∀ w', (Op.equalIn 10000 46 (.agg PJ.toArray) (.agg P.toArray)).run Tryz.prog w' = .ok false w' := fun w' => by rw [hPJ, HQ.out k hlt w', decide_eq_false hp]
          have HNN : Hid (NoneTo R (k + 1) (B, y)) := hide (fun t ht htk e => by
            by_cases ek : t = k
            · subst ek
              have e1 : (R[t].tx, R[t].at') = (B, y) := e
              injection e1 with e1 e2
              exact hp ⟨e1, e2⟩
            · exact HNO.out t ht (by omega) e)
          clear hPJ hp
          go_wp2_with fail
          refine wp_region_held_drew (S := fun W : World => W.rangeAt b (off + k * 36) PJ ∧ W.rangeAt w.heap.size 0 P ∧ Hid (Below W0.heap.size W0 W)) (by kernel_rfl) ?_ (fun hHeld0 => ?_)
          · exact ⟨HRJ.out, HRP.out, hide HBEL.out.drew⟩
          refine wpAnyH_take (i := 0) (v := ?_) rfl (by kernel_rfl) (by kernel_rfl) (by kernel_rfl) (fun _ _ _ h => h) (Or.inl ⟨by rfl, ?_⟩) hHeld0 ?_
          rotate_left
          · (intro w hSw; (try dsimp only at hSw); go_simp <;> (try with_reducible rfl))
          simp only [Act.put, List.getElem_toArray, List.getElem_cons_zero, List.getElem_cons_succ, List.setIfInBounds_toArray, List.set_cons_zero, List.set_cons_succ]
          refine wpAnyH_take (i := 1) (v := ?_) rfl (by kernel_rfl) (by kernel_rfl) (by kernel_rfl) (fun _ _ _ h => h) (Or.inl ⟨by rfl, ?_⟩) hHeld0 ?_
          rotate_left
          · (intro w hSw; (try dsimp only at hSw); go_simp <;> (try with_reducible rfl))
          simp only [Act.put, List.getElem_toArray, List.getElem_cons_zero, List.getElem_cons_succ, List.setIfInBounds_toArray, List.set_cons_zero, List.set_cons_succ]
          refine wpAnyH_take (i := 2) (v := ?_) rfl (by kernel_rfl) (by kernel_rfl) (by kernel_rfl) (fun _ _ _ h => h) (Or.inl ⟨by rfl, ?_⟩) hHeld0 ?_
          rotate_left
          · (intro w hSw; (try dsimp only at hSw); go_simp <;> (try with_reducible rfl))
          simp only [Act.put, List.getElem_toArray, List.getElem_cons_zero, List.getElem_cons_succ, List.setIfInBounds_toArray, List.set_cons_zero, List.set_cons_succ]
          refine wpAnyH_take (i := 3) (v := ?_) rfl (by kernel_rfl) (by kernel_rfl) (by kernel_rfl) (fun _ _ _ h => h) (Or.inl ⟨by rfl, ?_⟩) hHeld0 ?_
          rotate_left
          · (intro w hSw; (try dsimp only at hSw); go_simp <;> (try with_reducible rfl))
          simp only [Act.put, List.getElem_toArray, List.getElem_cons_zero, List.getElem_cons_succ, List.setIfInBounds_toArray, List.set_cons_zero, List.set_cons_succ]
          refine wpAnyH_take (i := 4) (v := .agg (PJ).toArray) rfl (by kernel_rfl) (by kernel_rfl) (by kernel_rfl) (fun _ _ _ h => h) (yieldsIf_load_mid (by rfl) _ _ rfl _ _ rfl (PJ) _ (fun w hSw => hSw.1) Tryz.underlying46 rfl hszj) hHeld0 ?_
          simp only [Act.put, List.getElem_toArray, List.getElem_cons_zero, List.getElem_cons_succ, List.setIfInBounds_toArray, List.set_cons_zero, List.set_cons_succ]
          refine wpAnyH_take (i := 5) (v := .agg (P).toArray) rfl (by kernel_rfl) (by kernel_rfl) (by kernel_rfl) (fun _ _ _ h => h) (yieldsIf_load_mid (by rfl) _ _ rfl _ _ rfl (P) _ (fun w hSw => hSw.2.1) Tryz.underlying46 rfl hszp) hHeld0 ?_
          simp only [Act.put, List.getElem_toArray, List.getElem_cons_zero, List.getElem_cons_succ, List.setIfInBounds_toArray, List.set_cons_zero, List.set_cons_succ]
          refine wpAnyH_take (i := 6) (v := ?_) rfl (by kernel_rfl) (by kernel_rfl) (by kernel_rfl) (fun _ _ _ h => h) (Or.inl ⟨by rfl, ?_⟩) hHeld0 ?_
          rotate_left
          · (intro w hSw; (try dsimp only at hSw); go_simp <;> (try with_reducible rfl))
          simp only [Act.put, List.getElem_toArray, List.getElem_cons_zero, List.getElem_cons_succ, List.setIfInBounds_toArray, List.set_cons_zero, List.set_cons_succ]
          refine wpAnyH_done (by kernel_rfl) ?_ _
          have HBL := hide hHeld0.2.2.out
          clear hHeld0
          go_wp2
          go_roundw
          case rel => exact ⟨k + 1, by omega, by go_num, HNN.out, HBL.out⟩
          case measure => simp [intOf]; omega
      · have hki : ¬ (k : Int) < (n : Int) := by omega
        have HNA : Hid (NoneAt R (B, y)) := hide (fun t ht => HNO.out t ht (by have := HN.out; omega))
        go_wp2
        go_ret
        exact ⟨.inr ⟨HNA.out, rfl⟩, HB0.out.trans (HBEL.out.mono HB0.out.size)⟩

/-- What is found: what is wrong, or a copy of the coin. -/
def FdTold (R : List CoinV) (p : List Int × Int) (e : Ending) (w' : World) : Prop :=
  (Cn.setF (R.map CoinV.it) ≠ 0 ∧ e = .returned (.tuple #[.agg ZC.toArray, errV (Cn.setF (R.map CoinV.it))])) ∨
  (Cn.setF (R.map CoinV.it) = 0 ∧ NoneAt R p ∧ e = .returned (.tuple #[.agg ZC.toArray, errV 5])) ∨
  (Cn.setF (R.map CoinV.it) = 0 ∧ ∃ x ∈ R, Cn.place x.it = p ∧ ∃ x' : CoinV, e = .returned (.tuple #[.agg (coinCell x').toArray, .nilIface]) ∧ x'.it = x.it ∧ CoinOk w' x')
theorem coin_small {x : CoinV} (h : Cn.coinF x.it = 0) : x.L.length ≤ 1000 ∧ ∀ p ∈ x.L, p.1.data.length ≤ 180000000000000 := by
  have hc : Lk.check (opsOf x.L) = 0 := by
    unfold Cn.coinF at h
    split at h
    · cases h
    · split at h
      · exact h
      · contradiction
  obtain ⟨h1, h2⟩ := Tm.lock_ok _ hc
  rw [opsOf_length] at h1
  refine ⟨by omega, fun p hp => ?_⟩
  obtain ⟨_, _, _, _, e⟩ := h2 p.1 (List.mem_map.2 ⟨p, hp, rfl⟩)
  omega
end Go.Proofs.YtmjilohlchkicaaGreatDoor
