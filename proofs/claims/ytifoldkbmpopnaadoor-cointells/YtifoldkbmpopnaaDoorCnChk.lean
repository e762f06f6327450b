/- What is wrong with a set. -/
import Derived.Test.YtifoldkbmpopnaaDoorCnK
import Derived.Test.YtifoldkbmpopnaaDoorCnPl
import Derived.Test.YtifoldkbmpopnaaDoorZTc
namespace Go.Proofs.YtifoldkbmpopnaaDoor
open Go.RowKit
set_option linter.unusedVariables false
set_option linter.unusedSimpArgs false

theorem ck_new {w : World} {c c' : List Value} {t : TypeId} : Below w.heap.size w ((w.alloc (.cells c.toArray t)).setRow w.heap.size c'.toArray) :=
  (below_alloc w _).trans ⟨rfl, rfl, rfl, by simp [World.setRow], fun k hk => setRow_other _ _ k _ (by omega)⟩
/-- A coin's box, and what is below. -/
structure CkS (w : World) (g : Nat) (C : List Value) (W : World) : Prop where
  below : Below w.heap.size w W
  box : Is W g C 43
theorem CkS.drew {w : World} {g : Nat} {C : List Value} {W : World} (h : CkS w g C W) : CkS w g C W.drew := ⟨h.below.drew, h.box.drew⟩
theorem CkS.call {w : World} {g : Nat} {C : List Value} {W W' : World} (h : CkS w g C W) (hb : Below W.heap.size W W') : CkS w g C W' := ⟨h.below.trans (hb.mono h.below.size), h.box.below hb h.box.lt⟩
/-- The place of a coin ahead, and of that in the box. -/
theorem ck_keep {w W W' : World} {b o g : Nat} {PJ PK C : List Value} (h : W.rangeAt b o PJ ∧ W.rangeAt g 0 PK ∧ Hid (CkS w g C W ∧ b < W.heap.size)) (hb : Below W.heap.size W W') : W'.rangeAt b o PJ ∧ W'.rangeAt g 0 PK ∧ Hid (CkS w g C W' ∧ b < W'.heap.size) := by
  obtain ⟨h1, h2, h3⟩ := h
  obtain ⟨h4, h5⟩ := h3.out
  exact ⟨range_keep h1 hb h5, range_keep h2 hb h4.box.lt, hide ⟨h4.call hb, Nat.lt_of_lt_of_le h5 hb.size⟩⟩
theorem place_range {W : World} {g : Nat} {x : CoinV} (h : Is W g (coinCell x) 43) : W.rangeAt g 0 (vals x.tx ++ [.int .i64 x.at']) := by
  have := is_range h
  rw [coin_parts] at this
  exact (tx_range_part this).1
set_option maxRecDepth 100000 in
set_option maxHeartbeats 4000000 in
theorem ccheck_some (R : List CoinV) (b off cap : Nat) (w : World) (h0 : 0 < R.length) (hm : R.length ≤ 1000) (h1 : R.length ≤ cap) (h : ∀ x ∈ R, CoinOk w x) (hb : b < w.heap.size) (hc : w.rangeAt b off (coinCells R)) :
    Calls Tryd.prog 8 #[.slice (some ⟨b, off, none⟩) R.length cap] w fun e w' => e = .returned (errV (Cn.setF (R.map CoinV.it))) ∧ Below w.heap.size w w' := by
  have HOK : Hid (∀ W, Below w.heap.size w W → CoinOk W R[0]) := hide (fun W hW => (h _ (List.getElem_mem h0)).below hW)
  clear HOK
  obtain ⟨r, hr⟩ : ∃ r, r = Cn.setG none (R.map CoinV.it) := ⟨_, rfl⟩
  have e0 : Cn.setF (R.map CoinV.it) = r := by unfold Cn.setF; rw [if_neg (by rw [List.length_map]; omega), hr]
  rw [e0]
  have HOKA : Hid (∀ k (hk : k < R.length) W, Below w.heap.size w W → CoinOk W R[k]) := hide (fun k hk W hW => (h _ (List.getElem_mem hk)).below hW)
  have HRNG : Hid (∀ k (hk : k < R.length) W, Below w.heap.size w W → W.rangeAt b (off + k * 36) (coinCell R[k])) := hide (fun k hk W hW => range_keep (range_at hc (fun x hx => coinCell_length x (h x hx).1) k hk) hW hb)
  have HSLV : Hid (∀ k (hk : k < R.length), ∃ a n c, R[k].lv = .slice a n c) := hide (fun k hk => hasOps_slice (h _ (List.getElem_mem hk)).2.2)
  have HL32 : Hid (∀ k (hk : k < R.length), R[k].tx.length = 32 ∧ Sz.Byt R[k].tx) := hide (fun k hk => ⟨(h _ (List.getElem_mem hk)).1, (h _ (List.getElem_mem hk)).2.1⟩)
  have HBLW := hide hb
  have HR0 : Hid (r = Cn.setG none ((R.map CoinV.it).drop 0)) := hide (by rw [hr]; rfl)
  have hzc := zero_coin
  obtain ⟨Z, hZ⟩ : ∃ Z, Z = vals (List.replicate 32 0) ++ ([.int .i64 0, .int .i64 0, .slice none 0 0, .int .i64 0] : List Value) := ⟨_, rfl⟩
  rw [← hZ] at hzc
  have hZl : Z.length = 36 := by rw [hZ]; simp [vals]
  have hZp : ¬ Z = [] := by intro h; rw [h] at hZl; cases hZl
  have HZL := hide hZl
  obtain ⟨n, hn⟩ : ∃ n, n = R.length := ⟨_, rfl⟩
  have HN := hide hn
  rw [← hn] at hm h1 h0 ⊢
  clear h hb hc hr e0 hZ hZl hn
  go_enter Tryd.func8, Tryd.ntmps8
  go_wp2
  go_loopw [12] (fun i wr => ∃ k : Nat, k ≤ n ∧ i = .int .i64 k ∧ ∃ pv : Option (List Int × Int), r = Cn.setG pv ((R.map CoinV.it).drop k) ∧ (True → pv = (if hk : 0 < k ∧ k - 1 < R.length then some (Cn.place (R[k - 1]'hk.2).it) else none) ∧ Below w.heap.size w wr)) (fun i _ => n - (intOf i).toNat)
  case atStart => exact ⟨0, by omega, rfl, none, HR0.out, fun _ => ⟨rfl, Below.refl _ _⟩⟩
  case round =>
    obtain ⟨k, hk, rfl, pv, hrg, hpb⟩ := hrel
    obtain ⟨hpv, hbel⟩ := hpb trivial
    have HRG := hide hrg
    have HPB := hide hpv
    have HBEL := hide hbel
    clear hrg hpb hpv hbel
    by_cases hltn : k < n
    · have hki : (k : Int) < (n : Int) := by omega
      have hlt : k < R.length := by rw [← HN.out]; exact hltn
      have HOK := hide (HOKA.out k hlt)
      obtain ⟨C, hC⟩ : ∃ C, C = coinCell R[k] := ⟨_, rfl⟩
      have HCE := hide hC
      have hCl : C.length = 36 := by rw [hC]; exact coinCell_length _ (HL32.out k hlt).1
      have hC1 : ∀ v ∈ C, v.oneCell' = true := by rw [hC]; exact coin_ones _ (HSLV.out k hlt)
      have HCLN := hide hCl
      have HC1 := hide hC1
      have HRC : Hid (wr.rangeAt b (off + k * 36) C) := hide (by rw [hC]; exact HRNG.out k hlt wr HBEL.out)
      have HBWR : Hid (b < wr.heap.size) := hide (Nat.lt_of_lt_of_le HBLW.out HBEL.out.size)
      clear hC hCl hC1
      by_cases hk0 : k = 0
      · have HPV0 : Hid (pv = none) := hide (by rw [HPB.out, dif_neg (by omega)])
        have hdk : decide ((k : Int) > 0) = false := decide_eq_false (by omega)
        have hdk2 : decide (0 < (k : Int)) = false := decide_eq_false (by omega)
        have hnk : ¬ 0 < (k : Int) := by omega
        have hdk3 : decide (0 < k) = false := decide_eq_false (by omega)
        clear hk0
        go_wp2_with (first
          | (refine wpList_load_part 43 C b (off + k * 36) rfl (.tmp 15) rfl rfl HRC.out Tryd.underlying43 rfl size_coin HCLN.out ?_)
          | (refine wpList_store_any3 43 Z C wr.heap.size rfl (.tmp 4) (.tmp 16) rfl rfl rfl rfl (Is.new wr _ _) size_coin HZL.out HCLN.out HC1.out ?_; intro w3 hi3 hw3; have hb3 : Below wr.heap.size wr w3 := (by rw [hw3]; exact ck_new); have HC3 : Hid (CkS w wr.heap.size C w3) := hide ⟨HBEL.out.trans (hb3.mono HBEL.out.size), hi3⟩; clear hi3 hw3 hb3))
        refine wp_region_held_drew (S := fun W : World => Hid (CkS w wr.heap.size C W)) (by kernel_rfl) ?_ (fun hHeld0 => ?_)
        · exact hide HC3.out.drew
        refine wpAnyH_take (i := 0) (v := ?_) rfl (by kernel_rfl) (by kernel_rfl) (by kernel_rfl) (fun _ _ _ h => h) (Or.inl ⟨by rfl, ?_⟩) hHeld0 ?_
        rotate_left
        · (intro w hSw; (try dsimp only at hSw); go_simp <;> (try with_reducible rfl))
        simp only [Act.put, List.getElem_toArray, List.getElem_cons_zero, List.getElem_cons_succ, List.setIfInBounds_toArray, List.set_cons_zero, List.set_cons_succ]
        refine wpAnyH_take (i := 1) (v := ?_) rfl (by kernel_rfl) (by kernel_rfl) (by kernel_rfl) (fun _ _ _ h => h) (Or.inl ⟨by rfl, ?_⟩) hHeld0 ?_
        rotate_left
        · (intro w hSw; (try dsimp only at hSw); go_simp <;> (try with_reducible rfl))
        simp only [Act.put, List.getElem_toArray, List.getElem_cons_zero, List.getElem_cons_succ, List.setIfInBounds_toArray, List.set_cons_zero, List.set_cons_succ]
        refine wpAnyH_take (i := 2) (v := ?_) rfl (by kernel_rfl) (by kernel_rfl) (by kernel_rfl) (fun _ _ _ h => h) (Or.inl ⟨by rfl, ?_⟩) hHeld0 ?_
        rotate_left
        · (intro w hSw; (try dsimp only at hSw); go_simp <;> (try with_reducible rfl))
        simp only [Act.put, List.getElem_toArray, List.getElem_cons_zero, List.getElem_cons_succ, List.setIfInBounds_toArray, List.set_cons_zero, List.set_cons_succ]
        refine wpAnyH_take (i := 3) (v := undef) rfl (by kernel_rfl) (by kernel_rfl) (by kernel_rfl) (fun _ _ _ h => h) (Or.inr ⟨by rfl, rfl⟩) hHeld0 ?_
        simp only [Act.put, List.getElem_toArray, List.getElem_cons_zero, List.getElem_cons_succ, List.setIfInBounds_toArray, List.set_cons_zero, List.set_cons_succ]
        refine wpAnyH_take (i := 4) (v := undef) rfl (by kernel_rfl) (by kernel_rfl) (by kernel_rfl) (fun _ _ _ h => h) (Or.inr ⟨by rfl, rfl⟩) hHeld0 ?_
        simp only [Act.put, List.getElem_toArray, List.getElem_cons_zero, List.getElem_cons_succ, List.setIfInBounds_toArray, List.set_cons_zero, List.set_cons_succ]
        refine wpAnyH_take (i := 5) (v := undef) rfl (by kernel_rfl) (by kernel_rfl) (by kernel_rfl) (fun _ _ _ h => h) (Or.inr ⟨by rfl, rfl⟩) hHeld0 ?_
        simp only [Act.put, List.getElem_toArray, List.getElem_cons_zero, List.getElem_cons_succ, List.setIfInBounds_toArray, List.set_cons_zero, List.set_cons_succ]
        refine wpAnyH_take (i := 6) (v := undef) rfl (by kernel_rfl) (by kernel_rfl) (by kernel_rfl) (fun _ _ _ h => h) (Or.inr ⟨by rfl, rfl⟩) hHeld0 ?_
        simp only [Act.put, List.getElem_toArray, List.getElem_cons_zero, List.getElem_cons_succ, List.setIfInBounds_toArray, List.set_cons_zero, List.set_cons_succ]
        refine wpAnyH_take (i := 7) (v := undef) rfl (by kernel_rfl) (by kernel_rfl) (by kernel_rfl) (fun _ _ _ h => h) (Or.inr ⟨by rfl, rfl⟩) hHeld0 ?_
        simp only [Act.put, List.getElem_toArray, List.getElem_cons_zero, List.getElem_cons_succ, List.setIfInBounds_toArray, List.set_cons_zero, List.set_cons_succ]
        refine wpAnyH_take (i := 8) (v := undef) rfl (by kernel_rfl) (by kernel_rfl) (by kernel_rfl) (fun _ _ _ h => h) (Or.inr ⟨by rfl, rfl⟩) hHeld0 ?_
        simp only [Act.put, List.getElem_toArray, List.getElem_cons_zero, List.getElem_cons_succ, List.setIfInBounds_toArray, List.set_cons_zero, List.set_cons_succ]
        refine wpAnyH_take (i := 9) (v := undef) rfl (by kernel_rfl) (by kernel_rfl) (by kernel_rfl) (fun _ _ _ h => h) (Or.inr ⟨by rfl, rfl⟩) hHeld0 ?_
        simp only [Act.put, List.getElem_toArray, List.getElem_cons_zero, List.getElem_cons_succ, List.setIfInBounds_toArray, List.set_cons_zero, List.set_cons_succ]
        refine wpAnyH_take (i := 10) (v := undef) rfl (by kernel_rfl) (by kernel_rfl) (by kernel_rfl) (fun _ _ _ h => h) (Or.inr ⟨by rfl, rfl⟩) hHeld0 ?_
        simp only [Act.put, List.getElem_toArray, List.getElem_cons_zero, List.getElem_cons_succ, List.setIfInBounds_toArray, List.set_cons_zero, List.set_cons_succ]
        refine wpAnyH_take (i := 11) (v := undef) rfl (by kernel_rfl) (by kernel_rfl) (by kernel_rfl) (fun _ _ _ h => h) (Or.inr ⟨by rfl, rfl⟩) hHeld0 ?_
        simp only [Act.put, List.getElem_toArray, List.getElem_cons_zero, List.getElem_cons_succ, List.setIfInBounds_toArray, List.set_cons_zero, List.set_cons_succ]
        refine wpAnyH_take (i := 12) (v := undef) rfl (by kernel_rfl) (by kernel_rfl) (by kernel_rfl) (fun _ _ _ h => h) (Or.inr ⟨by rfl, rfl⟩) hHeld0 ?_
        simp only [Act.put, List.getElem_toArray, List.getElem_cons_zero, List.getElem_cons_succ, List.setIfInBounds_toArray, List.set_cons_zero, List.set_cons_succ]
        refine wpAnyH_take (i := 13) (v := ?_) rfl (by kernel_rfl) (by kernel_rfl) (by kernel_rfl) (fun _ _ _ h => h) (Or.inl ⟨by rfl, ?_⟩) hHeld0 ?_
        rotate_left
        · (intro w hSw; (try dsimp only at hSw); go_simp <;> (try with_reducible rfl))
        simp only [Act.put, List.getElem_toArray, List.getElem_cons_zero, List.getElem_cons_succ, List.setIfInBounds_toArray, List.set_cons_zero, List.set_cons_succ]
        refine wpAnyH_done (by kernel_rfl) ?_ _
        have HCL := hide hHeld0.out
        clear hHeld0
        have HBH : Hid (Cn.behind pv R[k].it) := hide (fun z hz => by rw [HPV0.out] at hz; cases hz)
        by_cases hck : Cn.coinF R[k].it = 0
        · have HNX : Hid (r = Cn.setG (some (Cn.place R[k].it)) ((R.map CoinV.it).drop (k + 1))) := hide (by rw [HRG.out, Cn.setG_next (p := pv) (l := R.map CoinV.it) (by simpa using hlt) (by simpa using HBH.out) (by simpa using hck)]; simp)
          have HCC := hide (checkCoin_any R[k] _ (HOK.out _ HCL.out.below))
          rw [hck, ← HCE.out, show errV 0 = .nilIface from rfl] at HCC
          clear hck
          go_wp2_with (first
            | (refine wpList_load_part 43 C wr.heap.size 0 rfl (.tmp 4) rfl rfl (is_range HCL.out.box) Tryd.underlying43 rfl size_coin HCLN.out ?_)
            | (go_at_call 21; refine HCC.out.mono ?_; rintro e W2 ⟨rfl, hb2⟩))
          have HCM2 := hide (HCL.out.call hb2)
          clear hb2
          go_roundw
          case rel => exact ⟨k + 1, by omega, by go_num, some (Cn.place R[k].it), HNX.out, fun _ => ⟨by rw [dif_pos ⟨by omega, by simpa using hlt⟩]; rfl, HCM2.out.below⟩⟩
          case measure => simp [intOf]; omega
        · have HNX : Hid (r = Cn.coinF R[k].it) := hide (by rw [HRG.out, Cn.setG_bad (p := pv) (l := R.map CoinV.it) (by simpa using hlt) (by simpa using HBH.out) (by simpa using hck)]; simp)
          have HCC := hide (checkCoin_any R[k] _ (HOK.out _ HCL.out.below))
          rw [← HCE.out] at HCC
          obtain ⟨cc, hcc⟩ : ∃ c, c = Cn.coinF R[k].it := ⟨_, rfl⟩
          rw [← hcc] at HCC HNX hck
          rw [show errV cc = .iface 28 (.int .i64 cc) from by unfold errV; rw [if_neg hck]] at HCC
          have HNZ := hide hck
          clear hck hcc
          go_wp2_with (first
            | (refine wpList_load_part 43 C wr.heap.size 0 rfl (.tmp 4) rfl rfl (is_range HCL.out.box) Tryd.underlying43 rfl size_coin HCLN.out ?_)
            | (go_at_call 21; refine HCC.out.mono ?_; rintro e W2 ⟨rfl, hb2⟩))
          go_ret
          exact ⟨by rw [HNX.out]; unfold errV; rw [if_neg HNZ.out]; rfl, (HCL.out.call hb2).below⟩
      · have hk1 : k - 1 < R.length := by omega
        have HPV : Hid (pv = some (Cn.place (R[k - 1]'hk1).it)) := hide (by rw [HPB.out, dif_pos ⟨by omega, hk1⟩])
        have hdk : decide ((k : Int) > 0) = true := decide_eq_true (by omega)
        have hdk2 : decide (0 < (k : Int)) = true := decide_eq_true (by omega)
        have hpk : 0 < (k : Int) := by omega
        have hdk3 : decide (0 < k) = true := decide_eq_true (by omega)
        have hpkn : 0 < k := by omega
        have hk1i : (k : Int) - 1 < (n : Int) := by omega
        have hk1t : ((k : Int) - 1).toNat = k - 1 := by omega
        have hk10 : (0 : Int) ≤ (k : Int) - 1 := by omega
        have hk11 : (1 : Int) ≤ (k : Int) := by omega
        have hk12 : 1 ≤ k := by omega
        have hwk : IntKind.i64.wrap ((k : Int) - 1) = (k : Int) - 1 := by simp [IntKind.wrap, IntKind.bits, IntKind.signed]; omega
        obtain ⟨PJ, hPJ⟩ : ∃ P, P = vals (R[k - 1]'hk1).tx ++ [Value.int .i64 (R[k - 1]'hk1).at'] := ⟨_, rfl⟩
        obtain ⟨PK, hPK⟩ : ∃ P, P = vals R[k].tx ++ [Value.int .i64 R[k].at'] := ⟨_, rfl⟩
        have hszj : (Tryd.prog.info? 25).map (·.size) = some PJ.length := by rw [hPJ, List.length_append, vals_length, (HL32.out _ hk1).1]; exact size_placeC
        have hszk : (Tryd.prog.info? 25).map (·.size) = some PK.length := by rw [hPK, List.length_append, vals_length, (HL32.out _ hlt).1]; exact size_placeC
        obtain ⟨q, hq⟩ : ∃ q, q = Cn.pl (Cn.place (R[k - 1]'hk1).it) (Cn.place R[k].it) := ⟨_, rfl⟩
        have HQ := hide hq
        have HCM : Hid (∀ W : World, Calls Tryd.prog 4 #[.agg PJ.toArray, .agg PK.toArray] W fun e w' => e = .returned (.int .i64 q) ∧ Below W.heap.size W w') := hide (fun W => by rw [hPJ, hPK, hq]; exact compare_any _ _ _ _ W (HL32.out _ hk1).1 (HL32.out _ hlt).1 (HL32.out _ hk1).2 (HL32.out _ hlt).2)
        have HJR : Hid (∀ W, Below w.heap.size w W → W.rangeAt b (off + (k - 1) * 36) PJ) := hide (fun W hW => by rw [hPJ]; have := HRNG.out _ hk1 W hW; rw [coin_parts] at this; exact (tx_range_part this).1)
        have HKR : Hid (∀ W, Is W wr.heap.size C 43 → W.rangeAt wr.heap.size 0 PK) := hide (fun W hW => by rw [HCE.out] at hW; rw [hPK]; exact place_range hW)
        clear hk0 hPJ hPK hq
        go_wp2_with (first
          | (refine wpList_load_part 43 C b (off + k * 36) rfl (.tmp 15) rfl rfl HRC.out Tryd.underlying43 rfl size_coin HCLN.out ?_)
          | (refine wpList_store_any3 43 Z C wr.heap.size rfl (.tmp 4) (.tmp 16) rfl rfl rfl rfl (Is.new wr _ _) size_coin HZL.out HCLN.out HC1.out ?_; intro w3 hi3 hw3; have hb3 : Below wr.heap.size wr w3 := (by rw [hw3]; exact ck_new); have HC3 : Hid (CkS w wr.heap.size C w3) := hide ⟨HBEL.out.trans (hb3.mono HBEL.out.size), hi3⟩; clear hi3 hw3 hb3))
        have HRJ : Hid (w3.drew.rangeAt b (off + (k - 1) * 36) PJ) := hide (HJR.out _ HC3.out.below.drew)
        have HRK : Hid (w3.drew.rangeAt wr.heap.size 0 PK) := hide (HKR.out _ HC3.out.box.drew)
        have HBLT : Hid (b < w3.drew.heap.size) := hide (Nat.lt_of_lt_of_le HBLW.out HC3.out.below.drew.size)
        refine wp_region_held_drew (S := fun W : World => W.rangeAt b (off + (k - 1) * 36) PJ ∧ W.rangeAt wr.heap.size 0 PK ∧ Hid (CkS w wr.heap.size C W ∧ b < W.heap.size)) (by kernel_rfl) ?_ (fun hHeld0 => ?_)
        · exact ⟨HRJ.out, HRK.out, hide ⟨HC3.out.drew, HBLT.out⟩⟩
        refine wpAnyH_take (i := 0) (v := ?_) rfl (by kernel_rfl) (by kernel_rfl) (by kernel_rfl) (fun _ _ _ h => h) (Or.inl ⟨by rfl, ?_⟩) hHeld0 ?_
        rotate_left
        · (intro w hSw; (try dsimp only at hSw); go_simp <;> (try with_reducible rfl))
        simp only [Act.put, List.getElem_toArray, List.getElem_cons_zero, List.getElem_cons_succ, List.setIfInBounds_toArray, List.set_cons_zero, List.set_cons_succ]
        refine wpAnyH_take (i := 1) (v := ?_) rfl (by kernel_rfl) (by kernel_rfl) (by kernel_rfl) (fun _ _ _ h => h) (Or.inl ⟨by rfl, ?_⟩) hHeld0 ?_
        rotate_left
        · (intro w hSw; (try dsimp only at hSw); go_simp <;> (try with_reducible rfl))
        simp only [Act.put, List.getElem_toArray, List.getElem_cons_zero, List.getElem_cons_succ, List.setIfInBounds_toArray, List.set_cons_zero, List.set_cons_succ]
        refine wpAnyH_take (i := 2) (v := ?_) rfl (by kernel_rfl) (by kernel_rfl) (by kernel_rfl) (fun _ _ _ h => h) (Or.inl ⟨by rfl, ?_⟩) hHeld0 ?_
        rotate_left
        · (intro w hSw; (try dsimp only at hSw); go_simp <;> (try with_reducible rfl))
        simp only [Act.put, List.getElem_toArray, List.getElem_cons_zero, List.getElem_cons_succ, List.setIfInBounds_toArray, List.set_cons_zero, List.set_cons_succ]
        refine wpAnyH_take (i := 3) (v := ?_) rfl (by kernel_rfl) (by kernel_rfl) (by kernel_rfl) (fun _ _ _ h => h) (Or.inl ⟨by rfl, ?_⟩) hHeld0 ?_
        rotate_left
        · (intro w hSw; (try dsimp only at hSw); go_simp <;> (try with_reducible rfl))
        simp only [Act.put, List.getElem_toArray, List.getElem_cons_zero, List.getElem_cons_succ, List.setIfInBounds_toArray, List.set_cons_zero, List.set_cons_succ]
        refine wpAnyH_take (i := 4) (v := ?_) rfl (by kernel_rfl) (by kernel_rfl) (by kernel_rfl) (fun _ _ _ h => h) (Or.inl ⟨by rfl, ?_⟩) hHeld0 ?_
        rotate_left
        · (intro w hSw; (try dsimp only at hSw); go_simp <;> (try with_reducible rfl))
        simp only [Act.put, List.getElem_toArray, List.getElem_cons_zero, List.getElem_cons_succ, List.setIfInBounds_toArray, List.set_cons_zero, List.set_cons_succ]
        refine wpAnyH_take (i := 5) (v := ?_) rfl (by kernel_rfl) (by kernel_rfl) (by kernel_rfl) (fun _ _ _ h => h) (Or.inl ⟨by rfl, ?_⟩) hHeld0 ?_
        rotate_left
        · (intro w hSw; (try dsimp only at hSw); go_simp <;> (try with_reducible rfl))
        simp only [Act.put, List.getElem_toArray, List.getElem_cons_zero, List.getElem_cons_succ, List.setIfInBounds_toArray, List.set_cons_zero, List.set_cons_succ]
        refine wpAnyH_take (i := 6) (v := ?_) rfl (by kernel_rfl) (by kernel_rfl) (by kernel_rfl) (fun _ _ _ h => h) (Or.inl ⟨by rfl, ?_⟩) hHeld0 ?_
        rotate_left
        · (intro w hSw; (try dsimp only at hSw); go_simp <;> (try with_reducible rfl))
        simp only [Act.put, List.getElem_toArray, List.getElem_cons_zero, List.getElem_cons_succ, List.setIfInBounds_toArray, List.set_cons_zero, List.set_cons_succ]
        refine wpAnyH_take (i := 7) (v := ?_) rfl (by kernel_rfl) (by kernel_rfl) (by kernel_rfl) (fun _ _ _ h => h) (Or.inl ⟨by rfl, ?_⟩) hHeld0 ?_
        rotate_left
        · (intro w hSw; (try dsimp only at hSw); go_simp <;> (try with_reducible rfl))
        simp only [Act.put, List.getElem_toArray, List.getElem_cons_zero, List.getElem_cons_succ, List.setIfInBounds_toArray, List.set_cons_zero, List.set_cons_succ]
        refine wpAnyH_take (i := 8) (v := .agg (PJ).toArray) rfl (by kernel_rfl) (by kernel_rfl) (by kernel_rfl) (fun _ _ _ h => h) (yieldsIf_load_mid (by rfl) _ _ rfl _ _ rfl (PJ) _ (fun w hSw => hSw.1) Tryd.underlying25 rfl hszj) hHeld0 ?_
        simp only [Act.put, List.getElem_toArray, List.getElem_cons_zero, List.getElem_cons_succ, List.setIfInBounds_toArray, List.set_cons_zero, List.set_cons_succ]
        refine wpAnyH_take (i := 9) (v := ?_) rfl (by kernel_rfl) (by kernel_rfl) (by kernel_rfl) (fun _ _ _ h => h) (Or.inl ⟨by rfl, ?_⟩) hHeld0 ?_
        rotate_left
        · (intro w hSw; (try dsimp only at hSw); go_simp <;> (try with_reducible rfl))
        simp only [Act.put, List.getElem_toArray, List.getElem_cons_zero, List.getElem_cons_succ, List.setIfInBounds_toArray, List.set_cons_zero, List.set_cons_succ]
        refine wpAnyH_take (i := 10) (v := .agg (PK).toArray) rfl (by kernel_rfl) (by kernel_rfl) (by kernel_rfl) (fun _ _ _ h => h) (yieldsIf_load_mid (by rfl) _ _ rfl _ _ rfl (PK) _ (fun w hSw => hSw.2.1) Tryd.underlying25 rfl hszk) hHeld0 ?_
        simp only [Act.put, List.getElem_toArray, List.getElem_cons_zero, List.getElem_cons_succ, List.setIfInBounds_toArray, List.set_cons_zero, List.set_cons_succ]
        refine wpAnyH_ready (rs := [11]) (by kernel_rfl) (by simp) ?_
        refine AllReadyH.cons rfl (fun K hK => ?_) AllReadyH.nil
        go_simp
        go_wp2_with ((go_at_call 4; refine (HCM.out _).mono ?_; rintro e W1 ⟨rfl, hb1⟩))
        refine hK.out _ _ (by exact ck_keep hHeld0 hb1) (fun hHeld1 => ?_)
        clear hK K hHeld0
        try simp only [Act.put, List.getElem_toArray, List.getElem_cons_zero, List.getElem_cons_succ, List.setIfInBounds_toArray, List.set_cons_zero, List.set_cons_succ]
        refine wpAnyH_take (i := 12) (v := ?_) rfl (by kernel_rfl) (by kernel_rfl) (by kernel_rfl) (fun _ _ _ h => h) (Or.inl ⟨by rfl, ?_⟩) hHeld1 ?_
        rotate_left
        · (intro w hSw; (try dsimp only at hSw); go_simp <;> (try with_reducible rfl))
        simp only [Act.put, List.getElem_toArray, List.getElem_cons_zero, List.getElem_cons_succ, List.setIfInBounds_toArray, List.set_cons_zero, List.set_cons_succ]
        refine wpAnyH_take (i := 13) (v := ?_) rfl (by kernel_rfl) (by kernel_rfl) (by kernel_rfl) (fun _ _ _ h => h) (Or.inl ⟨by rfl, ?_⟩) hHeld1 ?_
        rotate_left
        · (intro w hSw; (try dsimp only at hSw); go_simp <;> (try with_reducible rfl))
        simp only [Act.put, List.getElem_toArray, List.getElem_cons_zero, List.getElem_cons_succ, List.setIfInBounds_toArray, List.set_cons_zero, List.set_cons_succ]
        refine wpAnyH_done (by kernel_rfl) ?_ _
        have HCL := hide hHeld1.2.2.out.1
        clear hHeld1
        by_cases hq : q < 0
        · skip
          have hd2 : ¬ 0 ≤ q := by omega
          have HBH : Hid (Cn.behind pv R[k].it) := hide (fun z hz => by rw [HPV.out] at hz; cases hz; rw [← HQ.out]; exact hq)
          clear hq
          by_cases hck : Cn.coinF R[k].it = 0
          · have HNX : Hid (r = Cn.setG (some (Cn.place R[k].it)) ((R.map CoinV.it).drop (k + 1))) := hide (by rw [HRG.out, Cn.setG_next (p := pv) (l := R.map CoinV.it) (by simpa using hlt) (by simpa using HBH.out) (by simpa using hck)]; simp)
            have HCC := hide (checkCoin_any R[k] _ (HOK.out _ HCL.out.below))
            rw [hck, ← HCE.out, show errV 0 = .nilIface from rfl] at HCC
            clear hck
            go_wp2_with (first
              | (refine wpList_load_part 43 C wr.heap.size 0 rfl (.tmp 4) rfl rfl (is_range HCL.out.box) Tryd.underlying43 rfl size_coin HCLN.out ?_)
              | (go_at_call 21; refine HCC.out.mono ?_; rintro e W2 ⟨rfl, hb2⟩))
            have HCM2 := hide (HCL.out.call hb2)
            clear hb2
            go_roundw
            case rel => exact ⟨k + 1, by omega, by go_num, some (Cn.place R[k].it), HNX.out, fun _ => ⟨by rw [dif_pos ⟨by omega, by simpa using hlt⟩]; rfl, HCM2.out.below⟩⟩
            case measure => simp [intOf]; omega
          · have HNX : Hid (r = Cn.coinF R[k].it) := hide (by rw [HRG.out, Cn.setG_bad (p := pv) (l := R.map CoinV.it) (by simpa using hlt) (by simpa using HBH.out) (by simpa using hck)]; simp)
            have HCC := hide (checkCoin_any R[k] _ (HOK.out _ HCL.out.below))
            rw [← HCE.out] at HCC
            obtain ⟨cc, hcc⟩ : ∃ c, c = Cn.coinF R[k].it := ⟨_, rfl⟩
            rw [← hcc] at HCC HNX hck
            rw [show errV cc = .iface 28 (.int .i64 cc) from by unfold errV; rw [if_neg hck]] at HCC
            have HNZ := hide hck
            clear hck hcc
            go_wp2_with (first
              | (refine wpList_load_part 43 C wr.heap.size 0 rfl (.tmp 4) rfl rfl (is_range HCL.out.box) Tryd.underlying43 rfl size_coin HCLN.out ?_)
              | (go_at_call 21; refine HCC.out.mono ?_; rintro e W2 ⟨rfl, hb2⟩))
            go_ret
            exact ⟨by rw [HNX.out]; unfold errV; rw [if_neg HNZ.out]; rfl, (HCL.out.call hb2).below⟩
        · skip
          have hd2 : 0 ≤ q := by omega
          have HTW : Hid (r = 6) := hide (by rw [HRG.out, Cn.setG_twice (p := pv) (l := R.map CoinV.it) (by simpa using hlt) (fun h => hq (by have := h _ HPV.out; simp only [List.getElem_map] at this; rw [← HQ.out] at this; exact this))])
          clear hq
          go_wp2
          go_ret
          exact ⟨by rw [HTW.out]; rfl, HCL.out.below⟩
    · have hki : ¬ (k : Int) < (n : Int) := by omega
      have HEND : Hid (r = 0) := hide (by rw [HRG.out, List.drop_eq_nil_of_le (by rw [List.length_map, ← HN.out]; omega)]; rfl)
      go_wp2
      go_ret
      exact ⟨by rw [HEND.out]; rfl, HBEL.out⟩
end Go.Proofs.YtifoldkbmpopnaaDoor
