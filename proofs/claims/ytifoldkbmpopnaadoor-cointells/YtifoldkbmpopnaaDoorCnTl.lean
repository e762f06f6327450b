/- CoinTells: places compared, a set, its sum, a coin of it. -/
import Derived.Test.YtifoldkbmpopnaaDoorCnSm
namespace Go.Proofs.YtifoldkbmpopnaaDoor
open Go.RowKit
set_option linter.unusedVariables false
set_option linter.unusedSimpArgs false

theorem tl_keep {w W W' : World} {P Q : List Value} (h : W.rangeAt w.heap.size 0 P ∧ W.rangeAt (w.heap.size + 1) 0 Q ∧ Hid (Below w.heap.size w W ∧ w.heap.size + 1 < W.heap.size)) (hb : Below W.heap.size W W') : W'.rangeAt w.heap.size 0 P ∧ W'.rangeAt (w.heap.size + 1) 0 Q ∧ Hid (Below w.heap.size w W' ∧ w.heap.size + 1 < W'.heap.size) := by
  obtain ⟨h1, h2, h3⟩ := h
  obtain ⟨a, b⟩ := h3.out
  exact ⟨range_keep h1 hb (by omega), range_keep h2 hb b, hide ⟨a.trans (hb.mono a.size), Nat.lt_of_lt_of_le b hb.size⟩⟩
theorem zero_place (w : World) : (zeroValue 25).run Tryd.prog w = .ok (.agg (vals (List.replicate 32 0) ++ ([.int .i64 0] : List Value)).toArray) w := by kernel_rfl
theorem info_coin : (Tryd.prog.info? 43).map (fun i => (i.zero, i.size)) = some (some (.agg ZC.toArray), 36) := by kernel_rfl
theorem tl_one (W : World) : Calls Tryd.prog 4 #[.agg (vals (List.replicate 32 0) ++ [Value.int .i64 1]).toArray, .agg (vals (List.replicate 32 0) ++ [Value.int .i64 0]).toArray] W fun e w' => e = .returned (.int .i64 1) ∧ Below W.heap.size W w' := by
  have h := compare_any (List.replicate 32 0) (List.replicate 32 0) 1 0 W (by simp) (by simp) (fun x hx => by rw [List.eq_of_mem_replicate hx]; decide) (fun x hx => by rw [List.eq_of_mem_replicate hx]; decide)
  have e : Cn.pl (List.replicate 32 0, 1) (List.replicate 32 0, 0) = 1 := by
    unfold Cn.pl
    rw [if_pos (Cn.cmpB_self _)]
    rfl
  rw [e] at h
  exact h
set_option maxRecDepth 100000 in
set_option maxHeartbeats 4000000 in
theorem coinTells_walk (A : List Int) (x : Int) (B : List Int) (y : Int) (v : Value) (R : List CoinV) (w : World) (hA : A.length = 32) (hAb : Sz.Byt A) (hB : B.length = 32) (hBb : Sz.Byt B) (h : HasCoins w v R) (hE : ErrVar w) :
    Calls Tryd.prog 3 #[.agg (vals A ++ [Value.int .i64 x]).toArray, .agg (vals B ++ [Value.int .i64 y]).toArray, v] w fun e w' => e = .returned (.bool true) ∧ Below w.heap.size w w' := by
  obtain ⟨a, cap, rfl, hml, hmk⟩ := coins_form h
  obtain ⟨P, hP⟩ : ∃ P, P = vals A ++ [Value.int .i64 x] := ⟨_, rfl⟩
  obtain ⟨Q, hQ⟩ : ∃ P, P = vals B ++ [Value.int .i64 y] := ⟨_, rfl⟩
  have hPl : P.length = 33 := by rw [hP]; simp [vals_length, hA]
  have hQl : Q.length = 33 := by rw [hQ]; simp [vals_length, hB]
  have hPp : ¬ P = [] := by intro h; rw [h] at hPl; cases hPl
  have hQp : ¬ Q = [] := by intro h; rw [h] at hQl; cases hQl
  have hszp : (Tryd.prog.info? 25).map (·.size) = some P.length := by rw [hPl]; exact size_placeC
  have hszq : (Tryd.prog.info? 25).map (·.size) = some Q.length := by rw [hQl]; exact size_placeC
  have HPL := hide hPl
  obtain ⟨r, hr⟩ : ∃ r, r = Cn.pl (A, x) (B, y) := ⟨_, rfl⟩
  have HCM : Hid (∀ W : World, Calls Tryd.prog 4 #[.agg P.toArray, .agg Q.toArray] W fun e w' => e = .returned (.int .i64 r) ∧ Below W.heap.size W w') := hide (fun W => by rw [hP, hQ, hr]; exact compare_any A B x y W hA hB hAb hBb)
  have HRP : Hid (∀ W : World, Calls Tryd.prog 5 #[.agg P.toArray, .agg Q.toArray] W fun e w' => e = .returned (.int .i64 r) ∧ Below W.heap.size W w') := hide (fun W => by rw [hP, hQ, hr]; exact rplaces_any A B x y W hA hB)
  have hzp := zero_place
  obtain ⟨Z0, hZ0⟩ : ∃ z, z = vals (List.replicate 32 0) ++ ([.int .i64 0] : List Value) := ⟨_, rfl⟩
  rw [← hZ0] at hzp
  have hZ0l : Z0.length = 33 := by rw [hZ0]; simp [vals]
  have hZ0p : ¬ Z0 = [] := by intro h; rw [h] at hZ0l; cases hZ0l
  have HC1 : Hid (∀ W : World, Calls Tryd.prog 4 #[.agg (Z0.set 32 (.int .i64 1)).toArray, .agg Z0.toArray] W fun e w' => e = .returned (.int .i64 1) ∧ Below W.heap.size W w') := hide (fun W => by
    have e : Z0.set 32 (.int .i64 1) = vals (List.replicate 32 0) ++ [Value.int .i64 1] := by rw [hZ0, List.set_append_right _ _ (by simp [vals])]; simp [vals]
    rw [e, hZ0]; exact tl_one W)
  have HX0 := (Is.new w P 25).alloc (.cells Q.toArray 25)
  have HY0 : Is ((w.alloc (.cells P.toArray 25)).alloc (.cells Q.toArray 25)) (w.heap.size + 1) Q 25 := Is.new' Q 25 (by simp)
  have HRA : Hid (((w.alloc (.cells P.toArray 25)).alloc (.cells Q.toArray 25)).drew.rangeAt w.heap.size 0 P) := hide (is_range HX0.drew)
  have HRB : Hid (((w.alloc (.cells P.toArray 25)).alloc (.cells Q.toArray 25)).drew.rangeAt (w.heap.size + 1) 0 Q) := hide (is_range HY0.drew)
  have HBW : Hid (Hid (Below w.heap.size w ((w.alloc (.cells P.toArray 25)).alloc (.cells Q.toArray 25)).drew ∧ w.heap.size + 1 < ((w.alloc (.cells P.toArray 25)).alloc (.cells Q.toArray 25)).drew.heap.size)) := hide (hide ⟨(below_alloc2 w _ _).drew, by show _ < ((w.alloc _).alloc _).heap.size; simp⟩)
  have HH := hide (fun W (hW : Below w.heap.size w W) => h.below hW)
  have HEV := hide (fun W (hW : Below w.heap.size w W) => hE.below hW)
  have hrr : (r != r) = false := by simp
  have hZ33 : ¬ Z0.length < 33 := by omega
  obtain ⟨c, hc⟩ : ∃ c, c = Cn.setF (R.map CoinV.it) := ⟨_, rfl⟩
  obtain ⟨ev, hev⟩ : ∃ e, e = errV c := ⟨_, rfl⟩
  have HSF : Hid (∀ W, Below w.heap.size w W → Calls Tryd.prog 6 #[.slice a R.length cap] W fun e w' => e = .returned (.int .i64 c) ∧ Below W.heap.size W w') := hide (fun W hW => by rw [hc]; exact rsetFault_any _ R W (h.below hW))
  have HCK : Hid (∀ W, Below w.heap.size w W → Calls Tryd.prog 8 #[.slice a R.length cap] W fun e w' => e = .returned ev ∧ Below W.heap.size W w') := hide (fun W hW => by rw [hev, hc]; exact ccheck_any _ R W (h.below hW))
  have HER : Hid (∀ (k : Int) (W : World), Below w.heap.size w W → Calls Tryd.prog 7 #[errV k, .int .i64 k] W fun e w' => e = .returned (.bool true) ∧ Below W.heap.size W w') := hide (fun k W hW => (error_any k k W (hE.below hW)).mono (by rintro e w' ⟨rfl, hb⟩; exact ⟨by simp, hb⟩))
  have HERC : Hid (∀ (W : World), Below w.heap.size w W → Calls Tryd.prog 7 #[ev, .int .i64 c] W fun e w' => e = .returned (.bool true) ∧ Below W.heap.size W w') := hide (fun W hW => by rw [hev]; exact HER.out c W hW)
  have HSU := hide (fun W (hW : Below w.heap.size w W) => csum_any (.slice a R.length cap) R W (h.below hW))
  have HFI := hide (fun W (hW : Below w.heap.size w W) => cfind_any (.slice a R.length cap) R A x W (h.below hW) hA hAb)
  rw [← hP] at HFI
  have HWO := hide (fun (hm : R.length ≤ 1000) W (hW : Below w.heap.size w W) => rworth_any (.slice a R.length cap) R W (h.below hW) hm)
  have HAT := hide (fun (hm : R.length ≤ 1000) W (hW : Below w.heap.size w W) => rcoinAt_any (.slice a R.length cap) R A x W (h.below hW) hm hA)
  rw [← hP] at HAT
  have HCE := hide hc
  have HEVE := hide hev
  have HM1 : Hid (Cn.setF (R.map CoinV.it) = 0 → R.length ≤ 1000) := hide (fun hs => by have := (Cn.setF_zero hs).1; rwa [List.length_map] at this)
  have HMK := hide hmk
  have hzc := zero_coin
  obtain ⟨Z, hZ⟩ : ∃ Z, Z = ZC := ⟨_, rfl⟩
  have hzc2 : ∀ w : World, (zeroValue 43).run Tryd.prog w = .ok (.agg Z.toArray) w := by rw [hZ]; exact hzc
  have hZl : Z.length = 36 := by rw [hZ]; simp [ZC, vals]
  have hZ1 : ∀ v ∈ Z, v.oneCell' = true := by rw [hZ]; exact coin_ones ⟨List.replicate 32 0, 0, 0, .slice none 0 0, [], 0⟩ ⟨_, _, _, rfl⟩
  have HZ33 : Hid (Z[33]? = some (.int .i64 0)) := hide (by rw [hZ]; exact (coin_get (x := ⟨List.replicate 32 0, 0, 0, .slice none 0 0, [], 0⟩) (by simp)).2.1)
  have hZp : ¬ Z = [] := by intro h; rw [h] at hZl; cases hZl
  have HZL := hide hZl
  have HZ1 := hide hZ1
  have HZE := hide hZ
  obtain ⟨n, hn⟩ : ∃ n, n = R.length := ⟨_, rfl⟩
  have HN := hide hn
  rw [← hn] at HSF HCK HSU HFI HWO HAT HM1 hml ⊢
  unfold maxLen at hml
  have HPE := hide hP
  have HQE := hide hQ
  rw [← hP, ← hQ]
  clear hP hQ hr hPl hQl hZ0 hZ0l HX0 HY0 hE h hmk hc hev hzc hZ hZl hZ1 hn hA hAb hB hBb
  go_enter Tryd.func3, Tryd.ntmps3
  go_wp2_with fail
  refine wp_region_held_drew (S := fun W : World => W.rangeAt w.heap.size 0 P ∧ W.rangeAt (w.heap.size + 1) 0 Q ∧ Hid (Below w.heap.size w W ∧ w.heap.size + 1 < W.heap.size)) (by kernel_rfl) ?_ (fun hHeld0 => ?_)
  · exact ⟨HRA.out, HRB.out, HBW.out⟩
  refine wpAnyH_take (i := 0) (v := .agg (P).toArray) rfl (by kernel_rfl) (by kernel_rfl) (by kernel_rfl) (fun _ _ _ h => h) (yieldsIf_load_mid (by rfl) _ _ rfl _ _ rfl (P) _ (fun w hSw => hSw.1) Tryd.underlying25 rfl hszp) hHeld0 ?_
  simp only [Act.put, List.getElem_toArray, List.getElem_cons_zero, List.getElem_cons_succ, List.setIfInBounds_toArray, List.set_cons_zero, List.set_cons_succ]
  refine wpAnyH_take (i := 1) (v := .agg (Q).toArray) rfl (by kernel_rfl) (by kernel_rfl) (by kernel_rfl) (fun _ _ _ h => h) (yieldsIf_load_mid (by rfl) _ _ rfl _ _ rfl (Q) _ (fun w hSw => hSw.2.1) Tryd.underlying25 rfl hszq) hHeld0 ?_
  simp only [Act.put, List.getElem_toArray, List.getElem_cons_zero, List.getElem_cons_succ, List.setIfInBounds_toArray, List.set_cons_zero, List.set_cons_succ]
  refine wpAnyH_take (i := 3) (v := .agg (P).toArray) rfl (by kernel_rfl) (by kernel_rfl) (by kernel_rfl) (fun _ _ _ h => h) (yieldsIf_load_mid (by rfl) _ _ rfl _ _ rfl (P) _ (fun w hSw => hSw.1) Tryd.underlying25 rfl hszp) hHeld0 ?_
  simp only [Act.put, List.getElem_toArray, List.getElem_cons_zero, List.getElem_cons_succ, List.setIfInBounds_toArray, List.set_cons_zero, List.set_cons_succ]
  refine wpAnyH_take (i := 4) (v := .agg (Q).toArray) rfl (by kernel_rfl) (by kernel_rfl) (by kernel_rfl) (fun _ _ _ h => h) (yieldsIf_load_mid (by rfl) _ _ rfl _ _ rfl (Q) _ (fun w hSw => hSw.2.1) Tryd.underlying25 rfl hszq) hHeld0 ?_
  simp only [Act.put, List.getElem_toArray, List.getElem_cons_zero, List.getElem_cons_succ, List.setIfInBounds_toArray, List.set_cons_zero, List.set_cons_succ]
  refine wpAnyH_ready (rs := [2]) (by kernel_rfl) (by simp) ?_
  refine AllReadyH.cons rfl (fun K hK => ?_) AllReadyH.nil
  go_simp
  go_wp2_with ((go_at_call 4; refine (HCM.out _).mono ?_; rintro e W1 ⟨rfl, hb1⟩))
  refine hK.out _ _ (by exact tl_keep hHeld0 hb1) (fun hHeld1 => ?_)
  clear hK K hHeld0
  try simp only [Act.put, List.getElem_toArray, List.getElem_cons_zero, List.getElem_cons_succ, List.setIfInBounds_toArray, List.set_cons_zero, List.set_cons_succ]
  refine wpAnyH_ready (rs := [5]) (by kernel_rfl) (by simp) ?_
  refine AllReadyH.cons rfl (fun K hK => ?_) AllReadyH.nil
  go_simp
  go_wp2_with ((go_at_call 5; refine (HRP.out _).mono ?_; rintro e W2 ⟨rfl, hb1⟩))
  refine hK.out _ _ (by exact tl_keep hHeld1 hb1) (fun hHeld2 => ?_)
  clear hK K hHeld1
  try simp only [Act.put, List.getElem_toArray, List.getElem_cons_zero, List.getElem_cons_succ, List.setIfInBounds_toArray, List.set_cons_zero, List.set_cons_succ]
  refine wpAnyH_take (i := 6) (v := ?_) rfl (by kernel_rfl) (by kernel_rfl) (by kernel_rfl) (fun _ _ _ h => h) (Or.inl ⟨by rfl, ?_⟩) hHeld2 ?_
  rotate_left
  · (intro w hSw; (try dsimp only at hSw); go_simp <;> (try with_reducible rfl))
  simp only [Act.put, List.getElem_toArray, List.getElem_cons_zero, List.getElem_cons_succ, List.setIfInBounds_toArray, List.set_cons_zero, List.set_cons_succ]
  refine wpAnyH_take (i := 7) (v := ?_) rfl (by kernel_rfl) (by kernel_rfl) (by kernel_rfl) (fun _ _ _ h => h) (Or.inl ⟨by rfl, ?_⟩) hHeld2 ?_
  rotate_left
  · (intro w hSw; (try dsimp only at hSw); go_simp <;> (try with_reducible rfl))
  simp only [Act.put, List.getElem_toArray, List.getElem_cons_zero, List.getElem_cons_succ, List.setIfInBounds_toArray, List.set_cons_zero, List.set_cons_succ]
  refine wpAnyH_take (i := 8) (v := ?_) rfl (by kernel_rfl) (by kernel_rfl) (by kernel_rfl) (fun _ _ _ h => h) (Or.inl ⟨by rfl, ?_⟩) hHeld2 ?_
  rotate_left
  · (intro w hSw; (try dsimp only at hSw); go_simp <;> (try with_reducible rfl))
  simp only [Act.put, List.getElem_toArray, List.getElem_cons_zero, List.getElem_cons_succ, List.setIfInBounds_toArray, List.set_cons_zero, List.set_cons_succ]
  refine wpAnyH_take (i := 9) (v := ?_) rfl (by kernel_rfl) (by kernel_rfl) (by kernel_rfl) (fun _ _ _ h => h) (Or.inl ⟨by rfl, ?_⟩) hHeld2 ?_
  rotate_left
  · (intro w hSw; (try dsimp only at hSw); go_simp <;> (try with_reducible rfl))
  simp only [Act.put, List.getElem_toArray, List.getElem_cons_zero, List.getElem_cons_succ, List.setIfInBounds_toArray, List.set_cons_zero, List.set_cons_succ]
  refine wpAnyH_ready (rs := [10]) (by kernel_rfl) (by simp) ?_
  refine AllReadyH.cons rfl (fun K hK => ?_) AllReadyH.nil
  go_simp
  go_wp2_with ((go_at_call 4; refine (HC1.out _).mono ?_; rintro e W3 ⟨rfl, hb1⟩))
  refine hK.out _ _ (by exact tl_keep hHeld2 hb1) (fun hHeld3 => ?_)
  clear hK K hHeld2
  try simp only [Act.put, List.getElem_toArray, List.getElem_cons_zero, List.getElem_cons_succ, List.setIfInBounds_toArray, List.set_cons_zero, List.set_cons_succ]
  refine wpAnyH_take (i := 11) (v := ?_) rfl (by kernel_rfl) (by kernel_rfl) (by kernel_rfl) (fun _ _ _ h => h) (Or.inl ⟨by rfl, ?_⟩) hHeld3 ?_
  rotate_left
  · (intro w hSw; (try dsimp only at hSw); go_simp <;> (try with_reducible rfl))
  simp only [Act.put, List.getElem_toArray, List.getElem_cons_zero, List.getElem_cons_succ, List.setIfInBounds_toArray, List.set_cons_zero, List.set_cons_succ]
  refine wpAnyH_take (i := 12) (v := ?_) rfl (by kernel_rfl) (by kernel_rfl) (by kernel_rfl) (fun _ _ _ h => h) (Or.inl ⟨by rfl, ?_⟩) hHeld3 ?_
  rotate_left
  · (intro w hSw; (try dsimp only at hSw); go_simp <;> (try with_reducible rfl))
  simp only [Act.put, List.getElem_toArray, List.getElem_cons_zero, List.getElem_cons_succ, List.setIfInBounds_toArray, List.set_cons_zero, List.set_cons_succ]
  refine wpAnyH_done (by kernel_rfl) ?_ _
  have HRP2 := hide hHeld3.1
  have HB := hide hHeld3.2.2.out.1
  have HLT := hide hHeld3.2.2.out.2
  clear hHeld3
  have HC0 := hide (Below.refl W3.heap.size W3)
  have HPR : Hid (∀ W, Below W3.heap.size W3 W → W.rangeAt w.heap.size 0 P) := hide (fun W hW => range_keep HRP2.out hW (by have := HLT.out; omega))
  clear HRP2
  go_wp2_with fail
  refine (HSF.out _ (HB.out.trans (HC0.out.mono HB.out.size))).mono ?_
  rintro e w1 ⟨rfl, hb1⟩
  have HC1 := hide (HC0.out.trans (hb1.mono HC0.out.size))
  clear hb1
  go_wp2_with fail
  refine (HCK.out _ (HB.out.trans (HC1.out.mono HB.out.size))).mono ?_
  rintro e w2 ⟨rfl, hb2⟩
  have HC2 := hide (HC1.out.trans (hb2.mono HC1.out.size))
  clear hb2
  go_wp2_with fail
  refine (HERC.out _ (HB.out.trans (HC2.out.mono HB.out.size))).mono ?_
  rintro e w3 ⟨rfl, hb3⟩
  have HC3 := hide (HC2.out.trans (hb3.mono HC2.out.size))
  clear hb3
  by_cases h0 : c = 0
  · have hs : Cn.setF (R.map CoinV.it) = 0 := by rw [← HCE.out]; exact h0
    have HS := hide hs
    have hm := HM1.out hs
    have HWO := hide (HWO.out hm)
    have HAT := hide (HAT.out hm)
    have hsu := HSU.out
    rw [if_pos hs, if_pos hs] at hsu
    obtain ⟨s, hse⟩ : ∃ s, s = (Mo.tot 0 (amounts R)).1 := ⟨_, rfl⟩
    obtain ⟨f, hfe⟩ : ∃ s, s = (Mo.tot 0 (amounts R)).2 := ⟨_, rfl⟩
    rw [← hse, ← hfe] at HWO hsu
    have HSU := hide hsu
    obtain ⟨ef, hef⟩ : ∃ e, e = errV f := ⟨_, rfl⟩
    have HERF : Hid (∀ (W : World), Below w.heap.size w W → Calls Tryd.prog 7 #[ef, .int .i64 f] W fun e w' => e = .returned (.bool true) ∧ Below W.heap.size W w') := hide (fun W hW => by rw [hef]; exact HER.out f W hW)
    rw [← hef] at HSU
    have hc0 : (c == 0) = true := by rw [h0]; rfl
    have hc1 : (c != 0) = false := by rw [h0]; rfl
    have hss : (s != s) = false := by simp
    clear hse hfe hef hs hsu
    go_wp2_with fail
    refine (HWO.out _ (HB.out.trans (HC3.out.mono HB.out.size))).mono ?_
    rintro e w4 ⟨rfl, hb4⟩
    have HC4 := hide (HC3.out.trans (hb4.mono HC3.out.size))
    clear hb4
    go_wp2_with fail
    refine (HSU.out _ (HB.out.trans (HC4.out.mono HB.out.size))).mono ?_
    rintro e w5 ⟨rfl, hb5⟩
    have HC5 := hide (HC4.out.trans (hb5.mono HC4.out.size))
    clear hb5
    go_wp2_with fail
    refine (HERF.out _ (HB.out.trans (HC5.out.mono HB.out.size))).mono ?_
    rintro e w6 ⟨rfl, hb6⟩
    have HC6 := hide (HC5.out.trans (hb6.mono HC5.out.size))
    clear hb6
    go_wp2_with (refine wpList_load_part 25 P w.heap.size 0 rfl (.tmp 3) rfl rfl (HPR.out _ HC6.out) Tryd.underlying25 rfl size_placeC HPL.out ?_)
    refine (HAT.out _ (HB.out.trans (HC6.out.mono HB.out.size))).mono ?_
    rintro e w7 ⟨hat, hb7⟩
    have HC7 := hide (HC6.out.trans (hb7.mono HC6.out.size))
    clear hb7 HAT HWO HSU
    rcases hat with ⟨m, hfd, rfl⟩ | ⟨hna, rfl⟩
    · obtain ⟨hmR, hmp⟩ := hfd
      have HMP := hide hmp
      obtain ⟨b, off, rfl, hnc, hcm, hbw, hrm⟩ := HMK.out m hmR
      have HRM := hide hrm
      have HBWL := hide hbw
      have hmn : m < n := by rw [HN.out]; exact hmR
      rw [← HN.out] at hnc
      unfold maxLen at hcm
      have hmi : ¬ (m : Int) < 0 := by omega
      have hwm : IntKind.i64.wrap ((m : Int) + 1) = (m : Int) + 1 := by simp [IntKind.wrap, IntKind.bits, IntKind.signed]; omega
      have hm1 : ((m : Int) + 1).toNat = m + 1 := by omega
      have hm2 : (m : Int) + 1 ≤ (cap : Int) := by omega
      have hm3 : (m : Int) ≤ (m : Int) + 1 := by omega
      have hm4 : ¬ cap = m := by omega
      have hm5 : m + 1 - m = 1 := by omega
      clear hmp hrm hbw
      go_wp2_with (refine wpList_load_part 25 P w.heap.size 0 rfl (.tmp 3) rfl rfl (HPR.out _ HC7.out) Tryd.underlying25 rfl size_placeC HPL.out ?_)
      refine (HFI.out _ (HB.out.trans (HC7.out.mono HB.out.size))).mono ?_
      rintro e w8 ⟨hfi, hb8⟩
      have HC8 := hide (HC7.out.trans (hb8.mono HC7.out.size))
      clear hb8
      have hcp : ∃ x' : CoinV, e = .returned (.tuple #[.agg (coinCell x').toArray, .nilIface]) ∧ x'.it = R[m].it ∧ CoinOk w8 x' := by
        rcases hfi with ⟨h1, _⟩ | ⟨_, h1, _⟩ | ⟨_, x1, hx1, hx2, x', h1, h2, h3⟩
        · exact absurd HS.out h1
        · exact absurd HMP.out (h1 m hmR)
        · obtain ⟨j, hj, rfl⟩ := List.getElem_of_mem hx1
          have hjm : j = m := Cn.set_once HS.out (i := j) (j := m) (by simpa using hj) (by simpa using hmR) (by simpa using hx2.trans HMP.out.symm)
          subst hjm
          exact ⟨x', h1, h2, h3⟩
      obtain ⟨x', rfl, hxi, hxo⟩ := hcp
      obtain ⟨C4, hC4⟩ : ∃ C, C = coinCell x' := ⟨_, rfl⟩
      have HC4E := hide hC4
      have HXI := hide hxi
      have HXO := hide hxo
      have HC4L : Hid (C4.length = 36) := hide (by rw [hC4]; exact coinCell_length _ hxo.1)
      have HC41 : Hid (∀ v ∈ C4, v.oneCell' = true) := hide (by rw [hC4]; exact coin_ones _ (hasOps_slice hxo.2.2))
      rw [← hC4]
      clear hC4 hxi hxo hfi
      have HER0 : Hid (∀ (W : World), Below w.heap.size w W → Calls Tryd.prog 7 #[.nilIface, .int .i64 0] W fun e w' => e = .returned (.bool true) ∧ Below W.heap.size W w') := hide (fun W hW => HER.out 0 W hW)
      go_wp2_with (refine wpList_store_any3 43 Z C4 w8.heap.size rfl (.tmp 16) (.tmp 80) rfl rfl rfl rfl (Is.new w8 _ _) size_coin HZL.out HC4L.out HC41.out ?_; intro v1 hi1 hv1; have hbv : Below w8.heap.size w8 v1 := (by rw [hv1]; exact ck_new); have HIV := hide hi1; have HXV := hide (HXO.out.below hbv); have HCV := hide (HC8.out.trans (hbv.mono HC8.out.size)); clear hi1 hv1 hbv)
      refine (HER0.out _ (HB.out.trans (HCV.out.mono HB.out.size))).mono ?_
      rintro e w9 ⟨rfl, hb9⟩
      have HIW := hide (HIV.out.below hb9 HIV.out.lt)
      have HXW := hide (HXV.out.below hb9)
      have HCW := hide (HCV.out.trans (hb9.mono HCV.out.size))
      clear hb9
      have HBW9 := hide (HB.out.trans (HCW.out.mono HB.out.size))
      have HSM : Hid (Calls Tryd.prog 13 #[.slice (some ⟨w9.heap.size, 0, none⟩) 1 1, .slice (some ⟨b, off + m * 36, none⟩) 1 (cap - m)] (w9.alloc (.cells C4.toArray 43)) fun e w' => e = .returned (.bool true) ∧ Below (w9.alloc (.cells C4.toArray 43)).heap.size (w9.alloc (.cells C4.toArray 43)) w') := hide (by
        have hbn := below_alloc w9 (.cells C4.toArray 43)
        have hbw2 := HBW9.out.trans (hbn.mono HBW9.out.size)
        refine scoins_same _ _ [x'] [R[m]] _ ⟨.inr ⟨w9.heap.size, 0, 1, rfl, by simp, Nat.le_refl _, by unfold maxLen; omega, by simp, ?_⟩, fun z hz => ?_⟩ ⟨.inr ⟨b, off + m * 36, cap - m, rfl, by simp, by show 1 ≤ _; omega, by unfold maxLen; omega, Nat.lt_of_lt_of_le HBWL.out hbw2.size, ?_⟩, fun z hz => ?_⟩ (by simp [HXI.out])
        · have := is_range (Is.new w9 C4 43)
          rw [HC4E.out] at this ⊢
          simpa [coinCells] using this
        · rw [List.mem_singleton.1 hz]; exact HXW.out.below hbn
        · have := range_keep HRM.out hbw2 HBWL.out
          simpa [coinCells] using this
        · rw [List.mem_singleton.1 hz]; exact (HH.out _ hbw2).2 _ (List.getElem_mem hmR))
      go_wp2_with (first
        | (refine wpList_load_part 43 C4 w8.heap.size 0 rfl (.tmp 16) rfl rfl (is_range HIW.out) Tryd.underlying43 rfl size_coin HC4L.out ?_)
        | (refine wpList_build_one 26 43 C4 rfl (.tmp 94) rfl rfl Tryd.underlying26 ZC info_coin (by omega) (by omega) HC4L.out ?_))
      refine HSM.out.mono ?_
      rintro e wA ⟨rfl, hbA⟩
      have HCX := hide ((HBW9.out.trans ((below_alloc w9 (.cells C4.toArray 43)).mono HBW9.out.size)).trans (hbA.mono (Nat.le_trans HBW9.out.size (below_alloc w9 (.cells C4.toArray 43)).size)))
      clear hbA
      go_wp2
      go_ret
      exact ⟨rfl, HCX.out⟩
    · have HNA := hide hna
      clear hna
      go_wp2_with (refine wpList_load_part 25 P w.heap.size 0 rfl (.tmp 3) rfl rfl (HPR.out _ HC7.out) Tryd.underlying25 rfl size_placeC HPL.out ?_)
      refine (HFI.out _ (HB.out.trans (HC7.out.mono HB.out.size))).mono ?_
      rintro e w8 ⟨hfi, hb8⟩
      have HC8 := hide (HC7.out.trans (hb8.mono HC7.out.size))
      clear hb8
      have he : e = .returned (.tuple #[.agg Z.toArray, .iface 28 (.int .i64 5)]) := by
        rw [HZE.out]
        rcases hfi with ⟨h1, _⟩ | ⟨_, _, h1⟩ | ⟨_, x1, hx1, hx2, _⟩
        · exact absurd HS.out h1
        · exact h1
        · obtain ⟨j, hj, rfl⟩ := List.getElem_of_mem hx1
          exact absurd hx2 (HNA.out j hj)
      subst he
      clear hfi
      have HER5 : Hid (∀ (W : World), Below w.heap.size w W → Calls Tryd.prog 7 #[.iface 28 (.int .i64 5), .int .i64 5] W fun e w' => e = .returned (.bool true) ∧ Below W.heap.size W w') := hide (fun W hW => HER.out 5 W hW)
      go_wp2_with (refine wpList_store_any3 43 Z Z w8.heap.size rfl (.tmp 16) (.tmp 80) rfl rfl rfl rfl (Is.new w8 _ _) size_coin HZL.out HZL.out HZ1.out ?_; intro v1 hi1 hv1; have hbv : Below w8.heap.size w8 v1 := (by rw [hv1]; exact ck_new); have HIV := hide hi1; have HCV := hide (HC8.out.trans (hbv.mono HC8.out.size)); clear hi1 hv1 hbv)
      refine (HER5.out _ (HB.out.trans (HCV.out.mono HB.out.size))).mono ?_
      rintro e w9 ⟨rfl, hb9⟩
      have HIW := hide (HIV.out.below hb9 HIV.out.lt)
      have HCW := hide (HCV.out.trans (hb9.mono HCV.out.size))
      clear hb9
      have hz33 := HIW.out.cell 33
      rw [HZ33.out] at hz33
      go_wp2
      go_ret
      exact ⟨rfl, HB.out.trans (HCW.out.mono HB.out.size)⟩
  · have hs : ¬ Cn.setF (R.map CoinV.it) = 0 := by rw [← HCE.out]; exact h0
    have HS := hide hs
    have hsu := HSU.out
    rw [if_neg hs, if_neg hs, ← HCE.out, ← HEVE.out] at hsu
    have HSU := hide hsu
    have hc0 : (c == 0) = false := by simpa using h0
    have hc1 : (c != 0) = true := by simpa using h0
    clear hs hsu
    go_wp2_with fail
    refine (HSU.out _ (HB.out.trans (HC3.out.mono HB.out.size))).mono ?_
    rintro e w4 ⟨rfl, hb4⟩
    have HC4 := hide (HC3.out.trans (hb4.mono HC3.out.size))
    clear hb4
    go_wp2_with fail
    refine (HERC.out _ (HB.out.trans (HC4.out.mono HB.out.size))).mono ?_
    rintro e w5 ⟨rfl, hb5⟩
    have HC5 := hide (HC4.out.trans (hb5.mono HC4.out.size))
    clear hb5
    go_wp2_with (refine wpList_load_part 25 P w.heap.size 0 rfl (.tmp 3) rfl rfl (HPR.out _ HC5.out) Tryd.underlying25 rfl size_placeC HPL.out ?_)
    refine (HFI.out _ (HB.out.trans (HC5.out.mono HB.out.size))).mono ?_
    rintro e w8 ⟨hfi, hb8⟩
    have HC8 := hide (HC5.out.trans (hb8.mono HC5.out.size))
    clear hb8
    have he : e = .returned (.tuple #[.agg Z.toArray, ev]) := by
      rw [HZE.out, HEVE.out, HCE.out]
      rcases hfi with ⟨_, h1⟩ | ⟨h1, _⟩ | ⟨h1, _⟩
      · exact h1
      · exact absurd h1 HS.out
      · exact absurd h1 HS.out
    subst he
    clear hfi
    go_wp2_with (refine wpList_store_any3 43 Z Z w8.heap.size rfl (.tmp 16) (.tmp 80) rfl rfl rfl rfl (Is.new w8 _ _) size_coin HZL.out HZL.out HZ1.out ?_; intro v1 hi1 hv1; have hbv : Below w8.heap.size w8 v1 := (by rw [hv1]; exact ck_new); have HIV := hide hi1; have HCV := hide (HC8.out.trans (hbv.mono HC8.out.size)); clear hi1 hv1 hbv)
    refine (HERC.out _ (HB.out.trans (HCV.out.mono HB.out.size))).mono ?_
    rintro e w9 ⟨rfl, hb9⟩
    have HIW := hide (HIV.out.below hb9 HIV.out.lt)
    have HCW := hide (HCV.out.trans (hb9.mono HCV.out.size))
    clear hb9
    have hz33 := HIW.out.cell 33
    rw [HZ33.out] at hz33
    go_wp2
    go_ret
    exact ⟨rfl, HB.out.trans (HCW.out.mono HB.out.size)⟩
end Go.Proofs.YtifoldkbmpopnaaDoor
