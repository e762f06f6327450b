/- CoinOrder: who have nothing to do with each other. -/
import Derived.Test.YtpnkndagahchhaaDoorZCy
import Derived.Test.YtpnkndagahchhaaDoorZCl
import Derived.Test.YtpnkndagahchhaaDoorCnSm
namespace Go.Proofs.YtpnkndagahchhaaDoor
open Go.RowKit
set_option linter.unusedVariables false
set_option linter.unusedSimpArgs false

set_option maxRecDepth 100000 in
set_option maxHeartbeats 8000000 in
theorem coinOrder_walk (cv : Value) (R : List CoinV) (t u : TxV) (h : Int) (w : World) (hR : HasCoins w cv R) (ht : HasTx w t) (hu : HasTx w u) (hT : Tab w) (hw : 0 < w.heap.size) :
    Calls Tryd.prog 4 #[cv, t.val, u.val, .int .i64 h] w fun e w' => e = .returned (.bool true) ∧ Below w.heap.size w w' := by
  obtain ⟨a, cap, rfl, hml, _⟩ := coins_form hR
  obtain ⟨ia, ic, oa, oc, ft⟩ := tx_form ht
  obtain ⟨ja, jc, pa, pc, fu⟩ := tx_form hu
  have HTB := hide (fun W (hW : Below w.heap.size w W) => hT.below hW hw)
  have HGL : Hid (∀ W, Below w.heap.size w W → 0 < W.heap.size) := hide (fun W (hW : Below w.heap.size w W) => Nat.lt_of_lt_of_le hw hW.size)
  have HHT := hide (fun W (hW : Below w.heap.size w W) => ht.below hW)
  have HHU := hide (fun W (hW : Below w.heap.size w W) => hu.below hW)
  have HMD := hide (fun W (hW : Below w.heap.size w W) => cmade_any W (HTB.out W hW) (HGL.out W hW))
  have HAPT := hide (fun W (hW : Below w.heap.size w W) => apply_any _ R t h W (hR.below hW) (ht.below hW) (HTB.out W hW) (HGL.out W hW))
  have HAPU := hide (fun W (hW : Below w.heap.size w W) => apply_any _ R u h W (hR.below hW) (hu.below hW) (HTB.out W hW) (HGL.out W hW))
  have HNU := hide (fun W (hW : Below w.heap.size w W) => apply_any (.slice none 0 0) [] u h W ⟨.inl ⟨none, 0, rfl, rfl⟩, fun x hx => by cases hx⟩ (hu.below hW) (HTB.out W hW) (HGL.out W hW))
  have HTT := hide (fun (hk : Tm.check t.it = 0) W (hW : Below w.heap.size w W) => tid_good t W (ht.below hW) hk (HTB.out W hW) (HGL.out W hW))
  have HTU := hide (fun (hk : Tm.check u.it = 0) W (hW : Below w.heap.size w W) => tid_good u W (hu.below hW) hk (HTB.out W hW) (HGL.out W hW))
  have HFT := hide ft
  have HFU := hide fu
  have HVT := hide ft.val
  have HVU := hide fu.val
  have hilm := ft.il
  have holm := ft.ol
  have hjlm := fu.il
  have hplm := fu.ol
  obtain ⟨il, hil⟩ : ∃ n, t.ins.length = n := ⟨_, rfl⟩
  obtain ⟨ol, hol⟩ : ∃ n, t.outs.length = n := ⟨_, rfl⟩
  obtain ⟨jl, hjl⟩ : ∃ n, u.ins.length = n := ⟨_, rfl⟩
  obtain ⟨pl, hpl⟩ : ∃ n, u.outs.length = n := ⟨_, rfl⟩
  obtain ⟨n, hn⟩ : ∃ n, R.length = n := ⟨_, rfl⟩
  obtain ⟨tt, htt⟩ : ∃ n, t.time = n := ⟨_, rfl⟩
  obtain ⟨ut, hut⟩ : ∃ n, u.time = n := ⟨_, rfl⟩
  rw [hil, hol, htt] at HVT
  rw [hjl, hpl, hut] at HVU
  rw [HVT.out, HVU.out, hn]
  rw [HVT.out, hn] at HAPT
  rw [HVU.out, hn] at HAPU
  rw [HVU.out] at HNU HTU
  rw [HVT.out] at HTT
  rw [hil] at hilm
  rw [hol] at holm
  rw [hjl] at hjlm
  rw [hpl] at hplm
  rw [hn] at hml
  obtain ⟨DT, hDT⟩ : ∃ D, D = Tm.id t.it := ⟨_, rfl⟩
  obtain ⟨DU, hDU⟩ : ∃ D, D = Tm.id u.it := ⟨_, rfl⟩
  have DTL : Hid (DT.length = 32) := hide (by rw [hDT]; exact id_len _)
  have DUL : Hid (DU.length = 32) := hide (by rw [hDU]; exact id_len _)
  obtain ⟨DTV, hDTV⟩ : ∃ D, D = vals DT := ⟨_, rfl⟩
  obtain ⟨DUV, hDUV⟩ : ∃ D, D = vals DU := ⟨_, rfl⟩
  have DTVE := hide hDTV
  have DUVE := hide hDUV
  have DTVL : Hid (DTV.length = 32) := hide (by rw [hDTV, vals_length, DTL.out])
  have DUVL : Hid (DUV.length = 32) := hide (by rw [hDUV, vals_length, DUL.out])
  have DTV1 : Hid (∀ v ∈ DTV, v.oneCell' = true) := hide (by rw [hDTV]; exact vals_one _)
  have DUV1 : Hid (∀ v ∈ DUV, v.oneCell' = true) := hide (by rw [hDUV]; exact vals_one _)
  have hszDTV : (Tryd.prog.info? 39).map (·.size) = some DTV.length := by rw [DTVL.out]; exact size_dig
  have hszDUV : (Tryd.prog.info? 39).map (·.size) = some DUV.length := by rw [DUVL.out]; exact size_dig
  have hDTp : ¬ DTV = [] := by intro h; have := DTVL.out; rw [h] at this; cases this
  have hDUp : ¬ DUV = [] := by intro h; have := DUVL.out; rw [h] at this; cases this
  rw [← hDT, ← hDTV] at HTT
  rw [← hDU, ← hDUV] at HTU
  have HDTE := hide hDT
  have HDUE := hide hDU
  have hgd := guard_dig
  have hzd := zero_dig
  obtain ⟨Z, hZ⟩ : ∃ Z, Z = vals (List.replicate 32 0) := ⟨_, rfl⟩
  rw [← hZ] at hzd
  have HZL : Hid (Z.length = 32) := hide (by rw [hZ]; simp [vals])
  have hZp : ¬ Z = [] := by intro h; have := HZL.out; rw [h] at this; cases this
  have HIL := hide hil
  have HOL := hide hol
  have HJL := hide hjl
  have HPL := hide hpl
  have HRN := hide hn
  have HB0 : Hid (Below w.heap.size w ((w.alloc (.cells #[.slice ia il ic, .slice oa ol oc, .int .i64 tt] 26)).alloc (.cells #[.slice ja jl jc, .slice pa pl pc, .int .i64 ut] 26))) := hide (below_alloc2 w _ _)
  have HI0 : Hid (Is ((w.alloc (.cells #[.slice ia il ic, .slice oa ol oc, .int .i64 tt] 26)).alloc (.cells #[.slice ja jl jc, .slice pa pl pc, .int .i64 ut] 26)) w.heap.size [.slice ia il ic, .slice oa ol oc, .int .i64 tt] 26) := hide ((Is.new w [.slice ia il ic, .slice oa ol oc, .int .i64 tt] 26).alloc _)
  have HJ0 : Hid (Is ((w.alloc (.cells #[.slice ia il ic, .slice oa ol oc, .int .i64 tt] 26)).alloc (.cells #[.slice ja jl jc, .slice pa pl pc, .int .i64 ut] 26)) (w.heap.size + 1) [.slice ja jl jc, .slice pa pl pc, .int .i64 ut] 26) := hide (Is.new' [.slice ja jl jc, .slice pa pl pc, .int .i64 ut] 26 (by simp))
  clear hR ht hu hT hw ft fu hil hol hjl hpl hn htt hut hDT hDU hDTV hDUV hZ
  go_enter Tryd.func4, Tryd.ntmps4
  go_wp2_with fail
  refine (HMD.out _ HB0.out).mono ?_
  rintro e w1 ⟨rfl, hb1⟩
  have HI1 := hide (HI0.out.below hb1 HI0.out.lt)
  have HJ1 := hide (HJ0.out.below hb1 HJ0.out.lt)
  have HB1 := hide (HB0.out.trans (hb1.mono HB0.out.size))
  clear hb1 HMD
  go_wp2_with (refine wpList_load_part 26 [.slice ia il ic, .slice oa ol oc, .int .i64 tt] w.heap.size 0 rfl (.tmp 5) rfl rfl (is_range HI1.out) Tryd.underlying26 rfl size_tx rfl ?_)
  refine (HAPT.out _ HB1.out).mono ?_
  rintro e w2 ⟨hap, hb2⟩
  have HI2 := hide (HI1.out.below hb2 HI1.out.lt)
  have HJ2 := hide (HJ1.out.below hb2 HJ1.out.lt)
  have HB2 := hide (HB1.out.trans (hb2.mono HB1.out.size))
  clear hb2 HAPT
  rcases ap_cases hap with ⟨_, c, rfl⟩ | ⟨v1, v2, X, S, G1, g1, rfl, hX, hXi, _, _⟩
  · unfold BadV
    clear hap
    go_wp2_with (refine wpList_load_part 26 [.slice ja jl jc, .slice pa pl pc, .int .i64 ut] (w.heap.size + 1) 0 rfl (.tmp 6) rfl rfl (is_range HJ2.out) Tryd.underlying26 rfl size_tx rfl ?_)
    refine (HNU.out _ HB2.out).mono ?_
    rintro e w3 ⟨hap, hb3⟩
    have HB3 := hide (HB2.out.trans (hb3.mono HB2.out.size))
    clear hb3
    rcases ap_cases (R := []) hap with ⟨_, c, rfl⟩ | ⟨v1, v2, X, S, G1, g1, rfl, _⟩
    · unfold BadV
      clear hap
      go_wp2
      go_ret
      exact ⟨rfl, HB3.out⟩
    · clear hap
      go_wp2
      go_ret
      exact ⟨rfl, HB3.out⟩
  · have HXI := hide hXi
    have HG1 := hide g1
    have HAX := hide (fun W (hW : Below w2.heap.size w2 W) => apply_any _ X u h W (hX.below hW) (HHU.out W (HB2.out.trans (hW.mono HB2.out.size))) (HTB.out W (HB2.out.trans (hW.mono HB2.out.size))) (HGL.out W (HB2.out.trans (hW.mono HB2.out.size))))
    rw [HVU.out] at HAX
    have hn1000 : n ≤ 1000 := by have := (Cn.setF_zero g1.hs).1; rw [List.length_map] at this; rw [← HRN.out]; exact this
    have ho40 : ol ≤ 40 := by rw [← HOL.out]; exact (tx_small g1.hk).2
    have hi40 : il ≤ 40 := by rw [← HIL.out]; exact (tx_small g1.hk).1
    obtain ⟨xa, xc, rfl, _, _⟩ := coins_form hX
    obtain ⟨xl, hxl⟩ : ∃ n, n = X.length := ⟨_, rfl⟩
    rw [← hxl] at HAX ⊢
    obtain ⟨q1, hq1⟩ : ∃ q, q = Cn.leftOf t.it h G1 := ⟨_, rfl⟩
    have HQ1 := hide hq1
    rw [← hq1]
    clear hap hX hXi g1 hxl hq1
    go_wp2_with (refine wpList_load_part 26 [.slice ja jl jc, .slice pa pl pc, .int .i64 ut] (w.heap.size + 1) 0 rfl (.tmp 6) rfl rfl (is_range HJ2.out) Tryd.underlying26 rfl size_tx rfl ?_)
    refine (HAX.out _ (Below.refl _ _)).mono ?_
    rintro e w3 ⟨hap, hb3⟩
    have HI3 := hide (HI2.out.below hb3 HI2.out.lt)
    have HJ3 := hide (HJ2.out.below hb3 HJ2.out.lt)
    have HB3 := hide (HB2.out.trans (hb3.mono HB2.out.size))
    clear hb3 HAX
    rcases ap_cases hap with ⟨_, c, rfl⟩ | ⟨v3, v4, Y, S2, G2, g2, rfl, hY, hYi, _, _⟩
    · unfold BadV
      clear hap
      go_wp2
      go_ret
      exact ⟨rfl, HB3.out⟩
    · rw [HXI.out] at g2 hYi
      have HYI := hide hYi
      have HG2 := hide g2
      have HY3 := hide hY
      have hp40 : pl ≤ 40 := by rw [← HPL.out]; exact (tx_small g2.hk).2
      have hj40 : jl ≤ 40 := by rw [← HJL.out]; exact (tx_small g2.hk).1
      obtain ⟨ya, yc, rfl, _, _⟩ := coins_form hY
      obtain ⟨yl, hyl⟩ : ∃ n, Y.length = n := ⟨_, rfl⟩
      have HYL := hide hyl
      rw [hyl]
      obtain ⟨q2, hq2⟩ : ∃ q, q = Cn.leftOf u.it h G2 := ⟨_, rfl⟩
      have HQ2 := hide hq2
      rw [← hq2]
      have HK3 := hide (Below.refl w3.heap.size w3)
      clear hap hY hYi g2 hyl hq2
      have hcT1 := HI3.out.cell 1
      have hcU1 := HJ3.out.cell 1
      simp only [List.getElem?_cons_zero, List.getElem?_cons_succ] at hcT1 hcU1
      by_cases hbig : 1000 < n + ol + pl
      · have hbigI : (1000 : Int) < (n : Int) + (ol : Int) + (pl : Int) := by omega
        go_wp2
        go_ret
        exact ⟨rfl, HB3.out⟩
      · have hbigI : ¬ (1000 : Int) < (n : Int) + (ol : Int) + (pl : Int) := by omega
        have HLEN : Hid ((R.map CoinV.it).length + t.it.outs.length + u.it.outs.length ≤ 1000) := hide (by rw [List.length_map, show t.it.outs.length = t.outs.length from by simp [TxV.it], show u.it.outs.length = u.outs.length from by simp [TxV.it], HRN.out, HOL.out, HPL.out]; omega)
        have HTT := hide (HTT.out HG1.out.hk)
        have HTU := hide (HTU.out HG2.out.hk)
        go_wp2_with (refine wpList_load_part 26 [.slice ia il ic, .slice oa ol oc, .int .i64 tt] w.heap.size 0 rfl (.tmp 5) rfl rfl (is_range HI3.out) Tryd.underlying26 rfl size_tx rfl ?_)
        refine (HTT.out _ HB3.out).mono ?_
        rintro e w4 ⟨rfl, hb4⟩
        have HI4 := hide (HI3.out.below hb4 HI3.out.lt)
        have HJ4 := hide (HJ3.out.below hb4 HJ3.out.lt)
        have HB4 := hide (HB3.out.trans (hb4.mono HB3.out.size))
        have HK4 := hide (HK3.out.trans (hb4.mono HK3.out.size))
        clear hb4 hbig HTT hcT1 hcU1
        go_wp2_with (first
          | (refine wpList_store_any3 39 Z DTV w4.heap.size rfl (.tmp 18) (.tmp 76) rfl rfl rfl rfl (Is.new w4 _ _) size_dig HZL.out DTVL.out DTV1.out ?_; intro w5 hi5 hw5; have hb5 : Below w4.heap.size w4 w5 := (by rw [hw5]; exact ck_new); have HDT0 := hide hi5; have HI5 := hide (HI4.out.below hb5 HI4.out.lt); have HJ5 := hide (HJ4.out.below hb5 HJ4.out.lt); have HB5 := hide (HB4.out.trans (hb5.mono HB4.out.size)); have HK5 := hide (HK4.out.trans (hb5.mono HK4.out.size)); clear hi5 hw5 hb5)
          | (refine wpList_load_part 26 [.slice ja jl jc, .slice pa pl pc, .int .i64 ut] (w.heap.size + 1) 0 rfl (.tmp 6) rfl rfl (is_range HJ5.out) Tryd.underlying26 rfl size_tx rfl ?_))
        refine (HTU.out _ HB5.out).mono ?_
        rintro e w6 ⟨rfl, hb6⟩
        have HI6 := hide (HI5.out.below hb6 HI5.out.lt)
        have HJ6 := hide (HJ5.out.below hb6 HJ5.out.lt)
        have HB6 := hide (HB5.out.trans (hb6.mono HB5.out.size))
        have HK6 := hide (HK5.out.trans (hb6.mono HK5.out.size))
        have HDT6 := hide (HDT0.out.below hb6 HDT0.out.lt)
        clear hb6 HTU
        go_wp2_with (refine wpList_store_any3 39 Z DUV w6.heap.size rfl (.tmp 20) (.tmp 81) rfl rfl rfl rfl (Is.new w6 _ _) size_dig HZL.out DUVL.out DUV1.out ?_; intro w7 hi7 hw7; have hb7 : Below w6.heap.size w6 w7 := (by rw [hw7]; exact ck_new); have HDU := hide hi7; have HDT := hide (HDT6.out.below hb7 HDT6.out.lt); have HI7 := hide (HI6.out.below hb7 HI6.out.lt); have HJ7 := hide (HJ6.out.below hb7 HJ6.out.lt); have HB7 := hide (HB6.out.trans (hb7.mono HB6.out.size)); have HK7 := hide (HK6.out.trans (hb7.mono HK6.out.size)); clear hi7 hw7 hb7)
        go_wp2
        go_loopw [22] (fun i wr => ∃ k : Nat, k ≤ jl ∧ i = .int .i64 k ∧ Hid (NotOf u DT k) ∧ Below w7.heap.size w7 wr) (fun i _ => jl - (intOf i).toNat)
        case atStart => exact ⟨0, by omega, rfl, hide (fun j hj h => absurd h (by omega)), Below.refl _ _⟩
        case round =>
          obtain ⟨k, hk, rfl, HNO, hbel⟩ := hrel
          have HBEL := hide hbel
          have hcX := (HJ7.out.below hbel HJ7.out.lt).cell 0
          simp only [List.getElem?_cons_zero, List.getElem?_cons_succ] at hcX
          have HRP : Hid (wr.drew.rangeAt w4.heap.size 0 DTV) := hide (is_range (HDT.out.below hbel.drew HDT.out.lt))
          clear hbel
          by_cases hltn : k < jl
          · have hki : (k : Int) < (jl : Int) := by omega
            have hlt : k < u.ins.length := by rw [HJL.out]; exact hltn
            obtain ⟨b, off, rfl, hc1, hc2, hbw, hro⟩ := HFU.out.ins k hlt wr.drew (HB7.out.trans (HBEL.out.drew.mono HB7.out.size))
            rw [HJL.out] at hc1
            obtain ⟨EJ, hEJ⟩ : ∃ P, P = vals u.ins[k].tx := ⟨_, rfl⟩
            have he32 := HFU.out.tx k hlt
            have hszj : (Tryd.prog.info? 39).map (·.size) = some EJ.length := by rw [hEJ, vals_length, he32]; exact size_dig
            have HRJ : Hid (wr.drew.rangeAt b (off + k * 34) EJ) := hide (by rw [hEJ]; exact (tx_range_part hro).1)
            clear hro
            by_cases hp : u.ins[k].tx = DT
            · have hq : ∀ w', (Op.equalIn 10000 39 (.agg EJ.toArray) (.agg DTV.toArray)).run Tryd.prog w' = .ok true w' := fun w' => by rw [hEJ, DTVE.out, dig_eq _ _ he32 DTL.out w', decide_eq_true hp]
              clear hEJ hp he32
              go_wp2_with fail
              refine wp_region_held_drew (S := fun W : World => W.rangeAt b (off + k * 34) EJ ∧ W.rangeAt w4.heap.size 0 DTV ∧ W.cell? ⟨w.heap.size + 1, 0, none⟩ = some (.slice (some ⟨b, off, none⟩) jl jc) ∧ Hid (Below w7.heap.size w7 W)) (by kernel_rfl) ?_ (fun hHeld0 => ?_)
              · exact ⟨HRJ.out, HRP.out, hcX, hide HBEL.out.drew⟩
              refine wpAnyH_take (i := 0) (v := ?_) rfl (by kernel_rfl) (by kernel_rfl) (by kernel_rfl) (fun _ _ _ h => h) (Or.inl ⟨by rfl, ?_⟩) hHeld0 ?_
              rotate_left
              · (intro w hSw; (try dsimp only at hSw); go_simp <;> (try with_reducible rfl))
              simp only [Act.put, List.getElem_toArray, List.getElem_cons_zero, List.getElem_cons_succ, List.setIfInBounds_toArray, List.set_cons_zero, List.set_cons_succ]
              refine wpAnyH_take (i := 1) (v := ?_) rfl (by kernel_rfl) (by kernel_rfl) (by kernel_rfl) (fun _ _ _ h => h) (Or.inl ⟨by rfl, ?_⟩) hHeld0 ?_
              rotate_left
              · (intro w hSw; (try dsimp only at hSw); go_simp <;> (try with_reducible rfl))
              simp only [Act.put, List.getElem_toArray, List.getElem_cons_zero, List.getElem_cons_succ, List.setIfInBounds_toArray, List.set_cons_zero, List.set_cons_succ]
              refine wpAnyH_take (i := 2) (v := ?_) rfl (by kernel_rfl) (by kernel_rfl) (by kernel_rfl) (fun _ _ _ h => h) (Or.inl ⟨by rfl, ?_⟩) hHeld0 ?_
              rotate_left
              · (intro w hSw; (try dsimp only at hSw); go_simp <;> (try with_reducible rfl))
              simp only [Act.put, List.getElem_toArray, List.getElem_cons_zero, List.getElem_cons_succ, List.setIfInBounds_toArray, List.set_cons_zero, List.set_cons_succ]
              refine wpAnyH_take (i := 3) (v := ?_) rfl (by kernel_rfl) (by kernel_rfl) (by kernel_rfl) (fun _ _ _ h => h) (Or.inl ⟨by rfl, ?_⟩) hHeld0 ?_
              rotate_left
              · (intro w hSw; (try dsimp only at hSw); go_simp <;> (try with_reducible rfl))
              simp only [Act.put, List.getElem_toArray, List.getElem_cons_zero, List.getElem_cons_succ, List.setIfInBounds_toArray, List.set_cons_zero, List.set_cons_succ]
              refine wpAnyH_take (i := 4) (v := ?_) rfl (by kernel_rfl) (by kernel_rfl) (by kernel_rfl) (fun _ _ _ h => h) (Or.inl ⟨by rfl, ?_⟩) hHeld0 ?_
              rotate_left
              · (intro w hSw; (try dsimp only at hSw); go_simp <;> (try with_reducible rfl))
              simp only [Act.put, List.getElem_toArray, List.getElem_cons_zero, List.getElem_cons_succ, List.setIfInBounds_toArray, List.set_cons_zero, List.set_cons_succ]
              refine wpAnyH_take (i := 5) (v := ?_) rfl (by kernel_rfl) (by kernel_rfl) (by kernel_rfl) (fun _ _ _ h => h) (Or.inl ⟨by rfl, ?_⟩) hHeld0 ?_
              rotate_left
              · (intro w hSw; (try dsimp only at hSw); go_simp <;> (try with_reducible rfl))
              simp only [Act.put, List.getElem_toArray, List.getElem_cons_zero, List.getElem_cons_succ, List.setIfInBounds_toArray, List.set_cons_zero, List.set_cons_succ]
              refine wpAnyH_take (i := 6) (v := .agg (EJ).toArray) rfl (by kernel_rfl) (by kernel_rfl) (by kernel_rfl) (fun _ _ _ h => h) (yieldsIf_load_mid (by rfl) _ _ rfl _ _ rfl (EJ) _ (fun w hSw => hSw.1) Tryd.underlying39 rfl hszj) hHeld0 ?_
              simp only [Act.put, List.getElem_toArray, List.getElem_cons_zero, List.getElem_cons_succ, List.setIfInBounds_toArray, List.set_cons_zero, List.set_cons_succ]
              refine wpAnyH_take (i := 7) (v := .agg (DTV).toArray) rfl (by kernel_rfl) (by kernel_rfl) (by kernel_rfl) (fun _ _ _ h => h) (yieldsIf_load_mid (by rfl) _ _ rfl _ _ rfl (DTV) _ (fun w hSw => hSw.2.1) Tryd.underlying39 rfl hszDTV) hHeld0 ?_
              simp only [Act.put, List.getElem_toArray, List.getElem_cons_zero, List.getElem_cons_succ, List.setIfInBounds_toArray, List.set_cons_zero, List.set_cons_succ]
              refine wpAnyH_take (i := 8) (v := ?_) rfl (by kernel_rfl) (by kernel_rfl) (by kernel_rfl) (fun _ _ _ h => h) (Or.inl ⟨by rfl, ?_⟩) hHeld0 ?_
              rotate_left
              · (intro w hSw; (try dsimp only at hSw); go_simp <;> (try with_reducible rfl))
              simp only [Act.put, List.getElem_toArray, List.getElem_cons_zero, List.getElem_cons_succ, List.setIfInBounds_toArray, List.set_cons_zero, List.set_cons_succ]
              refine wpAnyH_done (by kernel_rfl) ?_ _
              have HBL := hide hHeld0.2.2.2.out
              clear hHeld0
              go_wp2
              go_ret
              exact ⟨rfl, HB7.out.trans (HBL.out.mono HB7.out.size)⟩
            · have hq : ∀ w', (Op.equalIn 10000 39 (.agg EJ.toArray) (.agg DTV.toArray)).run Tryd.prog w' = .ok false w' := fun w' => by rw [hEJ, DTVE.out, dig_eq _ _ he32 DTL.out w', decide_eq_false hp]
              have HNN : Hid (Hid (NotOf u DT (k + 1))) := hide (hide (notOf_next HNO.out hlt hp))
              clear hEJ hp he32
              go_wp2_with fail
              refine wp_region_held_drew (S := fun W : World => W.rangeAt b (off + k * 34) EJ ∧ W.rangeAt w4.heap.size 0 DTV ∧ W.cell? ⟨w.heap.size + 1, 0, none⟩ = some (.slice (some ⟨b, off, none⟩) jl jc) ∧ Hid (Below w7.heap.size w7 W)) (by kernel_rfl) ?_ (fun hHeld0 => ?_)
              · exact ⟨HRJ.out, HRP.out, hcX, hide HBEL.out.drew⟩
              refine wpAnyH_take (i := 0) (v := ?_) rfl (by kernel_rfl) (by kernel_rfl) (by kernel_rfl) (fun _ _ _ h => h) (Or.inl ⟨by rfl, ?_⟩) hHeld0 ?_
              rotate_left
              · (intro w hSw; (try dsimp only at hSw); go_simp <;> (try with_reducible rfl))
              simp only [Act.put, List.getElem_toArray, List.getElem_cons_zero, List.getElem_cons_succ, List.setIfInBounds_toArray, List.set_cons_zero, List.set_cons_succ]
              refine wpAnyH_take (i := 1) (v := ?_) rfl (by kernel_rfl) (by kernel_rfl) (by kernel_rfl) (fun _ _ _ h => h) (Or.inl ⟨by rfl, ?_⟩) hHeld0 ?_
              rotate_left
              · (intro w hSw; (try dsimp only at hSw); go_simp <;> (try with_reducible rfl))
              simp only [Act.put, List.getElem_toArray, List.getElem_cons_zero, List.getElem_cons_succ, List.setIfInBounds_toArray, List.set_cons_zero, List.set_cons_succ]
              refine wpAnyH_take (i := 2) (v := ?_) rfl (by kernel_rfl) (by kernel_rfl) (by kernel_rfl) (fun _ _ _ h => h) (Or.inl ⟨by rfl, ?_⟩) hHeld0 ?_
              rotate_left
              · (intro w hSw; (try dsimp only at hSw); go_simp <;> (try with_reducible rfl))
              simp only [Act.put, List.getElem_toArray, List.getElem_cons_zero, List.getElem_cons_succ, List.setIfInBounds_toArray, List.set_cons_zero, List.set_cons_succ]
              refine wpAnyH_take (i := 3) (v := ?_) rfl (by kernel_rfl) (by kernel_rfl) (by kernel_rfl) (fun _ _ _ h => h) (Or.inl ⟨by rfl, ?_⟩) hHeld0 ?_
              rotate_left
              · (intro w hSw; (try dsimp only at hSw); go_simp <;> (try with_reducible rfl))
              simp only [Act.put, List.getElem_toArray, List.getElem_cons_zero, List.getElem_cons_succ, List.setIfInBounds_toArray, List.set_cons_zero, List.set_cons_succ]
              refine wpAnyH_take (i := 4) (v := ?_) rfl (by kernel_rfl) (by kernel_rfl) (by kernel_rfl) (fun _ _ _ h => h) (Or.inl ⟨by rfl, ?_⟩) hHeld0 ?_
              rotate_left
              · (intro w hSw; (try dsimp only at hSw); go_simp <;> (try with_reducible rfl))
              simp only [Act.put, List.getElem_toArray, List.getElem_cons_zero, List.getElem_cons_succ, List.setIfInBounds_toArray, List.set_cons_zero, List.set_cons_succ]
              refine wpAnyH_take (i := 5) (v := ?_) rfl (by kernel_rfl) (by kernel_rfl) (by kernel_rfl) (fun _ _ _ h => h) (Or.inl ⟨by rfl, ?_⟩) hHeld0 ?_
              rotate_left
              · (intro w hSw; (try dsimp only at hSw); go_simp <;> (try with_reducible rfl))
              simp only [Act.put, List.getElem_toArray, List.getElem_cons_zero, List.getElem_cons_succ, List.setIfInBounds_toArray, List.set_cons_zero, List.set_cons_succ]
              refine wpAnyH_take (i := 6) (v := .agg (EJ).toArray) rfl (by kernel_rfl) (by kernel_rfl) (by kernel_rfl) (fun _ _ _ h => h) (yieldsIf_load_mid (by rfl) _ _ rfl _ _ rfl (EJ) _ (fun w hSw => hSw.1) Tryd.underlying39 rfl hszj) hHeld0 ?_
              simp only [Act.put, List.getElem_toArray, List.getElem_cons_zero, List.getElem_cons_succ, List.setIfInBounds_toArray, List.set_cons_zero, List.set_cons_succ]
              refine wpAnyH_take (i := 7) (v := .agg (DTV).toArray) rfl (by kernel_rfl) (by kernel_rfl) (by kernel_rfl) (fun _ _ _ h => h) (yieldsIf_load_mid (by rfl) _ _ rfl _ _ rfl (DTV) _ (fun w hSw => hSw.2.1) Tryd.underlying39 rfl hszDTV) hHeld0 ?_
              simp only [Act.put, List.getElem_toArray, List.getElem_cons_zero, List.getElem_cons_succ, List.setIfInBounds_toArray, List.set_cons_zero, List.set_cons_succ]
              refine wpAnyH_take (i := 8) (v := ?_) rfl (by kernel_rfl) (by kernel_rfl) (by kernel_rfl) (fun _ _ _ h => h) (Or.inl ⟨by rfl, ?_⟩) hHeld0 ?_
              rotate_left
              · (intro w hSw; (try dsimp only at hSw); go_simp <;> (try with_reducible rfl))
              simp only [Act.put, List.getElem_toArray, List.getElem_cons_zero, List.getElem_cons_succ, List.setIfInBounds_toArray, List.set_cons_zero, List.set_cons_succ]
              refine wpAnyH_done (by kernel_rfl) ?_ _
              have HBL := hide hHeld0.2.2.2.out
              clear hHeld0
              go_wp2
              go_roundw
              case rel => exact ⟨k + 1, by omega, by go_num, HNN.out, HBL.out⟩
              case measure => simp [intOf]; omega
          · have hki : ¬ (k : Int) < (jl : Int) := by omega
            have HNu : Hid (NotOf u DT u.ins.length) := hide (by have h := HNO.out; rwa [show k = u.ins.length from by rw [HJL.out]; omega] at h)
            clear HRP HNO
            have HBKu := HBEL
            clear HBEL hltn hk
            obtain ⟨wA, rfl⟩ : ∃ wA, wA = wr := ⟨_, rfl⟩
            go_wp2
            clear hcX hki
            go_loopw [23] (fun i wr => ∃ k : Nat, k ≤ il ∧ i = .int .i64 k ∧ Hid (NotOf t DU k) ∧ Below w7.heap.size w7 wr) (fun i _ => il - (intOf i).toNat)
            case atStart => exact ⟨0, by omega, rfl, hide (fun j hj h => absurd h (by omega)), HBKu.out⟩
            case round =>
              obtain ⟨k, hk, rfl, HNO, hbel⟩ := hrel
              have HBEL := hide hbel
              have hcX := (HI7.out.below hbel HI7.out.lt).cell 0
              simp only [List.getElem?_cons_zero, List.getElem?_cons_succ] at hcX
              have HRP : Hid (wr.drew.rangeAt w6.heap.size 0 DUV) := hide (is_range (HDU.out.below hbel.drew HDU.out.lt))
              clear hbel
              by_cases hltn : k < il
              · have hki : (k : Int) < (il : Int) := by omega
                have hlt : k < t.ins.length := by rw [HIL.out]; exact hltn
                obtain ⟨b, off, rfl, hc1, hc2, hbw, hro⟩ := HFT.out.ins k hlt wr.drew (HB7.out.trans (HBEL.out.drew.mono HB7.out.size))
                rw [HIL.out] at hc1
                obtain ⟨EJ, hEJ⟩ : ∃ P, P = vals t.ins[k].tx := ⟨_, rfl⟩
                have he32 := HFT.out.tx k hlt
                have hszj : (Tryd.prog.info? 39).map (·.size) = some EJ.length := by rw [hEJ, vals_length, he32]; exact size_dig
                have HRJ : Hid (wr.drew.rangeAt b (off + k * 34) EJ) := hide (by rw [hEJ]; exact (tx_range_part hro).1)
                clear hro
                by_cases hp : t.ins[k].tx = DU
                · have hq : ∀ w', (Op.equalIn 10000 39 (.agg EJ.toArray) (.agg DUV.toArray)).run Tryd.prog w' = .ok true w' := fun w' => by rw [hEJ, DUVE.out, dig_eq _ _ he32 DUL.out w', decide_eq_true hp]
                  clear hEJ hp he32
                  go_wp2_with fail
                  refine wp_region_held_drew (S := fun W : World => W.rangeAt b (off + k * 34) EJ ∧ W.rangeAt w6.heap.size 0 DUV ∧ W.cell? ⟨w.heap.size, 0, none⟩ = some (.slice (some ⟨b, off, none⟩) il ic) ∧ Hid (Below w7.heap.size w7 W)) (by kernel_rfl) ?_ (fun hHeld0 => ?_)
                  · exact ⟨HRJ.out, HRP.out, hcX, hide HBEL.out.drew⟩
                  refine wpAnyH_take (i := 0) (v := ?_) rfl (by kernel_rfl) (by kernel_rfl) (by kernel_rfl) (fun _ _ _ h => h) (Or.inl ⟨by rfl, ?_⟩) hHeld0 ?_
                  rotate_left
                  · (intro w hSw; (try dsimp only at hSw); go_simp <;> (try with_reducible rfl))
                  simp only [Act.put, List.getElem_toArray, List.getElem_cons_zero, List.getElem_cons_succ, List.setIfInBounds_toArray, List.set_cons_zero, List.set_cons_succ]
                  refine wpAnyH_take (i := 1) (v := ?_) rfl (by kernel_rfl) (by kernel_rfl) (by kernel_rfl) (fun _ _ _ h => h) (Or.inl ⟨by rfl, ?_⟩) hHeld0 ?_
                  rotate_left
                  · (intro w hSw; (try dsimp only at hSw); go_simp <;> (try with_reducible rfl))
                  simp only [Act.put, List.getElem_toArray, List.getElem_cons_zero, List.getElem_cons_succ, List.setIfInBounds_toArray, List.set_cons_zero, List.set_cons_succ]
                  refine wpAnyH_take (i := 2) (v := ?_) rfl (by kernel_rfl) (by kernel_rfl) (by kernel_rfl) (fun _ _ _ h => h) (Or.inl ⟨by rfl, ?_⟩) hHeld0 ?_
                  rotate_left
                  · (intro w hSw; (try dsimp only at hSw); go_simp <;> (try with_reducible rfl))
                  simp only [Act.put, List.getElem_toArray, List.getElem_cons_zero, List.getElem_cons_succ, List.setIfInBounds_toArray, List.set_cons_zero, List.set_cons_succ]
                  refine wpAnyH_take (i := 3) (v := ?_) rfl (by kernel_rfl) (by kernel_rfl) (by kernel_rfl) (fun _ _ _ h => h) (Or.inl ⟨by rfl, ?_⟩) hHeld0 ?_
                  rotate_left
                  · (intro w hSw; (try dsimp only at hSw); go_simp <;> (try with_reducible rfl))
                  simp only [Act.put, List.getElem_toArray, List.getElem_cons_zero, List.getElem_cons_succ, List.setIfInBounds_toArray, List.set_cons_zero, List.set_cons_succ]
                  refine wpAnyH_take (i := 4) (v := ?_) rfl (by kernel_rfl) (by kernel_rfl) (by kernel_rfl) (fun _ _ _ h => h) (Or.inl ⟨by rfl, ?_⟩) hHeld0 ?_
                  rotate_left
                  · (intro w hSw; (try dsimp only at hSw); go_simp <;> (try with_reducible rfl))
                  simp only [Act.put, List.getElem_toArray, List.getElem_cons_zero, List.getElem_cons_succ, List.setIfInBounds_toArray, List.set_cons_zero, List.set_cons_succ]
                  refine wpAnyH_take (i := 5) (v := ?_) rfl (by kernel_rfl) (by kernel_rfl) (by kernel_rfl) (fun _ _ _ h => h) (Or.inl ⟨by rfl, ?_⟩) hHeld0 ?_
                  rotate_left
                  · (intro w hSw; (try dsimp only at hSw); go_simp <;> (try with_reducible rfl))
                  simp only [Act.put, List.getElem_toArray, List.getElem_cons_zero, List.getElem_cons_succ, List.setIfInBounds_toArray, List.set_cons_zero, List.set_cons_succ]
                  refine wpAnyH_take (i := 6) (v := .agg (EJ).toArray) rfl (by kernel_rfl) (by kernel_rfl) (by kernel_rfl) (fun _ _ _ h => h) (yieldsIf_load_mid (by rfl) _ _ rfl _ _ rfl (EJ) _ (fun w hSw => hSw.1) Tryd.underlying39 rfl hszj) hHeld0 ?_
                  simp only [Act.put, List.getElem_toArray, List.getElem_cons_zero, List.getElem_cons_succ, List.setIfInBounds_toArray, List.set_cons_zero, List.set_cons_succ]
                  refine wpAnyH_take (i := 7) (v := .agg (DUV).toArray) rfl (by kernel_rfl) (by kernel_rfl) (by kernel_rfl) (fun _ _ _ h => h) (yieldsIf_load_mid (by rfl) _ _ rfl _ _ rfl (DUV) _ (fun w hSw => hSw.2.1) Tryd.underlying39 rfl hszDUV) hHeld0 ?_
                  simp only [Act.put, List.getElem_toArray, List.getElem_cons_zero, List.getElem_cons_succ, List.setIfInBounds_toArray, List.set_cons_zero, List.set_cons_succ]
                  refine wpAnyH_take (i := 8) (v := ?_) rfl (by kernel_rfl) (by kernel_rfl) (by kernel_rfl) (fun _ _ _ h => h) (Or.inl ⟨by rfl, ?_⟩) hHeld0 ?_
                  rotate_left
                  · (intro w hSw; (try dsimp only at hSw); go_simp <;> (try with_reducible rfl))
                  simp only [Act.put, List.getElem_toArray, List.getElem_cons_zero, List.getElem_cons_succ, List.setIfInBounds_toArray, List.set_cons_zero, List.set_cons_succ]
                  refine wpAnyH_done (by kernel_rfl) ?_ _
                  have HBL := hide hHeld0.2.2.2.out
                  clear hHeld0
                  go_wp2
                  go_ret
                  exact ⟨rfl, HB7.out.trans (HBL.out.mono HB7.out.size)⟩
                · have hq : ∀ w', (Op.equalIn 10000 39 (.agg EJ.toArray) (.agg DUV.toArray)).run Tryd.prog w' = .ok false w' := fun w' => by rw [hEJ, DUVE.out, dig_eq _ _ he32 DUL.out w', decide_eq_false hp]
                  have HNN : Hid (Hid (NotOf t DU (k + 1))) := hide (hide (notOf_next HNO.out hlt hp))
                  clear hEJ hp he32
                  go_wp2_with fail
                  refine wp_region_held_drew (S := fun W : World => W.rangeAt b (off + k * 34) EJ ∧ W.rangeAt w6.heap.size 0 DUV ∧ W.cell? ⟨w.heap.size, 0, none⟩ = some (.slice (some ⟨b, off, none⟩) il ic) ∧ Hid (Below w7.heap.size w7 W)) (by kernel_rfl) ?_ (fun hHeld0 => ?_)
                  · exact ⟨HRJ.out, HRP.out, hcX, hide HBEL.out.drew⟩
                  refine wpAnyH_take (i := 0) (v := ?_) rfl (by kernel_rfl) (by kernel_rfl) (by kernel_rfl) (fun _ _ _ h => h) (Or.inl ⟨by rfl, ?_⟩) hHeld0 ?_
                  rotate_left
                  · (intro w hSw; (try dsimp only at hSw); go_simp <;> (try with_reducible rfl))
                  simp only [Act.put, List.getElem_toArray, List.getElem_cons_zero, List.getElem_cons_succ, List.setIfInBounds_toArray, List.set_cons_zero, List.set_cons_succ]
                  refine wpAnyH_take (i := 1) (v := ?_) rfl (by kernel_rfl) (by kernel_rfl) (by kernel_rfl) (fun _ _ _ h => h) (Or.inl ⟨by rfl, ?_⟩) hHeld0 ?_
                  rotate_left
                  · (intro w hSw; (try dsimp only at hSw); go_simp <;> (try with_reducible rfl))
                  simp only [Act.put, List.getElem_toArray, List.getElem_cons_zero, List.getElem_cons_succ, List.setIfInBounds_toArray, List.set_cons_zero, List.set_cons_succ]
                  refine wpAnyH_take (i := 2) (v := ?_) rfl (by kernel_rfl) (by kernel_rfl) (by kernel_rfl) (fun _ _ _ h => h) (Or.inl ⟨by rfl, ?_⟩) hHeld0 ?_
                  rotate_left
                  · (intro w hSw; (try dsimp only at hSw); go_simp <;> (try with_reducible rfl))
                  simp only [Act.put, List.getElem_toArray, List.getElem_cons_zero, List.getElem_cons_succ, List.setIfInBounds_toArray, List.set_cons_zero, List.set_cons_succ]
                  refine wpAnyH_take (i := 3) (v := ?_) rfl (by kernel_rfl) (by kernel_rfl) (by kernel_rfl) (fun _ _ _ h => h) (Or.inl ⟨by rfl, ?_⟩) hHeld0 ?_
                  rotate_left
                  · (intro w hSw; (try dsimp only at hSw); go_simp <;> (try with_reducible rfl))
                  simp only [Act.put, List.getElem_toArray, List.getElem_cons_zero, List.getElem_cons_succ, List.setIfInBounds_toArray, List.set_cons_zero, List.set_cons_succ]
                  refine wpAnyH_take (i := 4) (v := ?_) rfl (by kernel_rfl) (by kernel_rfl) (by kernel_rfl) (fun _ _ _ h => h) (Or.inl ⟨by rfl, ?_⟩) hHeld0 ?_
                  rotate_left
                  · (intro w hSw; (try dsimp only at hSw); go_simp <;> (try with_reducible rfl))
                  simp only [Act.put, List.getElem_toArray, List.getElem_cons_zero, List.getElem_cons_succ, List.setIfInBounds_toArray, List.set_cons_zero, List.set_cons_succ]
                  refine wpAnyH_take (i := 5) (v := ?_) rfl (by kernel_rfl) (by kernel_rfl) (by kernel_rfl) (fun _ _ _ h => h) (Or.inl ⟨by rfl, ?_⟩) hHeld0 ?_
                  rotate_left
                  · (intro w hSw; (try dsimp only at hSw); go_simp <;> (try with_reducible rfl))
                  simp only [Act.put, List.getElem_toArray, List.getElem_cons_zero, List.getElem_cons_succ, List.setIfInBounds_toArray, List.set_cons_zero, List.set_cons_succ]
                  refine wpAnyH_take (i := 6) (v := .agg (EJ).toArray) rfl (by kernel_rfl) (by kernel_rfl) (by kernel_rfl) (fun _ _ _ h => h) (yieldsIf_load_mid (by rfl) _ _ rfl _ _ rfl (EJ) _ (fun w hSw => hSw.1) Tryd.underlying39 rfl hszj) hHeld0 ?_
                  simp only [Act.put, List.getElem_toArray, List.getElem_cons_zero, List.getElem_cons_succ, List.setIfInBounds_toArray, List.set_cons_zero, List.set_cons_succ]
                  refine wpAnyH_take (i := 7) (v := .agg (DUV).toArray) rfl (by kernel_rfl) (by kernel_rfl) (by kernel_rfl) (fun _ _ _ h => h) (yieldsIf_load_mid (by rfl) _ _ rfl _ _ rfl (DUV) _ (fun w hSw => hSw.2.1) Tryd.underlying39 rfl hszDUV) hHeld0 ?_
                  simp only [Act.put, List.getElem_toArray, List.getElem_cons_zero, List.getElem_cons_succ, List.setIfInBounds_toArray, List.set_cons_zero, List.set_cons_succ]
                  refine wpAnyH_take (i := 8) (v := ?_) rfl (by kernel_rfl) (by kernel_rfl) (by kernel_rfl) (fun _ _ _ h => h) (Or.inl ⟨by rfl, ?_⟩) hHeld0 ?_
                  rotate_left
                  · (intro w hSw; (try dsimp only at hSw); go_simp <;> (try with_reducible rfl))
                  simp only [Act.put, List.getElem_toArray, List.getElem_cons_zero, List.getElem_cons_succ, List.setIfInBounds_toArray, List.set_cons_zero, List.set_cons_succ]
                  refine wpAnyH_done (by kernel_rfl) ?_ _
                  have HBL := hide hHeld0.2.2.2.out
                  clear hHeld0
                  go_wp2
                  go_roundw
                  case rel => exact ⟨k + 1, by omega, by go_num, HNN.out, HBL.out⟩
                  case measure => simp [intOf]; omega
              · have hki : ¬ (k : Int) < (il : Int) := by omega
                have HNt : Hid (NotOf t DU t.ins.length) := hide (by have h := HNO.out; rwa [show k = t.ins.length from by rw [HIL.out]; omega] at h)
                clear HRP HNO
                have HBKt := HBEL
                clear HBEL hltn hk
                obtain ⟨gu, gt, hsame⟩ := Cn.order_law HG1.out HG2.out HLEN.out (by have := notOf_places HNu.out; rwa [HDTE.out] at this) (by have := notOf_places HNt.out; rwa [HDUE.out] at this)
                have HGT := hide gt
                have HSAME := hide hsame
                have HGU := hide gu
                have HB8 := hide (HB7.out.trans (HBKt.out.mono HB7.out.size))
                have HI8 := hide (HI7.out.below HBKt.out HI7.out.lt)
                have HJ8 := hide (HJ7.out.below HBKt.out HJ7.out.lt)
                have HK8 := hide (HK7.out.trans (HBKt.out.mono HK7.out.size))
                clear gu gt hsame
                go_wp2_with (refine wpList_load_part 26 [.slice ja jl jc, .slice pa pl pc, .int .i64 ut] (w.heap.size + 1) 0 rfl (.tmp 6) rfl rfl (is_range HJ8.out) Tryd.underlying26 rfl size_tx rfl ?_)
                refine (HAPU.out _ HB8.out).mono ?_
                rintro e w9 ⟨hap, hb9⟩
                obtain ⟨v5, v6, X3, S3, rfl, hX3, hX3i, _, _⟩ := ap_good HGU.out hap
                have HI9 := hide (HI8.out.below hb9 HI8.out.lt)
                have HJ9 := hide (HJ8.out.below hb9 HJ8.out.lt)
                have HB9 := hide (HB8.out.trans (hb9.mono HB8.out.size))
                have HK9 := hide (HK8.out.trans (hb9.mono HK8.out.size))
                have HAX := hide (fun W (hW : Below w9.heap.size w9 W) => apply_any _ X3 t h W (hX3.below hW) (HHT.out W (HB9.out.trans (hW.mono HB9.out.size))) (HTB.out W (HB9.out.trans (hW.mono HB9.out.size))) (HGL.out W (HB9.out.trans (hW.mono HB9.out.size))))
                rw [HVT.out, hX3i] at HAX
                have HGT2 : Hid (Cn.Good (X3.map CoinV.it) t.it h G1) := hide (by rw [hX3i]; exact HGT.out)
                obtain ⟨xa3, xc3, rfl, _, _⟩ := coins_form hX3
                have HX3I := hide hX3i
                obtain ⟨x3, hx3⟩ : ∃ n, n = X3.length := ⟨_, rfl⟩
                rw [← hx3] at HAX ⊢
                rw [← HQ2.out]
                clear hap hb9 hX3 hX3i hx3
                go_wp2_with (refine wpList_load_part 26 [.slice ia il ic, .slice oa ol oc, .int .i64 tt] w.heap.size 0 rfl (.tmp 5) rfl rfl (is_range HI9.out) Tryd.underlying26 rfl size_tx rfl ?_)
                refine (HAX.out _ (Below.refl _ _)).mono ?_
                rintro e w10 ⟨hap, hb10⟩
                rw [← HX3I.out] at hap
                obtain ⟨v7, v8, X4, S4, rfl, hX4, hX4i, _, _⟩ := ap_good HGT2.out hap
                have HB10 := hide (HB9.out.trans (hb10.mono HB9.out.size))
                have hY10 := HY3.out.below (HK9.out.trans (hb10.mono HK9.out.size))
                have HSC := hide (fun W (hW : Below w10.heap.size w10 W) => scoins_same _ _ Y X4 W (hY10.below hW) (hX4.below hW) (by rw [HYI.out, hX4i, HX3I.out]; exact HSAME.out))
                obtain ⟨xa4, xc4, rfl, _, _⟩ := coins_form hX4
                obtain ⟨x4, hx4⟩ : ∃ n, n = X4.length := ⟨_, rfl⟩
                rw [← hx4] at HSC ⊢
                rw [← HQ1.out]
                rw [HYL.out] at HSC
                clear hap hb10 hX4 hX4i hx4 hY10
                go_wp2_with fail
                refine (HSC.out _ (Below.refl _ _)).mono ?_
                rintro e w11 ⟨rfl, hb11⟩
                have HB11 := hide (HB10.out.trans (hb11.mono HB10.out.size))
                clear hb11
                go_wp2
                go_ret
                exact ⟨rfl, HB11.out⟩
end Go.Proofs.YtpnkndagahchhaaDoor
