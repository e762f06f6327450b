/- SpendOpens: nothing is spent that is not opened. -/
import Derived.Test.YtgkpbglllnmbeaaGreatDoorZSp
namespace Go.Proofs.YtgkpbglllnmbeaaGreatDoor
open Go.RowKit
set_option linter.unusedVariables false
set_option linter.unusedSimpArgs false

set_option maxRecDepth 100000 in
set_option maxHeartbeats 8000000 in
theorem spendOpens_walk (cv : Value) (R : List CoinV) (t : TxV) (h : Int) (w : World) (hR : HasCoins w cv R) (ht : HasTx w t) (hT : Tab w) (hw : 0 < w.heap.size) :
    Calls Tryz.prog 3 #[cv, t.val, .int .i64 h] w fun e w' => e = .returned (.bool true) ∧ Below w.heap.size w w' := by
  obtain ⟨a, cap, rfl, hml, _⟩ := coins_form hR
  obtain ⟨ia, ic, oa, oc, ft⟩ := tx_form ht
  have HTB := hide (fun W (hW : Below w.heap.size w W) => hT.below hW hw)
  have HGL : Hid (∀ W, Below w.heap.size w W → 0 < W.heap.size) := hide (fun W (hW : Below w.heap.size w W) => Nat.lt_of_lt_of_le hw hW.size)
  have HHT := hide (fun W (hW : Below w.heap.size w W) => ht.below hW)
  have HRW := hide (fun W (hW : Below w.heap.size w W) => hR.below hW)
  have HPD := hide (fun W (hW : Below w.heap.size w W) => cpaid_any W (HTB.out W hW) (HGL.out W hW))
  have HCP := hide (fun (z : Int) W (hW : Below w.heap.size w W) => check_pay _ R t z W (hR.below hW) (ht.below hW) (HTB.out W hW) (HGL.out W hW))
  have HVT := hide ft.val
  have hilm := ft.il
  have holm := ft.ol
  have HFT := hide ft
  obtain ⟨il, hil⟩ : ∃ n, t.ins.length = n := ⟨_, rfl⟩
  obtain ⟨ol, hol⟩ : ∃ n, t.outs.length = n := ⟨_, rfl⟩
  obtain ⟨n, hn⟩ : ∃ n, R.length = n := ⟨_, rfl⟩
  obtain ⟨tt, htt⟩ : ∃ n, t.time = n := ⟨_, rfl⟩
  rw [hil, hol, htt] at HVT
  have HAP := hide (fun W (hW : Below w.heap.size w W) => apply_any _ R t h W (hR.below hW) (ht.below hW) (HTB.out W hW) (HGL.out W hW))
  have HTG := hide (fun (hk : Tm.check t.it = 0) W (hW : Below w.heap.size w W) => tid_good t W (ht.below hW) hk (HTB.out W hW) (HGL.out W hW))
  have HKY := hide (tx_keys ht)
  rw [HVT.out, hn] at HCP HAP
  rw [HVT.out] at HTG
  rw [HVT.out, hn]
  obtain ⟨p, hp⟩ : ∃ p, (Cn.paid (R.map CoinV.it) t.it h).e = p := ⟨_, rfl⟩
  have HP := hide hp
  have htm : t.it.time = tt := htt
  have HTM := hide htm
  have HCH := hide (HCP.out h)
  rw [hp] at HCH
  have HPG := hide (fun (e : (Cn.paid (R.map CoinV.it) t.it h).e = 0) => Cn.paid_good e)
  have HPO := hide (fun s (g : Cn.Good (R.map CoinV.it) t.it h s) (h2 : ¬ h < t.it.time) (h3 : Cn.openF (Tm.id t.it) h s t.it.ins = 0) => Cn.paid_of g h2 h3)
  obtain ⟨m, hm⟩ : ∃ m, m = Tm.id t.it := ⟨_, rfl⟩
  have HME := hide hm
  have HML : Hid (m.length = 32) := hide (by rw [hm]; exact id_len _)
  have HMB : Hid (Sz.Byt m) := hide (by rw [hm]; exact id_byt _)
  obtain ⟨DV, hDV⟩ : ∃ d, d = vals m := ⟨_, rfl⟩
  have HDVE := hide hDV
  have HDL : Hid (DV.length = 32) := hide (by rw [hDV, vals_length, HML.out])
  have HD1 : Hid (∀ v ∈ DV, v.oneCell' = true) := hide (by rw [hDV]; exact vals_one _)
  have hDp : ¬ DV = [] := by intro h; have := HDL.out; rw [h] at this; cases this
  have hszd : (Tryz.prog.info? 34).map (·.size) = some DV.length := by rw [HDL.out]; exact size_dig
  rw [← hm, ← hDV] at HTG
  have hzd := zero_dig
  obtain ⟨ZD, hZD⟩ : ∃ Z, Z = vals (List.replicate 32 0) := ⟨_, rfl⟩
  rw [← hZD] at hzd
  have HZDL : Hid (ZD.length = 32) := hide (by rw [hZD]; simp [vals])
  have hZDp : ¬ ZD = [] := by intro h; have := HZDL.out; rw [h] at this; cases this
  have HIL := hide hil
  have HB0 := hide (below_alloc w (.cells #[.slice ia il ic, .slice oa ol oc, .int .i64 tt] 26))
  have HI0 := hide (Is.new w [.slice ia il ic, .slice oa ol oc, .int .i64 tt] 26)
  clear hR ht hT hw ft hil hol hn htt hp hm hDV hZD htm
  go_enter Tryz.func3, Tryz.ntmps3
  go_wp2_with fail
  refine (HPD.out _ HB0.out).mono ?_
  rintro e w1 ⟨rfl, hb1⟩
  have HI1 := hide (HI0.out.below hb1 HI0.out.lt)
  have HB1 := hide (HB0.out.trans (hb1.mono HB0.out.size))
  clear hb1 HPD
  by_cases hp0 : p = 0
  · rw [hp0, show errV 0 = .nilIface from rfl] at HCH
    obtain ⟨G, g, htl, hop, _⟩ := HPG.out (HP.out.trans hp0)
    have HG := hide g
    rw [HTM.out] at htl
    have HOP := hide (Cn.openF_zero hop)
    have hi40 : il ≤ 40 := by rw [← HIL.out]; exact (tx_small g.hk).1
    clear hp0 hop g
    go_wp2_with (refine wpList_load_part 26 [.slice ia il ic, .slice oa ol oc, .int .i64 tt] w.heap.size 0 rfl (.tmp 4) rfl rfl (is_range HI1.out) Tryz.underlying26 rfl size_tx rfl ?_)
    refine (HCH.out _ HB1.out).mono ?_
    rintro e w2 ⟨rfl, hb2⟩
    have HI2 := hide (HI1.out.below hb2 HI1.out.lt)
    have HB2 := hide (HB1.out.trans (hb2.mono HB1.out.size))
    clear hb2 HCH
    go_wp2_with (refine wpList_load_part 26 [.slice ia il ic, .slice oa ol oc, .int .i64 tt] w.heap.size 0 rfl (.tmp 4) rfl rfl (is_range HI2.out) Tryz.underlying26 rfl size_tx rfl ?_)
    refine (HAP.out _ HB2.out).mono ?_
    rintro e w3 ⟨hap, hb3⟩
    have HI3 := hide (HI2.out.below hb3 HI2.out.lt)
    have HB3 := hide (HB2.out.trans (hb3.mono HB2.out.size))
    obtain ⟨v1, v2, X, S, rfl, hX, hXi, hS, hSi⟩ := ap_good HG.out hap
    obtain ⟨xa, xc, rfl, _, _⟩ := coins_form hX
    have hsl : S.length = t.ins.length := by have := HG.out.slen; rw [← hSi, List.length_map] at this; simpa [TxV.it] using this
    obtain ⟨sa, sc, rfl, hsm, hsr⟩ := coins_form hS
    have HSR := hide hsr
    have HSO := hide (fun x (hx : x ∈ S) W (hW : Below w3.heap.size w3 W) => (hS.below hW).2 x hx)
    have HSG := hide hSi
    have HTI := hide (HTG.out HG.out.hk)
    rw [hsl, HIL.out]
    have HSL : Hid (S.length = il) := hide (by rw [hsl, HIL.out])
    obtain ⟨q, hq⟩ : ∃ q, q = Cn.leftOf t.it h G := ⟨_, rfl⟩
    rw [← hq]
    have hct := HI3.out.cell 2
    simp only [List.getElem?_cons_zero, List.getElem?_cons_succ] at hct
    have HK3 := hide (Below.refl w3.heap.size w3)
    clear hap hb3 hX hXi hS hSi hsl hsr hsm hq HTG
    go_wp2_with (refine wpList_load_part 26 [.slice ia il ic, .slice oa ol oc, .int .i64 tt] w.heap.size 0 rfl (.tmp 4) rfl rfl (is_range HI3.out) Tryz.underlying26 rfl size_tx rfl ?_)
    refine (HTI.out _ HB3.out).mono ?_
    rintro e w4 ⟨rfl, hb4⟩
    have HI4 := hide (HI3.out.below hb4 HI3.out.lt)
    have HB4 := hide (HB3.out.trans (hb4.mono HB3.out.size))
    have HK4 := hide hb4
    clear hb4 HTI hct
    have hcN := HI4.out.cell 0
    simp only [List.getElem?_cons_zero, List.getElem?_cons_succ] at hcN
    have hne : ((il : Int) != (il : Int)) = false := by simp
    go_wp2_with (refine wpList_store_any3 34 ZD DV w4.heap.size rfl (.tmp 13) (.tmp 46) rfl rfl rfl rfl (Is.new w4 _ _) size_dig HZDL.out HDL.out HD1.out ?_; intro w5 hi5 hw5; have hb5 : Below w4.heap.size w4 w5 := (by rw [hw5]; exact ck_new); have HD5 := hide hi5; have HI5 := hide (HI4.out.below hb5 HI4.out.lt); have HB5 := hide (HB4.out.trans (hb5.mono HB4.out.size)); have HK5 := hide (HK4.out.trans (hb5.mono HK4.out.size)); have hcN5 := HI5.out.cell 0; simp only [List.getElem?_cons_zero, List.getElem?_cons_succ] at hcN5; clear hi5 hw5 hb5)
    clear hcN hcN5
    go_loopw [15] (fun i wr => ∃ k : Nat, k ≤ il ∧ i = .int .i64 k ∧ Hid (∀ j (h1 : j < S.length) (h2 : j < t.ins.length), j < k → Lk.run m h (opsOf S[j].L) (t.ins[j].K.map Prod.fst) = 0) ∧ Below w5.heap.size w5 wr) (fun i _ => il - (intOf i).toNat)
    case atStart => exact ⟨0, by omega, rfl, hide (fun j h1 h2 hj => absurd hj (by omega)), Below.refl _ _⟩
    case round =>
      obtain ⟨k, hk, rfl, HAH, hbel⟩ := hrel
      have HBEL := hide hbel
      have HIr := hide (HI5.out.below hbel HI5.out.lt)
      have HDr := hide (HD5.out.below hbel HD5.out.lt)
      have HBr := hide (HB5.out.trans (hbel.mono HB5.out.size))
      have HKr := hide (HK5.out.trans (hbel.mono HK5.out.size))
      clear hbel
      by_cases hltn : k < il
      · have hki : (k : Int) < (il : Int) := by omega
        have hlt : k < S.length := by rw [HSL.out]; exact hltn
        have hlt' : k < t.ins.length := by rw [HIL.out]; exact hltn
        obtain ⟨sb, so, rfl, hc1, hc2, hbs, hri⟩ := HSR.out k hlt
        rw [HSL.out] at hc1
        obtain ⟨b, off, rfl, hd1, hd2, hbw, _⟩ := HFT.out.ins k hlt' wr HBr.out
        rw [HIL.out] at hd1
        unfold maxLen at hc2 hd2
        obtain ⟨LX, hLX⟩ : ∃ v, v = S[k].lv := ⟨_, rfl⟩
        obtain ⟨KX, hKX⟩ : ∃ v, v = t.ins[k].kv := ⟨_, rfl⟩
        have hxo := HSO.out _ (List.getElem_mem hlt) wr HKr.out
        have hcL : wr.drew.cell? ⟨sb, so + k * 36 + 34, none⟩ = some LX := by
          have := (coin_range (range_keep hri HKr.out.drew hbs) hxo.1).2.2.2.1
          rw [hLX]; exact this
        have hcI : wr.drew.cell? ⟨w.heap.size, 0, none⟩ = some (.slice (some ⟨b, off, none⟩) il ic) := HIr.out.cell 0
        have hcK : wr.drew.cell? ⟨b, off + k * 34 + 33, none⟩ = some KX := by
          obtain ⟨b', off', e, _, _, _, hr⟩ := HFT.out.ins k hlt' wr.drew HBr.out.drew
          injection e with e; injection e with e1 e2; subst e1 e2
          rw [hKX]
          exact hr 33 _ (by rw [List.getElem?_append_right (by rw [vals_length, HFT.out.tx k hlt']; omega), vals_length, HFT.out.tx k hlt']; rfl)
        have HRD : Hid (wr.drew.rangeAt w4.heap.size 0 DV) := hide (is_range HDr.out.drew)
        have hlt1 : sb < wr.heap.size := Nat.lt_of_lt_of_le hbs HKr.out.size
        have hlt2 : w.heap.size < wr.heap.size := HIr.out.lt
        have hlt3 : b < wr.heap.size := Nat.lt_of_lt_of_le hbw HBr.out.size
        have hlt4 : w4.heap.size < wr.heap.size := HDr.out.lt
        obtain ⟨f, hf⟩ : ∃ f, f = Lk.run m h (opsOf S[k].L) (t.ins[k].K.map Prod.fst) := ⟨_, rfl⟩
        have HRU : Hid (∀ W, Below wr.heap.size wr W → Calls Tryz.prog 10 #[LX, KX, .agg DV.toArray, .int .i64 h] W fun e w' => e = .returned (errV f) ∧ Below W.heap.size W w') := hide (fun W hW => by
          rw [hLX, hKX, hf, HDVE.out]
          have hBW := HBr.out.trans (hW.mono HBr.out.size)
          exact run_any S[k].L t.ins[k].K _ _ m h W (HSO.out _ (List.getElem_mem hlt) W (HKr.out.trans (hW.mono HKr.out.size))).2.2 (HKY.out k hlt' W hBW) HML.out HMB.out (HTB.out W hBW) (HGL.out W hBW))
        have hcN := HIr.out.cell 0
        simp only [List.getElem?_cons_zero, List.getElem?_cons_succ] at hcN
        have HZ : Hid (Lk.run m h (opsOf S[k].L) (t.ins[k].K.map Prod.fst) = 0) := hide (by
          have := HOP.out k (by rw [← HSG.out, List.length_map]; exact hlt) (by simpa [TxV.it] using hlt')
          rw [← HME.out] at this
          have e1 : G[k]'(by rw [← HSG.out, List.length_map]; exact hlt) = S[k].it := by
            have e2 := congrArg (fun l => l[k]?) HSG.out
            simp only [List.getElem?_map, List.getElem?_eq_getElem hlt, Option.map_some] at e2
            exact (Option.some.inj (e2.trans (List.getElem?_eq_getElem (by rw [← HSG.out, List.length_map]; exact hlt)))).symm
          rw [e1] at this
          simpa [TxV.it, InV.it, CoinV.it] using this)
        have hf0 : f = 0 := by rw [hf]; exact HZ.out
        rw [hf0, show errV 0 = .nilIface from rfl] at HRU
        clear hLX hKX hxo hri hf hf0
        go_wp2_with fail
        refine wp_region_held_drew (S := fun W : World => W.cell? ⟨sb, so + k * 36 + 34, none⟩ = some LX ∧ W.cell? ⟨w.heap.size, 0, none⟩ = some (.slice (some ⟨b, off, none⟩) il ic) ∧ W.cell? ⟨b, off + k * 34 + 33, none⟩ = some KX ∧ W.rangeAt w4.heap.size 0 DV ∧ Hid (Below wr.heap.size wr W)) (by kernel_rfl) ?_ (fun hHeld0 => ?_)
        · exact ⟨hcL, hcI, hcK, HRD.out, hide (Below.refl _ _).drew⟩
        refine wpAnyH_take (i := 0) (v := ?_) rfl (by kernel_rfl) (by kernel_rfl) (by kernel_rfl) (fun _ _ _ h => h) (Or.inl ⟨by rfl, ?_⟩) hHeld0 ?_
        rotate_left
        · (intro w hSw; (try dsimp only at hSw); go_simp <;> (try with_reducible rfl))
        simp only [Act.put, List.getElem_toArray, List.getElem_cons_zero, List.getElem_cons_succ, List.setIfInBounds_toArray, List.set_cons_zero, List.set_cons_succ]
        refine wpAnyH_take (i := 1) (v := ?_) rfl (by kernel_rfl) (by kernel_rfl) (by kernel_rfl) (fun _ _ _ h => h) (Or.inl ⟨by rfl, ?_⟩) hHeld0 ?_
        rotate_left
        · (intro w hSw; (try dsimp only at hSw); go_simp <;> (try with_reducible rfl))
        simp only [Act.put, List.getElem_toArray, List.getElem_cons_zero, List.getElem_cons_succ, List.setIfInBounds_toArray, List.set_cons_zero, List.set_cons_succ]
        refine wpAnyH_take (i := 2) (v := ?_) rfl (by kernel_rfl) (by kernel_rfl) (by kernel_rfl) (fun _ _ _ h => h) (Or.inl ⟨by rfl, ?_⟩) hHeld0 ?_
        rotate_left
        · (intro w hSw; (try dsimp only at hSw); go_simp <;> (try with_reducible rfl))
        simp only [Act.put, List.getElem_toArray, List.getElem_cons_zero, List.getElem_cons_succ, List.setIfInBounds_toArray, List.set_cons_zero, List.set_cons_succ]
        refine wpAnyH_take (i := 3) (v := ?_) rfl (by kernel_rfl) (by kernel_rfl) (by kernel_rfl) (fun _ _ _ h => h) (Or.inl ⟨by rfl, ?_⟩) hHeld0 ?_
        rotate_left
        · (intro w hSw; (try dsimp only at hSw); go_simp <;> (try with_reducible rfl))
        simp only [Act.put, List.getElem_toArray, List.getElem_cons_zero, List.getElem_cons_succ, List.setIfInBounds_toArray, List.set_cons_zero, List.set_cons_succ]
        refine wpAnyH_take (i := 4) (v := ?_) rfl (by kernel_rfl) (by kernel_rfl) (by kernel_rfl) (fun _ _ _ h => h) (Or.inl ⟨by rfl, ?_⟩) hHeld0 ?_
        rotate_left
        · (intro w hSw; (try dsimp only at hSw); go_simp <;> (try with_reducible rfl))
        simp only [Act.put, List.getElem_toArray, List.getElem_cons_zero, List.getElem_cons_succ, List.setIfInBounds_toArray, List.set_cons_zero, List.set_cons_succ]
        refine wpAnyH_take (i := 5) (v := ?_) rfl (by kernel_rfl) (by kernel_rfl) (by kernel_rfl) (fun _ _ _ h => h) (Or.inl ⟨by rfl, ?_⟩) hHeld0 ?_
        rotate_left
        · (intro w hSw; (try dsimp only at hSw); go_simp <;> (try with_reducible rfl))
        simp only [Act.put, List.getElem_toArray, List.getElem_cons_zero, List.getElem_cons_succ, List.setIfInBounds_toArray, List.set_cons_zero, List.set_cons_succ]
        refine wpAnyH_take (i := 6) (v := ?_) rfl (by kernel_rfl) (by kernel_rfl) (by kernel_rfl) (fun _ _ _ h => h) (Or.inl ⟨by rfl, ?_⟩) hHeld0 ?_
        rotate_left
        · (intro w hSw; (try dsimp only at hSw); go_simp <;> (try with_reducible rfl))
        simp only [Act.put, List.getElem_toArray, List.getElem_cons_zero, List.getElem_cons_succ, List.setIfInBounds_toArray, List.set_cons_zero, List.set_cons_succ]
        refine wpAnyH_take (i := 7) (v := ?_) rfl (by kernel_rfl) (by kernel_rfl) (by kernel_rfl) (fun _ _ _ h => h) (Or.inl ⟨by rfl, ?_⟩) hHeld0 ?_
        rotate_left
        · (intro w hSw; (try dsimp only at hSw); go_simp <;> (try with_reducible rfl))
        simp only [Act.put, List.getElem_toArray, List.getElem_cons_zero, List.getElem_cons_succ, List.setIfInBounds_toArray, List.set_cons_zero, List.set_cons_succ]
        refine wpAnyH_take (i := 8) (v := ?_) rfl (by kernel_rfl) (by kernel_rfl) (by kernel_rfl) (fun _ _ _ h => h) (Or.inl ⟨by rfl, ?_⟩) hHeld0 ?_
        rotate_left
        · (intro w hSw; (try dsimp only at hSw); go_simp <;> (try with_reducible rfl))
        simp only [Act.put, List.getElem_toArray, List.getElem_cons_zero, List.getElem_cons_succ, List.setIfInBounds_toArray, List.set_cons_zero, List.set_cons_succ]
        refine wpAnyH_take (i := 9) (v := ?_) rfl (by kernel_rfl) (by kernel_rfl) (by kernel_rfl) (fun _ _ _ h => h) (Or.inl ⟨by rfl, ?_⟩) hHeld0 ?_
        rotate_left
        · (intro w hSw; (try dsimp only at hSw); go_simp <;> (try with_reducible rfl))
        simp only [Act.put, List.getElem_toArray, List.getElem_cons_zero, List.getElem_cons_succ, List.setIfInBounds_toArray, List.set_cons_zero, List.set_cons_succ]
        refine wpAnyH_take (i := 10) (v := ?_) rfl (by kernel_rfl) (by kernel_rfl) (by kernel_rfl) (fun _ _ _ h => h) (Or.inl ⟨by rfl, ?_⟩) hHeld0 ?_
        rotate_left
        · (intro w hSw; (try dsimp only at hSw); go_simp <;> (try with_reducible rfl))
        simp only [Act.put, List.getElem_toArray, List.getElem_cons_zero, List.getElem_cons_succ, List.setIfInBounds_toArray, List.set_cons_zero, List.set_cons_succ]
        refine wpAnyH_take (i := 11) (v := ?_) rfl (by kernel_rfl) (by kernel_rfl) (by kernel_rfl) (fun _ _ _ h => h) (Or.inl ⟨by rfl, ?_⟩) hHeld0 ?_
        rotate_left
        · (intro w hSw; (try dsimp only at hSw); go_simp <;> (try with_reducible rfl))
        simp only [Act.put, List.getElem_toArray, List.getElem_cons_zero, List.getElem_cons_succ, List.setIfInBounds_toArray, List.set_cons_zero, List.set_cons_succ]
        refine wpAnyH_take (i := 12) (v := .agg (DV).toArray) rfl (by kernel_rfl) (by kernel_rfl) (by kernel_rfl) (fun _ _ _ h => h) (yieldsIf_load_mid (by rfl) _ _ rfl _ _ rfl (DV) _ (fun w hSw => hSw.2.2.2.1) Tryz.underlying34 rfl hszd) hHeld0 ?_
        simp only [Act.put, List.getElem_toArray, List.getElem_cons_zero, List.getElem_cons_succ, List.setIfInBounds_toArray, List.set_cons_zero, List.set_cons_succ]
        refine wpAnyH_take (i := 13) (v := ?_) rfl (by kernel_rfl) (by kernel_rfl) (by kernel_rfl) (fun _ _ _ h => h) (Or.inl ⟨by rfl, ?_⟩) hHeld0 ?_
        rotate_left
        · (intro w hSw; (try dsimp only at hSw); go_simp <;> (try with_reducible rfl))
        simp only [Act.put, List.getElem_toArray, List.getElem_cons_zero, List.getElem_cons_succ, List.setIfInBounds_toArray, List.set_cons_zero, List.set_cons_succ]
        refine wpAnyH_ready (rs := [14]) (by kernel_rfl) (by simp) ?_
        refine AllReadyH.cons rfl (fun K hK => ?_) AllReadyH.nil
        go_simp
        go_wp2_with ((go_at_call 10; refine (HRU.out _ hHeld0.2.2.2.2.out).mono ?_; rintro e W6 ⟨rfl, hb6⟩))
        refine hK.out _ _ (by exact ⟨cn_cellS hHeld0.1 hb6 hHeld0.2.2.2.2.out hlt1, cn_cellS hHeld0.2.1 hb6 hHeld0.2.2.2.2.out hlt2, cn_cellS hHeld0.2.2.1 hb6 hHeld0.2.2.2.2.out hlt3, range_keep hHeld0.2.2.2.1 hb6 (Nat.lt_of_lt_of_le hlt4 hHeld0.2.2.2.2.out.size), hide (hHeld0.2.2.2.2.out.trans (hb6.mono hHeld0.2.2.2.2.out.size))⟩) (fun hHeld1 => ?_)
        clear hK K hHeld0
        try simp only [Act.put, List.getElem_toArray, List.getElem_cons_zero, List.getElem_cons_succ, List.setIfInBounds_toArray, List.set_cons_zero, List.set_cons_succ]
        refine wpAnyH_take (i := 15) (v := ?_) rfl (by kernel_rfl) (by kernel_rfl) (by kernel_rfl) (fun _ _ _ h => h) (Or.inl ⟨by rfl, ?_⟩) hHeld1 ?_
        rotate_left
        · (intro w hSw; (try dsimp only at hSw); go_simp <;> (try with_reducible rfl))
        simp only [Act.put, List.getElem_toArray, List.getElem_cons_zero, List.getElem_cons_succ, List.setIfInBounds_toArray, List.set_cons_zero, List.set_cons_succ]
        refine wpAnyH_done (by kernel_rfl) ?_ _
        have HC6 := hide (hHeld1.2.2.2.2.out)
        clear hHeld1 hcL hcI hcK
        go_wp2
        go_roundw
        case rel => exact ⟨k + 1, by omega, by go_num, hide (fun j h1 h2 hj => (if ej : j = k then by subst ej; exact HZ.out else HAH.out j h1 h2 (by omega))), HBEL.out.trans (HC6.out.mono HBEL.out.size)⟩
        case measure => simp [intOf]; omega
      · have hki : ¬ (k : Int) < (il : Int) := by omega
        go_wp2
        go_ret
        exact ⟨rfl, HBr.out⟩
  · rw [errV_ne hp0] at HCH
    have HPN : Hid ((Cn.paid (R.map CoinV.it) t.it h).e ≠ 0) := hide (by rw [HP.out]; exact hp0)
    clear hp0 HP
    go_wp2_with (refine wpList_load_part 26 [.slice ia il ic, .slice oa ol oc, .int .i64 tt] w.heap.size 0 rfl (.tmp 4) rfl rfl (is_range HI1.out) Tryz.underlying26 rfl size_tx rfl ?_)
    refine (HCH.out _ HB1.out).mono ?_
    rintro e w2 ⟨rfl, hb2⟩
    have HI2 := hide (HI1.out.below hb2 HI1.out.lt)
    have HB2 := hide (HB1.out.trans (hb2.mono HB1.out.size))
    clear hb2 HCH
    go_wp2_with (refine wpList_load_part 26 [.slice ia il ic, .slice oa ol oc, .int .i64 tt] w.heap.size 0 rfl (.tmp 4) rfl rfl (is_range HI2.out) Tryz.underlying26 rfl size_tx rfl ?_)
    refine (HAP.out _ HB2.out).mono ?_
    rintro e w3 ⟨hap, hb3⟩
    have HI3 := hide (HI2.out.below hb3 HI2.out.lt)
    have HB3 := hide (HB2.out.trans (hb3.mono HB2.out.size))
    rcases ap_cases hap with ⟨_, c, rfl⟩ | ⟨v1, v2, X, S, G, g, rfl, hX, hXi, hS, hSi⟩
    · unfold BadV
      clear hap hb3
      go_wp2
      go_ret
      exact ⟨rfl, HB3.out⟩
    · have HG := hide g
      have hi40 : il ≤ 40 := by rw [← HIL.out]; exact (tx_small g.hk).1
      have hct := HI3.out.cell 2
      simp only [List.getElem?_cons_zero, List.getElem?_cons_succ] at hct
      by_cases htl : h < tt
      · obtain ⟨xa, xc, rfl, _, _⟩ := coins_form hX
        clear hap hb3 hX hXi hS hSi g
        go_wp2
        go_ret
        exact ⟨rfl, HB3.out⟩
      · clear g
        obtain ⟨xa, xc, rfl, _, _⟩ := coins_form hX
        have hsl : S.length = t.ins.length := by have := HG.out.slen; rw [← hSi, List.length_map] at this; simpa [TxV.it] using this
        obtain ⟨sa, sc, rfl, hsm, hsr⟩ := coins_form hS
        have HSR := hide hsr
        have HSO := hide (fun x (hx : x ∈ S) W (hW : Below w3.heap.size w3 W) => (hS.below hW).2 x hx)
        have HSG := hide hSi
        have HTI := hide (HTG.out HG.out.hk)
        rw [hsl, HIL.out]
        have HSL : Hid (S.length = il) := hide (by rw [hsl, HIL.out])
        obtain ⟨q, hq⟩ : ∃ q, q = Cn.leftOf t.it h G := ⟨_, rfl⟩
        rw [← hq]
        have hct := HI3.out.cell 2
        simp only [List.getElem?_cons_zero, List.getElem?_cons_succ] at hct
        have HK3 := hide (Below.refl w3.heap.size w3)
        clear hap hb3 hX hXi hS hSi hsl hsr hsm hq HTG
        go_wp2_with (refine wpList_load_part 26 [.slice ia il ic, .slice oa ol oc, .int .i64 tt] w.heap.size 0 rfl (.tmp 4) rfl rfl (is_range HI3.out) Tryz.underlying26 rfl size_tx rfl ?_)
        refine (HTI.out _ HB3.out).mono ?_
        rintro e w4 ⟨rfl, hb4⟩
        have HI4 := hide (HI3.out.below hb4 HI3.out.lt)
        have HB4 := hide (HB3.out.trans (hb4.mono HB3.out.size))
        have HK4 := hide hb4
        clear hb4 HTI hct
        have hcN := HI4.out.cell 0
        simp only [List.getElem?_cons_zero, List.getElem?_cons_succ] at hcN
        have hne : ((il : Int) != (il : Int)) = false := by simp
        go_wp2_with (refine wpList_store_any3 34 ZD DV w4.heap.size rfl (.tmp 13) (.tmp 46) rfl rfl rfl rfl (Is.new w4 _ _) size_dig HZDL.out HDL.out HD1.out ?_; intro w5 hi5 hw5; have hb5 : Below w4.heap.size w4 w5 := (by rw [hw5]; exact ck_new); have HD5 := hide hi5; have HI5 := hide (HI4.out.below hb5 HI4.out.lt); have HB5 := hide (HB4.out.trans (hb5.mono HB4.out.size)); have HK5 := hide (HK4.out.trans (hb5.mono HK4.out.size)); have hcN5 := HI5.out.cell 0; simp only [List.getElem?_cons_zero, List.getElem?_cons_succ] at hcN5; clear hi5 hw5 hb5)
        clear hcN hcN5
        go_loopw [15] (fun i wr => ∃ k : Nat, k ≤ il ∧ i = .int .i64 k ∧ Hid (∀ j (h1 : j < S.length) (h2 : j < t.ins.length), j < k → Lk.run m h (opsOf S[j].L) (t.ins[j].K.map Prod.fst) = 0) ∧ Below w5.heap.size w5 wr) (fun i _ => il - (intOf i).toNat)
        case atStart => exact ⟨0, by omega, rfl, hide (fun j h1 h2 hj => absurd hj (by omega)), Below.refl _ _⟩
        case round =>
          obtain ⟨k, hk, rfl, HAH, hbel⟩ := hrel
          have HBEL := hide hbel
          have HIr := hide (HI5.out.below hbel HI5.out.lt)
          have HDr := hide (HD5.out.below hbel HD5.out.lt)
          have HBr := hide (HB5.out.trans (hbel.mono HB5.out.size))
          have HKr := hide (HK5.out.trans (hbel.mono HK5.out.size))
          clear hbel
          by_cases hltn : k < il
          · have hki : (k : Int) < (il : Int) := by omega
            have hlt : k < S.length := by rw [HSL.out]; exact hltn
            have hlt' : k < t.ins.length := by rw [HIL.out]; exact hltn
            obtain ⟨sb, so, rfl, hc1, hc2, hbs, hri⟩ := HSR.out k hlt
            rw [HSL.out] at hc1
            obtain ⟨b, off, rfl, hd1, hd2, hbw, _⟩ := HFT.out.ins k hlt' wr HBr.out
            rw [HIL.out] at hd1
            unfold maxLen at hc2 hd2
            obtain ⟨LX, hLX⟩ : ∃ v, v = S[k].lv := ⟨_, rfl⟩
            obtain ⟨KX, hKX⟩ : ∃ v, v = t.ins[k].kv := ⟨_, rfl⟩
            have hxo := HSO.out _ (List.getElem_mem hlt) wr HKr.out
            have hcL : wr.drew.cell? ⟨sb, so + k * 36 + 34, none⟩ = some LX := by
              have := (coin_range (range_keep hri HKr.out.drew hbs) hxo.1).2.2.2.1
              rw [hLX]; exact this
            have hcI : wr.drew.cell? ⟨w.heap.size, 0, none⟩ = some (.slice (some ⟨b, off, none⟩) il ic) := HIr.out.cell 0
            have hcK : wr.drew.cell? ⟨b, off + k * 34 + 33, none⟩ = some KX := by
              obtain ⟨b', off', e, _, _, _, hr⟩ := HFT.out.ins k hlt' wr.drew HBr.out.drew
              injection e with e; injection e with e1 e2; subst e1 e2
              rw [hKX]
              exact hr 33 _ (by rw [List.getElem?_append_right (by rw [vals_length, HFT.out.tx k hlt']; omega), vals_length, HFT.out.tx k hlt']; rfl)
            have HRD : Hid (wr.drew.rangeAt w4.heap.size 0 DV) := hide (is_range HDr.out.drew)
            have hlt1 : sb < wr.heap.size := Nat.lt_of_lt_of_le hbs HKr.out.size
            have hlt2 : w.heap.size < wr.heap.size := HIr.out.lt
            have hlt3 : b < wr.heap.size := Nat.lt_of_lt_of_le hbw HBr.out.size
            have hlt4 : w4.heap.size < wr.heap.size := HDr.out.lt
            obtain ⟨f, hf⟩ : ∃ f, f = Lk.run m h (opsOf S[k].L) (t.ins[k].K.map Prod.fst) := ⟨_, rfl⟩
            have HRU : Hid (∀ W, Below wr.heap.size wr W → Calls Tryz.prog 10 #[LX, KX, .agg DV.toArray, .int .i64 h] W fun e w' => e = .returned (errV f) ∧ Below W.heap.size W w') := hide (fun W hW => by
              rw [hLX, hKX, hf, HDVE.out]
              have hBW := HBr.out.trans (hW.mono HBr.out.size)
              exact run_any S[k].L t.ins[k].K _ _ m h W (HSO.out _ (List.getElem_mem hlt) W (HKr.out.trans (hW.mono HKr.out.size))).2.2 (HKY.out k hlt' W hBW) HML.out HMB.out (HTB.out W hBW) (HGL.out W hBW))
            have hcN := HIr.out.cell 0
            simp only [List.getElem?_cons_zero, List.getElem?_cons_succ] at hcN
            by_cases hf0 : f = 0
            · have HZ : Hid (Lk.run m h (opsOf S[k].L) (t.ins[k].K.map Prod.fst) = 0) := hide (by rw [← hf]; exact hf0)
              rw [hf0, show errV 0 = .nilIface from rfl] at HRU
              clear hLX hKX hxo hri hf hf0
              go_wp2_with fail
              refine wp_region_held_drew (S := fun W : World => W.cell? ⟨sb, so + k * 36 + 34, none⟩ = some LX ∧ W.cell? ⟨w.heap.size, 0, none⟩ = some (.slice (some ⟨b, off, none⟩) il ic) ∧ W.cell? ⟨b, off + k * 34 + 33, none⟩ = some KX ∧ W.rangeAt w4.heap.size 0 DV ∧ Hid (Below wr.heap.size wr W)) (by kernel_rfl) ?_ (fun hHeld0 => ?_)
              · exact ⟨hcL, hcI, hcK, HRD.out, hide (Below.refl _ _).drew⟩
              refine wpAnyH_take (i := 0) (v := ?_) rfl (by kernel_rfl) (by kernel_rfl) (by kernel_rfl) (fun _ _ _ h => h) (Or.inl ⟨by rfl, ?_⟩) hHeld0 ?_
              rotate_left
              · (intro w hSw; (try dsimp only at hSw); go_simp <;> (try with_reducible rfl))
              simp only [Act.put, List.getElem_toArray, List.getElem_cons_zero, List.getElem_cons_succ, List.setIfInBounds_toArray, List.set_cons_zero, List.set_cons_succ]
              refine wpAnyH_take (i := 1) (v := ?_) rfl (by kernel_rfl) (by kernel_rfl) (by kernel_rfl) (fun _ _ _ h => h) (Or.inl ⟨by rfl, ?_⟩) hHeld0 ?_
              rotate_left
              · (intro w hSw; (try dsimp only at hSw); go_simp <;> (try with_reducible rfl))
              simp only [Act.put, List.getElem_toArray, List.getElem_cons_zero, List.getElem_cons_succ, List.setIfInBounds_toArray, List.set_cons_zero, List.set_cons_succ]
              refine wpAnyH_take (i := 2) (v := ?_) rfl (by kernel_rfl) (by kernel_rfl) (by kernel_rfl) (fun _ _ _ h => h) (Or.inl ⟨by rfl, ?_⟩) hHeld0 ?_
              rotate_left
              · (intro w hSw; (try dsimp only at hSw); go_simp <;> (try with_reducible rfl))
              simp only [Act.put, List.getElem_toArray, List.getElem_cons_zero, List.getElem_cons_succ, List.setIfInBounds_toArray, List.set_cons_zero, List.set_cons_succ]
              refine wpAnyH_take (i := 3) (v := ?_) rfl (by kernel_rfl) (by kernel_rfl) (by kernel_rfl) (fun _ _ _ h => h) (Or.inl ⟨by rfl, ?_⟩) hHeld0 ?_
              rotate_left
              · (intro w hSw; (try dsimp only at hSw); go_simp <;> (try with_reducible rfl))
              simp only [Act.put, List.getElem_toArray, List.getElem_cons_zero, List.getElem_cons_succ, List.setIfInBounds_toArray, List.set_cons_zero, List.set_cons_succ]
              refine wpAnyH_take (i := 4) (v := ?_) rfl (by kernel_rfl) (by kernel_rfl) (by kernel_rfl) (fun _ _ _ h => h) (Or.inl ⟨by rfl, ?_⟩) hHeld0 ?_
              rotate_left
              · (intro w hSw; (try dsimp only at hSw); go_simp <;> (try with_reducible rfl))
              simp only [Act.put, List.getElem_toArray, List.getElem_cons_zero, List.getElem_cons_succ, List.setIfInBounds_toArray, List.set_cons_zero, List.set_cons_succ]
              refine wpAnyH_take (i := 5) (v := ?_) rfl (by kernel_rfl) (by kernel_rfl) (by kernel_rfl) (fun _ _ _ h => h) (Or.inl ⟨by rfl, ?_⟩) hHeld0 ?_
              rotate_left
              · (intro w hSw; (try dsimp only at hSw); go_simp <;> (try with_reducible rfl))
              simp only [Act.put, List.getElem_toArray, List.getElem_cons_zero, List.getElem_cons_succ, List.setIfInBounds_toArray, List.set_cons_zero, List.set_cons_succ]
              refine wpAnyH_take (i := 6) (v := ?_) rfl (by kernel_rfl) (by kernel_rfl) (by kernel_rfl) (fun _ _ _ h => h) (Or.inl ⟨by rfl, ?_⟩) hHeld0 ?_
              rotate_left
              · (intro w hSw; (try dsimp only at hSw); go_simp <;> (try with_reducible rfl))
              simp only [Act.put, List.getElem_toArray, List.getElem_cons_zero, List.getElem_cons_succ, List.setIfInBounds_toArray, List.set_cons_zero, List.set_cons_succ]
              refine wpAnyH_take (i := 7) (v := ?_) rfl (by kernel_rfl) (by kernel_rfl) (by kernel_rfl) (fun _ _ _ h => h) (Or.inl ⟨by rfl, ?_⟩) hHeld0 ?_
              rotate_left
              · (intro w hSw; (try dsimp only at hSw); go_simp <;> (try with_reducible rfl))
              simp only [Act.put, List.getElem_toArray, List.getElem_cons_zero, List.getElem_cons_succ, List.setIfInBounds_toArray, List.set_cons_zero, List.set_cons_succ]
              refine wpAnyH_take (i := 8) (v := ?_) rfl (by kernel_rfl) (by kernel_rfl) (by kernel_rfl) (fun _ _ _ h => h) (Or.inl ⟨by rfl, ?_⟩) hHeld0 ?_
              rotate_left
              · (intro w hSw; (try dsimp only at hSw); go_simp <;> (try with_reducible rfl))
              simp only [Act.put, List.getElem_toArray, List.getElem_cons_zero, List.getElem_cons_succ, List.setIfInBounds_toArray, List.set_cons_zero, List.set_cons_succ]
              refine wpAnyH_take (i := 9) (v := ?_) rfl (by kernel_rfl) (by kernel_rfl) (by kernel_rfl) (fun _ _ _ h => h) (Or.inl ⟨by rfl, ?_⟩) hHeld0 ?_
              rotate_left
              · (intro w hSw; (try dsimp only at hSw); go_simp <;> (try with_reducible rfl))
              simp only [Act.put, List.getElem_toArray, List.getElem_cons_zero, List.getElem_cons_succ, List.setIfInBounds_toArray, List.set_cons_zero, List.set_cons_succ]
              refine wpAnyH_take (i := 10) (v := ?_) rfl (by kernel_rfl) (by kernel_rfl) (by kernel_rfl) (fun _ _ _ h => h) (Or.inl ⟨by rfl, ?_⟩) hHeld0 ?_
              rotate_left
              · (intro w hSw; (try dsimp only at hSw); go_simp <;> (try with_reducible rfl))
              simp only [Act.put, List.getElem_toArray, List.getElem_cons_zero, List.getElem_cons_succ, List.setIfInBounds_toArray, List.set_cons_zero, List.set_cons_succ]
              refine wpAnyH_take (i := 11) (v := ?_) rfl (by kernel_rfl) (by kernel_rfl) (by kernel_rfl) (fun _ _ _ h => h) (Or.inl ⟨by rfl, ?_⟩) hHeld0 ?_
              rotate_left
              · (intro w hSw; (try dsimp only at hSw); go_simp <;> (try with_reducible rfl))
              simp only [Act.put, List.getElem_toArray, List.getElem_cons_zero, List.getElem_cons_succ, List.setIfInBounds_toArray, List.set_cons_zero, List.set_cons_succ]
              refine wpAnyH_take (i := 12) (v := .agg (DV).toArray) rfl (by kernel_rfl) (by kernel_rfl) (by kernel_rfl) (fun _ _ _ h => h) (yieldsIf_load_mid (by rfl) _ _ rfl _ _ rfl (DV) _ (fun w hSw => hSw.2.2.2.1) Tryz.underlying34 rfl hszd) hHeld0 ?_
              simp only [Act.put, List.getElem_toArray, List.getElem_cons_zero, List.getElem_cons_succ, List.setIfInBounds_toArray, List.set_cons_zero, List.set_cons_succ]
              refine wpAnyH_take (i := 13) (v := ?_) rfl (by kernel_rfl) (by kernel_rfl) (by kernel_rfl) (fun _ _ _ h => h) (Or.inl ⟨by rfl, ?_⟩) hHeld0 ?_
              rotate_left
              · (intro w hSw; (try dsimp only at hSw); go_simp <;> (try with_reducible rfl))
              simp only [Act.put, List.getElem_toArray, List.getElem_cons_zero, List.getElem_cons_succ, List.setIfInBounds_toArray, List.set_cons_zero, List.set_cons_succ]
              refine wpAnyH_ready (rs := [14]) (by kernel_rfl) (by simp) ?_
              refine AllReadyH.cons rfl (fun K hK => ?_) AllReadyH.nil
              go_simp
              go_wp2_with ((go_at_call 10; refine (HRU.out _ hHeld0.2.2.2.2.out).mono ?_; rintro e W6 ⟨rfl, hb6⟩))
              refine hK.out _ _ (by exact ⟨cn_cellS hHeld0.1 hb6 hHeld0.2.2.2.2.out hlt1, cn_cellS hHeld0.2.1 hb6 hHeld0.2.2.2.2.out hlt2, cn_cellS hHeld0.2.2.1 hb6 hHeld0.2.2.2.2.out hlt3, range_keep hHeld0.2.2.2.1 hb6 (Nat.lt_of_lt_of_le hlt4 hHeld0.2.2.2.2.out.size), hide (hHeld0.2.2.2.2.out.trans (hb6.mono hHeld0.2.2.2.2.out.size))⟩) (fun hHeld1 => ?_)
              clear hK K hHeld0
              try simp only [Act.put, List.getElem_toArray, List.getElem_cons_zero, List.getElem_cons_succ, List.setIfInBounds_toArray, List.set_cons_zero, List.set_cons_succ]
              refine wpAnyH_take (i := 15) (v := ?_) rfl (by kernel_rfl) (by kernel_rfl) (by kernel_rfl) (fun _ _ _ h => h) (Or.inl ⟨by rfl, ?_⟩) hHeld1 ?_
              rotate_left
              · (intro w hSw; (try dsimp only at hSw); go_simp <;> (try with_reducible rfl))
              simp only [Act.put, List.getElem_toArray, List.getElem_cons_zero, List.getElem_cons_succ, List.setIfInBounds_toArray, List.set_cons_zero, List.set_cons_succ]
              refine wpAnyH_done (by kernel_rfl) ?_ _
              have HC6 := hide (hHeld1.2.2.2.2.out)
              clear hHeld1 hcL hcI hcK
              go_wp2
              go_roundw
              case rel => exact ⟨k + 1, by omega, by go_num, hide (fun j h1 h2 hj => (if ej : j = k then by subst ej; exact HZ.out else HAH.out j h1 h2 (by omega))), HBEL.out.trans (HC6.out.mono HBEL.out.size)⟩
              case measure => simp [intOf]; omega
            · rw [errV_ne hf0] at HRU
              clear hLX hKX hxo hri hf hf0
              go_wp2_with fail
              refine wp_region_held_drew (S := fun W : World => W.cell? ⟨sb, so + k * 36 + 34, none⟩ = some LX ∧ W.cell? ⟨w.heap.size, 0, none⟩ = some (.slice (some ⟨b, off, none⟩) il ic) ∧ W.cell? ⟨b, off + k * 34 + 33, none⟩ = some KX ∧ W.rangeAt w4.heap.size 0 DV ∧ Hid (Below wr.heap.size wr W)) (by kernel_rfl) ?_ (fun hHeld0 => ?_)
              · exact ⟨hcL, hcI, hcK, HRD.out, hide (Below.refl _ _).drew⟩
              refine wpAnyH_take (i := 0) (v := ?_) rfl (by kernel_rfl) (by kernel_rfl) (by kernel_rfl) (fun _ _ _ h => h) (Or.inl ⟨by rfl, ?_⟩) hHeld0 ?_
              rotate_left
              · (intro w hSw; (try dsimp only at hSw); go_simp <;> (try with_reducible rfl))
              simp only [Act.put, List.getElem_toArray, List.getElem_cons_zero, List.getElem_cons_succ, List.setIfInBounds_toArray, List.set_cons_zero, List.set_cons_succ]
              refine wpAnyH_take (i := 1) (v := ?_) rfl (by kernel_rfl) (by kernel_rfl) (by kernel_rfl) (fun _ _ _ h => h) (Or.inl ⟨by rfl, ?_⟩) hHeld0 ?_
              rotate_left
              · (intro w hSw; (try dsimp only at hSw); go_simp <;> (try with_reducible rfl))
              simp only [Act.put, List.getElem_toArray, List.getElem_cons_zero, List.getElem_cons_succ, List.setIfInBounds_toArray, List.set_cons_zero, List.set_cons_succ]
              refine wpAnyH_take (i := 2) (v := ?_) rfl (by kernel_rfl) (by kernel_rfl) (by kernel_rfl) (fun _ _ _ h => h) (Or.inl ⟨by rfl, ?_⟩) hHeld0 ?_
              rotate_left
              · (intro w hSw; (try dsimp only at hSw); go_simp <;> (try with_reducible rfl))
              simp only [Act.put, List.getElem_toArray, List.getElem_cons_zero, List.getElem_cons_succ, List.setIfInBounds_toArray, List.set_cons_zero, List.set_cons_succ]
              refine wpAnyH_take (i := 3) (v := ?_) rfl (by kernel_rfl) (by kernel_rfl) (by kernel_rfl) (fun _ _ _ h => h) (Or.inl ⟨by rfl, ?_⟩) hHeld0 ?_
              rotate_left
              · (intro w hSw; (try dsimp only at hSw); go_simp <;> (try with_reducible rfl))
              simp only [Act.put, List.getElem_toArray, List.getElem_cons_zero, List.getElem_cons_succ, List.setIfInBounds_toArray, List.set_cons_zero, List.set_cons_succ]
              refine wpAnyH_take (i := 4) (v := ?_) rfl (by kernel_rfl) (by kernel_rfl) (by kernel_rfl) (fun _ _ _ h => h) (Or.inl ⟨by rfl, ?_⟩) hHeld0 ?_
              rotate_left
              · (intro w hSw; (try dsimp only at hSw); go_simp <;> (try with_reducible rfl))
              simp only [Act.put, List.getElem_toArray, List.getElem_cons_zero, List.getElem_cons_succ, List.setIfInBounds_toArray, List.set_cons_zero, List.set_cons_succ]
              refine wpAnyH_take (i := 5) (v := ?_) rfl (by kernel_rfl) (by kernel_rfl) (by kernel_rfl) (fun _ _ _ h => h) (Or.inl ⟨by rfl, ?_⟩) hHeld0 ?_
              rotate_left
              · (intro w hSw; (try dsimp only at hSw); go_simp <;> (try with_reducible rfl))
              simp only [Act.put, List.getElem_toArray, List.getElem_cons_zero, List.getElem_cons_succ, List.setIfInBounds_toArray, List.set_cons_zero, List.set_cons_succ]
              refine wpAnyH_take (i := 6) (v := ?_) rfl (by kernel_rfl) (by kernel_rfl) (by kernel_rfl) (fun _ _ _ h => h) (Or.inl ⟨by rfl, ?_⟩) hHeld0 ?_
              rotate_left
              · (intro w hSw; (try dsimp only at hSw); go_simp <;> (try with_reducible rfl))
              simp only [Act.put, List.getElem_toArray, List.getElem_cons_zero, List.getElem_cons_succ, List.setIfInBounds_toArray, List.set_cons_zero, List.set_cons_succ]
              refine wpAnyH_take (i := 7) (v := ?_) rfl (by kernel_rfl) (by kernel_rfl) (by kernel_rfl) (fun _ _ _ h => h) (Or.inl ⟨by rfl, ?_⟩) hHeld0 ?_
              rotate_left
              · (intro w hSw; (try dsimp only at hSw); go_simp <;> (try with_reducible rfl))
              simp only [Act.put, List.getElem_toArray, List.getElem_cons_zero, List.getElem_cons_succ, List.setIfInBounds_toArray, List.set_cons_zero, List.set_cons_succ]
              refine wpAnyH_take (i := 8) (v := ?_) rfl (by kernel_rfl) (by kernel_rfl) (by kernel_rfl) (fun _ _ _ h => h) (Or.inl ⟨by rfl, ?_⟩) hHeld0 ?_
              rotate_left
              · (intro w hSw; (try dsimp only at hSw); go_simp <;> (try with_reducible rfl))
              simp only [Act.put, List.getElem_toArray, List.getElem_cons_zero, List.getElem_cons_succ, List.setIfInBounds_toArray, List.set_cons_zero, List.set_cons_succ]
              refine wpAnyH_take (i := 9) (v := ?_) rfl (by kernel_rfl) (by kernel_rfl) (by kernel_rfl) (fun _ _ _ h => h) (Or.inl ⟨by rfl, ?_⟩) hHeld0 ?_
              rotate_left
              · (intro w hSw; (try dsimp only at hSw); go_simp <;> (try with_reducible rfl))
              simp only [Act.put, List.getElem_toArray, List.getElem_cons_zero, List.getElem_cons_succ, List.setIfInBounds_toArray, List.set_cons_zero, List.set_cons_succ]
              refine wpAnyH_take (i := 10) (v := ?_) rfl (by kernel_rfl) (by kernel_rfl) (by kernel_rfl) (fun _ _ _ h => h) (Or.inl ⟨by rfl, ?_⟩) hHeld0 ?_
              rotate_left
              · (intro w hSw; (try dsimp only at hSw); go_simp <;> (try with_reducible rfl))
              simp only [Act.put, List.getElem_toArray, List.getElem_cons_zero, List.getElem_cons_succ, List.setIfInBounds_toArray, List.set_cons_zero, List.set_cons_succ]
              refine wpAnyH_take (i := 11) (v := ?_) rfl (by kernel_rfl) (by kernel_rfl) (by kernel_rfl) (fun _ _ _ h => h) (Or.inl ⟨by rfl, ?_⟩) hHeld0 ?_
              rotate_left
              · (intro w hSw; (try dsimp only at hSw); go_simp <;> (try with_reducible rfl))
              simp only [Act.put, List.getElem_toArray, List.getElem_cons_zero, List.getElem_cons_succ, List.setIfInBounds_toArray, List.set_cons_zero, List.set_cons_succ]
              refine wpAnyH_take (i := 12) (v := .agg (DV).toArray) rfl (by kernel_rfl) (by kernel_rfl) (by kernel_rfl) (fun _ _ _ h => h) (yieldsIf_load_mid (by rfl) _ _ rfl _ _ rfl (DV) _ (fun w hSw => hSw.2.2.2.1) Tryz.underlying34 rfl hszd) hHeld0 ?_
              simp only [Act.put, List.getElem_toArray, List.getElem_cons_zero, List.getElem_cons_succ, List.setIfInBounds_toArray, List.set_cons_zero, List.set_cons_succ]
              refine wpAnyH_take (i := 13) (v := ?_) rfl (by kernel_rfl) (by kernel_rfl) (by kernel_rfl) (fun _ _ _ h => h) (Or.inl ⟨by rfl, ?_⟩) hHeld0 ?_
              rotate_left
              · (intro w hSw; (try dsimp only at hSw); go_simp <;> (try with_reducible rfl))
              simp only [Act.put, List.getElem_toArray, List.getElem_cons_zero, List.getElem_cons_succ, List.setIfInBounds_toArray, List.set_cons_zero, List.set_cons_succ]
              refine wpAnyH_ready (rs := [14]) (by kernel_rfl) (by simp) ?_
              refine AllReadyH.cons rfl (fun K hK => ?_) AllReadyH.nil
              go_simp
              go_wp2_with ((go_at_call 10; refine (HRU.out _ hHeld0.2.2.2.2.out).mono ?_; rintro e W6 ⟨rfl, hb6⟩))
              refine hK.out _ _ (by exact ⟨cn_cellS hHeld0.1 hb6 hHeld0.2.2.2.2.out hlt1, cn_cellS hHeld0.2.1 hb6 hHeld0.2.2.2.2.out hlt2, cn_cellS hHeld0.2.2.1 hb6 hHeld0.2.2.2.2.out hlt3, range_keep hHeld0.2.2.2.1 hb6 (Nat.lt_of_lt_of_le hlt4 hHeld0.2.2.2.2.out.size), hide (hHeld0.2.2.2.2.out.trans (hb6.mono hHeld0.2.2.2.2.out.size))⟩) (fun hHeld1 => ?_)
              clear hK K hHeld0
              try simp only [Act.put, List.getElem_toArray, List.getElem_cons_zero, List.getElem_cons_succ, List.setIfInBounds_toArray, List.set_cons_zero, List.set_cons_succ]
              refine wpAnyH_take (i := 15) (v := ?_) rfl (by kernel_rfl) (by kernel_rfl) (by kernel_rfl) (fun _ _ _ h => h) (Or.inl ⟨by rfl, ?_⟩) hHeld1 ?_
              rotate_left
              · (intro w hSw; (try dsimp only at hSw); go_simp <;> (try with_reducible rfl))
              simp only [Act.put, List.getElem_toArray, List.getElem_cons_zero, List.getElem_cons_succ, List.setIfInBounds_toArray, List.set_cons_zero, List.set_cons_succ]
              refine wpAnyH_done (by kernel_rfl) ?_ _
              have HC6 := hide (hHeld1.2.2.2.2.out)
              clear hHeld1 hcL hcI hcK
              go_wp2
              go_ret
              exact ⟨rfl, HBr.out.trans (HC6.out.mono HBr.out.size)⟩
          · have hki : ¬ (k : Int) < (il : Int) := by omega
            exfalso
            refine HPN.out ?_
            rw [HPO.out G HG.out (by rw [HTM.out]; exact htl) (Cn.openF_of (fun j h1 h2 => ?_))]
            · rfl
            · have h1' : j < S.length := by rw [← HSG.out, List.length_map] at h1; exact h1
              have h2' : j < t.ins.length := by simpa [TxV.it] using h2
              have := HAH.out j h1' h2' (by have := HSL.out; omega)
              rw [HME.out] at this
              have e1 : G[j] = S[j].it := by
                have e2 := congrArg (fun l => l[j]?) HSG.out
                simp only [List.getElem?_map, List.getElem?_eq_getElem h1', Option.map_some] at e2
                exact (Option.some.inj (e2.trans (List.getElem?_eq_getElem h1))).symm
              rw [e1]
              simpa [TxV.it, InV.it, CoinV.it] using this
end Go.Proofs.YtgkpbglllnmbeaaGreatDoor
