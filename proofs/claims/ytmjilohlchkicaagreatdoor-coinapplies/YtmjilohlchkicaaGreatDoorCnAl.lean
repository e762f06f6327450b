/- CoinApplies: what a payment does is what the document says. -/
import Derived.Test.YtmjilohlchkicaaGreatDoorCnRa
import Derived.Test.YtmjilohlchkicaaGreatDoorZCy
import Derived.Test.YtmjilohlchkicaaGreatDoorCnSm
import Derived.Test.YtmjilohlchkicaaGreatDoorTold2
namespace Go.Proofs.YtmjilohlchkicaaGreatDoor
open Go.RowKit
set_option linter.unusedVariables false
set_option linter.unusedSimpArgs false

theorem apply_bad' {l : List Cn.Coin} {t : Tm.Tx} {h : Int} (he : (Cn.apply l t h).e ≠ 0) : Cn.apply l t h = Cn.bad (Cn.apply l t h).e := by
  by_cases h1 : Cn.setF l = 0
  · by_cases h2 : Tm.check t = 0
    · by_cases h3 : 0 ≤ h ∧ h ≤ 1073741824
      · cases h4 : Cn.spentOf l (Tm.places t.ins) with
        | none => rw [ap_none h1 h2 h3 h4]; rfl
        | some s =>
          rw [ap_some h1 h2 h3 h4] at he ⊢
          split
          · rfl
          · split
            · rfl
            · split
              · rfl
              · split
                · rfl
                · split
                  · rfl
                  · rename_i a b c d e
                    rw [if_neg a, if_neg b, if_neg c, if_neg d, if_neg e] at he
                    exact absurd rfl he
      · rw [ap_high h1 h2 h3]; rfl
    · rw [ap_tx h1 h2]; rfl
  · rw [ap_set h1]; rfl
/-- What Apply tells, told at once. -/
theorem ap_all {R : List CoinV} {t : TxV} {h : Int} {e : Ending} {w' : World} (ha : ApGood (Cn.apply (R.map CoinV.it) t.it h) e w') :
    ∃ v1 v2 X S, e = .returned (.tuple #[v1, v2, .int .i64 (Cn.apply (R.map CoinV.it) t.it h).left, errV (Cn.apply (R.map CoinV.it) t.it h).e]) ∧ HasCoins w' v1 X ∧ X.map CoinV.it = (Cn.apply (R.map CoinV.it) t.it h).set ∧ HasCoins w' v2 S ∧ S.map CoinV.it = (Cn.apply (R.map CoinV.it) t.it h).spent := by
  rcases ha with ⟨h0, rfl⟩ | ⟨h0, v1, v2, X, S, rfl, h1, h2, h3, h4⟩
  · refine ⟨.slice none 0 0, .slice none 0 0, [], [], ?_, ⟨.inl ⟨none, 0, rfl, rfl⟩, fun x hx => by cases hx⟩, ?_, ⟨.inl ⟨none, 0, rfl, rfl⟩, fun x hx => by cases hx⟩, ?_⟩
    · unfold BadV
      rw [errV_ne h0, apply_bad' h0]; rfl
    · rw [apply_bad' h0]; rfl
    · rw [apply_bad' h0]; rfl
  · exact ⟨v1, v2, X, S, by rw [h0]; rfl, h1, h2, h3, h4⟩
set_option maxRecDepth 100000 in
set_option maxHeartbeats 8000000 in
theorem coinApplies_walk (cv : Value) (R : List CoinV) (t : TxV) (h : Int) (w : World) (hR : HasCoins w cv R) (ht : HasTx w t) (hT : Tab w) (hw : 2 < w.heap.size) (hE : ErrVar w) :
    Calls Tryz.prog 3 #[cv, t.val, .int .i64 h] w fun e w' => e = .returned (.bool true) ∧ Below w.heap.size w w' := by
  obtain ⟨a, cap, rfl, hml, _⟩ := coins_form hR
  obtain ⟨ia, ic, oa, oc, ft⟩ := tx_form ht
  have HRA := hide (fun W (hW : Below w.heap.size w W) => rapply_any _ R t h W (hR.below hW) (ht.below hW))
  have HAP := hide (fun W (hW : Below w.heap.size w W) => apply_any _ R t h W (hR.below hW) (ht.below hW) (hT.below hW hw) (Nat.lt_of_lt_of_le hw hW.size))
  have HMD := hide (fun W (hW : Below w.heap.size w W) => cmade_any W (hT.below hW hw) (Nat.lt_of_lt_of_le hw hW.size))
  have HAA := hide (fun (e : Ending) (w' : World) (ha : ApGood (Cn.apply (R.map CoinV.it) t.it h) e w') => ap_all ha)
  obtain ⟨D, hD⟩ : ∃ D, D = Cn.apply (R.map CoinV.it) t.it h := ⟨_, rfl⟩
  rw [← hD] at HRA HAP HAA
  obtain ⟨ec, hec⟩ : ∃ c, c = D.e := ⟨_, rfl⟩
  obtain ⟨lf, hlf⟩ : ∃ c, c = D.left := ⟨_, rfl⟩
  obtain ⟨ev, hev⟩ : ∃ v, v = errV ec := ⟨_, rfl⟩
  have HER : Hid (∀ W, Below w.heap.size w W → Calls Tryz.prog 6 #[ev, .int .i64 ec] W fun e w' => e = .returned (.bool true) ∧ Below W.heap.size W w') := hide (fun W hW => by
    rw [hev]
    refine (error_any ec ec W (hE.below hW)).mono ?_
    rintro e w' ⟨rfl, hb⟩
    exact ⟨by simp, hb⟩)
  have HVT := hide ft.val
  obtain ⟨il, hil⟩ : ∃ n, t.ins.length = n := ⟨_, rfl⟩
  obtain ⟨ol, hol⟩ : ∃ n, t.outs.length = n := ⟨_, rfl⟩
  obtain ⟨n, hn⟩ : ∃ n, R.length = n := ⟨_, rfl⟩
  obtain ⟨tt, htt⟩ : ∃ n, t.time = n := ⟨_, rfl⟩
  rw [hil, hol, htt] at HVT
  rw [HVT.out, hn] at HRA HAP
  rw [HVT.out, hn]
  have HEC := hide hec
  have HLF := hide hlf
  have HEV := hide hev
  have HB0 := hide (below_alloc w (.cells #[.slice ia il ic, .slice oa ol oc, .int .i64 tt] 26))
  have HI0 := hide (Is.new w [.slice ia il ic, .slice oa ol oc, .int .i64 tt] 26)
  clear hR ht hT hw hE ft hil hol hn htt hD hec hlf hev
  go_enter Tryz.func3, Tryz.ntmps3
  go_wp2_with (refine wpList_load_part 26 [.slice ia il ic, .slice oa ol oc, .int .i64 tt] w.heap.size 0 rfl (.tmp 4) rfl rfl (is_range HI0.out) Tryz.underlying26 rfl size_tx rfl ?_)
  refine (HRA.out _ HB0.out).mono ?_
  rintro e w1 ⟨⟨v1, v2, X, S, rfl, hX, hXi, hS, hSi⟩, hb1⟩
  rw [← HEC.out, ← HLF.out]
  have HX1 := hide hX
  have HS1 := hide hS
  have HXI := hide hXi
  have HSI := hide hSi
  obtain ⟨xa, xc, hv1, _, _⟩ := coins_form hX
  obtain ⟨sa, sc, hv2, _, _⟩ := coins_form hS
  subst hv1 hv2
  obtain ⟨xl, hxl⟩ : ∃ n, X.length = n := ⟨_, rfl⟩
  obtain ⟨sl, hsl⟩ : ∃ n, S.length = n := ⟨_, rfl⟩
  rw [hxl] at HX1 ⊢
  rw [hsl] at HS1 ⊢
  have HI1 := hide (HI0.out.below hb1 HI0.out.lt)
  have HB1 := hide (HB0.out.trans (hb1.mono HB0.out.size))
  clear hb1 hX hS hXi hSi hxl hsl HRA
  go_wp2_with (first
    | (refine wpList_store_any3 29 [.slice none 0 0, .slice none 0 0, .int .i64 0, .int .i64 0] [.slice xa xl xc, .slice sa sl sc, .int .i64 lf, .int .i64 ec] w1.heap.size rfl (.tmp 7) (.tmp 19) rfl rfl rfl rfl (Is.new w1 _ _) size_applied rfl rfl (by intro v hv; simp only [List.mem_cons, List.not_mem_nil, or_false] at hv; rcases hv with rfl | rfl | rfl | rfl <;> rfl) ?_; intro w2 hi2 hw2; have hb2 : Below w1.heap.size w1 w2 := (by rw [hw2]; exact ck_new); have HA2 := hide hi2; have HI2 := hide (HI1.out.below hb2 HI1.out.lt); have HB2 := hide (HB1.out.trans (hb2.mono HB1.out.size)); have HX2 := hide (HX1.out.below hb2); have HS2 := hide (HS1.out.below hb2); clear hi2 hw2 hb2)
    | (refine wpList_load_part 26 [.slice ia il ic, .slice oa ol oc, .int .i64 tt] w.heap.size 0 rfl (.tmp 4) rfl rfl (is_range HI2.out) Tryz.underlying26 rfl size_tx rfl ?_))
  refine (HAP.out _ HB2.out).mono ?_
  rintro e w3 ⟨hap, hb3⟩
  obtain ⟨v3, v4, Y, Q, rfl, hY, hYi, hQ, hQi⟩ := HAA.out e w3 hap
  rw [← HEC.out, ← HLF.out, ← HEV.out]
  have HA3 := hide (HA2.out.below hb3 HA2.out.lt)
  have HB3 := hide (HB2.out.trans (hb3.mono HB2.out.size))
  have HX3 := hide (HX2.out.below hb3)
  have HS3 := hide (HS2.out.below hb3)
  have HSY := hide (fun W (hW : Below w3.heap.size w3 W) => scoins_same v3 _ Y X W (hY.below hW) (HX3.out.below hW) (hYi.trans HXI.out.symm))
  have HSQ := hide (fun W (hW : Below w3.heap.size w3 W) => scoins_same v4 _ Q S W (hQ.below hW) (HS3.out.below hW) (hQi.trans HSI.out.symm))
  obtain ⟨ya, yc, hv3, _, _⟩ := coins_form hY
  obtain ⟨qa, qc, hv4, _, _⟩ := coins_form hQ
  subst hv3 hv4
  obtain ⟨yl, hyl⟩ : ∃ n, Y.length = n := ⟨_, rfl⟩
  obtain ⟨ql, hql⟩ : ∃ n, Q.length = n := ⟨_, rfl⟩
  rw [hyl] at HSY ⊢
  rw [hql] at HSQ ⊢
  have hc3 := HA3.out.cell 3
  simp only [List.getElem?_cons_zero, List.getElem?_cons_succ] at hc3
  clear hap hb3 hY hYi hQ hQi hyl hql HAP HAA
  go_wp2_with fail
  refine (HER.out _ HB3.out).mono ?_
  rintro e w4 ⟨rfl, hb4⟩
  have HA4 := hide (HA3.out.below hb4 HA3.out.lt)
  have HB4 := hide (HB3.out.trans (hb4.mono HB3.out.size))
  have HK4 := hide hb4
  have hc0 := HA4.out.cell 0
  simp only [List.getElem?_cons_zero, List.getElem?_cons_succ] at hc0
  clear hb4 hc3 HER
  go_wp2_with fail
  refine (HSY.out _ HK4.out).mono ?_
  rintro e w5 ⟨rfl, hb5⟩
  have HA5 := hide (HA4.out.below hb5 HA4.out.lt)
  have HB5 := hide (HB4.out.trans (hb5.mono HB4.out.size))
  have HK5 := hide (HK4.out.trans (hb5.mono HK4.out.size))
  have hc1 := HA5.out.cell 1
  simp only [List.getElem?_cons_zero, List.getElem?_cons_succ] at hc1
  clear hb5 hc0 HSY
  go_wp2_with fail
  refine (HSQ.out _ HK5.out).mono ?_
  rintro e w6 ⟨rfl, hb6⟩
  have HA6 := hide (HA5.out.below hb6 HA5.out.lt)
  have HB6 := hide (HB5.out.trans (hb6.mono HB5.out.size))
  clear hb6 hc1 HSQ
  go_wp2_with fail
  refine (HMD.out _ HB6.out).mono ?_
  rintro e w7 ⟨rfl, hb7⟩
  have HB7 := hide (HB6.out.trans (hb7.mono HB6.out.size))
  have hc2 := (HA6.out.below hb7 HA6.out.lt).cell 2
  simp only [List.getElem?_cons_zero, List.getElem?_cons_succ] at hc2
  have hll : (lf == lf) = true := by simp
  clear hb7
  go_wp2
  go_ret
  exact ⟨rfl, HB7.out⟩
end Go.Proofs.YtmjilohlchkicaaGreatDoor
