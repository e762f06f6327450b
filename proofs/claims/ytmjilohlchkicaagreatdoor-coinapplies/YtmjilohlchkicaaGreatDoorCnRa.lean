/- The document's: a payment done. -/
import Derived.Test.YtmjilohlchkicaaGreatDoorCnNw
import Derived.Test.YtmjilohlchkicaaGreatDoorCnMg
import Derived.Test.YtmjilohlchkicaaGreatDoorZCp
import Derived.Test.YtmjilohlchkicaaGreatDoorTxTf
namespace Go.Proofs.YtmjilohlchkicaaGreatDoor
open Go.RowKit
set_option linter.unusedVariables false
set_option linter.unusedSimpArgs false

/-- What the document's answer tells. -/
def RaTold (D : Cn.Done) (e : Ending) (w' : World) : Prop := ∃ v1 v2 X S, e = .returned (.agg #[v1, v2, .int .i64 D.left, .int .i64 D.e]) ∧ HasCoins w' v1 X ∧ X.map CoinV.it = D.set ∧ HasCoins w' v2 S ∧ S.map CoinV.it = D.spent
theorem ra_bad {D : Cn.Done} {e : Int} {w' : World} (h : D = Cn.bad e) : RaTold D (.returned (.agg #[.slice none 0 0, .slice none 0 0, .int .i64 0, .int .i64 e])) w' := by
  subst h
  exact ⟨_, _, [], [], rfl, ⟨.inl ⟨none, 0, rfl, rfl⟩, fun x hx => by cases hx⟩, rfl, ⟨.inl ⟨none, 0, rfl, rfl⟩, fun x hx => by cases hx⟩, rfl⟩
theorem size_applied : Sized 29 4 := by unfold Sized; kernel_rfl
theorem ap_set {l : List Cn.Coin} {t : Tm.Tx} {h : Int} (h1 : Cn.setF l ≠ 0) : Cn.apply l t h = Cn.bad (Cn.setF l) := by unfold Cn.apply; rw [if_pos h1]
theorem ap_tx {l : List Cn.Coin} {t : Tm.Tx} {h : Int} (h1 : Cn.setF l = 0) (h2 : Tm.check t ≠ 0) : Cn.apply l t h = Cn.bad (Tm.check t) := by unfold Cn.apply; rw [if_neg (fun e => e h1), if_pos h2]
theorem ap_high {l : List Cn.Coin} {t : Tm.Tx} {h : Int} (h1 : Cn.setF l = 0) (h2 : Tm.check t = 0) (h3 : ¬ (0 ≤ h ∧ h ≤ 1073741824)) : Cn.apply l t h = Cn.bad 2 := by unfold Cn.apply; rw [if_neg (fun e => e h1), if_neg (fun e => e h2), if_pos h3]
theorem ap_none {l : List Cn.Coin} {t : Tm.Tx} {h : Int} (h1 : Cn.setF l = 0) (h2 : Tm.check t = 0) (h3 : 0 ≤ h ∧ h ≤ 1073741824) (h4 : Cn.spentOf l (Tm.places t.ins) = none) : Cn.apply l t h = Cn.bad 5 := by unfold Cn.apply; rw [if_neg (fun e => e h1), if_neg (fun e => e h2), if_neg (fun e => e h3), h4]
theorem ap_some {l : List Cn.Coin} {t : Tm.Tx} {h : Int} {s : List Cn.Coin} (h1 : Cn.setF l = 0) (h2 : Tm.check t = 0) (h3 : 0 ≤ h ∧ h ≤ 1073741824) (h4 : Cn.spentOf l (Tm.places t.ins) = some s) :
    Cn.apply l t h = if (Mo.tot 0 (Cn.amounts' s)).2 ≠ 0 then Cn.bad (Mo.tot 0 (Cn.amounts' s)).2
      else if (Mo.tot 0 (Cn.amounts' (Cn.news t h))).2 ≠ 0 then Cn.bad (Mo.tot 0 (Cn.amounts' (Cn.news t h))).2
      else if t.ins ≠ [] ∧ (Mo.tot 0 (Cn.amounts' s)).1 < (Mo.tot 0 (Cn.amounts' (Cn.news t h))).1 then Cn.bad 9
      else if ∃ c ∈ Cn.news t h, ∃ d ∈ l, Cn.place d = Cn.place c then Cn.bad 6
      else if 1000 < (Cn.merged (Cn.less l s) (Cn.news t h)).length then Cn.bad 4
      else ⟨0, Cn.merged (Cn.less l s) (Cn.news t h), s, if t.ins = [] then 0 else (Mo.tot 0 (Cn.amounts' s)).1 - (Mo.tot 0 (Cn.amounts' (Cn.news t h))).1⟩ := by
  unfold Cn.apply; rw [if_neg (fun e => e h1), if_neg (fun e => e h2), if_neg (fun e => e h3), h4]
/-- What stands behind the first loop: all were found; or one isn't there. -/
def RaS (w : World) (R : List CoinV) (PS : List (List Int × Int)) (k : Nat) (ev : Int) (v : Value) (S : List CoinV) (W : World) : Prop :=
  (ev = 0 ∧ SpS w R PS k v S W) ∨ (ev = 5 ∧ (∃ j, ∃ hj : j < PS.length, NoneAt R PS[j]) ∧ (∃ a n c, v = .slice a n c) ∧ Below w.heap.size w W)
theorem RaS.form {w : World} {R : List CoinV} {PS : List (List Int × Int)} {k : Nat} {ev : Int} {v : Value} {S : List CoinV} {W : World} (h : RaS w R PS k ev v S W) : (∃ a n c, v = .slice a n c) ∧ Below w.heap.size w W := by
  rcases h with ⟨_, h⟩ | ⟨_, _, h, hb⟩
  · obtain ⟨a, c, e⟩ := owns_form h.own
    exact ⟨⟨_, _, _, e⟩, h.below⟩
  · exact ⟨h, hb⟩
/-- No coin at the first of these places. -/
def TwS (R N : List CoinV) (k : Nat) (ev : Int) : Prop := (ev = 0 ∧ ∀ j (hj : j < N.length), j < k → NoneAt R (Cn.place N[j].it)) ∨ (ev = 6 ∧ ∃ j, ∃ hj : j < N.length, ∃ y ∈ R, Cn.place y.it = Cn.place N[j].it)
set_option maxRecDepth 100000 in
set_option maxHeartbeats 16000000 in
theorem rapply_any (cv : Value) (R : List CoinV) (t : TxV) (h : Int) (w : World) (hR : HasCoins w cv R) (ht : HasTx w t) :
    Calls Tryz.prog 4 #[cv, t.val, .int .i64 h] w fun e w' => RaTold (Cn.apply (R.map CoinV.it) t.it h) e w' ∧ Below w.heap.size w w' := by
  obtain ⟨a, cap, rfl, hml, hrr⟩ := coins_form hR
  obtain ⟨ia, ic, oa, oc, ft⟩ := tx_form ht
  have HRR := hide hrr
  have HRO := hide (fun x (hx : x ∈ R) W (hW : Below w.heap.size w W) => (hR.below hW).2 x hx)
  have HRW := hide (fun W (hW : Below w.heap.size w W) => hR.below hW)
  have HHT := hide (fun W (hW : Below w.heap.size w W) => ht.below hW)
  have HSF := hide (fun W (hW : Below w.heap.size w W) => rsetFault_any _ R W (hR.below hW))
  have HTF := hide (fun W (hW : Below w.heap.size w W) => rtxFault_any t W (ht.below hW))
  have HTI := hide (fun W => cn_time h W)
  have HCA := hide (fun (hm : R.length ≤ 1000) (A : List Int) (x : Int) (hA : A.length = 32) W (hW : Below w.heap.size w W) => rcoinAt_any _ R A x W (hR.below hW) hm hA)
  have HNW := hide (fun (hk : Tm.check t.it = 0) W (hW : Below w.heap.size w W) => rnews_any t h W (ht.below hW) hk)
  have HWO := hide (fun v (S : List CoinV) W (hS : HasCoins W v S) (hm : S.length ≤ 1000) => rworth_any v S W hS hm)
  have HVT := hide ft.val
  have HFT := hide ft
  have hilm := ft.il
  have holm := ft.ol
  obtain ⟨il, hil⟩ : ∃ n, t.ins.length = n := ⟨_, rfl⟩
  obtain ⟨ol, hol⟩ : ∃ n, t.outs.length = n := ⟨_, rfl⟩
  obtain ⟨n, hn⟩ : ∃ n, R.length = n := ⟨_, rfl⟩
  obtain ⟨tt, htt⟩ : ∃ n, t.time = n := ⟨_, rfl⟩
  rw [hil, hol, htt] at HVT
  rw [HVT.out] at HTF HNW
  rw [hn] at HSF HCA HRW hml
  rw [HVT.out, hn]
  rw [hil] at hilm
  have HIL := hide hil
  have HOL := hide hol
  have HRN := hide hn
  have HIE : Hid (t.it.ins = [] ↔ il = 0) := hide (by rw [← hil]; simp [TxV.it])
  obtain ⟨c1, hc1⟩ : ∃ c, c = Cn.setF (R.map CoinV.it) := ⟨_, rfl⟩
  obtain ⟨c2, hc2⟩ : ∃ c, c = Tm.check t.it := ⟨_, rfl⟩
  rw [← hc1] at HSF
  rw [← hc2] at HTF
  have HC1 := hide hc1
  have HC2 := hide hc2
  obtain ⟨D, hD⟩ : ∃ D, D = Cn.apply (R.map CoinV.it) t.it h := ⟨_, rfl⟩
  have HDE := hide hD
  rw [← hD]
  obtain ⟨PS, hPS⟩ : ∃ PS, PS = t.ins.map fun i => (i.tx, i.at') := ⟨_, rfl⟩
  have HPSE := hide hPS
  have HPL : Hid (PS.length = il) := hide (by rw [hPS, List.length_map, hil])
  have HPG : Hid (∀ k (hk : k < t.ins.length) (hk2 : k < PS.length), PS[k] = (t.ins[k].tx, t.ins[k].at')) := hide (fun k hk hk2 => by subst hPS; simp)
  have hzc := zero_coin
  have HB0 : Hid (Below w.heap.size w ((w.alloc (.cells #[.slice ia il ic, .slice oa ol oc, .int .i64 tt] 26)).alloc (.cells #[.slice none 0 0, .slice none 0 0, .int .i64 0, .int .i64 0] 29))) := hide (below_alloc2 w _ _)
  have HI0 : Hid (Is ((w.alloc (.cells #[.slice ia il ic, .slice oa ol oc, .int .i64 tt] 26)).alloc (.cells #[.slice none 0 0, .slice none 0 0, .int .i64 0, .int .i64 0] 29)) w.heap.size [.slice ia il ic, .slice oa ol oc, .int .i64 tt] 26) := hide ((Is.new w [.slice ia il ic, .slice oa ol oc, .int .i64 tt] 26).alloc _)
  have HJ0 : Hid (Is ((w.alloc (.cells #[.slice ia il ic, .slice oa ol oc, .int .i64 tt] 26)).alloc (.cells #[.slice none 0 0, .slice none 0 0, .int .i64 0, .int .i64 0] 29)) (w.heap.size + 1) [.slice none 0 0, .slice none 0 0, .int .i64 0, .int .i64 0] 29) := hide (Is.new' [.slice none 0 0, .slice none 0 0, .int .i64 0, .int .i64 0] 29 (by simp))
  clear hR ht ft hrr hil hol hn htt hc1 hc2 hD hPS hzc
  go_enter Tryz.func4, Tryz.ntmps4
  go_wp2_with fail
  refine (HSF.out _ HB0.out).mono ?_
  rintro e w1 ⟨rfl, hb1⟩
  have HI1 := hide (HI0.out.below hb1 HI0.out.lt)
  have HJ1 := hide (HJ0.out.below hb1 HJ0.out.lt)
  have HB1 := hide (HB0.out.trans (hb1.mono HB0.out.size))
  clear hb1
  by_cases h1 : c1 = 0
  · have HS1 : Hid (Cn.setF (R.map CoinV.it) = 0) := hide (by rw [← HC1.out]; exact h1)
    rw [h1]
    clear h1 HC1
    have hr1000 : n ≤ 1000 := by have := (Cn.setF_zero HS1.out).1; rwa [List.length_map, HRN.out] at this
    go_wp2_with (refine wpList_load_part 26 [.slice ia il ic, .slice oa ol oc, .int .i64 tt] w.heap.size 0 rfl (.tmp 4) rfl rfl (is_range HI1.out) Tryz.underlying26 rfl size_tx rfl ?_)
    refine (HTF.out _ HB1.out).mono ?_
    rintro e w2 ⟨rfl, hb2⟩
    have HI2 := hide (HI1.out.below hb2 HI1.out.lt)
    have HJ2 := hide (HJ1.out.below hb2 HJ1.out.lt)
    have HB2 := hide (HB1.out.trans (hb2.mono HB1.out.size))
    clear hb2
    by_cases h2 : c2 = 0
    · have HK1 : Hid (Tm.check t.it = 0) := hide (by rw [← HC2.out]; exact h2)
      rw [h2]
      clear h2 HC2
      have hi40 : il ≤ 40 := by rw [← HIL.out]; exact (tx_small HK1.out).1
      have ho40 : ol ≤ 40 := by rw [← HOL.out]; exact (tx_small HK1.out).2
      have ho1 : 0 < ol := by have := (Tm.check_zero _ HK1.out).2.2.1; rw [← HOL.out]; simpa [TxV.it] using this
      go_wp2_with fail
      refine (HTI.out _).mono ?_
      rintro e w3 ⟨rfl, rfl⟩
      by_cases h3 : 0 ≤ h ∧ h ≤ 1073741824
      · rw [decide_eq_true h3]
        have HH := hide h3
        clear h3
        have HPN : Hid (∀ W, Below w.heap.size w W → ∀ k (hk : k < t.ins.length), Calls Tryz.prog 12 #[.slice a n cap, .agg (vals t.ins[k].tx ++ [Value.int .i64 t.ins[k].at']).toArray] W fun e w' => RcTold R (t.ins[k].tx, t.ins[k].at') e ∧ Below W.heap.size W w') := hide (fun W hW k hk => HCA.out hr1000 _ _ (HFT.out.tx k hk) W hW)
        have HST : Hid (RaS w2 R PS 0 0 (.slice none 0 0) [] w2) := hide (.inl ⟨rfl, ⟨rfl, (fun x hx => absurd hx (by simp)), (by simp), World.ownsRow_nil w2 w2.heap.size 54 36, Below.refl _ _⟩⟩)
        go_wp2
        go_loopw [7, 8, 9] (fun z v i wr => ∃ (k : Nat) (ev : Int) (S : List CoinV), k ≤ il ∧ i = .int .i64 k ∧ z = .int .i64 ev ∧ RaS w2 R PS k ev v S wr) (fun z _ i _ => il - (intOf i).toNat)
        case atStart => exact ⟨0, 0, [], by omega, rfl, rfl, HST.out⟩
        case round =>
          obtain ⟨k, ev, S, hk, rfl, rfl, hra⟩ := hrel
          have hbel := hra.form.2
          have HI4 := hide (HI2.out.below hbel HI2.out.lt)
          have HJ4 := hide (HJ2.out.below hbel HJ2.out.lt)
          have HBEL := hide hbel
          obtain ⟨⟨va, vn, vc, hv⟩, hbw⟩ := hra.form
          subst hv
          have HB4 := hide (HB2.out.trans (hbw.mono HB2.out.size))
          have hcI := HI4.out.cell 0
          simp only [List.getElem?_cons_zero, List.getElem?_cons_succ] at hcI
          clear hbel hbw HST
          rcases hra with ⟨rfl, hsp⟩ | ⟨rfl, hno, _, _⟩
          · have HSP := hide hsp
            obtain ⟨va', vc', hv'⟩ := owns_form hsp.own
            injection hv' with e1 e2 e3
            subst e1 e2 e3
            clear hsp
            by_cases hltn : k < il
            · have hki : (k : Int) < (il : Int) := by omega
              have hlt : k < t.ins.length := by rw [HIL.out]; exact hltn
              have hltp : k < PS.length := by rw [HPL.out]; exact hltn
              obtain ⟨b, off, rfl, hd1, hd2, hbw, hro⟩ := HFT.out.ins k hlt wr HB4.out
              rw [HIL.out] at hd1
              unfold maxLen at hd2
              obtain ⟨PT, hPT⟩ : ∃ P, P = vals t.ins[k].tx ++ [Value.int .i64 t.ins[k].at'] := ⟨_, rfl⟩
              have hPTl : PT.length = 33 := by rw [hPT]; simp [vals_length, HFT.out.tx k hlt]
              have hPTp : ¬ PT = [] := by intro h; rw [h] at hPTl; cases hPTl
              have HPTL := hide hPTl
              have HRT : Hid (wr.rangeAt b (off + k * 34) PT) := hide (by rw [hPT]; exact (tx_range_part (c := [t.ins[k].kv]) (by rw [List.append_assoc]; exact hro)).1)
              have HRC := hide (HPN.out wr HB4.out k hlt)
              rw [← hPT] at HRC
              have HPE := hide (HPG.out k hlt hltp)
              clear hPT hPTl hro
              go_wp2_with (refine wpList_load_part 46 PT b (off + k * 34) rfl (.tmp 45) rfl rfl HRT.out Tryz.underlying46 rfl size_placeC HPTL.out ?_)
              refine HRC.out.mono ?_
              rintro e w5 ⟨hrc, hb5⟩
              have HO5 := hide (owns_below HSP.out.own hb5)
              have HB5 := hide (HB4.out.trans (hb5.mono HB4.out.size))
              have HBE5 := hide (HBEL.out.trans (hb5.mono HBEL.out.size))
              clear hb5 hcI
              rcases hrc with ⟨m, hf, rfl⟩ | ⟨hna, rfl⟩
              · obtain ⟨hm, hmp⟩ := hf
                have hmi : ¬ (m : Int) < 0 := by omega
                obtain ⟨rb, ro, rfl, hc1, hc2, hrb, hri⟩ := HRR.out m hm
                rw [HRN.out] at hc1
                unfold maxLen at hc2
                have hmn : (m : Int) < (n : Int) := by have := HRN.out; omega
                have hxo := HRO.out _ (List.getElem_mem hm) w (Below.refl _ _)
                obtain ⟨C, hC⟩ : ∃ C, C = coinCell R[m] := ⟨_, rfl⟩
                have HCL : Hid (C.length = 36) := hide (by rw [hC]; exact coinCell_length _ hxo.1)
                have hCp : ¬ C = [] := by intro h; have := HCL.out; rw [h] at this; cases this
                have HRG : Hid (w5.rangeAt rb (ro + m * 36) C) := hide (by rw [hC]; exact range_keep hri HB5.out hrb)
                have hsl : S.length ≤ 1000 := by have := HSP.out.len; omega
                have HAPP := hide (fun ty => run_appC w5 w2.heap.size S R[m] (.slice va S.length vc) HO5.out hxo.1 (hasOps_slice hxo.2.2) (by omega) HBE5.out.size ty)
                have HNX := hide (fun v' W' (ha : AppK w5 w2.heap.size S R[m] (.slice va S.length vc) v' W') => HSP.out.next hltp (List.getElem_mem hm) (hmp.trans HPE.out.symm) HBE5.out ha)
                rw [← hC] at HAPP
                clear hC hxo hri hmp
                go_wp2_with (first
                  | (refine wpList_load_part 54 C rb (ro + m * 36) rfl (.tmp 53) rfl rfl HRG.out Tryz.underlying54 rfl size_coin HCL.out ?_)
                  | (refine wpList_build_one 22 54 C rfl (.tmp 54) rfl rfl Tryz.underlying22 ZC info_coinS (by omega) (by omega) HCL.out ?_)
                  | (at_builtin; refine cl_append_by (AppK w5 w2.heap.size S R[m] (.slice va S.length vc)) rfl (.tmp 50) (.tmp 55) rfl (.slice va S.length vc) (.slice (some ⟨w5.heap.size, 0, none⟩) 1 1) rfl rfl (fun ty => HAPP.out ty) ?_; intro v6 w6 h6; obtain ⟨va6, vc6, hv6⟩ := owns_form h6.1; subst hv6; have HA6 := hide h6; clear h6))
                go_roundw
                case rel => exact ⟨k + 1, 0, S ++ [R[m]], by omega, by go_num, rfl, .inl ⟨rfl, HNX.out _ _ HA6.out⟩⟩
                case measure => simp [intOf]; omega
              · have HNO : Hid (∃ j, ∃ hj : j < PS.length, NoneAt R PS[j]) := hide ⟨k, hltp, by rw [HPE.out]; exact hna⟩
                clear hna
                go_wp2
                go_roundw
                case rel => exact ⟨k + 1, 5, S, by omega, by go_num, rfl, .inr ⟨rfl, HNO.out, ⟨_, _, _, rfl⟩, HBE5.out⟩⟩
                case measure => simp [intOf]; omega
            · have hki : ¬ (k : Int) < (il : Int) := by omega
              have hke : k = il := by omega
              have hS5 : S.length = il := by rw [HSP.out.len, hke]
              have HSPL : Hid (Cn.spentOf (R.map CoinV.it) (Tm.places t.it.ins) = some (S.map CoinV.it)) := hide (by
                have h5 := HSP.out.pls
                rw [hke, ← HPL.out, List.take_length] at h5
                rw [places_it, ← HPSE.out, ← h5]
                exact spent_of HS1.out S HSP.out.mem)
              have HNDP : Hid ((S.map fun x => Cn.place x.it) = PS) := hide (by
                have h5 := HSP.out.pls
                rwa [hke, ← HPL.out, List.take_length] at h5)
              have HMEM := hide HSP.out.mem
              have HSO4 : Hid (wr.ownsRow w2.heap.size 54 36 (.slice va S.length vc) S.length (coinCells S)) := hide HSP.out.own
              have HS4 : Hid (HasCoins wr (.slice va S.length vc) S) := hide (coins_of_row HSP.out.own rfl (fun x hx => HRO.out x (HSP.out.mem x hx) wr HB4.out))
              obtain ⟨w4, rfl⟩ : ∃ wA, wA = wr := ⟨_, rfl⟩
              rw [hS5] at HS4 HSO4
              rw [hS5]
              have HSL := hide hS5
              have HWS := hide (HWO.out _ S w4 HS4.out (by omega))
              have hap := ap_some HS1.out HK1.out HH.out HSPL.out
              have hni := news_it t h
              rw [← hni, amounts_it, amounts_it] at hap
              obtain ⟨N, hN⟩ : ∃ N, N = newsV (Tm.id t.it) h 0 t.outs := ⟨_, rfl⟩
              rw [← hN] at hap
              have HNN := hide hN
              have HNIT : Hid (N.map CoinV.it = Cn.news t.it h) := hide (by rw [hN]; exact hni)
              have HNLEN : Hid (N.length = ol) := hide (by rw [hN, newsV_length, HOL.out])
              have HNOK := hide (fun W (hW : Below w.heap.size w W) => news_ok (HHT.out W hW) h)
              rw [← hN] at HNOK
              rw [← HDE.out] at hap
              obtain ⟨s1, hs1⟩ : ∃ s, s = (Mo.tot 0 (amounts S)).1 := ⟨_, rfl⟩
              obtain ⟨f1, hf1⟩ : ∃ s, s = (Mo.tot 0 (amounts S)).2 := ⟨_, rfl⟩
              obtain ⟨s2, hs2⟩ : ∃ s, s = (Mo.tot 0 (amounts N)).1 := ⟨_, rfl⟩
              obtain ⟨f2, hf2⟩ : ∃ s, s = (Mo.tot 0 (amounts N)).2 := ⟨_, rfl⟩
              have HR1 : Hid (f1 = 0 → 0 ≤ s1 ∧ s1 ≤ 1125899906842624) := hide (fun e => by rw [hs1]; exact tot_range _ (hf1 ▸ e))
              have HR2 : Hid (f2 = 0 → 0 ≤ s2 ∧ s2 ≤ 1125899906842624) := hide (fun e => by rw [hs2]; exact tot_range _ (hf2 ▸ e))
              rw [← hs1, ← hf1] at HWS
              rw [← hs1, ← hf1, ← hs2, ← hf2] at hap
              have HS2E := hide hs2
              have HF2E := hide hf2
              have HAP := hide hap
              have hbq := HSP.out.below
              have HN4 := hide (HNW.out HK1.out w4 HB4.out)
              rw [← hN] at HN4
              rw [HOL.out] at HN4
              clear hap hni hN hs1 hf1 hs2 hf2 hS5 hke hltn hbq HSP HPN
              go_wp2_with fail
              refine HWS.out.mono ?_
              rintro e w5 ⟨rfl, hb5⟩
              have HI5 := hide (HI4.out.below hb5 HI4.out.lt)
              have HJ5 := hide (HJ4.out.below hb5 HJ4.out.lt)
              have HB5 := hide (HB4.out.trans (hb5.mono HB4.out.size))
              have HSO5 := hide (owns_below HSO4.out hb5)
              have HS5 := hide (HS4.out.below hb5)
              clear hcI
              by_cases hf1 : f1 = 0
              · have HAP1 := HAP
                rw [if_neg (by simp [hf1])] at HAP1
                have HR1 := hide (HR1.out hf1)
                rw [hf1]
                clear hf1 HAP hb5 HN4
                have HN5 := hide (HNW.out HK1.out w5 HB5.out)
                rw [← HNN.out, HOL.out] at HN5
                go_wp2_with (refine wpList_load_part 26 [.slice ia il ic, .slice oa ol oc, .int .i64 tt] w.heap.size 0 rfl (.tmp 4) rfl rfl (is_range HI5.out) Tryz.underlying26 rfl size_tx rfl ?_)
                refine HN5.out.mono ?_
                rintro e w6 ⟨⟨v6, rfl, hrow⟩, hb6⟩
                obtain ⟨na, nc, hv6⟩ := owns_form hrow
                subst hv6
                have HI6 := hide (HI5.out.below hb6 HI5.out.lt)
                have HJ6 := hide (HJ5.out.below hb6 HJ5.out.lt)
                have HB6 := hide (HB5.out.trans (hb6.mono HB5.out.size))
                have HSO6 := hide (owns_below HSO5.out hb6)
                have HS6 := hide (HS5.out.below hb6)
                have HN6 : Hid (HasCoins w6 (.slice na ol nc) N) := hide (coins_of_row hrow HNLEN.out (fun x hx => HNOK.out w6 HB6.out x hx))
                have HWN := hide (HWO.out _ N w6 HN6.out (by rw [HNLEN.out]; omega))
                rw [← HS2E.out, ← HF2E.out] at HWN
                clear hrow hb6 HN5
                go_wp2_with fail
                refine HWN.out.mono ?_
                rintro e w7 ⟨rfl, hb7⟩
                have HI7 := hide (HI6.out.below hb7 HI6.out.lt)
                have HJ7 := hide (HJ6.out.below hb7 HJ6.out.lt)
                have HB7 := hide (HB6.out.trans (hb7.mono HB6.out.size))
                have HSO7 := hide (owns_below HSO6.out hb7)
                have HS7 := hide (HS6.out.below hb7)
                have HN7 := hide (HN6.out.below hb7)
                clear hb7 HWN
                have hcI := HI7.out.cell 0
                simp only [List.getElem?_cons_zero, List.getElem?_cons_succ] at hcI
                by_cases hf2 : f2 = 0
                · have HAP2 := HAP1
                  rw [if_neg (by simp [hf2])] at HAP2
                  have HR2 := hide (HR2.out hf2)
                  rw [hf2]
                  clear hf2 HAP1
                  by_cases hmo : 0 < il ∧ s1 < s2
                  · have HD9 : Hid (D = Cn.bad 9) := hide (by rw [HAP2.out, if_pos ⟨fun e => by have := HIE.out.1 e; omega, hmo.2⟩])
                    have hi0 : (0 : Int) < (il : Int) := by omega
                    have hm2 : s1 < s2 := hmo.2
                    have hol0 : (0 : Int) < (ol : Int) := by omega
                    clear hmo
                    go_wp2
                    refine wp_loop_rounds 1 ?_
                    rw [rounds_succ]
                    go_wp2_with (refine wpList_store_any3 29 [.slice none 0 0, .slice none 0 0, .int .i64 0, .int .i64 0] [.slice none 0 0, .slice none 0 0, .int .i64 0, .int .i64 9] (w.heap.size + 1) rfl (.tmp 6) (.tmp 121) rfl rfl rfl rfl HJ7.out size_applied rfl rfl (by intro v hv; simp only [List.mem_cons, List.not_mem_nil, or_false] at hv; rcases hv with rfl | rfl | rfl | rfl <;> rfl) ?_; intro v9 hi9 hw9; have hbut : But (w.heap.size + 1) w7 v9 := (by rw [hw9]; exact But.row _ _ _); clear hw9)
                    have hb9 := HB7.out.trans (Only.below hbut HB7.out.size (Nat.le_succ _))
                    exact bodyPost_ret (v := .agg #[.slice none 0 0, .slice none 0 0, .int .i64 0, .int .i64 9]) (results_cell1 Tryz.results4 rfl (hi9.cellsOfS Tryz.underlying29 (by kernel_rfl))) rfl ⟨ra_bad (HD9.out), hb9⟩
                  · have HAP3 := HAP2
                    rw [if_neg (fun e => hmo ⟨by have : ¬ il = 0 := fun z => e.1 (HIE.out.2 z); omega, e.2⟩)] at HAP3
                    have hmo' : il = 0 ∨ s2 ≤ s1 := by omega
                    clear hmo HAP2
                    by_cases hil0 : 0 < il
                    · have hi0 : (0 : Int) < (il : Int) := by omega
                      have hm2 : ¬ s1 < s2 := by omega
                      have hm3 : s2 ≤ s1 := by omega
                      clear hmo'
                      clear hcI
                      have hcI := HI7.out.cell 0
                      simp only [List.getElem?_cons_zero, List.getElem?_cons_succ] at hcI
                      have HNR : Hid (∀ k (hk : k < N.length), ∃ b off, na = some ⟨b, off, none⟩ ∧ N.length ≤ nc ∧ nc ≤ maxLen ∧ b < w7.heap.size ∧ w7.rangeAt b (off + k * 36) (coinCell N[k])) := hide (by
                        obtain ⟨a', c', he, _, hrr⟩ := coins_form HN7.out
                        injection he with e1 e2 e3
                        subst e1 e3
                        exact hrr)
                      have HPN2 : Hid (∀ W, Below w.heap.size w W → ∀ k (hk : k < N.length), Calls Tryz.prog 12 #[.slice a n cap, .agg (vals N[k].tx ++ [Value.int .i64 N[k].at']).toArray] W fun e w' => RcTold R (N[k].tx, N[k].at') e ∧ Below W.heap.size W w') := hide (fun W hW k hk => HCA.out hr1000 _ _ (HNOK.out W hW _ (List.getElem_mem hk)).1 W hW)
                      go_wp2
                      clear hcI
                      go_loopw [7, 14] (fun z i wr => ∃ (k : Nat) (ev : Int), k ≤ ol ∧ i = .int .i64 k ∧ z = .int .i64 ev ∧ TwS R N k ev ∧ Below w7.heap.size w7 wr) (fun _ i _ => ol - (intOf i).toNat)
                      case atStart => exact ⟨0, 0, by omega, rfl, rfl, .inl ⟨rfl, fun j hj h => absurd h (by omega)⟩, Below.refl _ _⟩
                      case round =>
                        obtain ⟨k, ev, hk, rfl, rfl, htw, hbel⟩ := hrel
                        have HBEL := hide hbel
                        have HI8 := hide (HI7.out.below hbel HI7.out.lt)
                        have HJ8 := hide (HJ7.out.below hbel HJ7.out.lt)
                        have HB8 := hide (HB7.out.trans (hbel.mono HB7.out.size))
                        have HS8 := hide (HS7.out.below hbel)
                        have HSO8 := hide (owns_below HSO7.out hbel)
                        have HN8 := hide (HN7.out.below hbel)
                        have hcI := HI8.out.cell 0
                        simp only [List.getElem?_cons_zero, List.getElem?_cons_succ] at hcI
                        clear hbel
                        rcases htw with ⟨rfl, hno⟩ | ⟨rfl, hyes⟩
                        · by_cases hltn : k < ol
                          · have hki : (k : Int) < (ol : Int) := by omega
                            have hlt : k < N.length := by rw [HNLEN.out]; exact hltn
                            obtain ⟨b, off, rfl, hd1, hd2, hbw, hro⟩ := HNR.out k hlt
                            rw [HNLEN.out] at hd1
                            unfold maxLen at hd2
                            obtain ⟨PT, hPT⟩ : ∃ P, P = vals N[k].tx ++ [Value.int .i64 N[k].at'] := ⟨_, rfl⟩
                            have h32 := (HNOK.out wr HB8.out _ (List.getElem_mem hlt)).1
                            have hPTl : PT.length = 33 := by rw [hPT]; simp [vals_length, h32]
                            have hPTp : ¬ PT = [] := by intro h; rw [h] at hPTl; cases hPTl
                            have HPTL := hide hPTl
                            have HRT : Hid (wr.rangeAt b (off + k * 36) PT) := hide (by rw [hPT]; exact (coin_range (range_keep hro HBEL.out hbw) h32).1)
                            have HRC := hide (HPN2.out wr HB8.out k hlt)
                            rw [← hPT] at HRC
                            have HNO := hide hno
                            clear hPT hPTl hro h32 hno
                            go_wp2_with (refine wpList_load_part 46 PT b (off + k * 36) rfl (.tmp 101) rfl rfl HRT.out Tryz.underlying46 rfl size_placeC HPTL.out ?_)
                            refine HRC.out.mono ?_
                            rintro e w9 ⟨hrc, hb9⟩
                            have HBE9 := hide (HBEL.out.trans (hb9.mono HBEL.out.size))
                            clear hb9 hcI
                            rcases hrc with ⟨m, hf, rfl⟩ | ⟨hna, rfl⟩
                            · have hmi : (0 : Int) ≤ (m : Int) := by omega
                              have HYES : Hid (∃ j, ∃ hj : j < N.length, ∃ y ∈ R, Cn.place y.it = Cn.place N[j].it) := hide (by
                                obtain ⟨hm, hmp⟩ := hf
                                exact ⟨k, hlt, R[m], List.getElem_mem hm, hmp⟩)
                              clear hf
                              go_wp2
                              go_roundw
                              case rel => exact ⟨k + 1, 6, by omega, by go_num, rfl, .inr ⟨rfl, HYES.out⟩, HBE9.out⟩
                              case measure => simp [intOf]; omega
                            · have HNA := hide hna
                              clear hna
                              go_wp2
                              go_roundw
                              case rel => exact ⟨k + 1, 0, by omega, by go_num, rfl, .inl ⟨rfl, fun j hj h => if ej : j = k then by subst ej; exact HNA.out else HNO.out j hj (by omega)⟩, HBE9.out⟩
                              case measure => simp [intOf]; omega
                          · have hki : ¬ (k : Int) < (ol : Int) := by omega
                            have HNO : Hid (¬ ∃ c ∈ N.map CoinV.it, ∃ d ∈ R.map CoinV.it, Cn.place d = Cn.place c) := hide (by
                              rintro ⟨c, hc, d, hd, e⟩
                              obtain ⟨x, hx, rfl⟩ := List.mem_map.1 hc
                              obtain ⟨j, hj, rfl⟩ := List.getElem_of_mem hx
                              exact Cn.at?_none.1 (none_at (hno j hj (by have := HNLEN.out; omega))) d hd e)
                            have HAP4 := HAP3
                            rw [if_neg HNO.out] at HAP4
                            have hsl : S.length = il := HSL.out
                            have HLN : Hid ((Cn.merged (Cn.less (R.map CoinV.it) (S.map CoinV.it)) (N.map CoinV.it)).length = n - il + ol ∧ il ≤ n) := hide (by
                              have hnd : ((S.map CoinV.it).map Cn.place).Nodup := by
                                rw [List.map_map]
                                have h5 := HNDP.out
                                have h6 := Cn.ins_nodup HK1.out
                                rw [places_it, ← HPSE.out, ← h5] at h6
                                exact h6
                              have hp := (Cn.less_perm (Cn.ord_nodup (Cn.set_ord HS1.out)) hnd (fun c hc => by obtain ⟨x, hx, rfl⟩ := List.mem_map.1 hc; exact List.mem_map.2 ⟨x, HMEM.out x hx, rfl⟩)).length_eq
                              have hm := (Cn.merged_perm (Cn.less (R.map CoinV.it) (S.map CoinV.it)) (N.map CoinV.it)).length_eq
                              rw [List.length_append, List.length_map, List.length_map, HRN.out, hsl] at hp
                              rw [List.length_append, List.length_map, HNLEN.out] at hm
                              omega)
                            have hiln := HLN.out.2
                            rw [HLN.out.1] at HAP4
                            clear hno hltn HNO HAP3 hsl
                            by_cases hbig : 1000 < n - il + ol
                            · have hbigI : (1000 : Int) < (n : Int) - (il : Int) + (ol : Int) := by omega
                              have HDX : Hid (D = Cn.bad 4) := hide (by rw [HAP4.out, if_pos hbig])
                              clear HAP4 hbig
                              go_wp2_with (refine wpList_store_any3 29 [.slice none 0 0, .slice none 0 0, .int .i64 0, .int .i64 0] [.slice none 0 0, .slice none 0 0, .int .i64 0, .int .i64 4] (w.heap.size + 1) rfl (.tmp 6) (.tmp 121) rfl rfl rfl rfl HJ8.out size_applied rfl rfl (by intro v hv; simp only [List.mem_cons, List.not_mem_nil, or_false] at hv; rcases hv with rfl | rfl | rfl | rfl <;> rfl) ?_; intro v9 hi9 hw9; have hbut : But (w.heap.size + 1) wr v9 := (by rw [hw9]; exact But.row _ _ _); clear hw9)
                              have hb9 := HB8.out.trans (Only.below hbut HB8.out.size (Nat.le_succ _))
                              exact bodyPost_ret (v := .agg #[.slice none 0 0, .slice none 0 0, .int .i64 0, .int .i64 4]) (results_cell1 Tryz.results4 rfl (hi9.cellsOfS Tryz.underlying29 (by kernel_rfl))) rfl ⟨ra_bad (HDX.out), hb9⟩
                            · have hbigI : ¬ (1000 : Int) < (n : Int) - (il : Int) + (ol : Int) := by omega
                              have HDG := HAP4
                              rw [if_neg hbig] at HDG
                              clear HAP4 hbig
                              obtain ⟨w8, rfl⟩ : ∃ wA, wA = wr := ⟨_, rfl⟩
                              have HLW := hide (rless_any _ _ R S w8 (HRW.out w8 HB8.out) HS8.out (by rw [HRN.out]; exact hr1000) (by rw [HSL.out]; omega))
                              have HQ : Hid (0 ≤ s1 ∧ s1 ≤ 1125899906842624 ∧ 0 ≤ s2 ∧ s2 ≤ 1125899906842624) := hide ⟨HR1.out.1, HR1.out.2, HR2.out.1, HR2.out.2⟩
                              obtain ⟨q1, q2, q3, q4⟩ := HQ.out
                              go_wp2_with fail
                              refine HLW.out.mono ?_
                              rintro e w10 ⟨⟨v10, rfl, hrow⟩, hb10⟩
                              obtain ⟨la, lc, hv10⟩ := owns_form hrow
                              subst hv10
                              have HJ10 := hide (HJ8.out.below hb10 HJ8.out.lt)
                              have HB10 := hide (HB8.out.trans (hb10.mono HB8.out.size))
                              have HSO10 := hide (owns_below HSO8.out hb10)
                              have HN10 := hide (HN8.out.below hb10)
                              have HL10 : Hid (HasCoins w10 (.slice la (keep (placesOf S) R).length lc) (keep (placesOf S) R)) := hide (coins_of_row hrow rfl (fun x hx => HRO.out x (keep_mem hx) w10 HB10.out))
                              have HMW := hide (rmerged_any _ _ _ _ w10 HL10.out HN10.out (Nat.le_trans (keep_le _ _) (by rw [HRN.out]; exact hr1000)) (by rw [HNLEN.out]; omega))
                              obtain ⟨kl, hkl⟩ : ∃ n, (keep (placesOf S) R).length = n := ⟨_, rfl⟩
                              have HKO : Hid (∀ x ∈ mergedV (keep (placesOf S) R) N, ∀ W, Below w.heap.size w W → CoinOk W x) := hide (fun x hx W hW => by
                                rcases mergedV_mem _ _ x hx with h' | h'
                                · exact HRO.out x (keep_mem h') W hW
                                · exact HNOK.out W hW x h')
                              have HMI : Hid ((mergedV (keep (placesOf S) R) N).map CoinV.it = Cn.merged (Cn.less (R.map CoinV.it) (S.map CoinV.it)) (N.map CoinV.it)) := hide (by rw [mergedV_it, keep_less])
                              obtain ⟨M, hM⟩ : ∃ M, M = mergedV (keep (placesOf S) R) N := ⟨_, rfl⟩
                              rw [hkl, ← hM] at HMW
                              rw [← hM] at HKO HMI
                              rw [hkl]
                              clear hb10 hrow hM HLW hkl HL10
                              go_wp2_with fail
                              refine HMW.out.mono ?_
                              rintro e w11 ⟨⟨v11, rfl, hrow⟩, hb11⟩
                              obtain ⟨ma, mc, hv11⟩ := owns_form hrow
                              subst hv11
                              have HJ11 := hide (HJ10.out.below hb11 HJ10.out.lt)
                              have HB11 := hide (HB10.out.trans (hb11.mono HB10.out.size))
                              have HSO11 := hide (owns_below HSO10.out hb11)
                              have HMO := hide hrow
                              obtain ⟨ml, hml2⟩ : ∃ n, M.length = n := ⟨_, rfl⟩
                              have HML := hide hml2
                              rw [hml2] at HMO ⊢
                              clear hb11 hrow HMW hml2
                              go_wp2_with (refine wpList_store_any3 29 [.slice none 0 0, .slice none 0 0, .int .i64 0, .int .i64 0] [.slice ma ml mc, .slice va il vc, .int .i64 (s1 - s2), .int .i64 0] (w.heap.size + 1) rfl (.tmp 6) (.tmp 136) rfl rfl rfl rfl HJ11.out size_applied rfl rfl (by intro v hv; simp only [List.mem_cons, List.not_mem_nil, or_false] at hv; rcases hv with rfl | rfl | rfl | rfl <;> rfl) ?_; intro v9 hi9 hw9; have hbut : But (w.heap.size + 1) w11 v9 := (by rw [hw9]; exact But.row _ _ _); clear hw9)
                              have hb9 := HB11.out.trans (Only.below hbut HB11.out.size (Nat.le_succ _))
                              refine bodyPost_ret (v := .agg #[.slice ma ml mc, .slice va il vc, .int .i64 (s1 - s2), .int .i64 0]) (results_cell1 Tryz.results4 rfl (hi9.cellsOfS Tryz.underlying29 (by kernel_rfl))) rfl ⟨?_, hb9⟩
                              rw [HDG.out]
                              exact ⟨_, _, M, S, (by rw [if_neg (fun z => by have := HIE.out.1 z; omega)]), coins_of_row (row_but HMO.out hbut HJ10.out.lt) HML.out (fun x hx => HKO.out x hx v9 hb9), HMI.out, coins_of_row (row_but HSO11.out hbut HJ2.out.lt) HSL.out (fun x hx => HRO.out x (HMEM.out x hx) v9 hb9), rfl⟩
                        · have HDT : Hid (D = Cn.bad 6) := hide (by
                            rw [HAP3.out, if_pos]
                            obtain ⟨j, hj, y, hy, e⟩ := hyes
                            exact ⟨N[j].it, List.mem_map.2 ⟨_, List.getElem_mem hj, rfl⟩, y.it, List.mem_map.2 ⟨y, hy, rfl⟩, e⟩)
                          clear hyes HAP3
                          by_cases hltn : k < ol
                          · have hki : (k : Int) < (ol : Int) := by omega
                            go_wp2_with (refine wpList_store_any3 29 [.slice none 0 0, .slice none 0 0, .int .i64 0, .int .i64 0] [.slice none 0 0, .slice none 0 0, .int .i64 0, .int .i64 6] (w.heap.size + 1) rfl (.tmp 6) (.tmp 121) rfl rfl rfl rfl HJ8.out size_applied rfl rfl (by intro v hv; simp only [List.mem_cons, List.not_mem_nil, or_false] at hv; rcases hv with rfl | rfl | rfl | rfl <;> rfl) ?_; intro v9 hi9 hw9; have hbut : But (w.heap.size + 1) wr v9 := (by rw [hw9]; exact But.row _ _ _); clear hw9)
                            have hb9 := HB8.out.trans (Only.below hbut HB8.out.size (Nat.le_succ _))
                            exact bodyPost_ret (v := .agg #[.slice none 0 0, .slice none 0 0, .int .i64 0, .int .i64 6]) (results_cell1 Tryz.results4 rfl (hi9.cellsOfS Tryz.underlying29 (by kernel_rfl))) rfl ⟨ra_bad (HDT.out), hb9⟩
                          · have hki : ¬ (k : Int) < (ol : Int) := by omega
                            go_wp2_with (refine wpList_store_any3 29 [.slice none 0 0, .slice none 0 0, .int .i64 0, .int .i64 0] [.slice none 0 0, .slice none 0 0, .int .i64 0, .int .i64 6] (w.heap.size + 1) rfl (.tmp 6) (.tmp 121) rfl rfl rfl rfl HJ8.out size_applied rfl rfl (by intro v hv; simp only [List.mem_cons, List.not_mem_nil, or_false] at hv; rcases hv with rfl | rfl | rfl | rfl <;> rfl) ?_; intro v9 hi9 hw9; have hbut : But (w.heap.size + 1) wr v9 := (by rw [hw9]; exact But.row _ _ _); clear hw9)
                            have hb9 := HB8.out.trans (Only.below hbut HB8.out.size (Nat.le_succ _))
                            exact bodyPost_ret (v := .agg #[.slice none 0 0, .slice none 0 0, .int .i64 0, .int .i64 6]) (results_cell1 Tryz.results4 rfl (hi9.cellsOfS Tryz.underlying29 (by kernel_rfl))) rfl ⟨ra_bad (HDT.out), hb9⟩
                    · have hi0 : ¬ (0 : Int) < (il : Int) := by omega
                      have HIZ : Hid (il = 0) := hide (by omega)
                      clear hmo'
                      clear hcI
                      have hcI := HI7.out.cell 0
                      simp only [List.getElem?_cons_zero, List.getElem?_cons_succ] at hcI
                      have HNR : Hid (∀ k (hk : k < N.length), ∃ b off, na = some ⟨b, off, none⟩ ∧ N.length ≤ nc ∧ nc ≤ maxLen ∧ b < w7.heap.size ∧ w7.rangeAt b (off + k * 36) (coinCell N[k])) := hide (by
                        obtain ⟨a', c', he, _, hrr⟩ := coins_form HN7.out
                        injection he with e1 e2 e3
                        subst e1 e3
                        exact hrr)
                      have HPN2 : Hid (∀ W, Below w.heap.size w W → ∀ k (hk : k < N.length), Calls Tryz.prog 12 #[.slice a n cap, .agg (vals N[k].tx ++ [Value.int .i64 N[k].at']).toArray] W fun e w' => RcTold R (N[k].tx, N[k].at') e ∧ Below W.heap.size W w') := hide (fun W hW k hk => HCA.out hr1000 _ _ (HNOK.out W hW _ (List.getElem_mem hk)).1 W hW)
                      go_wp2
                      clear hcI
                      go_loopw [7, 14] (fun z i wr => ∃ (k : Nat) (ev : Int), k ≤ ol ∧ i = .int .i64 k ∧ z = .int .i64 ev ∧ TwS R N k ev ∧ Below w7.heap.size w7 wr) (fun _ i _ => ol - (intOf i).toNat)
                      case atStart => exact ⟨0, 0, by omega, rfl, rfl, .inl ⟨rfl, fun j hj h => absurd h (by omega)⟩, Below.refl _ _⟩
                      case round =>
                        obtain ⟨k, ev, hk, rfl, rfl, htw, hbel⟩ := hrel
                        have HBEL := hide hbel
                        have HI8 := hide (HI7.out.below hbel HI7.out.lt)
                        have HJ8 := hide (HJ7.out.below hbel HJ7.out.lt)
                        have HB8 := hide (HB7.out.trans (hbel.mono HB7.out.size))
                        have HS8 := hide (HS7.out.below hbel)
                        have HSO8 := hide (owns_below HSO7.out hbel)
                        have HN8 := hide (HN7.out.below hbel)
                        have hcI := HI8.out.cell 0
                        simp only [List.getElem?_cons_zero, List.getElem?_cons_succ] at hcI
                        clear hbel
                        rcases htw with ⟨rfl, hno⟩ | ⟨rfl, hyes⟩
                        · by_cases hltn : k < ol
                          · have hki : (k : Int) < (ol : Int) := by omega
                            have hlt : k < N.length := by rw [HNLEN.out]; exact hltn
                            obtain ⟨b, off, rfl, hd1, hd2, hbw, hro⟩ := HNR.out k hlt
                            rw [HNLEN.out] at hd1
                            unfold maxLen at hd2
                            obtain ⟨PT, hPT⟩ : ∃ P, P = vals N[k].tx ++ [Value.int .i64 N[k].at'] := ⟨_, rfl⟩
                            have h32 := (HNOK.out wr HB8.out _ (List.getElem_mem hlt)).1
                            have hPTl : PT.length = 33 := by rw [hPT]; simp [vals_length, h32]
                            have hPTp : ¬ PT = [] := by intro h; rw [h] at hPTl; cases hPTl
                            have HPTL := hide hPTl
                            have HRT : Hid (wr.rangeAt b (off + k * 36) PT) := hide (by rw [hPT]; exact (coin_range (range_keep hro HBEL.out hbw) h32).1)
                            have HRC := hide (HPN2.out wr HB8.out k hlt)
                            rw [← hPT] at HRC
                            have HNO := hide hno
                            clear hPT hPTl hro h32 hno
                            go_wp2_with (refine wpList_load_part 46 PT b (off + k * 36) rfl (.tmp 101) rfl rfl HRT.out Tryz.underlying46 rfl size_placeC HPTL.out ?_)
                            refine HRC.out.mono ?_
                            rintro e w9 ⟨hrc, hb9⟩
                            have HBE9 := hide (HBEL.out.trans (hb9.mono HBEL.out.size))
                            clear hb9 hcI
                            rcases hrc with ⟨m, hf, rfl⟩ | ⟨hna, rfl⟩
                            · have hmi : (0 : Int) ≤ (m : Int) := by omega
                              have HYES : Hid (∃ j, ∃ hj : j < N.length, ∃ y ∈ R, Cn.place y.it = Cn.place N[j].it) := hide (by
                                obtain ⟨hm, hmp⟩ := hf
                                exact ⟨k, hlt, R[m], List.getElem_mem hm, hmp⟩)
                              clear hf
                              go_wp2
                              go_roundw
                              case rel => exact ⟨k + 1, 6, by omega, by go_num, rfl, .inr ⟨rfl, HYES.out⟩, HBE9.out⟩
                              case measure => simp [intOf]; omega
                            · have HNA := hide hna
                              clear hna
                              go_wp2
                              go_roundw
                              case rel => exact ⟨k + 1, 0, by omega, by go_num, rfl, .inl ⟨rfl, fun j hj h => if ej : j = k then by subst ej; exact HNA.out else HNO.out j hj (by omega)⟩, HBE9.out⟩
                              case measure => simp [intOf]; omega
                          · have hki : ¬ (k : Int) < (ol : Int) := by omega
                            have HNO : Hid (¬ ∃ c ∈ N.map CoinV.it, ∃ d ∈ R.map CoinV.it, Cn.place d = Cn.place c) := hide (by
                              rintro ⟨c, hc, d, hd, e⟩
                              obtain ⟨x, hx, rfl⟩ := List.mem_map.1 hc
                              obtain ⟨j, hj, rfl⟩ := List.getElem_of_mem hx
                              exact Cn.at?_none.1 (none_at (hno j hj (by have := HNLEN.out; omega))) d hd e)
                            have HAP4 := HAP3
                            rw [if_neg HNO.out] at HAP4
                            have hsl : S.length = il := HSL.out
                            have HLN : Hid ((Cn.merged (Cn.less (R.map CoinV.it) (S.map CoinV.it)) (N.map CoinV.it)).length = n - il + ol ∧ il ≤ n) := hide (by
                              have hnd : ((S.map CoinV.it).map Cn.place).Nodup := by
                                rw [List.map_map]
                                have h5 := HNDP.out
                                have h6 := Cn.ins_nodup HK1.out
                                rw [places_it, ← HPSE.out, ← h5] at h6
                                exact h6
                              have hp := (Cn.less_perm (Cn.ord_nodup (Cn.set_ord HS1.out)) hnd (fun c hc => by obtain ⟨x, hx, rfl⟩ := List.mem_map.1 hc; exact List.mem_map.2 ⟨x, HMEM.out x hx, rfl⟩)).length_eq
                              have hm := (Cn.merged_perm (Cn.less (R.map CoinV.it) (S.map CoinV.it)) (N.map CoinV.it)).length_eq
                              rw [List.length_append, List.length_map, List.length_map, HRN.out, hsl] at hp
                              rw [List.length_append, List.length_map, HNLEN.out] at hm
                              omega)
                            have hiln := HLN.out.2
                            rw [HLN.out.1] at HAP4
                            clear hno hltn HNO HAP3 hsl
                            by_cases hbig : 1000 < n - il + ol
                            · have hbigI : (1000 : Int) < (n : Int) - (il : Int) + (ol : Int) := by omega
                              have HDX : Hid (D = Cn.bad 4) := hide (by rw [HAP4.out, if_pos hbig])
                              clear HAP4 hbig
                              go_wp2_with (refine wpList_store_any3 29 [.slice none 0 0, .slice none 0 0, .int .i64 0, .int .i64 0] [.slice none 0 0, .slice none 0 0, .int .i64 0, .int .i64 4] (w.heap.size + 1) rfl (.tmp 6) (.tmp 121) rfl rfl rfl rfl HJ8.out size_applied rfl rfl (by intro v hv; simp only [List.mem_cons, List.not_mem_nil, or_false] at hv; rcases hv with rfl | rfl | rfl | rfl <;> rfl) ?_; intro v9 hi9 hw9; have hbut : But (w.heap.size + 1) wr v9 := (by rw [hw9]; exact But.row _ _ _); clear hw9)
                              have hb9 := HB8.out.trans (Only.below hbut HB8.out.size (Nat.le_succ _))
                              exact bodyPost_ret (v := .agg #[.slice none 0 0, .slice none 0 0, .int .i64 0, .int .i64 4]) (results_cell1 Tryz.results4 rfl (hi9.cellsOfS Tryz.underlying29 (by kernel_rfl))) rfl ⟨ra_bad (HDX.out), hb9⟩
                            · have hbigI : ¬ (1000 : Int) < (n : Int) - (il : Int) + (ol : Int) := by omega
                              have HDG := HAP4
                              rw [if_neg hbig] at HDG
                              clear HAP4 hbig
                              obtain ⟨w8, rfl⟩ : ∃ wA, wA = wr := ⟨_, rfl⟩
                              have HLW := hide (rless_any _ _ R S w8 (HRW.out w8 HB8.out) HS8.out (by rw [HRN.out]; exact hr1000) (by rw [HSL.out]; omega))
                              have HQ : Hid (0 ≤ s1 ∧ s1 ≤ 1125899906842624 ∧ 0 ≤ s2 ∧ s2 ≤ 1125899906842624) := hide ⟨HR1.out.1, HR1.out.2, HR2.out.1, HR2.out.2⟩
                              obtain ⟨q1, q2, q3, q4⟩ := HQ.out
                              go_wp2_with fail
                              refine HLW.out.mono ?_
                              rintro e w10 ⟨⟨v10, rfl, hrow⟩, hb10⟩
                              obtain ⟨la, lc, hv10⟩ := owns_form hrow
                              subst hv10
                              have HJ10 := hide (HJ8.out.below hb10 HJ8.out.lt)
                              have HB10 := hide (HB8.out.trans (hb10.mono HB8.out.size))
                              have HSO10 := hide (owns_below HSO8.out hb10)
                              have HN10 := hide (HN8.out.below hb10)
                              have HL10 : Hid (HasCoins w10 (.slice la (keep (placesOf S) R).length lc) (keep (placesOf S) R)) := hide (coins_of_row hrow rfl (fun x hx => HRO.out x (keep_mem hx) w10 HB10.out))
                              have HMW := hide (rmerged_any _ _ _ _ w10 HL10.out HN10.out (Nat.le_trans (keep_le _ _) (by rw [HRN.out]; exact hr1000)) (by rw [HNLEN.out]; omega))
                              obtain ⟨kl, hkl⟩ : ∃ n, (keep (placesOf S) R).length = n := ⟨_, rfl⟩
                              have HKO : Hid (∀ x ∈ mergedV (keep (placesOf S) R) N, ∀ W, Below w.heap.size w W → CoinOk W x) := hide (fun x hx W hW => by
                                rcases mergedV_mem _ _ x hx with h' | h'
                                · exact HRO.out x (keep_mem h') W hW
                                · exact HNOK.out W hW x h')
                              have HMI : Hid ((mergedV (keep (placesOf S) R) N).map CoinV.it = Cn.merged (Cn.less (R.map CoinV.it) (S.map CoinV.it)) (N.map CoinV.it)) := hide (by rw [mergedV_it, keep_less])
                              obtain ⟨M, hM⟩ : ∃ M, M = mergedV (keep (placesOf S) R) N := ⟨_, rfl⟩
                              rw [hkl, ← hM] at HMW
                              rw [← hM] at HKO HMI
                              rw [hkl]
                              clear hb10 hrow hM HLW hkl HL10
                              go_wp2_with fail
                              refine HMW.out.mono ?_
                              rintro e w11 ⟨⟨v11, rfl, hrow⟩, hb11⟩
                              obtain ⟨ma, mc, hv11⟩ := owns_form hrow
                              subst hv11
                              have HJ11 := hide (HJ10.out.below hb11 HJ10.out.lt)
                              have HB11 := hide (HB10.out.trans (hb11.mono HB10.out.size))
                              have HSO11 := hide (owns_below HSO10.out hb11)
                              have HMO := hide hrow
                              obtain ⟨ml, hml2⟩ : ∃ n, M.length = n := ⟨_, rfl⟩
                              have HML := hide hml2
                              rw [hml2] at HMO ⊢
                              clear hb11 hrow HMW hml2
                              go_wp2_with (refine wpList_store_any3 29 [.slice none 0 0, .slice none 0 0, .int .i64 0, .int .i64 0] [.slice ma ml mc, .slice va il vc, .int .i64 0, .int .i64 0] (w.heap.size + 1) rfl (.tmp 6) (.tmp 136) rfl rfl rfl rfl HJ11.out size_applied rfl rfl (by intro v hv; simp only [List.mem_cons, List.not_mem_nil, or_false] at hv; rcases hv with rfl | rfl | rfl | rfl <;> rfl) ?_; intro v9 hi9 hw9; have hbut : But (w.heap.size + 1) w11 v9 := (by rw [hw9]; exact But.row _ _ _); clear hw9)
                              have hb9 := HB11.out.trans (Only.below hbut HB11.out.size (Nat.le_succ _))
                              refine bodyPost_ret (v := .agg #[.slice ma ml mc, .slice va il vc, .int .i64 0, .int .i64 0]) (results_cell1 Tryz.results4 rfl (hi9.cellsOfS Tryz.underlying29 (by kernel_rfl))) rfl ⟨?_, hb9⟩
                              rw [HDG.out]
                              exact ⟨_, _, M, S, (by rw [if_pos (HIE.out.2 HIZ.out)]), coins_of_row (row_but HMO.out hbut HJ10.out.lt) HML.out (fun x hx => HKO.out x hx v9 hb9), HMI.out, coins_of_row (row_but HSO11.out hbut HJ2.out.lt) HSL.out (fun x hx => HRO.out x (HMEM.out x hx) v9 hb9), rfl⟩
                        · have HDT : Hid (D = Cn.bad 6) := hide (by
                            rw [HAP3.out, if_pos]
                            obtain ⟨j, hj, y, hy, e⟩ := hyes
                            exact ⟨N[j].it, List.mem_map.2 ⟨_, List.getElem_mem hj, rfl⟩, y.it, List.mem_map.2 ⟨y, hy, rfl⟩, e⟩)
                          clear hyes HAP3
                          by_cases hltn : k < ol
                          · have hki : (k : Int) < (ol : Int) := by omega
                            go_wp2_with (refine wpList_store_any3 29 [.slice none 0 0, .slice none 0 0, .int .i64 0, .int .i64 0] [.slice none 0 0, .slice none 0 0, .int .i64 0, .int .i64 6] (w.heap.size + 1) rfl (.tmp 6) (.tmp 121) rfl rfl rfl rfl HJ8.out size_applied rfl rfl (by intro v hv; simp only [List.mem_cons, List.not_mem_nil, or_false] at hv; rcases hv with rfl | rfl | rfl | rfl <;> rfl) ?_; intro v9 hi9 hw9; have hbut : But (w.heap.size + 1) wr v9 := (by rw [hw9]; exact But.row _ _ _); clear hw9)
                            have hb9 := HB8.out.trans (Only.below hbut HB8.out.size (Nat.le_succ _))
                            exact bodyPost_ret (v := .agg #[.slice none 0 0, .slice none 0 0, .int .i64 0, .int .i64 6]) (results_cell1 Tryz.results4 rfl (hi9.cellsOfS Tryz.underlying29 (by kernel_rfl))) rfl ⟨ra_bad (HDT.out), hb9⟩
                          · have hki : ¬ (k : Int) < (ol : Int) := by omega
                            go_wp2_with (refine wpList_store_any3 29 [.slice none 0 0, .slice none 0 0, .int .i64 0, .int .i64 0] [.slice none 0 0, .slice none 0 0, .int .i64 0, .int .i64 6] (w.heap.size + 1) rfl (.tmp 6) (.tmp 121) rfl rfl rfl rfl HJ8.out size_applied rfl rfl (by intro v hv; simp only [List.mem_cons, List.not_mem_nil, or_false] at hv; rcases hv with rfl | rfl | rfl | rfl <;> rfl) ?_; intro v9 hi9 hw9; have hbut : But (w.heap.size + 1) wr v9 := (by rw [hw9]; exact But.row _ _ _); clear hw9)
                            have hb9 := HB8.out.trans (Only.below hbut HB8.out.size (Nat.le_succ _))
                            exact bodyPost_ret (v := .agg #[.slice none 0 0, .slice none 0 0, .int .i64 0, .int .i64 6]) (results_cell1 Tryz.results4 rfl (hi9.cellsOfS Tryz.underlying29 (by kernel_rfl))) rfl ⟨ra_bad (HDT.out), hb9⟩
                · have HDF2 : Hid (D = Cn.bad f2) := hide (by rw [HAP1.out, if_pos hf2])
                  have hz1 : (f2 == 0) = false := by rw [beq_eq_false_iff_ne]; exact hf2
                  have hz2 : (f2 != 0) = true := by rw [bne_iff_ne]; exact hf2
                  have hol0 : (0 : Int) < (ol : Int) := by omega
                  clear hf2 HAP1
                  go_wp2
                  refine wp_loop_rounds 1 ?_
                  rw [rounds_succ]
                  go_wp2_with (refine wpList_store_any3 29 [.slice none 0 0, .slice none 0 0, .int .i64 0, .int .i64 0] [.slice none 0 0, .slice none 0 0, .int .i64 0, .int .i64 f2] (w.heap.size + 1) rfl (.tmp 6) (.tmp 121) rfl rfl rfl rfl HJ7.out size_applied rfl rfl (by intro v hv; simp only [List.mem_cons, List.not_mem_nil, or_false] at hv; rcases hv with rfl | rfl | rfl | rfl <;> rfl) ?_; intro v9 hi9 hw9; have hbut : But (w.heap.size + 1) w7 v9 := (by rw [hw9]; exact But.row _ _ _); clear hw9)
                  have hb9 := HB7.out.trans (Only.below hbut HB7.out.size (Nat.le_succ _))
                  exact bodyPost_ret (v := .agg #[.slice none 0 0, .slice none 0 0, .int .i64 0, .int .i64 f2]) (results_cell1 Tryz.results4 rfl (hi9.cellsOfS Tryz.underlying29 (by kernel_rfl))) rfl ⟨ra_bad (HDF2.out), hb9⟩
              · have HDF1 : Hid (D = Cn.bad f1) := hide (by rw [HAP.out, if_pos hf1])
                have hz1 : (f1 == 0) = false := by rw [beq_eq_false_iff_ne]; exact hf1
                have hz2 : (f1 != 0) = true := by rw [bne_iff_ne]; exact hf1
                clear hf1 HAP
                have hcI := HI5.out.cell 0
                simp only [List.getElem?_cons_zero, List.getElem?_cons_succ] at hcI
                go_wp2
                refine wp_loop_rounds 1 ?_
                rw [rounds_succ]
                go_wp2_with (refine wpList_store_any3 29 [.slice none 0 0, .slice none 0 0, .int .i64 0, .int .i64 0] [.slice none 0 0, .slice none 0 0, .int .i64 0, .int .i64 f1] (w.heap.size + 1) rfl (.tmp 6) (.tmp 121) rfl rfl rfl rfl HJ5.out size_applied rfl rfl (by intro v hv; simp only [List.mem_cons, List.not_mem_nil, or_false] at hv; rcases hv with rfl | rfl | rfl | rfl <;> rfl) ?_; intro v9 hi9 hw9; have hbut : But (w.heap.size + 1) w5 v9 := (by rw [hw9]; exact But.row _ _ _); clear hw9)
                have hb9 := HB5.out.trans (Only.below hbut HB5.out.size (Nat.le_succ _))
                exact bodyPost_ret (v := .agg #[.slice none 0 0, .slice none 0 0, .int .i64 0, .int .i64 f1]) (results_cell1 Tryz.results4 rfl (hi9.cellsOfS Tryz.underlying29 (by kernel_rfl))) rfl ⟨ra_bad (HDF1.out), hb9⟩
          · have HD5 : Hid (D = Cn.bad 5) := hide (by
              rw [HDE.out]
              obtain ⟨j, hj, hna⟩ := hno
              refine ap_none HS1.out HK1.out HH.out ?_
              rw [places_it, ← HPSE.out]
              exact spent_none hj (none_at hna))
            clear hno
            by_cases hltn : k < il
            · have hki : (k : Int) < (il : Int) := by omega
              go_wp2
              refine wp_loop_rounds 1 ?_
              rw [rounds_succ]
              go_wp2_with (refine wpList_store_any3 29 [.slice none 0 0, .slice none 0 0, .int .i64 0, .int .i64 0] [.slice none 0 0, .slice none 0 0, .int .i64 0, .int .i64 5] (w.heap.size + 1) rfl (.tmp 6) (.tmp 121) rfl rfl rfl rfl HJ4.out size_applied rfl rfl (by intro v hv; simp only [List.mem_cons, List.not_mem_nil, or_false] at hv; rcases hv with rfl | rfl | rfl | rfl <;> rfl) ?_; intro v9 hi9 hw9; have hbut : But (w.heap.size + 1) wr v9 := (by rw [hw9]; exact But.row _ _ _); clear hw9)
              have hb9 := HB4.out.trans (Only.below hbut HB4.out.size (Nat.le_succ _))
              exact bodyPost_ret (v := .agg #[.slice none 0 0, .slice none 0 0, .int .i64 0, .int .i64 5]) (results_cell1 Tryz.results4 rfl (hi9.cellsOfS Tryz.underlying29 (by kernel_rfl))) rfl ⟨ra_bad (HD5.out), hb9⟩
            · have hki : ¬ (k : Int) < (il : Int) := by omega
              go_wp2
              refine wp_loop_rounds 1 ?_
              rw [rounds_succ]
              go_wp2_with (refine wpList_store_any3 29 [.slice none 0 0, .slice none 0 0, .int .i64 0, .int .i64 0] [.slice none 0 0, .slice none 0 0, .int .i64 0, .int .i64 5] (w.heap.size + 1) rfl (.tmp 6) (.tmp 121) rfl rfl rfl rfl HJ4.out size_applied rfl rfl (by intro v hv; simp only [List.mem_cons, List.not_mem_nil, or_false] at hv; rcases hv with rfl | rfl | rfl | rfl <;> rfl) ?_; intro v9 hi9 hw9; have hbut : But (w.heap.size + 1) wr v9 := (by rw [hw9]; exact But.row _ _ _); clear hw9)
              have hb9 := HB4.out.trans (Only.below hbut HB4.out.size (Nat.le_succ _))
              exact bodyPost_ret (v := .agg #[.slice none 0 0, .slice none 0 0, .int .i64 0, .int .i64 5]) (results_cell1 Tryz.results4 rfl (hi9.cellsOfS Tryz.underlying29 (by kernel_rfl))) rfl ⟨ra_bad (HD5.out), hb9⟩
      · rw [decide_eq_false h3]
        have HD3 : Hid (D = Cn.bad 2) := hide (by rw [HDE.out]; exact ap_high HS1.out HK1.out h3)
        clear h3
        have hcI := HI2.out.cell 0
        simp only [List.getElem?_cons_zero, List.getElem?_cons_succ] at hcI
        by_cases hil0 : 0 < il
        · have hi0 : (0 : Int) < (il : Int) := by omega
          go_wp2
          refine wp_loop_rounds 1 ?_
          rw [rounds_succ]
          go_wp2
          refine wp_loop_rounds 1 ?_
          rw [rounds_succ]
          go_wp2_with (refine wpList_store_any3 29 [.slice none 0 0, .slice none 0 0, .int .i64 0, .int .i64 0] [.slice none 0 0, .slice none 0 0, .int .i64 0, .int .i64 2] (w.heap.size + 1) rfl (.tmp 6) (.tmp 121) rfl rfl rfl rfl HJ2.out size_applied rfl rfl (by intro v hv; simp only [List.mem_cons, List.not_mem_nil, or_false] at hv; rcases hv with rfl | rfl | rfl | rfl <;> rfl) ?_; intro v9 hi9 hw9; have hbut : But (w.heap.size + 1) w2 v9 := (by rw [hw9]; exact But.row _ _ _); clear hw9)
          have hb9 := HB2.out.trans (Only.below hbut HB2.out.size (Nat.le_succ _))
          exact bodyPost_ret (v := .agg #[.slice none 0 0, .slice none 0 0, .int .i64 0, .int .i64 2]) (results_cell1 Tryz.results4 rfl (hi9.cellsOfS Tryz.underlying29 (by kernel_rfl))) rfl ⟨ra_bad (HD3.out), hb9⟩
        · have hi0 : ¬ (0 : Int) < (il : Int) := by omega
          go_wp2
          refine wp_loop_rounds 1 ?_
          rw [rounds_succ]
          go_wp2
          refine wp_loop_rounds 1 ?_
          rw [rounds_succ]
          go_wp2_with (refine wpList_store_any3 29 [.slice none 0 0, .slice none 0 0, .int .i64 0, .int .i64 0] [.slice none 0 0, .slice none 0 0, .int .i64 0, .int .i64 2] (w.heap.size + 1) rfl (.tmp 6) (.tmp 121) rfl rfl rfl rfl HJ2.out size_applied rfl rfl (by intro v hv; simp only [List.mem_cons, List.not_mem_nil, or_false] at hv; rcases hv with rfl | rfl | rfl | rfl <;> rfl) ?_; intro v9 hi9 hw9; have hbut : But (w.heap.size + 1) w2 v9 := (by rw [hw9]; exact But.row _ _ _); clear hw9)
          have hb9 := HB2.out.trans (Only.below hbut HB2.out.size (Nat.le_succ _))
          exact bodyPost_ret (v := .agg #[.slice none 0 0, .slice none 0 0, .int .i64 0, .int .i64 2]) (results_cell1 Tryz.results4 rfl (hi9.cellsOfS Tryz.underlying29 (by kernel_rfl))) rfl ⟨ra_bad (HD3.out), hb9⟩
    · have HD2 : Hid (D = Cn.bad c2) := hide (by rw [HDE.out, HC2.out]; exact ap_tx HS1.out (by rw [← HC2.out]; exact h2))
      have hz1 : (c2 == 0) = false := by rw [beq_eq_false_iff_ne]; exact h2
      have hz2 : (c2 != 0) = true := by rw [bne_iff_ne]; exact h2
      clear h2 HC2
      have hcI := HI2.out.cell 0
      simp only [List.getElem?_cons_zero, List.getElem?_cons_succ] at hcI
      by_cases hil0 : 0 < il
      · have hi0 : (0 : Int) < (il : Int) := by omega
        go_wp2
        refine wp_loop_rounds 1 ?_
        rw [rounds_succ]
        go_wp2
        refine wp_loop_rounds 1 ?_
        rw [rounds_succ]
        go_wp2_with (refine wpList_store_any3 29 [.slice none 0 0, .slice none 0 0, .int .i64 0, .int .i64 0] [.slice none 0 0, .slice none 0 0, .int .i64 0, .int .i64 c2] (w.heap.size + 1) rfl (.tmp 6) (.tmp 121) rfl rfl rfl rfl HJ2.out size_applied rfl rfl (by intro v hv; simp only [List.mem_cons, List.not_mem_nil, or_false] at hv; rcases hv with rfl | rfl | rfl | rfl <;> rfl) ?_; intro v9 hi9 hw9; have hbut : But (w.heap.size + 1) w2 v9 := (by rw [hw9]; exact But.row _ _ _); clear hw9)
        have hb9 := HB2.out.trans (Only.below hbut HB2.out.size (Nat.le_succ _))
        exact bodyPost_ret (v := .agg #[.slice none 0 0, .slice none 0 0, .int .i64 0, .int .i64 c2]) (results_cell1 Tryz.results4 rfl (hi9.cellsOfS Tryz.underlying29 (by kernel_rfl))) rfl ⟨ra_bad (HD2.out), hb9⟩
      · have hi0 : ¬ (0 : Int) < (il : Int) := by omega
        go_wp2
        refine wp_loop_rounds 1 ?_
        rw [rounds_succ]
        go_wp2
        refine wp_loop_rounds 1 ?_
        rw [rounds_succ]
        go_wp2_with (refine wpList_store_any3 29 [.slice none 0 0, .slice none 0 0, .int .i64 0, .int .i64 0] [.slice none 0 0, .slice none 0 0, .int .i64 0, .int .i64 c2] (w.heap.size + 1) rfl (.tmp 6) (.tmp 121) rfl rfl rfl rfl HJ2.out size_applied rfl rfl (by intro v hv; simp only [List.mem_cons, List.not_mem_nil, or_false] at hv; rcases hv with rfl | rfl | rfl | rfl <;> rfl) ?_; intro v9 hi9 hw9; have hbut : But (w.heap.size + 1) w2 v9 := (by rw [hw9]; exact But.row _ _ _); clear hw9)
        have hb9 := HB2.out.trans (Only.below hbut HB2.out.size (Nat.le_succ _))
        exact bodyPost_ret (v := .agg #[.slice none 0 0, .slice none 0 0, .int .i64 0, .int .i64 c2]) (results_cell1 Tryz.results4 rfl (hi9.cellsOfS Tryz.underlying29 (by kernel_rfl))) rfl ⟨ra_bad (HD2.out), hb9⟩
  · have HD1 : Hid (D = Cn.bad c1) := hide (by rw [HDE.out, HC1.out]; exact ap_set (by rw [← HC1.out]; exact h1))
    have hz1 : (c1 == 0) = false := by rw [beq_eq_false_iff_ne]; exact h1
    have hz2 : (c1 != 0) = true := by rw [bne_iff_ne]; exact h1
    clear h1 HC1
    have hcI := HI1.out.cell 0
    simp only [List.getElem?_cons_zero, List.getElem?_cons_succ] at hcI
    by_cases hil0 : 0 < il
    · have hi0 : (0 : Int) < (il : Int) := by omega
      go_wp2
      refine wp_loop_rounds 1 ?_
      rw [rounds_succ]
      go_wp2
      refine wp_loop_rounds 1 ?_
      rw [rounds_succ]
      go_wp2_with (refine wpList_store_any3 29 [.slice none 0 0, .slice none 0 0, .int .i64 0, .int .i64 0] [.slice none 0 0, .slice none 0 0, .int .i64 0, .int .i64 c1] (w.heap.size + 1) rfl (.tmp 6) (.tmp 121) rfl rfl rfl rfl HJ1.out size_applied rfl rfl (by intro v hv; simp only [List.mem_cons, List.not_mem_nil, or_false] at hv; rcases hv with rfl | rfl | rfl | rfl <;> rfl) ?_; intro v9 hi9 hw9; have hbut : But (w.heap.size + 1) w1 v9 := (by rw [hw9]; exact But.row _ _ _); clear hw9)
      have hb9 := HB1.out.trans (Only.below hbut HB1.out.size (Nat.le_succ _))
      exact bodyPost_ret (v := .agg #[.slice none 0 0, .slice none 0 0, .int .i64 0, .int .i64 c1]) (results_cell1 Tryz.results4 rfl (hi9.cellsOfS Tryz.underlying29 (by kernel_rfl))) rfl ⟨ra_bad (HD1.out), hb9⟩
    · have hi0 : ¬ (0 : Int) < (il : Int) := by omega
      go_wp2
      refine wp_loop_rounds 1 ?_
      rw [rounds_succ]
      go_wp2
      refine wp_loop_rounds 1 ?_
      rw [rounds_succ]
      go_wp2_with (refine wpList_store_any3 29 [.slice none 0 0, .slice none 0 0, .int .i64 0, .int .i64 0] [.slice none 0 0, .slice none 0 0, .int .i64 0, .int .i64 c1] (w.heap.size + 1) rfl (.tmp 6) (.tmp 121) rfl rfl rfl rfl HJ1.out size_applied rfl rfl (by intro v hv; simp only [List.mem_cons, List.not_mem_nil, or_false] at hv; rcases hv with rfl | rfl | rfl | rfl <;> rfl) ?_; intro v9 hi9 hw9; have hbut : But (w.heap.size + 1) w1 v9 := (by rw [hw9]; exact But.row _ _ _); clear hw9)
      have hb9 := HB1.out.trans (Only.below hbut HB1.out.size (Nat.le_succ _))
      exact bodyPost_ret (v := .agg #[.slice none 0 0, .slice none 0 0, .int .i64 0, .int .i64 c1]) (results_cell1 Tryz.results4 rfl (hi9.cellsOfS Tryz.underlying29 (by kernel_rfl))) rfl ⟨ra_bad (HD1.out), hb9⟩
end Go.Proofs.YtmjilohlchkicaaGreatDoor
