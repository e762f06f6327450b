/- CoinOnce: nothing is spent twice. -/
import Derived.Test.YtpnkndagahchhaaGreatDoorZCy
import Derived.Test.YtpnkndagahchhaaGreatDoorZCl
import Derived.Test.YtpnkndagahchhaaGreatDoorZTs
import Derived.Test.YtpnkndagahchhaaGreatDoorTold2
namespace Go.Proofs.YtpnkndagahchhaaGreatDoor
open Go.RowKit
set_option linter.unusedVariables false
set_option linter.unusedSimpArgs false

theorem place_of_in2 {t : TxV} {k : Nat} (hk : k < t.ins.length) : (t.ins[k].tx, t.ins[k].at') ∈ Tm.places t.it.ins := by
  rw [places_it]; exact List.mem_map.2 ⟨t.ins[k], List.getElem_mem hk, rfl⟩
theorem place_of_in {t : TxV} (hk : 0 < t.ins.length) : (t.ins[0].tx, t.ins[0].at') ∈ Tm.places t.it.ins := place_of_in2 hk
theorem ap_not {R : List CoinV} {t : TxV} {h : Int} {e : Ending} {w' : World} (hn : (Cn.apply (R.map CoinV.it) t.it h).e ≠ 0) (ha : ApGood (Cn.apply (R.map CoinV.it) t.it h) e w') : ∃ c, e = .returned (BadV c) := by
  rcases ha with ⟨_, rfl⟩ | ⟨h0, _⟩
  · exact ⟨_, rfl⟩
  · exact absurd h0 hn
theorem cn_cellG {w W W' : World} {b o : Nat} {v : Value} (h : W.cell? ⟨b, o, none⟩ = some v) (hb : Below W.heap.size W W') (hw : Below w.heap.size w W) (hl : b < w.heap.size) : W'.cell? ⟨b, o, none⟩ = some v :=
  (hb.cell (p := ⟨b, o, none⟩) (Nat.lt_of_lt_of_le hl hw.size)).trans h
theorem find_made {R X : List CoinV} {t : TxV} {h : Int} {G : List Cn.Coin} (g : Cn.Good (R.map CoinV.it) t.it h G) (hX : X.map CoinV.it = Cn.merged (Cn.less (R.map CoinV.it) G) (Cn.news t.it h)) {k : Nat} (hk : k < t.outs.length) {e : Ending} {w' : World} (hf : FdTold X (Tm.id t.it, (k : Int)) e w') :
    ∃ x : CoinV, e = .returned (.tuple #[.agg (coinCell x).toArray, .nilIface]) ∧ CoinOk w' x ∧ x.amount = t.outs[k].amount ∧ opsOf x.L = opsOf t.outs[k].L ∧ x.height = h := by
  have hk2 : k < t.it.outs.length := by simpa [TxV.it] using hk
  have he : t.it.outs[k] = t.outs[k].it := by simp [TxV.it]
  rcases hf with ⟨h0, _⟩ | ⟨_, hn, _⟩ | ⟨_, x, hx, hp, x', rfl, hi, ho⟩
  · rw [hX] at h0; exact absurd g.set h0
  · have := Cn.at?_none.1 (none_at hn) _ (by rw [hX]; exact g.has hk2)
    exact absurd rfl this
  · have hm : x.it ∈ Cn.merged (Cn.less (R.map CoinV.it) G) (Cn.news t.it h) := by rw [← hX]; exact List.mem_map.2 ⟨x, hx, rfl⟩
    have e1 := g.there hk2 hm hp
    rw [← hi, he] at e1
    exact ⟨x', rfl, ho, congrArg Cn.Coin.amount e1, congrArg Cn.Coin.lock e1, congrArg Cn.Coin.height e1⟩
theorem find_gone {R X : List CoinV} {t : TxV} {h : Int} {G : List Cn.Coin} (g : Cn.Good (R.map CoinV.it) t.it h G) (hX : X.map CoinV.it = Cn.merged (Cn.less (R.map CoinV.it) G) (Cn.news t.it h)) {p : List Int × Int} (hp : p ∈ Tm.places t.it.ins) {e : Ending} {w' : World} (hf : FdTold X p e w') :
    e = .returned (.tuple #[.agg ZC.toArray, errV 5]) := by
  rcases hf with ⟨h0, _⟩ | ⟨_, _, rfl⟩ | ⟨_, x, hx, hq, _⟩
  · rw [hX] at h0; exact absurd g.set h0
  · rfl
  · exact absurd hq (g.gone hp x.it (by rw [← hX]; exact List.mem_map.2 ⟨x, hx, rfl⟩))
set_option maxRecDepth 100000 in
set_option maxHeartbeats 8000000 in
theorem coinOnce_walk (cv : Value) (R : List CoinV) (t u : TxV) (h : Int) (w : World) (hR : HasCoins w cv R) (ht : HasTx w t) (hu : HasTx w u) (hT : Tab w) (hw : 0 < w.heap.size) (hE : ErrVar w) :
    Calls Tryz.prog 3 #[cv, t.val, u.val, .int .i64 h] w fun e w' => e = .returned (.bool true) ∧ Below w.heap.size w w' := by
  obtain ⟨a, cap, rfl, hml, _⟩ := coins_form hR
  obtain ⟨ia, ic, oa, oc, ft⟩ := tx_form ht
  obtain ⟨ja, jc, pa, pc, fu⟩ := tx_form hu
  have HTB := hide (fun W (hW : Below w.heap.size w W) => hT.below hW hw)
  have HGL : Hid (∀ W, Below w.heap.size w W → 0 < W.heap.size) := hide (fun W (hW : Below w.heap.size w W) => Nat.lt_of_lt_of_le hw hW.size)
  have HHT := hide (fun W (hW : Below w.heap.size w W) => ht.below hW)
  have HHU := hide (fun W (hW : Below w.heap.size w W) => hu.below hW)
  have HMD := hide (fun W (hW : Below w.heap.size w W) => cmade_any W (HTB.out W hW) (HGL.out W hW))
  have HAPT := hide (fun W (hW : Below w.heap.size w W) => apply_any _ R t h W (hR.below hW) (ht.below hW) (HTB.out W hW) (HGL.out W hW))
  have HAPU := hide (fun W (hW : Below w.heap.size w W) => apply_any _ R u h W (hR.below hW) (hu.below hW) (HTB.out W hW) (HGL.out W hW))
  have HNU := hide (fun W (hW : Below w.heap.size w W) => apply_any (.slice none 0 0) [] u h W ⟨.inl ⟨none, 0, rfl, rfl⟩, fun x hx => by cases hx⟩ (hu.below hW) (HTB.out W hW) (HGL.out W hW))
  have HTT := hide (fun (hk : Tm.check t.it = 0) W (hW : Below w.heap.size w W) => tid_good t W (ht.below hW) hk (HTB.out W hW) (HGL.out W hW))
  have HTU := hide (fun (hk : Tm.check u.it = 0) W (hW : Below w.heap.size w W) => tid_good u W (hu.below hW) hk (HTB.out W hW) (HGL.out W hW))
  have HER : Hid (∀ W, Below w.heap.size w W → Calls Tryz.prog 9 #[.iface 50 (.int .i64 5), .int .i64 5] W fun e w' => e = .returned (.bool true) ∧ Below W.heap.size W w') := hide (fun W hW => error_any 5 5 W (hE.below hW))
  have HFT := hide ft
  have HFU := hide fu
  have HVT := hide ft.val
  have HVU := hide fu.val
  have hilm := ft.il
  have holm := ft.ol
  have hjlm := fu.il
  have hplm := fu.ol
  obtain ⟨il, hil⟩ : ∃ n, t.ins.length = n := ⟨_, rfl⟩
  obtain ⟨ol, hol⟩ : ∃ n, t.outs.length = n := ⟨_, rfl⟩
  obtain ⟨jl, hjl⟩ : ∃ n, u.ins.length = n := ⟨_, rfl⟩
  obtain ⟨pl, hpl⟩ : ∃ n, u.outs.length = n := ⟨_, rfl⟩
  obtain ⟨n, hn⟩ : ∃ n, R.length = n := ⟨_, rfl⟩
  obtain ⟨tt, htt⟩ : ∃ n, t.time = n := ⟨_, rfl⟩
  obtain ⟨ut, hut⟩ : ∃ n, u.time = n := ⟨_, rfl⟩
  rw [hil, hol, htt] at HVT
  rw [hjl, hpl, hut] at HVU
  rw [HVT.out, HVU.out, hn]
  rw [HVT.out, hn] at HAPT
  rw [HVU.out, hn] at HAPU
  rw [HVU.out] at HNU HTU
  rw [HVT.out] at HTT
  rw [hil] at hilm
  rw [hol] at holm
  rw [hjl] at hjlm
  rw [hpl] at hplm
  rw [hn] at hml
  obtain ⟨DT, hDT⟩ : ∃ D, D = Tm.id t.it := ⟨_, rfl⟩
  obtain ⟨DU, hDU⟩ : ∃ D, D = Tm.id u.it := ⟨_, rfl⟩
  have DTL : Hid (DT.length = 32) := hide (by rw [hDT]; exact id_len _)
  have DTB : Hid (Sz.Byt DT) := hide (by rw [hDT]; exact id_byt _)
  have DUL : Hid (DU.length = 32) := hide (by rw [hDU]; exact id_len _)
  obtain ⟨DTV, hDTV⟩ : ∃ D, D = vals DT := ⟨_, rfl⟩
  obtain ⟨DUV, hDUV⟩ : ∃ D, D = vals DU := ⟨_, rfl⟩
  have DTVE := hide hDTV
  have DUVE := hide hDUV
  have DTVL : Hid (DTV.length = 32) := hide (by rw [hDTV, vals_length, DTL.out])
  have DUVL : Hid (DUV.length = 32) := hide (by rw [hDUV, vals_length, DUL.out])
  have DTV1 : Hid (∀ v ∈ DTV, v.oneCell' = true) := hide (by rw [hDTV]; exact vals_one _)
  have DUV1 : Hid (∀ v ∈ DUV, v.oneCell' = true) := hide (by rw [hDUV]; exact vals_one _)
  have hszDTV : (Tryz.prog.info? 33).map (·.size) = some DTV.length := by rw [DTVL.out]; exact size_dig
  have hszDUV : (Tryz.prog.info? 33).map (·.size) = some DUV.length := by rw [DUVL.out]; exact size_dig
  have hDTp : ¬ DTV = [] := by intro h; have := DTVL.out; rw [h] at this; cases this
  have hDUp : ¬ DUV = [] := by intro h; have := DUVL.out; rw [h] at this; cases this
  rw [← hDT, ← hDTV] at HTT
  rw [← hDU, ← hDUV] at HTU
  have HDTE := hide hDT
  have HDUE := hide hDU
  have hgd := guard_dig
  have hzd := zero_dig
  obtain ⟨Z, hZ⟩ : ∃ Z, Z = vals (List.replicate 32 0) := ⟨_, rfl⟩
  rw [← hZ] at hzd
  have HZL : Hid (Z.length = 32) := hide (by rw [hZ]; simp [vals])
  have hZp : ¬ Z = [] := by intro h; have := HZL.out; rw [h] at this; cases this
  obtain ⟨ZC2, hZC2⟩ : ∃ Z, Z = ZC := ⟨_, rfl⟩
  have HZC2 := hide hZC2
  have hzc2 : ∀ w : World, (zeroValue 42).run Tryz.prog w = .ok (.agg ZC2.toArray) w := by rw [hZC2]; exact zero_coin
  have HZCL : Hid (ZC2.length = 36) := hide (by rw [hZC2]; simp [ZC, vals])
  have HZC1 : Hid (∀ v ∈ ZC2, v.oneCell' = true) := hide (by rw [hZC2]; exact coin_ones ⟨List.replicate 32 0, 0, 0, .slice none 0 0, [], 0⟩ ⟨_, _, _, rfl⟩)
  have hZC2p : ¬ ZC2 = [] := by intro h; have := HZCL.out; rw [h] at this; cases this
  have hgp := guard_place
  have HIL := hide hil
  have HOL := hide hol
  have HJL := hide hjl
  have HPL := hide hpl
  have HRN := hide hn
  have HB0 : Hid (Below w.heap.size w ((w.alloc (.cells #[.slice ia il ic, .slice oa ol oc, .int .i64 tt] 26)).alloc (.cells #[.slice ja jl jc, .slice pa pl pc, .int .i64 ut] 26))) := hide (below_alloc2 w _ _)
  have HI0 : Hid (Is ((w.alloc (.cells #[.slice ia il ic, .slice oa ol oc, .int .i64 tt] 26)).alloc (.cells #[.slice ja jl jc, .slice pa pl pc, .int .i64 ut] 26)) w.heap.size [.slice ia il ic, .slice oa ol oc, .int .i64 tt] 26) := hide ((Is.new w [.slice ia il ic, .slice oa ol oc, .int .i64 tt] 26).alloc _)
  have HJ0 : Hid (Is ((w.alloc (.cells #[.slice ia il ic, .slice oa ol oc, .int .i64 tt] 26)).alloc (.cells #[.slice ja jl jc, .slice pa pl pc, .int .i64 ut] 26)) (w.heap.size + 1) [.slice ja jl jc, .slice pa pl pc, .int .i64 ut] 26) := hide (Is.new' [.slice ja jl jc, .slice pa pl pc, .int .i64 ut] 26 (by simp))
  clear hZC2 hE hR ht hu hT hw ft fu hil hol hjl hpl hn htt hut hDT hDU hDTV hDUV hZ
  go_enter Tryz.func3, Tryz.ntmps3
  go_wp2_with fail
  refine (HMD.out _ HB0.out).mono ?_
  rintro e w1 ⟨rfl, hb1⟩
  have HI1 := hide (HI0.out.below hb1 HI0.out.lt)
  have HJ1 := hide (HJ0.out.below hb1 HJ0.out.lt)
  have HB1 := hide (HB0.out.trans (hb1.mono HB0.out.size))
  clear hb1 HMD
  go_wp2_with (refine wpList_load_part 26 [.slice ia il ic, .slice oa ol oc, .int .i64 tt] w.heap.size 0 rfl (.tmp 5) rfl rfl (is_range HI1.out) Tryz.underlying26 rfl size_tx rfl ?_)
  refine (HAPT.out _ HB1.out).mono ?_
  rintro e w2 ⟨hap, hb2⟩
  have HI2 := hide (HI1.out.below hb2 HI1.out.lt)
  have HJ2 := hide (HJ1.out.below hb2 HJ1.out.lt)
  have HB2 := hide (HB1.out.trans (hb2.mono HB1.out.size))
  clear hb2 HAPT
  rcases ap_cases hap with ⟨_, c, rfl⟩ | ⟨v1, v2, X, S, G1, g1, rfl, hX, hXi, _, _⟩
  · unfold BadV
    clear hap
    go_wp2
    go_ret
    exact ⟨rfl, HB2.out⟩
  · have HXI := hide hXi
    have HG1 := hide g1
    have ho40 : ol ≤ 40 := by rw [← HOL.out]; exact (tx_small g1.hk).2
    have hi40 : il ≤ 40 := by rw [← HIL.out]; exact (tx_small g1.hk).1
    obtain ⟨xa, xc, rfl, _, _⟩ := coins_form hX
    obtain ⟨xl, hxl⟩ : ∃ n, X.length = n := ⟨_, rfl⟩
    have HXL := hide hxl
    rw [hxl] at hX ⊢
    have HX2 := hide hX
    obtain ⟨q1, hq1⟩ : ∃ q, q = Cn.leftOf t.it h G1 := ⟨_, rfl⟩
    rw [← hq1]
    have HTT := hide (HTT.out HG1.out.hk)
    clear hap hX hXi g1 hxl hq1
    go_wp2_with (refine wpList_load_part 26 [.slice ia il ic, .slice oa ol oc, .int .i64 tt] w.heap.size 0 rfl (.tmp 5) rfl rfl (is_range HI2.out) Tryz.underlying26 rfl size_tx rfl ?_)
    refine (HTT.out _ HB2.out).mono ?_
    rintro e w3 ⟨rfl, hb3⟩
    have HI3 := hide (HI2.out.below hb3 HI2.out.lt)
    have HJ3 := hide (HJ2.out.below hb3 HJ2.out.lt)
    have HB3 := hide (HB2.out.trans (hb3.mono HB2.out.size))
    have HX3 := hide (HX2.out.below hb3)
    clear hb3 HTT
    unfold maxLen at hjlm
    go_wp2_with (refine wpList_store_any3 33 Z DTV w3.heap.size rfl (.tmp 14) (.tmp 50) rfl rfl rfl rfl (Is.new w3 _ _) size_dig HZL.out DTVL.out DTV1.out ?_; intro w4 hi4 hw4; have hb4 : Below w3.heap.size w3 w4 := (by rw [hw4]; exact ck_new); have HDT := hide hi4; have HI4 := hide (HI3.out.below hb4 HI3.out.lt); have HJ4 := hide (HJ3.out.below hb4 HJ3.out.lt); have HB4 := hide (HB3.out.trans (hb4.mono HB3.out.size)); have HX4 := hide (HX3.out.below hb4); clear hi4 hw4 hb4)
    go_loopw [16] (fun i wr => ∃ k : Nat, k ≤ ol ∧ i = .int .i64 k ∧ Below w4.heap.size w4 wr) (fun i _ => ol - (intOf i).toNat)
    case atStart => exact ⟨0, by omega, rfl, Below.refl _ _⟩
    case round =>
      obtain ⟨k, hk, rfl, hbel⟩ := hrel
      have HBEL := hide hbel
      have HIr := hide (HI4.out.below hbel HI4.out.lt)
      have HBr := hide (HB4.out.trans (hbel.mono HB4.out.size))
      have hcX := HIr.out.cell 1
      simp only [List.getElem?_cons_zero, List.getElem?_cons_succ] at hcX
      have HDr := hide (HDT.out.below hbel HDT.out.lt)
      have HXr := hide (HX4.out.below hbel)
      clear hbel
      by_cases hltn : k < ol
      · have hki : (k : Int) < (ol : Int) := by omega
        have hlt : k < t.outs.length := by rw [HOL.out]; exact hltn
        obtain ⟨b, off, rfl, hc1, hc2, hbw, _⟩ := HFT.out.outs k hlt wr HBr.out
        rw [HOL.out] at hc1
        unfold maxLen at hc2
        obtain ⟨am, ham⟩ : ∃ x, x = t.outs[k].amount := ⟨_, rfl⟩
        obtain ⟨LV, hLV⟩ : ∃ x, x = t.outs[k].lv := ⟨_, rfl⟩
        have HVA : Hid (∀ W, Below w.heap.size w W → W.cell? ⟨b, off + k * 2, none⟩ = some (.int .i64 am)) := hide (fun W hW => by
          obtain ⟨b', off', e, _, _, _, hr⟩ := HFT.out.outs k hlt W hW
          injection e with e; injection e with e1 e2; subst e1 e2; rw [ham]; exact hr 0 _ rfl)
        have HVL : Hid (∀ W, Below w.heap.size w W → W.cell? ⟨b, off + k * 2 + 1, none⟩ = some LV) := hide (fun W hW => by
          obtain ⟨b', off', e, _, _, _, hr⟩ := HFT.out.outs k hlt W hW
          injection e with e; injection e with e1 e2; subst e1 e2; rw [hLV]; exact hr 1 _ rfl)
        have HLV : Hid (∀ W, Below w.heap.size w W → HasOps W LV t.outs[k].L) := hide (fun W hW => by rw [hLV]; exact HFT.out.lv k hlt W hW)
        obtain ⟨PK, hPK⟩ : ∃ P, P = DTV ++ [Value.int .i64 (k : Int)] := ⟨_, rfl⟩
        have HPKE := hide hPK
        have HPKL : Hid (PK.length = 33) := hide (by rw [hPK]; simp [DTVL.out])
        have hPKp : ¬ PK = [] := by intro h; have := HPKL.out; rw [h] at this; cases this
        have HFI : Hid (∀ W, Below wr.heap.size wr W → Calls Tryz.prog 7 #[.slice xa xl xc, .agg PK.toArray] W fun e w' => FdTold X (DT, (k : Int)) e w' ∧ Below W.heap.size W w') := hide (fun W hW => by
          rw [hPK, DTVE.out]; exact cfind_any _ X DT k W (HXr.out.below hW) DTL.out DTB.out)
        have HFM := hide (fun e w' (hf : FdTold X (DT, (k : Int)) e w') => find_made HG1.out HXI.out hlt (by rw [← HDTE.out]; exact hf))
        have hbl : b < w.heap.size := hbw
        clear hPK
        go_wp2_with (first
          | (refine wpList_load_part 33 DTV w3.heap.size 0 rfl (.tmp 14) rfl rfl (is_range HDr.out) Tryz.underlying33 rfl size_dig DTVL.out ?_)
          | (refine wpList_build_plE DTV PK k HPKE.out rfl (.tmp 63) (.tmp 64) rfl rfl rfl DTVL.out ?_))
        refine (HFI.out _ (Below.refl _ _)).mono ?_
        rintro e w5 ⟨hf, hb5⟩
        obtain ⟨x, rfl, hok, hxa, hxL, hxh⟩ := HFM.out e w5 hf
        rw [← ham] at hxa
        obtain ⟨lx1, lx2, lx3, hlx⟩ := hasOps_slice hok.2.2
        obtain ⟨LX, hLX⟩ : ∃ v, v = x.lv := ⟨_, rfl⟩
        have HLX : Hid (HasOps w5 LX x.L) := hide (by rw [hLX]; exact hok.2.2)
        have HLXL : Hid (opsOf x.L = opsOf t.outs[k].L) := hide hxL
        obtain ⟨C, hC⟩ : ∃ C, C = coinCell x := ⟨_, rfl⟩
        have HCL : Hid (C.length = 36) := hide (by rw [hC]; exact coinCell_length x hok.1)
        have HC1 : Hid (∀ v ∈ C, v.oneCell' = true) := hide (by rw [hC]; exact coin_ones x ⟨_, _, _, hlx⟩)
        have HCG : Hid (C[32]? = some (.int .i64 x.at') ∧ C[33]? = some (.int .i64 am) ∧ C[34]? = some LX ∧ C[35]? = some (.int .i64 h)) := hide (by rw [hC, hLX, ← hxa, ← hxh]; exact coin_get hok.1)
        have hCp : ¬ C = [] := by intro h; have := HCL.out; rw [h] at this; cases this
        have HI5 := hide (HIr.out.below hb5 HIr.out.lt)
        have HB5 := hide (HBr.out.trans (hb5.mono HBr.out.size))
        have HC5 := hide (HBEL.out.trans (hb5.mono HBEL.out.size))
        rw [← hC]
        clear hf hb5 hok hxa hxL hxh hlx hC hLX ham hLV
        go_wp2_with (refine wpList_store_any3 42 ZC2 C w5.heap.size rfl (.tmp 17) (.tmp 67) rfl rfl rfl rfl (Is.new w5 _ _) size_coin HZCL.out HCL.out HC1.out ?_; intro w6 hi6 hw6; have hb6 : Below w5.heap.size w5 w6 := (by rw [hw6]; exact ck_new); have HI6 := hide hi6; have HIB6 := hide (HI5.out.below hb6 HI5.out.lt); have HB6 := hide (HB5.out.trans (hb6.mono HB5.out.size)); have HC6 := hide (HC5.out.trans (hb6.mono HC5.out.size)); have HLX6 := hide (HLX.out.below hb6); clear hi6 hw6 hb6)
        have HLS : Hid (∀ W, Below w6.heap.size w6 W → Calls Tryz.prog 8 #[LX, LV] W fun e w' => e = .returned (.bool true) ∧ Below W.heap.size W w') := hide (fun W hW => (lockSame_any _ _ _ _ W (HLX6.out.below hW) (HLV.out W (HB6.out.trans (hW.mono HB6.out.size)))).mono (by rintro e w' ⟨bb, rfl, hbb, hbl⟩; exact ⟨by rw [hbb.2 HLXL.out], hbl⟩))
        have hc34 : w6.drew.cell? ⟨w5.heap.size, 34, none⟩ = some LX := (HI6.out.cell 34).trans HCG.out.2.2.1
        have hcT6 : w6.drew.cell? ⟨w.heap.size, 1, none⟩ = some (.slice (some ⟨b, off, none⟩) ol oc) := HIB6.out.cell 1
        have hcV1 : w6.drew.cell? ⟨b, off + k * 2 + 1, none⟩ = some LV := HVL.out w6.drew HB6.out.drew
        have hlt1 : w5.heap.size < w6.heap.size := HI6.out.lt
        have hlt2 : w.heap.size < w6.heap.size := HIB6.out.lt
        have hlt3 : b < w6.heap.size := Nat.lt_of_lt_of_le hbl HB6.out.size
        clear hcX
        go_wp2_with fail
        refine wp_region_held_drew (S := fun W : World => W.cell? ⟨w5.heap.size, 34, none⟩ = some LX ∧ W.cell? ⟨w.heap.size, 1, none⟩ = some (.slice (some ⟨b, off, none⟩) ol oc) ∧ W.cell? ⟨b, off + k * 2 + 1, none⟩ = some LV ∧ Hid (Below w6.heap.size w6 W)) (by kernel_rfl) ?_ (fun hHeld0 => ?_)
        · exact ⟨hc34, hcT6, hcV1, hide (Below.refl _ _).drew⟩
        refine wpAnyH_take (i := 0) (v := ?_) rfl (by kernel_rfl) (by kernel_rfl) (by kernel_rfl) (fun _ _ _ h => h) (Or.inl ⟨by rfl, ?_⟩) hHeld0 ?_
        rotate_left
        · (intro w hSw; (try dsimp only at hSw); go_simp <;> (try with_reducible rfl))
        simp only [Act.put, List.getElem_toArray, List.getElem_cons_zero, List.getElem_cons_succ, List.setIfInBounds_toArray, List.set_cons_zero, List.set_cons_succ]
        refine wpAnyH_take (i := 1) (v := ?_) rfl (by kernel_rfl) (by kernel_rfl) (by kernel_rfl) (fun _ _ _ h => h) (Or.inl ⟨by rfl, ?_⟩) hHeld0 ?_
        rotate_left
        · (intro w hSw; (try dsimp only at hSw); go_simp <;> (try with_reducible rfl))
        simp only [Act.put, List.getElem_toArray, List.getElem_cons_zero, List.getElem_cons_succ, List.setIfInBounds_toArray, List.set_cons_zero, List.set_cons_succ]
        refine wpAnyH_take (i := 2) (v := ?_) rfl (by kernel_rfl) (by kernel_rfl) (by kernel_rfl) (fun _ _ _ h => h) (Or.inl ⟨by rfl, ?_⟩) hHeld0 ?_
        rotate_left
        · (intro w hSw; (try dsimp only at hSw); go_simp <;> (try with_reducible rfl))
        simp only [Act.put, List.getElem_toArray, List.getElem_cons_zero, List.getElem_cons_succ, List.setIfInBounds_toArray, List.set_cons_zero, List.set_cons_succ]
        refine wpAnyH_take (i := 3) (v := ?_) rfl (by kernel_rfl) (by kernel_rfl) (by kernel_rfl) (fun _ _ _ h => h) (Or.inl ⟨by rfl, ?_⟩) hHeld0 ?_
        rotate_left
        · (intro w hSw; (try dsimp only at hSw); go_simp <;> (try with_reducible rfl))
        simp only [Act.put, List.getElem_toArray, List.getElem_cons_zero, List.getElem_cons_succ, List.setIfInBounds_toArray, List.set_cons_zero, List.set_cons_succ]
        refine wpAnyH_take (i := 4) (v := ?_) rfl (by kernel_rfl) (by kernel_rfl) (by kernel_rfl) (fun _ _ _ h => h) (Or.inl ⟨by rfl, ?_⟩) hHeld0 ?_
        rotate_left
        · (intro w hSw; (try dsimp only at hSw); go_simp <;> (try with_reducible rfl))
        simp only [Act.put, List.getElem_toArray, List.getElem_cons_zero, List.getElem_cons_succ, List.setIfInBounds_toArray, List.set_cons_zero, List.set_cons_succ]
        refine wpAnyH_take (i := 5) (v := ?_) rfl (by kernel_rfl) (by kernel_rfl) (by kernel_rfl) (fun _ _ _ h => h) (Or.inl ⟨by rfl, ?_⟩) hHeld0 ?_
        rotate_left
        · (intro w hSw; (try dsimp only at hSw); go_simp <;> (try with_reducible rfl))
        simp only [Act.put, List.getElem_toArray, List.getElem_cons_zero, List.getElem_cons_succ, List.setIfInBounds_toArray, List.set_cons_zero, List.set_cons_succ]
        refine wpAnyH_take (i := 6) (v := ?_) rfl (by kernel_rfl) (by kernel_rfl) (by kernel_rfl) (fun _ _ _ h => h) (Or.inl ⟨by rfl, ?_⟩) hHeld0 ?_
        rotate_left
        · (intro w hSw; (try dsimp only at hSw); go_simp <;> (try with_reducible rfl))
        simp only [Act.put, List.getElem_toArray, List.getElem_cons_zero, List.getElem_cons_succ, List.setIfInBounds_toArray, List.set_cons_zero, List.set_cons_succ]
        refine wpAnyH_take (i := 7) (v := ?_) rfl (by kernel_rfl) (by kernel_rfl) (by kernel_rfl) (fun _ _ _ h => h) (Or.inl ⟨by rfl, ?_⟩) hHeld0 ?_
        rotate_left
        · (intro w hSw; (try dsimp only at hSw); go_simp <;> (try with_reducible rfl))
        simp only [Act.put, List.getElem_toArray, List.getElem_cons_zero, List.getElem_cons_succ, List.setIfInBounds_toArray, List.set_cons_zero, List.set_cons_succ]
        refine wpAnyH_take (i := 8) (v := ?_) rfl (by kernel_rfl) (by kernel_rfl) (by kernel_rfl) (fun _ _ _ h => h) (Or.inl ⟨by rfl, ?_⟩) hHeld0 ?_
        rotate_left
        · (intro w hSw; (try dsimp only at hSw); go_simp <;> (try with_reducible rfl))
        simp only [Act.put, List.getElem_toArray, List.getElem_cons_zero, List.getElem_cons_succ, List.setIfInBounds_toArray, List.set_cons_zero, List.set_cons_succ]
        refine wpAnyH_ready (rs := [9]) (by kernel_rfl) (by simp) ?_
        refine AllReadyH.cons rfl (fun K hK => ?_) AllReadyH.nil
        go_simp
        go_wp2_with ((go_at_call 8; refine (HLS.out _ hHeld0.2.2.2.out).mono ?_; rintro e W7 ⟨rfl, hb7⟩))
        refine hK.out _ _ (by exact ⟨cn_cellG hHeld0.1 hb7 hHeld0.2.2.2.out hlt1, cn_cellG hHeld0.2.1 hb7 hHeld0.2.2.2.out hlt2, cn_cellG hHeld0.2.2.1 hb7 hHeld0.2.2.2.out hlt3, hide (hHeld0.2.2.2.out.trans (hb7.mono hHeld0.2.2.2.out.size))⟩) (fun hHeld1 => ?_)
        clear hK K hHeld0
        try simp only [Act.put, List.getElem_toArray, List.getElem_cons_zero, List.getElem_cons_succ, List.setIfInBounds_toArray, List.set_cons_zero, List.set_cons_succ]
        refine wpAnyH_take (i := 10) (v := ?_) rfl (by kernel_rfl) (by kernel_rfl) (by kernel_rfl) (fun _ _ _ h => h) (Or.inl ⟨by rfl, ?_⟩) hHeld1 ?_
        rotate_left
        · (intro w hSw; (try dsimp only at hSw); go_simp <;> (try with_reducible rfl))
        simp only [Act.put, List.getElem_toArray, List.getElem_cons_zero, List.getElem_cons_succ, List.setIfInBounds_toArray, List.set_cons_zero, List.set_cons_succ]
        refine wpAnyH_done (by kernel_rfl) ?_ _
        have HC7 := hide hHeld1.2.2.2.out
        clear hHeld1
        have hd33 : W7.drew.cell? ⟨w5.heap.size, 33, none⟩ = some (.int .i64 am) := (HI6.out.below HC7.out HI6.out.lt).cell 33 |>.trans HCG.out.2.1
        have hd35 : W7.drew.cell? ⟨w5.heap.size, 35, none⟩ = some (.int .i64 h) := (HI6.out.below HC7.out HI6.out.lt).cell 35 |>.trans HCG.out.2.2.2
        have hdT : W7.drew.cell? ⟨w.heap.size, 1, none⟩ = some (.slice (some ⟨b, off, none⟩) ol oc) := (HIB6.out.below HC7.out HIB6.out.lt).cell 1
        have hdA : W7.drew.cell? ⟨b, off + k * 2, none⟩ = some (.int .i64 am) := HVA.out W7.drew (HB6.out.trans (HC7.out.drew.mono HB6.out.size))
        clear hc34 hcT6 hcV1
        go_wp2_with fail
        refine wp_region_held_drew (S := fun W : World => W.cell? ⟨w5.heap.size, 33, none⟩ = some (.int .i64 am) ∧ W.cell? ⟨w5.heap.size, 35, none⟩ = some (.int .i64 h) ∧ W.cell? ⟨w.heap.size, 1, none⟩ = some (.slice (some ⟨b, off, none⟩) ol oc) ∧ W.cell? ⟨b, off + k * 2, none⟩ = some (.int .i64 am) ∧ Hid (Below w6.heap.size w6 W)) (by kernel_rfl) ?_ (fun hHeld0 => ?_)
        · exact ⟨hd33, hd35, hdT, hdA, hide HC7.out.drew⟩
        refine wpAnyH_take (i := 0) (v := ?_) rfl (by kernel_rfl) (by kernel_rfl) (by kernel_rfl) (fun _ _ _ h => h) (Or.inl ⟨by rfl, ?_⟩) hHeld0 ?_
        rotate_left
        · (intro w hSw; (try dsimp only at hSw); go_simp <;> (try with_reducible rfl))
        simp only [Act.put, List.getElem_toArray, List.getElem_cons_zero, List.getElem_cons_succ, List.setIfInBounds_toArray, List.set_cons_zero, List.set_cons_succ]
        refine wpAnyH_take (i := 1) (v := ?_) rfl (by kernel_rfl) (by kernel_rfl) (by kernel_rfl) (fun _ _ _ h => h) (Or.inl ⟨by rfl, ?_⟩) hHeld0 ?_
        rotate_left
        · (intro w hSw; (try dsimp only at hSw); go_simp <;> (try with_reducible rfl))
        simp only [Act.put, List.getElem_toArray, List.getElem_cons_zero, List.getElem_cons_succ, List.setIfInBounds_toArray, List.set_cons_zero, List.set_cons_succ]
        refine wpAnyH_take (i := 2) (v := ?_) rfl (by kernel_rfl) (by kernel_rfl) (by kernel_rfl) (fun _ _ _ h => h) (Or.inl ⟨by rfl, ?_⟩) hHeld0 ?_
        rotate_left
        · (intro w hSw; (try dsimp only at hSw); go_simp <;> (try with_reducible rfl))
        simp only [Act.put, List.getElem_toArray, List.getElem_cons_zero, List.getElem_cons_succ, List.setIfInBounds_toArray, List.set_cons_zero, List.set_cons_succ]
        refine wpAnyH_take (i := 3) (v := ?_) rfl (by kernel_rfl) (by kernel_rfl) (by kernel_rfl) (fun _ _ _ h => h) (Or.inl ⟨by rfl, ?_⟩) hHeld0 ?_
        rotate_left
        · (intro w hSw; (try dsimp only at hSw); go_simp <;> (try with_reducible rfl))
        simp only [Act.put, List.getElem_toArray, List.getElem_cons_zero, List.getElem_cons_succ, List.setIfInBounds_toArray, List.set_cons_zero, List.set_cons_succ]
        refine wpAnyH_take (i := 4) (v := ?_) rfl (by kernel_rfl) (by kernel_rfl) (by kernel_rfl) (fun _ _ _ h => h) (Or.inl ⟨by rfl, ?_⟩) hHeld0 ?_
        rotate_left
        · (intro w hSw; (try dsimp only at hSw); go_simp <;> (try with_reducible rfl))
        simp only [Act.put, List.getElem_toArray, List.getElem_cons_zero, List.getElem_cons_succ, List.setIfInBounds_toArray, List.set_cons_zero, List.set_cons_succ]
        refine wpAnyH_take (i := 5) (v := ?_) rfl (by kernel_rfl) (by kernel_rfl) (by kernel_rfl) (fun _ _ _ h => h) (Or.inl ⟨by rfl, ?_⟩) hHeld0 ?_
        rotate_left
        · (intro w hSw; (try dsimp only at hSw); go_simp <;> (try with_reducible rfl))
        simp only [Act.put, List.getElem_toArray, List.getElem_cons_zero, List.getElem_cons_succ, List.setIfInBounds_toArray, List.set_cons_zero, List.set_cons_succ]
        refine wpAnyH_take (i := 6) (v := ?_) rfl (by kernel_rfl) (by kernel_rfl) (by kernel_rfl) (fun _ _ _ h => h) (Or.inl ⟨by rfl, ?_⟩) hHeld0 ?_
        rotate_left
        · (intro w hSw; (try dsimp only at hSw); go_simp <;> (try with_reducible rfl))
        simp only [Act.put, List.getElem_toArray, List.getElem_cons_zero, List.getElem_cons_succ, List.setIfInBounds_toArray, List.set_cons_zero, List.set_cons_succ]
        refine wpAnyH_take (i := 7) (v := ?_) rfl (by kernel_rfl) (by kernel_rfl) (by kernel_rfl) (fun _ _ _ h => h) (Or.inl ⟨by rfl, ?_⟩) hHeld0 ?_
        rotate_left
        · (intro w hSw; (try dsimp only at hSw); go_simp <;> (try with_reducible rfl))
        simp only [Act.put, List.getElem_toArray, List.getElem_cons_zero, List.getElem_cons_succ, List.setIfInBounds_toArray, List.set_cons_zero, List.set_cons_succ]
        refine wpAnyH_take (i := 8) (v := ?_) rfl (by kernel_rfl) (by kernel_rfl) (by kernel_rfl) (fun _ _ _ h => h) (Or.inl ⟨by rfl, ?_⟩) hHeld0 ?_
        rotate_left
        · (intro w hSw; (try dsimp only at hSw); go_simp <;> (try with_reducible rfl))
        simp only [Act.put, List.getElem_toArray, List.getElem_cons_zero, List.getElem_cons_succ, List.setIfInBounds_toArray, List.set_cons_zero, List.set_cons_succ]
        refine wpAnyH_take (i := 9) (v := ?_) rfl (by kernel_rfl) (by kernel_rfl) (by kernel_rfl) (fun _ _ _ h => h) (Or.inl ⟨by rfl, ?_⟩) hHeld0 ?_
        rotate_left
        · (intro w hSw; (try dsimp only at hSw); go_simp <;> (try with_reducible rfl))
        simp only [Act.put, List.getElem_toArray, List.getElem_cons_zero, List.getElem_cons_succ, List.setIfInBounds_toArray, List.set_cons_zero, List.set_cons_succ]
        refine wpAnyH_take (i := 10) (v := ?_) rfl (by kernel_rfl) (by kernel_rfl) (by kernel_rfl) (fun _ _ _ h => h) (Or.inl ⟨by rfl, ?_⟩) hHeld0 ?_
        rotate_left
        · (intro w hSw; (try dsimp only at hSw); go_simp <;> (try with_reducible rfl))
        simp only [Act.put, List.getElem_toArray, List.getElem_cons_zero, List.getElem_cons_succ, List.setIfInBounds_toArray, List.set_cons_zero, List.set_cons_succ]
        refine wpAnyH_take (i := 11) (v := ?_) rfl (by kernel_rfl) (by kernel_rfl) (by kernel_rfl) (fun _ _ _ h => h) (Or.inl ⟨by rfl, ?_⟩) hHeld0 ?_
        rotate_left
        · (intro w hSw; (try dsimp only at hSw); go_simp <;> (try with_reducible rfl))
        simp only [Act.put, List.getElem_toArray, List.getElem_cons_zero, List.getElem_cons_succ, List.setIfInBounds_toArray, List.set_cons_zero, List.set_cons_succ]
        refine wpAnyH_take (i := 12) (v := ?_) rfl (by kernel_rfl) (by kernel_rfl) (by kernel_rfl) (fun _ _ _ h => h) (Or.inl ⟨by rfl, ?_⟩) hHeld0 ?_
        rotate_left
        · (intro w hSw; (try dsimp only at hSw); go_simp <;> (try with_reducible rfl))
        simp only [Act.put, List.getElem_toArray, List.getElem_cons_zero, List.getElem_cons_succ, List.setIfInBounds_toArray, List.set_cons_zero, List.set_cons_succ]
        refine wpAnyH_take (i := 13) (v := ?_) rfl (by kernel_rfl) (by kernel_rfl) (by kernel_rfl) (fun _ _ _ h => h) (Or.inl ⟨by rfl, ?_⟩) hHeld0 ?_
        rotate_left
        · (intro w hSw; (try dsimp only at hSw); go_simp <;> (try with_reducible rfl))
        simp only [Act.put, List.getElem_toArray, List.getElem_cons_zero, List.getElem_cons_succ, List.setIfInBounds_toArray, List.set_cons_zero, List.set_cons_succ]
        refine wpAnyH_take (i := 14) (v := ?_) rfl (by kernel_rfl) (by kernel_rfl) (by kernel_rfl) (fun _ _ _ h => h) (Or.inl ⟨by rfl, ?_⟩) hHeld0 ?_
        rotate_left
        · (intro w hSw; (try dsimp only at hSw); go_simp <;> (try with_reducible rfl))
        simp only [Act.put, List.getElem_toArray, List.getElem_cons_zero, List.getElem_cons_succ, List.setIfInBounds_toArray, List.set_cons_zero, List.set_cons_succ]
        refine wpAnyH_take (i := 15) (v := ?_) rfl (by kernel_rfl) (by kernel_rfl) (by kernel_rfl) (fun _ _ _ h => h) (Or.inl ⟨by rfl, ?_⟩) hHeld0 ?_
        rotate_left
        · (intro w hSw; (try dsimp only at hSw); go_simp <;> (try with_reducible rfl))
        simp only [Act.put, List.getElem_toArray, List.getElem_cons_zero, List.getElem_cons_succ, List.setIfInBounds_toArray, List.set_cons_zero, List.set_cons_succ]
        refine wpAnyH_take (i := 16) (v := ?_) rfl (by kernel_rfl) (by kernel_rfl) (by kernel_rfl) (fun _ _ _ h => h) (Or.inl ⟨by rfl, ?_⟩) hHeld0 ?_
        rotate_left
        · (intro w hSw; (try dsimp only at hSw); go_simp <;> (try with_reducible rfl))
        simp only [Act.put, List.getElem_toArray, List.getElem_cons_zero, List.getElem_cons_succ, List.setIfInBounds_toArray, List.set_cons_zero, List.set_cons_succ]
        refine wpAnyH_take (i := 17) (v := ?_) rfl (by kernel_rfl) (by kernel_rfl) (by kernel_rfl) (fun _ _ _ h => h) (Or.inl ⟨by rfl, ?_⟩) hHeld0 ?_
        rotate_left
        · (intro w hSw; (try dsimp only at hSw); go_simp <;> (try with_reducible rfl))
        simp only [Act.put, List.getElem_toArray, List.getElem_cons_zero, List.getElem_cons_succ, List.setIfInBounds_toArray, List.set_cons_zero, List.set_cons_succ]
        refine wpAnyH_take (i := 18) (v := ?_) rfl (by kernel_rfl) (by kernel_rfl) (by kernel_rfl) (fun _ _ _ h => h) (Or.inl ⟨by rfl, ?_⟩) hHeld0 ?_
        rotate_left
        · (intro w hSw; (try dsimp only at hSw); go_simp <;> (try with_reducible rfl))
        simp only [Act.put, List.getElem_toArray, List.getElem_cons_zero, List.getElem_cons_succ, List.setIfInBounds_toArray, List.set_cons_zero, List.set_cons_succ]
        refine wpAnyH_take (i := 19) (v := ?_) rfl (by kernel_rfl) (by kernel_rfl) (by kernel_rfl) (fun _ _ _ h => h) (Or.inl ⟨by rfl, ?_⟩) hHeld0 ?_
        rotate_left
        · (intro w hSw; (try dsimp only at hSw); go_simp <;> (try with_reducible rfl))
        simp only [Act.put, List.getElem_toArray, List.getElem_cons_zero, List.getElem_cons_succ, List.setIfInBounds_toArray, List.set_cons_zero, List.set_cons_succ]
        refine wpAnyH_take (i := 20) (v := ?_) rfl (by kernel_rfl) (by kernel_rfl) (by kernel_rfl) (fun _ _ _ h => h) (Or.inl ⟨by rfl, ?_⟩) hHeld0 ?_
        rotate_left
        · (intro w hSw; (try dsimp only at hSw); go_simp <;> (try with_reducible rfl))
        simp only [Act.put, List.getElem_toArray, List.getElem_cons_zero, List.getElem_cons_succ, List.setIfInBounds_toArray, List.set_cons_zero, List.set_cons_succ]
        refine wpAnyH_take (i := 21) (v := ?_) rfl (by kernel_rfl) (by kernel_rfl) (by kernel_rfl) (fun _ _ _ h => h) (Or.inl ⟨by rfl, ?_⟩) hHeld0 ?_
        rotate_left
        · (intro w hSw; (try dsimp only at hSw); go_simp <;> (try with_reducible rfl))
        simp only [Act.put, List.getElem_toArray, List.getElem_cons_zero, List.getElem_cons_succ, List.setIfInBounds_toArray, List.set_cons_zero, List.set_cons_succ]
        refine wpAnyH_take (i := 22) (v := ?_) rfl (by kernel_rfl) (by kernel_rfl) (by kernel_rfl) (fun _ _ _ h => h) (Or.inl ⟨by rfl, ?_⟩) hHeld0 ?_
        rotate_left
        · (intro w hSw; (try dsimp only at hSw); go_simp <;> (try with_reducible rfl))
        simp only [Act.put, List.getElem_toArray, List.getElem_cons_zero, List.getElem_cons_succ, List.setIfInBounds_toArray, List.set_cons_zero, List.set_cons_succ]
        refine wpAnyH_take (i := 23) (v := ?_) rfl (by kernel_rfl) (by kernel_rfl) (by kernel_rfl) (fun _ _ _ h => h) (Or.inl ⟨by rfl, ?_⟩) hHeld0 ?_
        rotate_left
        · (intro w hSw; (try dsimp only at hSw); go_simp <;> (try with_reducible rfl))
        simp only [Act.put, List.getElem_toArray, List.getElem_cons_zero, List.getElem_cons_succ, List.setIfInBounds_toArray, List.set_cons_zero, List.set_cons_succ]
        refine wpAnyH_done (by kernel_rfl) ?_ _
        have HBL := hide hHeld0.2.2.2.2.out
        clear hHeld0 hd33 hd35 hdT hdA
        go_wp2
        go_roundw
        case rel => exact ⟨k + 1, by omega, by go_num, HC6.out.trans (HBL.out.mono HC6.out.size)⟩
        case measure => simp [intOf]; omega
      · have hki : ¬ (k : Int) < (ol : Int) := by omega
        obtain ⟨w8, rfl⟩ : ∃ wA, wA = wr := ⟨_, rfl⟩
        have HI8 := HIr
        have HJ8 := hide (HJ4.out.below HBEL.out HJ4.out.lt)
        have HB8 := HBr
        have HD8 := HDr
        have HX8 := HXr
        clear HIr HBr HDr HXr HX4 HI4 HB4 HJ4 HDT hltn
        by_cases hil0 : il = 0
        · subst hil0
          have hcI := HI8.out.cell 0
          simp only [List.getElem?_cons_zero, List.getElem?_cons_succ] at hcI
          go_wp2
          refine wp_loop_rounds 1 ?_
          rw [rounds_succ]
          go_wp2
          go_ret
          exact ⟨rfl, HB8.out⟩
        · have hilI : (0 : Int) < (il : Int) := by omega
          have hcI := HI8.out.cell 0
          simp only [List.getElem?_cons_zero, List.getElem?_cons_succ] at hcI
          have HAX := hide (fun W (hW : Below w8.heap.size w8 W) => apply_any _ X t h W (HX8.out.below hW) (HHT.out W (HB8.out.trans (hW.mono HB8.out.size))) (HTB.out W (HB8.out.trans (hW.mono HB8.out.size))) (HGL.out W (HB8.out.trans (hW.mono HB8.out.size))))
          rw [HVT.out] at HAX
          have HNO1 : Hid ((Cn.apply (X.map CoinV.it) t.it h).e ≠ 0) := hide (by
            rw [HXI.out]
            have hl : 0 < t.ins.length := by rw [HIL.out]; omega
            exact HG1.out.once (place_of_in hl) (place_of_in hl))
          go_wp2_with (refine wpList_load_part 26 [.slice ia il ic, .slice oa ol oc, .int .i64 tt] w.heap.size 0 rfl (.tmp 5) rfl rfl (is_range HI8.out) Tryz.underlying26 rfl size_tx rfl ?_)
          refine (HAX.out _ (Below.refl _ _)).mono ?_
          rintro e w9 ⟨hap, hb9⟩
          obtain ⟨c, rfl⟩ := ap_not HNO1.out hap
          unfold BadV
          have HI9 := hide (HI8.out.below hb9 HI8.out.lt)
          have HJ9 := hide (HJ8.out.below hb9 HJ8.out.lt)
          have HB9 := hide (HB8.out.trans (hb9.mono HB8.out.size))
          have HD9 := hide (HD8.out.below hb9 HD8.out.lt)
          have HX9 := hide (HX8.out.below hb9)
          clear hb9 hap hcI HAX hcX
          go_wp2
          go_loopw [24] (fun i wr => ∃ k : Nat, k ≤ il ∧ i = .int .i64 k ∧ Below w9.heap.size w9 wr) (fun i _ => il - (intOf i).toNat)
          case atStart => exact ⟨0, by omega, rfl, Below.refl _ _⟩
          case round =>
            obtain ⟨k, hk, rfl, hbel⟩ := hrel
            obtain ⟨wB, rfl⟩ : ∃ wA, wA = wr := ⟨_, rfl⟩
            have HBEL := hide hbel
            have HI10 := hide (HI9.out.below hbel HI9.out.lt)
            have HJ10 := hide (HJ9.out.below hbel HJ9.out.lt)
            have HB10 := hide (HB9.out.trans (hbel.mono HB9.out.size))
            have HD10 := hide (HD9.out.below hbel HD9.out.lt)
            have HX10 := hide (HX9.out.below hbel)
            have hcX := HI10.out.cell 0
            simp only [List.getElem?_cons_zero, List.getElem?_cons_succ] at hcX
            clear hbel
            by_cases hltn : k < il
            · have hki : (k : Int) < (il : Int) := by omega
              have hlt : k < t.ins.length := by rw [HIL.out]; exact hltn
              obtain ⟨b, off, rfl, hc1, hc2, hbw, hro⟩ := HFT.out.ins k hlt wB.drew HB10.out.drew
              rw [HIL.out] at hc1
              unfold maxLen at hc2
              obtain ⟨EJ, hEJ⟩ : ∃ P, P = vals t.ins[k].tx := ⟨_, rfl⟩
              have he32 := HFT.out.tx k hlt
              have hszj : (Tryz.prog.info? 33).map (·.size) = some EJ.length := by rw [hEJ, vals_length, he32]; exact size_dig
              have HRJ : Hid (wB.drew.rangeAt b (off + k * 34) EJ) := hide (by rw [hEJ]; exact (tx_range_part hro).1)
              have HRP : Hid (wB.drew.rangeAt w3.heap.size 0 DTV) := hide (is_range HD10.out.drew)
              have hcI : wB.drew.cell? ⟨w.heap.size, 0, none⟩ = some (.slice (some ⟨b, off, none⟩) il ic) := hcX
              by_cases hp : t.ins[k].tx = DT
              · have hq : ∀ w', (Op.equalIn 10000 33 (.agg EJ.toArray) (.agg DTV.toArray)).run Tryz.prog w' = .ok true w' := fun w' => by rw [hEJ, DTVE.out, dig_eq _ _ he32 DTL.out w', decide_eq_true hp]
                clear hEJ hp he32 hro
                go_wp2_with fail
                refine wp_region_held_drew (S := fun W : World => W.rangeAt b (off + k * 34) EJ ∧ W.rangeAt w3.heap.size 0 DTV ∧ W.cell? ⟨w.heap.size, 0, none⟩ = some (.slice (some ⟨b, off, none⟩) il ic) ∧ Hid (Below w9.heap.size w9 W)) (by kernel_rfl) ?_ (fun hHeld0 => ?_)
                · exact ⟨HRJ.out, HRP.out, hcI, hide HBEL.out.drew⟩
                refine wpAnyH_take (i := 0) (v := ?_) rfl (by kernel_rfl) (by kernel_rfl) (by kernel_rfl) (fun _ _ _ h => h) (Or.inl ⟨by rfl, ?_⟩) hHeld0 ?_
                rotate_left
                · (intro w hSw; (try dsimp only at hSw); go_simp <;> (try with_reducible rfl))
                simp only [Act.put, List.getElem_toArray, List.getElem_cons_zero, List.getElem_cons_succ, List.setIfInBounds_toArray, List.set_cons_zero, List.set_cons_succ]
                refine wpAnyH_take (i := 1) (v := ?_) rfl (by kernel_rfl) (by kernel_rfl) (by kernel_rfl) (fun _ _ _ h => h) (Or.inl ⟨by rfl, ?_⟩) hHeld0 ?_
                rotate_left
                · (intro w hSw; (try dsimp only at hSw); go_simp <;> (try with_reducible rfl))
                simp only [Act.put, List.getElem_toArray, List.getElem_cons_zero, List.getElem_cons_succ, List.setIfInBounds_toArray, List.set_cons_zero, List.set_cons_succ]
                refine wpAnyH_take (i := 2) (v := ?_) rfl (by kernel_rfl) (by kernel_rfl) (by kernel_rfl) (fun _ _ _ h => h) (Or.inl ⟨by rfl, ?_⟩) hHeld0 ?_
                rotate_left
                · (intro w hSw; (try dsimp only at hSw); go_simp <;> (try with_reducible rfl))
                simp only [Act.put, List.getElem_toArray, List.getElem_cons_zero, List.getElem_cons_succ, List.setIfInBounds_toArray, List.set_cons_zero, List.set_cons_succ]
                refine wpAnyH_take (i := 3) (v := ?_) rfl (by kernel_rfl) (by kernel_rfl) (by kernel_rfl) (fun _ _ _ h => h) (Or.inl ⟨by rfl, ?_⟩) hHeld0 ?_
                rotate_left
                · (intro w hSw; (try dsimp only at hSw); go_simp <;> (try with_reducible rfl))
                simp only [Act.put, List.getElem_toArray, List.getElem_cons_zero, List.getElem_cons_succ, List.setIfInBounds_toArray, List.set_cons_zero, List.set_cons_succ]
                refine wpAnyH_take (i := 4) (v := ?_) rfl (by kernel_rfl) (by kernel_rfl) (by kernel_rfl) (fun _ _ _ h => h) (Or.inl ⟨by rfl, ?_⟩) hHeld0 ?_
                rotate_left
                · (intro w hSw; (try dsimp only at hSw); go_simp <;> (try with_reducible rfl))
                simp only [Act.put, List.getElem_toArray, List.getElem_cons_zero, List.getElem_cons_succ, List.setIfInBounds_toArray, List.set_cons_zero, List.set_cons_succ]
                refine wpAnyH_take (i := 5) (v := ?_) rfl (by kernel_rfl) (by kernel_rfl) (by kernel_rfl) (fun _ _ _ h => h) (Or.inl ⟨by rfl, ?_⟩) hHeld0 ?_
                rotate_left
                · (intro w hSw; (try dsimp only at hSw); go_simp <;> (try with_reducible rfl))
                simp only [Act.put, List.getElem_toArray, List.getElem_cons_zero, List.getElem_cons_succ, List.setIfInBounds_toArray, List.set_cons_zero, List.set_cons_succ]
                refine wpAnyH_take (i := 6) (v := .agg (EJ).toArray) rfl (by kernel_rfl) (by kernel_rfl) (by kernel_rfl) (fun _ _ _ h => h) (yieldsIf_load_mid (by rfl) _ _ rfl _ _ rfl (EJ) _ (fun w hSw => hSw.1) Tryz.underlying33 rfl hszj) hHeld0 ?_
                simp only [Act.put, List.getElem_toArray, List.getElem_cons_zero, List.getElem_cons_succ, List.setIfInBounds_toArray, List.set_cons_zero, List.set_cons_succ]
                refine wpAnyH_take (i := 7) (v := .agg (DTV).toArray) rfl (by kernel_rfl) (by kernel_rfl) (by kernel_rfl) (fun _ _ _ h => h) (yieldsIf_load_mid (by rfl) _ _ rfl _ _ rfl (DTV) _ (fun w hSw => hSw.2.1) Tryz.underlying33 rfl hszDTV) hHeld0 ?_
                simp only [Act.put, List.getElem_toArray, List.getElem_cons_zero, List.getElem_cons_succ, List.setIfInBounds_toArray, List.set_cons_zero, List.set_cons_succ]
                refine wpAnyH_take (i := 8) (v := ?_) rfl (by kernel_rfl) (by kernel_rfl) (by kernel_rfl) (fun _ _ _ h => h) (Or.inl ⟨by rfl, ?_⟩) hHeld0 ?_
                rotate_left
                · (intro w hSw; (try dsimp only at hSw); go_simp <;> (try with_reducible rfl))
                simp only [Act.put, List.getElem_toArray, List.getElem_cons_zero, List.getElem_cons_succ, List.setIfInBounds_toArray, List.set_cons_zero, List.set_cons_succ]
                refine wpAnyH_done (by kernel_rfl) ?_ _
                have HBL := hide hHeld0.2.2.2.out
                clear hHeld0
                go_wp2
                go_ret
                exact ⟨rfl, HB9.out.trans (HBL.out.mono HB9.out.size)⟩
              · have hq : ∀ w', (Op.equalIn 10000 33 (.agg EJ.toArray) (.agg DTV.toArray)).run Tryz.prog w' = .ok false w' := fun w' => by rw [hEJ, DTVE.out, dig_eq _ _ he32 DTL.out w', decide_eq_false hp]
                obtain ⟨PT, hPT⟩ : ∃ P, P = vals t.ins[k].tx ++ [Value.int .i64 t.ins[k].at'] := ⟨_, rfl⟩
                have HPTL : Hid (PT.length = 33) := hide (by rw [hPT]; simp [vals_length, he32])
                have hPTp : ¬ PT = [] := by intro h; have := HPTL.out; rw [h] at this; cases this
                have hszt : (Tryz.prog.info? 37).map (·.size) = some PT.length := by rw [HPTL.out]; exact size_placeC
                have HRTW : Hid (∀ W, Below w.heap.size w W → W.rangeAt b (off + k * 34) PT) := hide (fun W hW => by
                  obtain ⟨b', off', e, _, _, _, hr⟩ := HFT.out.ins k hlt W hW
                  injection e with e; injection e with e1 e2; subst e1 e2
                  rw [hPT]
                  exact (tx_range_part (c := [t.ins[k].kv]) (by rw [List.append_assoc]; exact hr)).1)
                have HFI : Hid (∀ W, Below wB.heap.size wB W → Calls Tryz.prog 7 #[.slice xa xl xc, .agg PT.toArray] W fun e w' => FdTold X (t.ins[k].tx, t.ins[k].at') e w' ∧ Below W.heap.size W w') := hide (fun W hW => by
                  rw [hPT]
                  exact cfind_any _ X t.ins[k].tx t.ins[k].at' W (HX10.out.below hW) he32 (HFT.out.byt k hlt))
                have HPTE := hide hPT
                have HE32 := hide he32
                have HLT := hide hlt
                clear hEJ hp he32 hro hPT
                go_wp2_with fail
                refine wp_region_held_drew (S := fun W : World => W.rangeAt b (off + k * 34) EJ ∧ W.rangeAt w3.heap.size 0 DTV ∧ W.cell? ⟨w.heap.size, 0, none⟩ = some (.slice (some ⟨b, off, none⟩) il ic) ∧ Hid (Below w9.heap.size w9 W)) (by kernel_rfl) ?_ (fun hHeld0 => ?_)
                · exact ⟨HRJ.out, HRP.out, hcI, hide HBEL.out.drew⟩
                refine wpAnyH_take (i := 0) (v := ?_) rfl (by kernel_rfl) (by kernel_rfl) (by kernel_rfl) (fun _ _ _ h => h) (Or.inl ⟨by rfl, ?_⟩) hHeld0 ?_
                rotate_left
                · (intro w hSw; (try dsimp only at hSw); go_simp <;> (try with_reducible rfl))
                simp only [Act.put, List.getElem_toArray, List.getElem_cons_zero, List.getElem_cons_succ, List.setIfInBounds_toArray, List.set_cons_zero, List.set_cons_succ]
                refine wpAnyH_take (i := 1) (v := ?_) rfl (by kernel_rfl) (by kernel_rfl) (by kernel_rfl) (fun _ _ _ h => h) (Or.inl ⟨by rfl, ?_⟩) hHeld0 ?_
                rotate_left
                · (intro w hSw; (try dsimp only at hSw); go_simp <;> (try with_reducible rfl))
                simp only [Act.put, List.getElem_toArray, List.getElem_cons_zero, List.getElem_cons_succ, List.setIfInBounds_toArray, List.set_cons_zero, List.set_cons_succ]
                refine wpAnyH_take (i := 2) (v := ?_) rfl (by kernel_rfl) (by kernel_rfl) (by kernel_rfl) (fun _ _ _ h => h) (Or.inl ⟨by rfl, ?_⟩) hHeld0 ?_
                rotate_left
                · (intro w hSw; (try dsimp only at hSw); go_simp <;> (try with_reducible rfl))
                simp only [Act.put, List.getElem_toArray, List.getElem_cons_zero, List.getElem_cons_succ, List.setIfInBounds_toArray, List.set_cons_zero, List.set_cons_succ]
                refine wpAnyH_take (i := 3) (v := ?_) rfl (by kernel_rfl) (by kernel_rfl) (by kernel_rfl) (fun _ _ _ h => h) (Or.inl ⟨by rfl, ?_⟩) hHeld0 ?_
                rotate_left
                · (intro w hSw; (try dsimp only at hSw); go_simp <;> (try with_reducible rfl))
                simp only [Act.put, List.getElem_toArray, List.getElem_cons_zero, List.getElem_cons_succ, List.setIfInBounds_toArray, List.set_cons_zero, List.set_cons_succ]
                refine wpAnyH_take (i := 4) (v := ?_) rfl (by kernel_rfl) (by kernel_rfl) (by kernel_rfl) (fun _ _ _ h => h) (Or.inl ⟨by rfl, ?_⟩) hHeld0 ?_
                rotate_left
                · (intro w hSw; (try dsimp only at hSw); go_simp <;> (try with_reducible rfl))
                simp only [Act.put, List.getElem_toArray, List.getElem_cons_zero, List.getElem_cons_succ, List.setIfInBounds_toArray, List.set_cons_zero, List.set_cons_succ]
                refine wpAnyH_take (i := 5) (v := ?_) rfl (by kernel_rfl) (by kernel_rfl) (by kernel_rfl) (fun _ _ _ h => h) (Or.inl ⟨by rfl, ?_⟩) hHeld0 ?_
                rotate_left
                · (intro w hSw; (try dsimp only at hSw); go_simp <;> (try with_reducible rfl))
                simp only [Act.put, List.getElem_toArray, List.getElem_cons_zero, List.getElem_cons_succ, List.setIfInBounds_toArray, List.set_cons_zero, List.set_cons_succ]
                refine wpAnyH_take (i := 6) (v := .agg (EJ).toArray) rfl (by kernel_rfl) (by kernel_rfl) (by kernel_rfl) (fun _ _ _ h => h) (yieldsIf_load_mid (by rfl) _ _ rfl _ _ rfl (EJ) _ (fun w hSw => hSw.1) Tryz.underlying33 rfl hszj) hHeld0 ?_
                simp only [Act.put, List.getElem_toArray, List.getElem_cons_zero, List.getElem_cons_succ, List.setIfInBounds_toArray, List.set_cons_zero, List.set_cons_succ]
                refine wpAnyH_take (i := 7) (v := .agg (DTV).toArray) rfl (by kernel_rfl) (by kernel_rfl) (by kernel_rfl) (fun _ _ _ h => h) (yieldsIf_load_mid (by rfl) _ _ rfl _ _ rfl (DTV) _ (fun w hSw => hSw.2.1) Tryz.underlying33 rfl hszDTV) hHeld0 ?_
                simp only [Act.put, List.getElem_toArray, List.getElem_cons_zero, List.getElem_cons_succ, List.setIfInBounds_toArray, List.set_cons_zero, List.set_cons_succ]
                refine wpAnyH_take (i := 8) (v := ?_) rfl (by kernel_rfl) (by kernel_rfl) (by kernel_rfl) (fun _ _ _ h => h) (Or.inl ⟨by rfl, ?_⟩) hHeld0 ?_
                rotate_left
                · (intro w hSw; (try dsimp only at hSw); go_simp <;> (try with_reducible rfl))
                simp only [Act.put, List.getElem_toArray, List.getElem_cons_zero, List.getElem_cons_succ, List.setIfInBounds_toArray, List.set_cons_zero, List.set_cons_succ]
                refine wpAnyH_done (by kernel_rfl) ?_ _
                have HBL := hide hHeld0.2.2.2.out
                clear hHeld0 hcI hq
                have hcI : wB.drew.cell? ⟨w.heap.size, 0, none⟩ = some (.slice (some ⟨b, off, none⟩) il ic) := hcX
                go_wp2_with (refine wpList_load_part 37 PT b (off + k * 34) rfl (.tmp 140) rfl rfl (HRTW.out _ HB10.out.drew) Tryz.underlying37 rfl size_placeC HPTL.out ?_)
                refine (HFI.out _ (Below.refl _ _).drew).mono ?_
                rintro e w11 ⟨hf, hb11⟩
                obtain rfl := find_gone HG1.out HXI.out (place_of_in2 HLT.out) hf
                rw [show (ZC : List Value) = ZC2 from HZC2.out.symm, show errV 5 = .iface 50 (.int .i64 5) from rfl]
                have hbD : Below wB.heap.size wB w11 := (Below.refl _ _).drew.trans hb11
                have HI11 := hide (HI10.out.below hbD HI10.out.lt)
                have HJ11 := hide (HJ10.out.below hbD HJ10.out.lt)
                have HB11 := hide (HB10.out.trans (hbD.mono HB10.out.size))
                have HK11 := hide (HBEL.out.trans (hbD.mono HBEL.out.size))
                have HX11 := hide (HX10.out.below hbD)
                clear hf hb11 hbD
                go_wp2_with (refine wpList_store_any3 42 ZC2 ZC2 w11.heap.size rfl (.tmp 25) (.tmp 143) rfl rfl rfl rfl (Is.new w11 _ _) size_coin HZCL.out HZCL.out HZC1.out ?_; intro w12 hi12 hw12; have hb12 : Below w11.heap.size w11 w12 := (by rw [hw12]; exact ck_new); have HI12 := hide (HI11.out.below hb12 HI11.out.lt); have HJ12 := hide (HJ11.out.below hb12 HJ11.out.lt); have HB12 := hide (HB11.out.trans (hb12.mono HB11.out.size)); have HK12 := hide (HK11.out.trans (hb12.mono HK11.out.size)); have HX12 := hide (HX11.out.below hb12); clear hi12 hw12 hb12)
                refine (HER.out _ HB12.out).mono ?_
                rintro e w13 ⟨rfl, hb13⟩
                have HI13 := hide (HI12.out.below hb13 HI12.out.lt)
                have HJ13 := hide (HJ12.out.below hb13 HJ12.out.lt)
                have HB13 := hide (HB12.out.trans (hb13.mono HB12.out.size))
                have HK13 := hide (HK12.out.trans (hb13.mono HK12.out.size))
                have HX13 := hide (HX12.out.below hb13)
                clear hb13 HFI hcI hcX
                go_wp2
                go_loopw [28] (fun i wr => ∃ j : Nat, j ≤ jl ∧ i = .int .i64 j ∧ Below w13.heap.size w13 wr) (fun i _ => jl - (intOf i).toNat)
                case atStart => exact ⟨0, by omega, rfl, Below.refl _ _⟩
                case round =>
                  obtain ⟨j, hj, rfl, hbel⟩ := hrel
                  have HBEL3 := hide hbel
                  have HI14 := hide (HI13.out.below hbel HI13.out.lt)
                  have HJ14 := hide (HJ13.out.below hbel HJ13.out.lt)
                  have HB14 := hide (HB13.out.trans (hbel.mono HB13.out.size))
                  have HK14 := hide (HK13.out.trans (hbel.mono HK13.out.size))
                  have HX14 := hide (HX13.out.below hbel)
                  have hcJ := HJ14.out.cell 0
                  have hcI := HI14.out.cell 0
                  simp only [List.getElem?_cons_zero, List.getElem?_cons_succ] at hcJ hcI
                  clear hbel
                  by_cases hltj : j < jl
                  · have hji : (j : Int) < (jl : Int) := by omega
                    have hlj : j < u.ins.length := by rw [HJL.out]; exact hltj
                    obtain ⟨b2, off2, rfl, hd1, hd2, hbw2, hro2⟩ := HFU.out.ins j hlj wr.drew HB14.out.drew
                    rw [HJL.out] at hd1
                    unfold maxLen at hd2
                    obtain ⟨PU, hPU⟩ : ∃ P, P = vals u.ins[j].tx ++ [Value.int .i64 u.ins[j].at'] := ⟨_, rfl⟩
                    have hu32 := HFU.out.tx j hlj
                    have hszu : (Tryz.prog.info? 37).map (·.size) = some PU.length := by rw [hPU, List.length_append, vals_length, hu32]; exact size_placeC
                    have HRU : Hid (wr.drew.rangeAt b2 (off2 + j * 34) PU) := hide (by rw [hPU]; exact (tx_range_part (c := [u.ins[j].kv]) (by rw [List.append_assoc]; exact hro2)).1)
                    have HRT : Hid (wr.drew.rangeAt b (off + k * 34) PT) := hide (HRTW.out _ HB14.out.drew)
                    have hcJ2 : wr.drew.cell? ⟨w.heap.size + 1, 0, none⟩ = some (.slice (some ⟨b2, off2, none⟩) jl jc) := hcJ
                    have hcI2 : wr.drew.cell? ⟨w.heap.size, 0, none⟩ = some (.slice (some ⟨b, off, none⟩) il ic) := hcI
                    have HBEL2 := hide (HK14.out)
                    by_cases hp : u.ins[j].tx = t.ins[k].tx ∧ u.ins[j].at' = t.ins[k].at'
                    · have hq : ∀ w', (Op.equalIn 10000 37 (.agg PU.toArray) (.agg PT.toArray)).run Tryz.prog w' = .ok true w' := fun w' => by rw [hPU, HPTE.out]; exact (place_eq _ _ _ _ hu32 HE32.out w').trans (congrArg (fun b => Result.ok b w') (decide_eq_true hp))
                      have HNO2 : Hid ((Cn.apply (X.map CoinV.it) u.it h).e ≠ 0) := hide (by
                        rw [HXI.out]
                        have e := place_of_in2 hlj
                        rw [hp.1, hp.2] at e
                        exact HG1.out.once (place_of_in2 HLT.out) e)
                      have HAX := hide (fun W (hW : Below wr.heap.size wr W) => apply_any _ X u h W (HX14.out.below hW) (HHU.out W (HB14.out.trans (hW.mono HB14.out.size))) (HTB.out W (HB14.out.trans (hW.mono HB14.out.size))) (HGL.out W (HB14.out.trans (hW.mono HB14.out.size))))
                      rw [HVU.out] at HAX
                      clear hPU hp hu32 hro2
                      go_wp2_with fail
                      refine wp_region_held_drew (S := fun W : World => W.rangeAt b2 (off2 + j * 34) PU ∧ W.rangeAt b (off + k * 34) PT ∧ W.cell? ⟨w.heap.size + 1, 0, none⟩ = some (.slice (some ⟨b2, off2, none⟩) jl jc) ∧ W.cell? ⟨w.heap.size, 0, none⟩ = some (.slice (some ⟨b, off, none⟩) il ic) ∧ Hid (Below w9.heap.size w9 W)) (by kernel_rfl) ?_ (fun hHeld0 => ?_)
                      · exact ⟨HRU.out, HRT.out, hcJ2, hcI2, hide HBEL2.out.drew⟩
                      refine wpAnyH_take (i := 0) (v := ?_) rfl (by kernel_rfl) (by kernel_rfl) (by kernel_rfl) (fun _ _ _ h => h) (Or.inl ⟨by rfl, ?_⟩) hHeld0 ?_
                      rotate_left
                      · (intro w hSw; (try dsimp only at hSw); go_simp <;> (try with_reducible rfl))
                      simp only [Act.put, List.getElem_toArray, List.getElem_cons_zero, List.getElem_cons_succ, List.setIfInBounds_toArray, List.set_cons_zero, List.set_cons_succ]
                      refine wpAnyH_take (i := 1) (v := ?_) rfl (by kernel_rfl) (by kernel_rfl) (by kernel_rfl) (fun _ _ _ h => h) (Or.inl ⟨by rfl, ?_⟩) hHeld0 ?_
                      rotate_left
                      · (intro w hSw; (try dsimp only at hSw); go_simp <;> (try with_reducible rfl))
                      simp only [Act.put, List.getElem_toArray, List.getElem_cons_zero, List.getElem_cons_succ, List.setIfInBounds_toArray, List.set_cons_zero, List.set_cons_succ]
                      refine wpAnyH_take (i := 2) (v := ?_) rfl (by kernel_rfl) (by kernel_rfl) (by kernel_rfl) (fun _ _ _ h => h) (Or.inl ⟨by rfl, ?_⟩) hHeld0 ?_
                      rotate_left
                      · (intro w hSw; (try dsimp only at hSw); go_simp <;> (try with_reducible rfl))
                      simp only [Act.put, List.getElem_toArray, List.getElem_cons_zero, List.getElem_cons_succ, List.setIfInBounds_toArray, List.set_cons_zero, List.set_cons_succ]
                      refine wpAnyH_take (i := 3) (v := ?_) rfl (by kernel_rfl) (by kernel_rfl) (by kernel_rfl) (fun _ _ _ h => h) (Or.inl ⟨by rfl, ?_⟩) hHeld0 ?_
                      rotate_left
                      · (intro w hSw; (try dsimp only at hSw); go_simp <;> (try with_reducible rfl))
                      simp only [Act.put, List.getElem_toArray, List.getElem_cons_zero, List.getElem_cons_succ, List.setIfInBounds_toArray, List.set_cons_zero, List.set_cons_succ]
                      refine wpAnyH_take (i := 4) (v := ?_) rfl (by kernel_rfl) (by kernel_rfl) (by kernel_rfl) (fun _ _ _ h => h) (Or.inl ⟨by rfl, ?_⟩) hHeld0 ?_
                      rotate_left
                      · (intro w hSw; (try dsimp only at hSw); go_simp <;> (try with_reducible rfl))
                      simp only [Act.put, List.getElem_toArray, List.getElem_cons_zero, List.getElem_cons_succ, List.setIfInBounds_toArray, List.set_cons_zero, List.set_cons_succ]
                      refine wpAnyH_take (i := 5) (v := .agg (PU).toArray) rfl (by kernel_rfl) (by kernel_rfl) (by kernel_rfl) (fun _ _ _ h => h) (yieldsIf_load_mid (by rfl) _ _ rfl _ _ rfl (PU) _ (fun w hSw => hSw.1) Tryz.underlying37 rfl hszu) hHeld0 ?_
                      simp only [Act.put, List.getElem_toArray, List.getElem_cons_zero, List.getElem_cons_succ, List.setIfInBounds_toArray, List.set_cons_zero, List.set_cons_succ]
                      refine wpAnyH_take (i := 6) (v := ?_) rfl (by kernel_rfl) (by kernel_rfl) (by kernel_rfl) (fun _ _ _ h => h) (Or.inl ⟨by rfl, ?_⟩) hHeld0 ?_
                      rotate_left
                      · (intro w hSw; (try dsimp only at hSw); go_simp <;> (try with_reducible rfl))
                      simp only [Act.put, List.getElem_toArray, List.getElem_cons_zero, List.getElem_cons_succ, List.setIfInBounds_toArray, List.set_cons_zero, List.set_cons_succ]
                      refine wpAnyH_take (i := 7) (v := ?_) rfl (by kernel_rfl) (by kernel_rfl) (by kernel_rfl) (fun _ _ _ h => h) (Or.inl ⟨by rfl, ?_⟩) hHeld0 ?_
                      rotate_left
                      · (intro w hSw; (try dsimp only at hSw); go_simp <;> (try with_reducible rfl))
                      simp only [Act.put, List.getElem_toArray, List.getElem_cons_zero, List.getElem_cons_succ, List.setIfInBounds_toArray, List.set_cons_zero, List.set_cons_succ]
                      refine wpAnyH_take (i := 8) (v := ?_) rfl (by kernel_rfl) (by kernel_rfl) (by kernel_rfl) (fun _ _ _ h => h) (Or.inl ⟨by rfl, ?_⟩) hHeld0 ?_
                      rotate_left
                      · (intro w hSw; (try dsimp only at hSw); go_simp <;> (try with_reducible rfl))
                      simp only [Act.put, List.getElem_toArray, List.getElem_cons_zero, List.getElem_cons_succ, List.setIfInBounds_toArray, List.set_cons_zero, List.set_cons_succ]
                      refine wpAnyH_take (i := 9) (v := ?_) rfl (by kernel_rfl) (by kernel_rfl) (by kernel_rfl) (fun _ _ _ h => h) (Or.inl ⟨by rfl, ?_⟩) hHeld0 ?_
                      rotate_left
                      · (intro w hSw; (try dsimp only at hSw); go_simp <;> (try with_reducible rfl))
                      simp only [Act.put, List.getElem_toArray, List.getElem_cons_zero, List.getElem_cons_succ, List.setIfInBounds_toArray, List.set_cons_zero, List.set_cons_succ]
                      refine wpAnyH_take (i := 10) (v := ?_) rfl (by kernel_rfl) (by kernel_rfl) (by kernel_rfl) (fun _ _ _ h => h) (Or.inl ⟨by rfl, ?_⟩) hHeld0 ?_
                      rotate_left
                      · (intro w hSw; (try dsimp only at hSw); go_simp <;> (try with_reducible rfl))
                      simp only [Act.put, List.getElem_toArray, List.getElem_cons_zero, List.getElem_cons_succ, List.setIfInBounds_toArray, List.set_cons_zero, List.set_cons_succ]
                      refine wpAnyH_take (i := 11) (v := .agg (PT).toArray) rfl (by kernel_rfl) (by kernel_rfl) (by kernel_rfl) (fun _ _ _ h => h) (yieldsIf_load_mid (by rfl) _ _ rfl _ _ rfl (PT) _ (fun w hSw => hSw.2.1) Tryz.underlying37 rfl hszt) hHeld0 ?_
                      simp only [Act.put, List.getElem_toArray, List.getElem_cons_zero, List.getElem_cons_succ, List.setIfInBounds_toArray, List.set_cons_zero, List.set_cons_succ]
                      refine wpAnyH_take (i := 12) (v := ?_) rfl (by kernel_rfl) (by kernel_rfl) (by kernel_rfl) (fun _ _ _ h => h) (Or.inl ⟨by rfl, ?_⟩) hHeld0 ?_
                      rotate_left
                      · (intro w hSw; (try dsimp only at hSw); go_simp <;> (try with_reducible rfl))
                      simp only [Act.put, List.getElem_toArray, List.getElem_cons_zero, List.getElem_cons_succ, List.setIfInBounds_toArray, List.set_cons_zero, List.set_cons_succ]
                      refine wpAnyH_done (by kernel_rfl) ?_ _
                      clear hHeld0 hcJ hcI
                      go_wp2_with (refine wpList_load_part 26 [.slice (some ⟨b2, off2, none⟩) jl jc, .slice pa pl pc, .int .i64 ut] (w.heap.size + 1) 0 rfl (.tmp 6) rfl rfl (is_range HJ14.out.drew) Tryz.underlying26 rfl size_tx rfl ?_)
                      refine (HAX.out _ (Below.refl _ _).drew).mono ?_
                      rintro e w15 ⟨hap, hb15⟩
                      obtain ⟨c, rfl⟩ := ap_not HNO2.out hap
                      unfold BadV
                      have HB15 := hide (HB14.out.trans (((Below.refl _ _).drew.trans hb15).mono HB14.out.size))
                      clear hb15 hap HAX
                      go_wp2
                      go_ret
                      exact ⟨rfl, HB15.out⟩
                    · have hq : ∀ w', (Op.equalIn 10000 37 (.agg PU.toArray) (.agg PT.toArray)).run Tryz.prog w' = .ok false w' := fun w' => by rw [hPU, HPTE.out]; exact (place_eq _ _ _ _ hu32 HE32.out w').trans (congrArg (fun b => Result.ok b w') (decide_eq_false hp))
                      clear hPU hp hu32 hro2
                      go_wp2_with fail
                      refine wp_region_held_drew (S := fun W : World => W.rangeAt b2 (off2 + j * 34) PU ∧ W.rangeAt b (off + k * 34) PT ∧ W.cell? ⟨w.heap.size + 1, 0, none⟩ = some (.slice (some ⟨b2, off2, none⟩) jl jc) ∧ W.cell? ⟨w.heap.size, 0, none⟩ = some (.slice (some ⟨b, off, none⟩) il ic) ∧ Hid (Below w9.heap.size w9 W)) (by kernel_rfl) ?_ (fun hHeld0 => ?_)
                      · exact ⟨HRU.out, HRT.out, hcJ2, hcI2, hide HBEL2.out.drew⟩
                      refine wpAnyH_take (i := 0) (v := ?_) rfl (by kernel_rfl) (by kernel_rfl) (by kernel_rfl) (fun _ _ _ h => h) (Or.inl ⟨by rfl, ?_⟩) hHeld0 ?_
                      rotate_left
                      · (intro w hSw; (try dsimp only at hSw); go_simp <;> (try with_reducible rfl))
                      simp only [Act.put, List.getElem_toArray, List.getElem_cons_zero, List.getElem_cons_succ, List.setIfInBounds_toArray, List.set_cons_zero, List.set_cons_succ]
                      refine wpAnyH_take (i := 1) (v := ?_) rfl (by kernel_rfl) (by kernel_rfl) (by kernel_rfl) (fun _ _ _ h => h) (Or.inl ⟨by rfl, ?_⟩) hHeld0 ?_
                      rotate_left
                      · (intro w hSw; (try dsimp only at hSw); go_simp <;> (try with_reducible rfl))
                      simp only [Act.put, List.getElem_toArray, List.getElem_cons_zero, List.getElem_cons_succ, List.setIfInBounds_toArray, List.set_cons_zero, List.set_cons_succ]
                      refine wpAnyH_take (i := 2) (v := ?_) rfl (by kernel_rfl) (by kernel_rfl) (by kernel_rfl) (fun _ _ _ h => h) (Or.inl ⟨by rfl, ?_⟩) hHeld0 ?_
                      rotate_left
                      · (intro w hSw; (try dsimp only at hSw); go_simp <;> (try with_reducible rfl))
                      simp only [Act.put, List.getElem_toArray, List.getElem_cons_zero, List.getElem_cons_succ, List.setIfInBounds_toArray, List.set_cons_zero, List.set_cons_succ]
                      refine wpAnyH_take (i := 3) (v := ?_) rfl (by kernel_rfl) (by kernel_rfl) (by kernel_rfl) (fun _ _ _ h => h) (Or.inl ⟨by rfl, ?_⟩) hHeld0 ?_
                      rotate_left
                      · (intro w hSw; (try dsimp only at hSw); go_simp <;> (try with_reducible rfl))
                      simp only [Act.put, List.getElem_toArray, List.getElem_cons_zero, List.getElem_cons_succ, List.setIfInBounds_toArray, List.set_cons_zero, List.set_cons_succ]
                      refine wpAnyH_take (i := 4) (v := ?_) rfl (by kernel_rfl) (by kernel_rfl) (by kernel_rfl) (fun _ _ _ h => h) (Or.inl ⟨by rfl, ?_⟩) hHeld0 ?_
                      rotate_left
                      · (intro w hSw; (try dsimp only at hSw); go_simp <;> (try with_reducible rfl))
                      simp only [Act.put, List.getElem_toArray, List.getElem_cons_zero, List.getElem_cons_succ, List.setIfInBounds_toArray, List.set_cons_zero, List.set_cons_succ]
                      refine wpAnyH_take (i := 5) (v := .agg (PU).toArray) rfl (by kernel_rfl) (by kernel_rfl) (by kernel_rfl) (fun _ _ _ h => h) (yieldsIf_load_mid (by rfl) _ _ rfl _ _ rfl (PU) _ (fun w hSw => hSw.1) Tryz.underlying37 rfl hszu) hHeld0 ?_
                      simp only [Act.put, List.getElem_toArray, List.getElem_cons_zero, List.getElem_cons_succ, List.setIfInBounds_toArray, List.set_cons_zero, List.set_cons_succ]
                      refine wpAnyH_take (i := 6) (v := ?_) rfl (by kernel_rfl) (by kernel_rfl) (by kernel_rfl) (fun _ _ _ h => h) (Or.inl ⟨by rfl, ?_⟩) hHeld0 ?_
                      rotate_left
                      · (intro w hSw; (try dsimp only at hSw); go_simp <;> (try with_reducible rfl))
                      simp only [Act.put, List.getElem_toArray, List.getElem_cons_zero, List.getElem_cons_succ, List.setIfInBounds_toArray, List.set_cons_zero, List.set_cons_succ]
                      refine wpAnyH_take (i := 7) (v := ?_) rfl (by kernel_rfl) (by kernel_rfl) (by kernel_rfl) (fun _ _ _ h => h) (Or.inl ⟨by rfl, ?_⟩) hHeld0 ?_
                      rotate_left
                      · (intro w hSw; (try dsimp only at hSw); go_simp <;> (try with_reducible rfl))
                      simp only [Act.put, List.getElem_toArray, List.getElem_cons_zero, List.getElem_cons_succ, List.setIfInBounds_toArray, List.set_cons_zero, List.set_cons_succ]
                      refine wpAnyH_take (i := 8) (v := ?_) rfl (by kernel_rfl) (by kernel_rfl) (by kernel_rfl) (fun _ _ _ h => h) (Or.inl ⟨by rfl, ?_⟩) hHeld0 ?_
                      rotate_left
                      · (intro w hSw; (try dsimp only at hSw); go_simp <;> (try with_reducible rfl))
                      simp only [Act.put, List.getElem_toArray, List.getElem_cons_zero, List.getElem_cons_succ, List.setIfInBounds_toArray, List.set_cons_zero, List.set_cons_succ]
                      refine wpAnyH_take (i := 9) (v := ?_) rfl (by kernel_rfl) (by kernel_rfl) (by kernel_rfl) (fun _ _ _ h => h) (Or.inl ⟨by rfl, ?_⟩) hHeld0 ?_
                      rotate_left
                      · (intro w hSw; (try dsimp only at hSw); go_simp <;> (try with_reducible rfl))
                      simp only [Act.put, List.getElem_toArray, List.getElem_cons_zero, List.getElem_cons_succ, List.setIfInBounds_toArray, List.set_cons_zero, List.set_cons_succ]
                      refine wpAnyH_take (i := 10) (v := ?_) rfl (by kernel_rfl) (by kernel_rfl) (by kernel_rfl) (fun _ _ _ h => h) (Or.inl ⟨by rfl, ?_⟩) hHeld0 ?_
                      rotate_left
                      · (intro w hSw; (try dsimp only at hSw); go_simp <;> (try with_reducible rfl))
                      simp only [Act.put, List.getElem_toArray, List.getElem_cons_zero, List.getElem_cons_succ, List.setIfInBounds_toArray, List.set_cons_zero, List.set_cons_succ]
                      refine wpAnyH_take (i := 11) (v := .agg (PT).toArray) rfl (by kernel_rfl) (by kernel_rfl) (by kernel_rfl) (fun _ _ _ h => h) (yieldsIf_load_mid (by rfl) _ _ rfl _ _ rfl (PT) _ (fun w hSw => hSw.2.1) Tryz.underlying37 rfl hszt) hHeld0 ?_
                      simp only [Act.put, List.getElem_toArray, List.getElem_cons_zero, List.getElem_cons_succ, List.setIfInBounds_toArray, List.set_cons_zero, List.set_cons_succ]
                      refine wpAnyH_take (i := 12) (v := ?_) rfl (by kernel_rfl) (by kernel_rfl) (by kernel_rfl) (fun _ _ _ h => h) (Or.inl ⟨by rfl, ?_⟩) hHeld0 ?_
                      rotate_left
                      · (intro w hSw; (try dsimp only at hSw); go_simp <;> (try with_reducible rfl))
                      simp only [Act.put, List.getElem_toArray, List.getElem_cons_zero, List.getElem_cons_succ, List.setIfInBounds_toArray, List.set_cons_zero, List.set_cons_succ]
                      refine wpAnyH_done (by kernel_rfl) ?_ _
                      clear hHeld0 hcJ hcI
                      go_wp2
                      go_roundw
                      case rel => exact ⟨j + 1, by omega, by go_num, HBEL3.out.drew⟩
                      case measure => simp [intOf]; omega
                  · have hji : ¬ (j : Int) < (jl : Int) := by omega
                    go_wp2
                    go_roundw
                    case rel => exact ⟨k + 1, by omega, by go_num, HK14.out⟩
                    case measure => simp [intOf]; omega
            · have hki : ¬ (k : Int) < (il : Int) := by omega
              go_wp2
              go_ret
              exact ⟨rfl, HB10.out⟩
end Go.Proofs.YtpnkndagahchhaaGreatDoor
