/- moneyerlaw2.TxBack. -/
import Derived.Test.YtmoijbdpbpfljaaTxSn
import Derived.Test.YtmoijbdpbpfljaaZTs
import Derived.Test.YtmoijbdpbpfljaaTxQ
import Derived.Test.YtmoijbdpbpfljaaTxMa
namespace Go.Proofs.Ytmoijbdpbpfljaa
open Go.RowKit
set_option linter.unusedVariables false
set_option linter.unusedSimpArgs false

theorem TellsB.true {P : Prop} {e : Ending} (h : TellsB P e) (hp : P) : e = .returned (.bool true) := by
  obtain ⟨b, rfl, hb⟩ := h
  rw [hb.2 hp]
/-- What was read, in a form that a walk can use. -/
theorem read_some {w w' : World} {t : Tm.Tx} {e : Ending} (h : ReadTold w (some t) e w') : ∃ T : TxV, T.it = t ∧ e = .returned (.tuple #[T.val, .nilIface]) ∧ Below w.heap.size w w' ∧ HasTx w' T ∧ (∃ a n c, T.iv = .slice a n c) ∧ ∃ a n c, T.ov = .slice a n c := by
  obtain ⟨hb, T, h1, h2, h3⟩ := h
  exact ⟨T, h1, h2, hb, h3.out, hasIns_form h3.out.1, hasOuts_form h3.out.2⟩

set_option maxRecDepth 100000 in
set_option maxHeartbeats 4000000 in
theorem txBack_walk (t : TxV) (bv : Value) (b : List Int) (w : World) (ht : HasTx w t) (hb : Has w bv b) (hbt : Sz.Byt b) (hbig : b.length ≤ 140737488351232) :
    Calls Try.prog 3 #[t.val, bv] w fun e w' => e = .returned (.bool true) ∧ Below w.heap.size w w' := by
  obtain ⟨ba, bc, rfl, _, hbl⟩ := hb.shape
  obtain ⟨iv, ins, ov, outs, time⟩ := t
  obtain ⟨ia, ic, hie, him, _⟩ := ht.1.form
  obtain ⟨oa, oc, hoe, hom, _⟩ := ht.2.form
  simp only at hie hoe
  subst hie hoe
  have HC := hide (fun W (hW : Below w.heap.size w W) => ht.below hW)
  have HBV := hide (fun W (hW : Below w.heap.size w W) => hb.below hW)
  have HRD := hide (fun W (hW : Below w.heap.size w W) => tread_any _ b W (hb.below hW) hbt (by omega))
  unfold maxLen at hbl him hom
  have HBX0 := hide (below_alloc w (.cells #[.slice ia ins.length ic, .slice oa outs.length oc, .int .i64 time] 25))
  have HI0 := hide (Is.new w [.slice ia ins.length ic, .slice oa outs.length oc, .int .i64 time] 25)
  have HSN := hide (sent_any (w.alloc (.cells #[.slice ia ins.length ic, .slice oa outs.length oc, .int .i64 time] 25)))
  obtain ⟨T, hT⟩ : ∃ T : TxV, T = ⟨.slice ia ins.length ic, ins, .slice oa outs.length oc, outs, time⟩ := ⟨_, rfl⟩
  have HV : Hid (T.val = .agg #[.slice ia ins.length ic, .slice oa outs.length oc, .int .i64 time]) := hide (by rw [hT]; rfl)
  rw [← hT] at HC ⊢
  rw [HV.out]
  clear hT ht hb
  generalize ins.length = il at *
  generalize outs.length = ol at *
  go_enter Try.func3, Try.ntmps3
  go_wp2_with fail
  refine HSN.out.mono ?_
  rintro e w1 ⟨rfl, hb1⟩
  have HB1 := hide (HBX0.out.trans (hb1.mono HBX0.out.size))
  have HI1 := hide (HI0.out.below hb1 HI0.out.lt)
  have hc0 := HI1.out.cell 0
  have hc1 := HI1.out.cell 1
  have hc2 := HI1.out.cell 2
  simp only [List.getElem?_cons_zero, List.getElem?_cons_succ] at hc0 hc1 hc2
  clear hb1 HBX0 HSN HI0
  by_cases hck : Tm.check T.it = 0
  · have HTB := hide (tbytes_good T w1 (HC.out w1 HB1.out) hck)
    rw [HV.out] at HTB
    have HRS := hide ((HC.out w1 HB1.out).sent hck)
    have HLE := hide (bytes_le T.it hck (HC.out w1 HB1.out).byt)
    clear hck
    go_wp2_with fail
    refine HTB.out.mono ?_
    rintro e w2 ⟨v2, rfl, ho2, hb2⟩
    obtain ⟨xa, xc, rfl, _, _⟩ := ho2.form
    have HB2 := hide (HB1.out.trans (hb2.mono HB1.out.size))
    have HI2 := hide (HI1.out.below hb2 HI1.out.lt)
    have HRX := hide (tread_any _ _ w2 (Own.has ho2) HRS.out.1 (by have := HLE.out; omega))
    rw [HRS.out.2] at HRX
    clear hb2 ho2 HTB hc0 hc1 hc2
    generalize (Tm.bytes T.it).length = xl at *
    go_wp2_with fail
    refine HRX.out.mono ?_
    rintro e w3 hr3
    obtain ⟨Y, hYi, rfl, hb3, hY3, hf1, hf2⟩ := read_some hr3
    obtain ⟨iv3, ins3, ov3, outs3, tm3⟩ := Y
    obtain ⟨ia3, in3, ic3, e1⟩ := hf1
    obtain ⟨oa3, on3, oc3, e2⟩ := hf2
    simp only at e1 e2
    subst e1 e2
    have HB3 := hide (HB2.out.trans (hb3.mono HB2.out.size))
    have HB4 := hide (HB3.out.trans ((below_alloc w3 (.cells #[.slice ia3 in3 ic3, .slice oa3 on3 oc3, .int .i64 tm3] 25)).mono HB3.out.size))
    have HI4 := hide ((HI2.out.below hb3 HI2.out.lt).alloc (.cells #[.slice ia3 in3 ic3, .slice oa3 on3 oc3, .int .i64 tm3] 25))
    have hc0 := HI4.out.cell 0
    have hc1 := HI4.out.cell 1
    have hc2 := HI4.out.cell 2
    simp only [List.getElem?_cons_zero, List.getElem?_cons_succ] at hc0 hc1 hc2
    have HST := hide (txSame_any _ T _ (hY3.below (below_alloc w3 (.cells #[.slice ia3 in3 ic3, .slice oa3 on3 oc3, .int .i64 tm3] 25))) (HC.out _ HB4.out))
    rw [HV.out, hYi] at HST
    simp only [TxV.val] at HST ⊢
    clear hr3 hb3 hY3 hYi HRX
    go_wp2_with (first
      | (refine wpList_store_new 25 [.slice none 0 0, .slice none 0 0, .int .i64 0] [.slice ia3 in3 ic3, .slice oa3 on3 oc3, .int .i64 tm3] w3 size_tx rfl rfl (by intro v hv; simp only [List.mem_cons, List.not_mem_nil, or_false] at hv; rcases hv with rfl | rfl | rfl <;> rfl) rfl (.tmp 8) (.tmp 28) rfl rfl rfl rfl ?_))
    refine HST.out.mono ?_
    rintro e w4 ⟨hte, hb4⟩
    obtain rfl := hte.true (by trivial)
    have HBX := hide (HB4.out.trans (hb4.mono HB4.out.size))
    clear hte hb4 HST hc0 hc1 hc2
    go_wp2_with fail
    have HR5 := hide (HRD.out _ HBX.out)
    cases hrb : Tm.read b with
    | none =>
      rw [hrb] at HR5
      clear hrb
      go_wp2_with fail
      refine HR5.out.mono ?_
      rintro e w5 ⟨hb5, rfl⟩
      have HB5 := hide ((HBX.out.trans (hb5.mono HBX.out.size)).trans ((below_alloc w5 (.cells #[.slice none 0 0, .slice none 0 0, .int .i64 0] 25)).mono (HBX.out.trans (hb5.mono HBX.out.size)).size))
      rw [show errV 1 = .iface 51 (.int .i64 1) from rfl]
      clear hb5
      go_wp2_with (refine wpList_store_new 25 [.slice none 0 0, .slice none 0 0, .int .i64 0] [.slice none 0 0, .slice none 0 0, .int .i64 0] w5 size_tx rfl rfl (by intro v hv; simp only [List.mem_cons, List.not_mem_nil, or_false] at hv; rcases hv with rfl | rfl | rfl <;> rfl) rfl (.tmp 11) (.tmp 42) rfl rfl rfl rfl ?_)
      go_ret
      exact ⟨rfl, HB5.out⟩
    | some t2 =>
      rw [hrb] at HR5
      obtain ⟨hs1, hs2, _⟩ := Tm.read_sound b hbt t2 hrb
      have HS1 := hide hs1
      have HS2 := hide hs2
      clear hrb hs1 hs2
      go_wp2_with fail
      refine HR5.out.mono ?_
      rintro e w5 hr5
      obtain ⟨T, hTi, rfl, hb5, hT5, hf1, hf2⟩ := read_some hr5
      obtain ⟨iv2, ins2, ov2, outs2, tm2⟩ := T
      obtain ⟨ia2, in2, ic2, e1⟩ := hf1
      obtain ⟨oa2, on2, oc2, e2⟩ := hf2
      simp only at e1 e2
      subst e1 e2
      have HB5 := hide (HBX.out.trans (hb5.mono HBX.out.size))
      have HB6 := hide (HB5.out.trans ((below_alloc w5 (.cells #[.slice ia2 in2 ic2, .slice oa2 on2 oc2, .int .i64 tm2] 25)).mono HB5.out.size))
      have HI6 := hide (Is.new w5 [.slice ia2 in2 ic2, .slice oa2 on2 oc2, .int .i64 tm2] 25)
      have HT6 := hide (hT5.below (below_alloc w5 (.cells #[.slice ia2 in2 ic2, .slice oa2 on2 oc2, .int .i64 tm2] 25)))
      have HTB := hide (tbytes_good _ _ HT6.out (by rw [hTi]; exact HS2.out))
      have HCK := hide (fun W hW => tcheck_any _ W (HT6.out.below hW))
      rw [hTi, HS1.out] at HTB
      rw [hTi, HS2.out, show errV 0 = .nilIface from rfl] at HCK
      simp only [TxV.val] at HTB HCK ⊢
      clear hr5 hb5 hT5 hTi HR5 HBX HT6
      go_wp2_with (first
        | (refine wpList_store_new 25 [.slice none 0 0, .slice none 0 0, .int .i64 0] [.slice ia2 in2 ic2, .slice oa2 on2 oc2, .int .i64 tm2] w5 size_tx rfl rfl (by intro v hv; simp only [List.mem_cons, List.not_mem_nil, or_false] at hv; rcases hv with rfl | rfl | rfl <;> rfl) rfl (.tmp 11) (.tmp 42) rfl rfl rfl rfl ?_))
      refine HTB.out.mono ?_
      rintro e w6 ⟨v6, rfl, ho6, hb6⟩
      obtain ⟨za, zc, rfl, _, _⟩ := ho6.form
      have HB7 := hide (HB6.out.trans (hb6.mono HB6.out.size))
      have HI7 := hide (HI6.out.below hb6 HI6.out.lt)
      have HBY := hide (bytes_any _ _ _ _ w6 (Own.has ho6) (HBV.out w6 HB7.out))
      have HCK7 := hide (fun W (hW : Below w6.heap.size w6 W) => HCK.out W (hb6.trans (hW.mono hb6.size)))
      have hsb : sameB b b = true := by unfold sameB; exact decide_eq_true rfl
      rw [hsb] at HBY
      clear hb6 ho6 HTB HCK hsb
      generalize b.length = bl at *
      go_wp2_with fail
      refine HBY.out.mono ?_
      rintro e w7 ⟨rfl, hb7⟩
      have HB8 := hide (HB7.out.trans (hb7.mono HB7.out.size))
      have hi7 := HI7.out.below hb7 HI7.out.lt
      have hc0 := hi7.cell 0
      have hc1 := hi7.cell 1
      have hc2 := hi7.cell 2
      simp only [List.getElem?_cons_zero, List.getElem?_cons_succ] at hc0 hc1 hc2
      have HCK8 := hide (HCK7.out w7 hb7)
      clear hb7 hi7 HCK7
      go_wp2_with fail
      refine HCK8.out.mono ?_
      rintro e w8 ⟨rfl, hb8⟩
      have HB9 := hide (HB8.out.trans (hb8.mono HB8.out.size))
      clear hb8
      go_wp2
      go_ret
      exact ⟨rfl, HB9.out⟩
  · have HTB := hide (tbytes_bad T w1 (HC.out w1 HB1.out) hck)
    have hce : errV (Tm.check T.it) = .iface 51 (.int .i64 (Tm.check T.it)) := by unfold errV; rw [if_neg hck]
    rw [HV.out, hce] at HTB
    clear hck hce
    generalize Tm.check T.it = ck at *
    go_wp2_with fail
    refine HTB.out.mono ?_
    rintro e w2 ⟨rfl, hb2⟩
    have HBX := hide (HB1.out.trans (hb2.mono HB1.out.size))
    clear hb2 HTB hc0 hc1 hc2
    go_wp2_with fail
    have HR5 := hide (HRD.out _ HBX.out)
    cases hrb : Tm.read b with
    | none =>
      rw [hrb] at HR5
      clear hrb
      go_wp2_with fail
      refine HR5.out.mono ?_
      rintro e w5 ⟨hb5, rfl⟩
      have HB5 := hide ((HBX.out.trans (hb5.mono HBX.out.size)).trans ((below_alloc w5 (.cells #[.slice none 0 0, .slice none 0 0, .int .i64 0] 25)).mono (HBX.out.trans (hb5.mono HBX.out.size)).size))
      rw [show errV 1 = .iface 51 (.int .i64 1) from rfl]
      clear hb5
      go_wp2_with (refine wpList_store_new 25 [.slice none 0 0, .slice none 0 0, .int .i64 0] [.slice none 0 0, .slice none 0 0, .int .i64 0] w5 size_tx rfl rfl (by intro v hv; simp only [List.mem_cons, List.not_mem_nil, or_false] at hv; rcases hv with rfl | rfl | rfl <;> rfl) rfl (.tmp 11) (.tmp 42) rfl rfl rfl rfl ?_)
      go_ret
      exact ⟨rfl, HB5.out⟩
    | some t2 =>
      rw [hrb] at HR5
      obtain ⟨hs1, hs2, _⟩ := Tm.read_sound b hbt t2 hrb
      have HS1 := hide hs1
      have HS2 := hide hs2
      clear hrb hs1 hs2
      go_wp2_with fail
      refine HR5.out.mono ?_
      rintro e w5 hr5
      obtain ⟨T, hTi, rfl, hb5, hT5, hf1, hf2⟩ := read_some hr5
      obtain ⟨iv2, ins2, ov2, outs2, tm2⟩ := T
      obtain ⟨ia2, in2, ic2, e1⟩ := hf1
      obtain ⟨oa2, on2, oc2, e2⟩ := hf2
      simp only at e1 e2
      subst e1 e2
      have HB5 := hide (HBX.out.trans (hb5.mono HBX.out.size))
      have HB6 := hide (HB5.out.trans ((below_alloc w5 (.cells #[.slice ia2 in2 ic2, .slice oa2 on2 oc2, .int .i64 tm2] 25)).mono HB5.out.size))
      have HI6 := hide (Is.new w5 [.slice ia2 in2 ic2, .slice oa2 on2 oc2, .int .i64 tm2] 25)
      have HT6 := hide (hT5.below (below_alloc w5 (.cells #[.slice ia2 in2 ic2, .slice oa2 on2 oc2, .int .i64 tm2] 25)))
      have HTB := hide (tbytes_good _ _ HT6.out (by rw [hTi]; exact HS2.out))
      have HCK := hide (fun W hW => tcheck_any _ W (HT6.out.below hW))
      rw [hTi, HS1.out] at HTB
      rw [hTi, HS2.out, show errV 0 = .nilIface from rfl] at HCK
      simp only [TxV.val] at HTB HCK ⊢
      clear hr5 hb5 hT5 hTi HR5 HBX HT6
      go_wp2_with (first
        | (refine wpList_store_new 25 [.slice none 0 0, .slice none 0 0, .int .i64 0] [.slice ia2 in2 ic2, .slice oa2 on2 oc2, .int .i64 tm2] w5 size_tx rfl rfl (by intro v hv; simp only [List.mem_cons, List.not_mem_nil, or_false] at hv; rcases hv with rfl | rfl | rfl <;> rfl) rfl (.tmp 11) (.tmp 42) rfl rfl rfl rfl ?_))
      refine HTB.out.mono ?_
      rintro e w6 ⟨v6, rfl, ho6, hb6⟩
      obtain ⟨za, zc, rfl, _, _⟩ := ho6.form
      have HB7 := hide (HB6.out.trans (hb6.mono HB6.out.size))
      have HI7 := hide (HI6.out.below hb6 HI6.out.lt)
      have HBY := hide (bytes_any _ _ _ _ w6 (Own.has ho6) (HBV.out w6 HB7.out))
      have HCK7 := hide (fun W (hW : Below w6.heap.size w6 W) => HCK.out W (hb6.trans (hW.mono hb6.size)))
      have hsb : sameB b b = true := by unfold sameB; exact decide_eq_true rfl
      rw [hsb] at HBY
      clear hb6 ho6 HTB HCK hsb
      generalize b.length = bl at *
      go_wp2_with fail
      refine HBY.out.mono ?_
      rintro e w7 ⟨rfl, hb7⟩
      have HB8 := hide (HB7.out.trans (hb7.mono HB7.out.size))
      have hi7 := HI7.out.below hb7 HI7.out.lt
      have hc0 := hi7.cell 0
      have hc1 := hi7.cell 1
      have hc2 := hi7.cell 2
      simp only [List.getElem?_cons_zero, List.getElem?_cons_succ] at hc0 hc1 hc2
      have HCK8 := hide (HCK7.out w7 hb7)
      clear hb7 hi7 HCK7
      go_wp2_with fail
      refine HCK8.out.mono ?_
      rintro e w8 ⟨rfl, hb8⟩
      have HB9 := hide (HB8.out.trans (hb8.mono HB8.out.size))
      clear hb8
      go_wp2
      go_ret
      exact ⟨rfl, HB9.out⟩
end Go.Proofs.Ytmoijbdpbpfljaa
