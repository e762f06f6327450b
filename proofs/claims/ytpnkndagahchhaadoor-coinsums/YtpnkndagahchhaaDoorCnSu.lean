/- CoinSums: nothing is lost. -/
import Derived.Test.YtpnkndagahchhaaDoorZCy
namespace Go.Proofs.YtpnkndagahchhaaDoor
open Go.RowKit
set_option linter.unusedVariables false
set_option linter.unusedSimpArgs false

def outSum (O : List OutV) : Int := Mo.sum (O.map OutV.amount)
theorem outSum_next (O : List OutV) (k : Nat) (hk : k < O.length) : outSum (O.take (k + 1)) = outSum (O.take k) + O[k].amount := by
  unfold outSum
  rw [List.take_succ_eq_append_getElem hk, List.map_append, Mo.sum_append]
  simp only [List.map_cons, List.map_nil, Mo.sum]
  omega
theorem outSum_bound {O : List OutV} (h : ∀ o ∈ O, Mo.ok o.amount) : ∀ k, k ≤ O.length → 0 ≤ outSum (O.take k) ∧ outSum (O.take k) ≤ k * 1125899906842624
  | 0, _ => by simp [outSum, Mo.sum]
  | k + 1, hk => by
    obtain ⟨h1, h2⟩ := outSum_bound h k (by omega)
    have h3 := h _ (List.getElem_mem (show k < O.length by omega))
    rw [outSum_next O k (by omega)]
    unfold Mo.ok at h3
    refine ⟨by omega, ?_⟩
    push_cast
    omega
/-- What the law says, over lists. -/
theorem sums_law {R X S : List CoinV} {t : TxV} {h : Int} {G : List Cn.Coin} (g : Cn.Good (R.map CoinV.it) t.it h G) (hX : X.map CoinV.it = Cn.merged (Cn.less (R.map CoinV.it) G) (Cn.news t.it h)) (hS : S.map CoinV.it = G) :
    X.length = R.length - S.length + t.outs.length ∧ S.length ≤ R.length ∧ S.length = t.ins.length ∧ 0 ≤ Cn.leftOf t.it h G ∧
    Mo.sum (amounts X) = Mo.sum (amounts R) - Mo.sum (amounts S) + outSum t.outs ∧
    (t.ins.length ≠ 0 → Cn.leftOf t.it h G = Mo.sum (amounts S) - outSum t.outs) ∧ (t.ins.length = 0 → Cn.leftOf t.it h G = 0 ∧ Mo.sum (amounts S) = 0) := by
  have hl := g.lens
  have hsl := g.slen
  have hle := g.left
  have hsm := g.sums
  rw [← hX] at hl hsm
  rw [← hS] at hl hsm hsl
  have hle' := hle
  rw [← hS] at hle'
  simp only [List.length_map, amounts_it] at hl hsm hsl hle'
  have e1 : t.it.outs.length = t.outs.length := by simp [TxV.it]
  have e2 : t.it.ins.length = t.ins.length := by simp [TxV.it]
  have e3 : Mo.sum (t.it.outs.map Tm.Out.amount) = outSum t.outs := by simp [TxV.it, outSum, Function.comp_def, OutV.it]
  have e4 : t.it.ins = [] ↔ t.ins.length = 0 := by simp [TxV.it]
  rw [e1] at hl
  rw [e2] at hsl
  rw [e3] at hsm hle'
  rw [← hS]
  exact ⟨hl.1, hl.2, hsl, hle'.1, hsm, fun k => hle'.2.1 (fun e => k (e4.1 e)), fun k => hle'.2.2 (e4.2 k)⟩
theorem tot_le {l : List Int} (h : (Mo.tot 0 l).2 = 0) : 0 ≤ (Mo.tot 0 l).1 ∧ (Mo.tot 0 l).1 ≤ 1125899906842624 ∧ (Mo.tot 0 l).1 = Mo.sum l := by
  obtain ⟨h1, h2, h3⟩ := Cn.tot_good h
  rw [h1]
  exact ⟨Mo.sum_nonneg l h2, by omega, rfl⟩
theorem errV_bad {c : Int} (h : c ≠ 0) : errV c = .iface 56 (.int .i64 c) := if_neg h
set_option maxRecDepth 100000 in
set_option maxHeartbeats 4000000 in
theorem coinSums_walk (cv : Value) (R : List CoinV) (t : TxV) (h : Int) (w : World) (hR : HasCoins w cv R) (ht : HasTx w t) (hT : Tab w) (hw : 0 < w.heap.size) :
    Calls Tryd.prog 3 #[cv, t.val, .int .i64 h] w fun e w' => e = .returned (.bool true) ∧ Below w.heap.size w w' := by
  obtain ⟨a, cap, rfl, hml, _⟩ := coins_form hR
  have HMD := hide (fun W (hW : Below w.heap.size w W) => cmade_any W (hT.below hW hw) (Nat.lt_of_lt_of_le hw hW.size))
  have HAP := hide (fun W (hW : Below w.heap.size w W) => apply_any _ R t h W (hR.below hW) (ht.below hW) (hT.below hW hw) (Nat.lt_of_lt_of_le hw hW.size))
  have HS1 := hide (fun W (hW : Below w.heap.size w W) => csum_any _ R W (hR.below hW))
  obtain ⟨D, hD⟩ : ∃ D, D = Cn.apply (R.map CoinV.it) t.it h := ⟨_, rfl⟩
  rw [← hD] at HAP
  have HDE := hide hD
  have HLAW := hide (fun (G : List Cn.Coin) (g : Cn.Good (R.map CoinV.it) t.it h G) (X S : List CoinV) (hX : X.map CoinV.it = _) (hS : S.map CoinV.it = G) => sums_law (X := X) (S := S) g hX hS)
  have HOK : Hid (Tm.check t.it = 0 → (∀ o ∈ t.outs, Mo.ok o.amount) ∧ t.outs.length ≤ 40 ∧ t.ins.length ≤ 40) := hide (fun hk => by
    obtain ⟨h1, h2, _, _, _, _, h7⟩ := Tm.check_zero _ hk
    refine ⟨fun o ho => (Tm.outsF_zero _ h7 o.it (List.mem_map.2 ⟨o, ho, rfl⟩)).1, ?_, ?_⟩
    · simpa [TxV.it] using h2
    · simpa [TxV.it] using h1)
  have HTI : Hid (∃ T, T = t.it) := hide ⟨_, rfl⟩
  obtain ⟨iv, ins, ov, outs, time⟩ := t
  obtain ⟨ia, ic, hie, him, _⟩ := ht.1.form
  obtain ⟨oa, oc, hoe, hom, hor⟩ := ht.2.form
  simp only at hie hoe hor
  subst hie hoe
  have HOR := hide hor
  unfold maxLen at him hom hml
  simp only [TxV.val] at HAP
  show Calls Tryd.prog 3 #[.slice a R.length cap, .agg #[.slice ia ins.length ic, .slice oa outs.length oc, .int .i64 time], .int .i64 h] w _
  have HB0 := hide (below_alloc w (.cells #[.slice ia ins.length ic, .slice oa outs.length oc, .int .i64 time] 26))
  have HI0 := hide (Is.new w [.slice ia ins.length ic, .slice oa outs.length oc, .int .i64 time] 26)
  obtain ⟨il, hil⟩ : ∃ n, n = ins.length := ⟨_, rfl⟩
  obtain ⟨ol, hol⟩ : ∃ n, n = outs.length := ⟨_, rfl⟩
  obtain ⟨n, hn⟩ : ∃ n, n = R.length := ⟨_, rfl⟩
  have HIL := hide hil
  have HOL := hide hol
  have HNL := hide hn
  rw [← hil, ← hol] at HB0 HI0 HAP
  rw [← hn] at HAP HS1 hml
  rw [← hil] at him
  rw [← hol] at hom
  rw [← hil, ← hol, ← hn]
  clear hR ht hT hor hil hol hn hD hw
  go_enter Tryd.func3, Tryd.ntmps3
  go_wp2_with fail
  refine (HMD.out _ HB0.out).mono ?_
  rintro e w1 ⟨rfl, hb1⟩
  have HI1 := hide (HI0.out.below hb1 HI0.out.lt)
  have HB1 := hide (HB0.out.trans (hb1.mono HB0.out.size))
  clear hb1 HI0 HMD
  go_wp2_with (refine wpList_load_part 26 [.slice ia il ic, .slice oa ol oc, .int .i64 time] w.heap.size 0 rfl (.tmp 4) rfl rfl (is_range HI1.out) Tryd.underlying26 rfl size_tx rfl ?_)
  refine (HAP.out _ HB1.out).mono ?_
  rintro e w2 ⟨hap, hb2⟩
  have HI2 := hide (HI1.out.below hb2 HI1.out.lt)
  have HB2 := hide (HB1.out.trans (hb2.mono HB1.out.size))
  clear hb2 HI1 HAP
  rcases hap with ⟨_, rfl⟩ | ⟨hD0, v1, v2, X, S, rfl, hX, hXi, hS, hSi⟩
  · unfold BadV
    go_wp2
    go_ret
    exact ⟨rfl, HB2.out⟩
  · obtain ⟨G, g, hG⟩ := Cn.apply_good (HDE.out ▸ hD0)
    rw [← HDE.out] at hG
    subst hG
    dsimp only [Cn.doneOf] at hXi hSi ⊢
    obtain ⟨l1, l2, l3, l4, l5, l6, l7⟩ := HLAW.out G g X S hXi hSi
    obtain ⟨ok1, ok2, ok3⟩ := HOK.out g.hk
    try dsimp only at l1 l3 l5 l6 l7 ok1 ok2 ok3
    have hR0 := g.hs
    have hX0 : Cn.setF (X.map CoinV.it) = 0 := by rw [hXi]; exact g.set
    have hX1000 : X.length ≤ 1000 := by have := (Cn.setF_zero hX0).1; rwa [List.length_map] at this
    have hR1000 : R.length ≤ 1000 := by have := (Cn.setF_zero hR0).1; rwa [List.length_map] at this
    have HS2 := hide (fun W (hW : Below w2.heap.size w2 W) => csum_any _ X W (hX.below hW))
    rw [if_pos hR0, if_pos hR0] at HS1
    rw [if_pos hX0, if_pos hX0] at HS2
    obtain ⟨a1, c1, rfl, _, _⟩ := coins_form hX
    obtain ⟨a2, c2, rfl, _, _⟩ := coins_form hS
    obtain ⟨p, hp⟩ : ∃ p, p = Cn.leftOf (TxV.it ⟨.slice ia ins.length ic, ins, .slice oa outs.length oc, outs, time⟩) h G := ⟨_, rfl⟩
    rw [← hp] at l4 l6 l7 ⊢
    obtain ⟨xl, hxl⟩ : ∃ n, n = X.length := ⟨_, rfl⟩
    obtain ⟨sl, hsl⟩ : ∃ n, n = S.length := ⟨_, rfl⟩
    rw [← hxl] at HS2 l1 hX1000
    rw [← hsl] at l1 l2 l3
    rw [← HNL.out] at l1 l2 hR1000
    rw [← HOL.out] at l1 ok2
    rw [← HIL.out] at l3 l6 l7 ok3
    rw [← hxl, ← hsl]
    obtain ⟨s1, hs1⟩ : ∃ s, s = (Mo.tot 0 (amounts R)).1 := ⟨_, rfl⟩
    obtain ⟨f1, hf1⟩ : ∃ s, s = (Mo.tot 0 (amounts R)).2 := ⟨_, rfl⟩
    obtain ⟨s2, hs2⟩ : ∃ s, s = (Mo.tot 0 (amounts X)).1 := ⟨_, rfl⟩
    obtain ⟨f2, hf2⟩ : ∃ s, s = (Mo.tot 0 (amounts X)).2 := ⟨_, rfl⟩
    have HT1 : Hid (f1 = 0 → 0 ≤ s1 ∧ s1 ≤ 1125899906842624 ∧ s1 = Mo.sum (amounts R)) := hide (fun e => by rw [hs1]; exact tot_le (hf1 ▸ e))
    have HT2 : Hid (f2 = 0 → 0 ≤ s2 ∧ s2 ≤ 1125899906842624 ∧ s2 = Mo.sum (amounts X)) := hide (fun e => by rw [hs2]; exact tot_le (hf2 ▸ e))
    rw [← hs1, ← hf1] at HS1
    rw [← hs2, ← hf2] at HS2
    obtain ⟨e1, he1⟩ : ∃ e, e = errV f1 := ⟨_, rfl⟩
    obtain ⟨e2, he2⟩ : ∃ e, e = errV f2 := ⟨_, rfl⟩
    rw [← he1] at HS1
    rw [← he2] at HS2
    have HOB := hide (outSum_bound ok1)
    have HOK1 := hide ok1
    have HL5 := hide l5
    have HL6 := hide l6
    have HL7 := hide l7
    have HL1 := hide l1
    have HL3 := hide l3
    have HE1 := hide he1
    have HE2 := hide he2
    clear l1 l3 he1 he2 l5 l6 l7 hp hX hXi hS hSi hxl hsl hs1 hf1 hs2 hf2 hD0 hX0 hR0 HDE HLAW HOK ok1
    go_wp2_with fail
    refine (HS1.out _ HB2.out).mono ?_
    rintro e w3 ⟨rfl, hb3⟩
    have HI3 := hide (HI2.out.below hb3 HI2.out.lt)
    have HB3 := hide (HB2.out.trans (hb3.mono HB2.out.size))
    have HK3 := hide hb3
    clear hb3 HI2 HS1
    go_wp2_with fail
    refine (HS2.out _ HK3.out).mono ?_
    rintro e w4 ⟨rfl, hb4⟩
    have HI4 := hide (HI3.out.below hb4 HI3.out.lt)
    have HB4 := hide (HB3.out.trans (hb4.mono HB3.out.size))
    clear hb4 HI3 HS2
    have he1 := HE1.out
    have he2 := HE2.out
    by_cases hf1 : f1 = 0
    · by_cases hf2 : f2 = 0
      · obtain ⟨b1, b2, b3⟩ := HT1.out hf1
        obtain ⟨b4, b5, b6⟩ := HT2.out hf2
        rw [hf1, show errV 0 = .nilIface from rfl] at he1
        rw [hf2, show errV 0 = .nilIface from rfl] at he2
        subst he1 he2
        have HB36 := hide (And.intro b3 b6)
        clear b3 b6 hf1 hf2 HT1 HT2 HE1 HE2
        go_wp2
        go_loopw [16, 17] (fun o i wr => ∃ (k : Nat) (s : Int), k ≤ ol ∧ i = .int .i64 k ∧ o = .int .i64 s ∧ Hid (s = outSum (outs.take k)) ∧ Below w4.heap.size w4 wr) (fun _ i _ => ol - (intOf i).toNat)
        case atStart => exact ⟨0, 0, by omega, rfl, rfl, hide rfl, Below.refl _ _⟩
        case round =>
          obtain ⟨k, s, hk, rfl, rfl, hs, hbel⟩ := hrel
          have HBW := hide (HB4.out.trans (hbel.mono HB4.out.size))
          have HBEL := hide hbel
          have hcX := (HI4.out.below hbel HI4.out.lt).cell 1
          have hcI := (HI4.out.below hbel HI4.out.lt).cell 0
          simp only [List.getElem?_cons_zero, List.getElem?_cons_succ] at hcX hcI
          clear hbel
          by_cases hltn : k < ol
          · have hki : (k : Int) < (ol : Int) := by omega
            have hlt : k < outs.length := by rw [← HOL.out]; exact hltn
            obtain ⟨bo, oo, rfl, hc1, hc2, hbo, hro⟩ := HOR.out k hlt
            have hro2 : wr.rangeAt bo (oo + k * 2) (outCell outs[k]) := range_keep (range_at hro (fun x hx => rfl) k hlt) HBW.out hbo
            have hx1 : wr.cell? ⟨bo, oo + k * 2, none⟩ = some (.int .i64 outs[k].amount) := hro2 0 _ rfl
            obtain ⟨q1, q2⟩ := HOB.out k (by omega)
            obtain ⟨q3, q4⟩ := HOK1.out _ (List.getElem_mem hlt)
            have HNX := hide (outSum_next outs k hlt)
            rw [← hs.out] at q1 q2 HNX
            obtain ⟨x, hx⟩ : ∃ x, x = outs[k].amount := ⟨_, rfl⟩
            rw [← hx] at hx1 q3 q4 HNX
            have q5 : s ≤ 45035996273704960 := by omega
            rw [← HOL.out] at hc1
            clear hx hro hro2 q2
            go_wp2
            go_roundw
            case rel => exact ⟨k + 1, s + x, by omega, by go_num, by go_num, hide HNX.out.symm, HBEL.out⟩
            case measure => simp [intOf]; omega
          · have hki : ¬ (k : Int) < (ol : Int) := by omega
            have hkl : k = ol := by omega
            have hsO : s = outSum outs := by rw [hs.out, hkl, HOL.out, List.take_length]
            obtain ⟨q1, q2⟩ := HOB.out k (by rw [← HOL.out]; omega)
            rw [← hs.out] at q1 q2
            have q5 : s ≤ 45035996273704960 := by omega
            have h5 := HL5.out
            rw [← HB36.out.1, ← HB36.out.2, ← hsO] at h5
            by_cases hil0 : il = 0
            · obtain ⟨h7, h8⟩ := HL7.out hil0
              rw [h8] at h5
              have h9 : s2 = s1 + s := by omega
              have hI0 : ((il : Int) == 0) = true := by rw [beq_iff_eq]; omega
              obtain rfl := HL3.out
              have hX1 : (xl : Int) = (n : Int) - (sl : Int) + (ol : Int) := by have := HL1.out; omega
              subst h7 h9
              clear hs hsO HL5 HL6 HL7 HB36 hkl h5 h8 q2 HL1 HL3
              go_wp2
              go_ret
              exact ⟨rfl, HBW.out⟩
            · have h6 := HL6.out hil0
              rw [← hsO] at h6
              have h9 : s2 = s1 - p := by omega
              have hI0 : ((il : Int) == 0) = false := by rw [beq_eq_false_iff_ne]; omega
              obtain rfl := HL3.out
              have hX1 : (xl : Int) = (n : Int) - (sl : Int) + (ol : Int) := by have := HL1.out; omega
              subst h9
              clear hs hsO HL5 HL6 HL7 HB36 hkl h5 h6 q2 HL1 HL3
              go_wp2
              go_ret
              exact ⟨rfl, HBW.out⟩
      · rw [hf1, show errV 0 = .nilIface from rfl] at he1
        rw [errV_bad hf2] at he2
        subst he1 he2
        go_wp2
        go_ret
        exact ⟨rfl, HB4.out⟩
    · rw [errV_bad hf1] at he1
      by_cases hf2 : f2 = 0
      · rw [hf2, show errV 0 = .nilIface from rfl] at he2
        subst he1 he2
        go_wp2
        go_ret
        exact ⟨rfl, HB4.out⟩
      · rw [errV_bad hf2] at he2
        subst he1 he2
        go_wp2
        go_ret
        exact ⟨rfl, HB4.out⟩
end Go.Proofs.YtpnkndagahchhaaDoor
