/- moneyerlaw2.TxTorn. -/
import Derived.Test.YtmoijbdpbpfljaaDoorTxBk
import Derived.Test.YtmoijbdpbpfljaaDoorTold2
namespace Go.Proofs.YtmoijbdpbpfljaaDoor
open Go.RowKit
set_option linter.unusedVariables false
set_option linter.unusedSimpArgs false

def lenL (l : List Int) : Nat := l.length
theorem to_empty {w wA : World} {o : Obj} (hg : (w.alloc o).grownBy wA (Value.ownBlock (.slice (some ⟨w.heap.size, 0, none⟩) 0 0))) : Below w.heap.size w wA :=
  ((Below.refl _ _).alloc (Nat.le_refl _) o).grown hg (by simp) (fun q hq => by simp [Value.ownBlock] at hq; omega)
theorem to_own {w w1 w2 : World} {base : Nat} {v : Value} {l : List Int} (h : Below base w w1) (ho : Own w1 base v l) (hb : base ≤ w1.heap.size) (hg : w1.grownBy w2 v.ownBlock) : Below base w w2 :=
  h.grown hg hb (fun q hq => (ho.block q hq).1)

set_option maxRecDepth 100000 in
set_option maxHeartbeats 4000000 in
theorem txTorn_walk (t : TxV) (n : Int) (mv : Value) (more : List Int) (w : World) (ht : HasTx w t) (hm : Has w mv more) (hmb : Sz.Byt more) (hbig : more.length ≤ 140737488351232) (hE : ErrVar w) :
    Calls Tryd.prog 3 #[t.val, .int .i64 n, mv] w fun e w' => e = .returned (.bool true) ∧ Below w.heap.size w w' := by
  obtain ⟨ma, mc, rfl, _, hml⟩ := hm.shape
  obtain ⟨iv, ins, ov, outs, time⟩ := t
  obtain ⟨ia, ic, hie, him, _⟩ := ht.1.form
  obtain ⟨oa, oc, hoe, hom, _⟩ := ht.2.form
  simp only at hie hoe
  subst hie hoe
  have HC := hide (fun W (hW : Below w.heap.size w W) => ht.below hW)
  have HMV := hide (fun W (hW : Below w.heap.size w W) => hm.below hW)
  have HEV := hide (fun W (hW : Below w.heap.size w W) => hE.below hW)
  unfold maxLen at hml him hom
  have HBX0 := hide (below_alloc w (.cells #[.slice ia ins.length ic, .slice oa outs.length oc, .int .i64 time] 25))
  have HI0 := hide (Is.new w [.slice ia ins.length ic, .slice oa outs.length oc, .int .i64 time] 25)
  have HSN := hide (sent_any (w.alloc (.cells #[.slice ia ins.length ic, .slice oa outs.length oc, .int .i64 time] 25)))
  obtain ⟨T, hT⟩ : ∃ T : TxV, T = ⟨.slice ia ins.length ic, ins, .slice oa outs.length oc, outs, time⟩ := ⟨_, rfl⟩
  have HV : Hid (T.val = .agg #[.slice ia ins.length ic, .slice oa outs.length oc, .int .i64 time]) := hide (by rw [hT]; rfl)
  rw [← hT] at HC ⊢
  rw [HV.out]
  clear hT ht hm hE
  generalize ins.length = il at *
  generalize outs.length = ol at *
  go_enter Tryd.func3, Tryd.ntmps3
  go_wp2_with fail
  refine HSN.out.mono ?_
  rintro e w1 ⟨rfl, hb1⟩
  have HB1 := hide (HBX0.out.trans (hb1.mono HBX0.out.size))
  have HI1 := hide (HI0.out.below hb1 HI0.out.lt)
  have hc0 := HI1.out.cell 0
  have hc1 := HI1.out.cell 1
  have hc2 := HI1.out.cell 2
  simp only [List.getElem?_cons_zero, List.getElem?_cons_succ] at hc0 hc1 hc2
  clear hb1 HBX0 HSN HI0
  by_cases hck : Tm.check T.it = 0
  · have HTB := hide (tbytes_good T w1 (HC.out w1 HB1.out) hck)
    rw [HV.out] at HTB
    have HRS := hide ((HC.out w1 HB1.out).sent hck)
    have HLE := hide (bytes_le T.it hck (HC.out w1 HB1.out).byt)
    have HTN : Hid (∀ k, k < (Tm.bytes T.it).length → Tm.read ((Tm.bytes T.it).take k) = none) := hide (fun k hk => Tm.read_torn T.it hck (fun i hi => ((HC.out w1 HB1.out).byt.1 i hi).1) HRS.out.1 k hk)
    have HTM : Hid (0 < more.length → Tm.read ([] ++ Tm.bytes T.it ++ more) = none) := hide (fun h => Tm.read_more T.it hck (fun i hi => ((HC.out w1 HB1.out).byt.1 i hi).1) more h)
    have HBY : Hid (Sz.Byt ([] ++ Tm.bytes T.it ++ more)) := hide (Sz.Byt.append (Sz.Byt.append Sz.Byt.nil HRS.out.1) hmb)
    have HL1 : Hid (lenL [] + lenL (Tm.bytes T.it) ≤ 180000000000000) := hide (by have := HLE.out; show ([] : List Int).length + (Tm.bytes T.it).length ≤ 180000000000000; simp only [List.length_nil]; omega)
    have HL2 : Hid (lenL ([] ++ Tm.bytes T.it) + lenL more ≤ 180000000000000) := hide (by have := HLE.out; show ([] ++ Tm.bytes T.it).length + more.length ≤ 180000000000000; simp only [List.nil_append]; omega)
    have HL3 : Hid (([] ++ Tm.bytes T.it ++ more).length ≤ 180000000000000) := hide (by have := HLE.out; rw [List.length_append, List.nil_append]; omega)
    clear hck
    obtain ⟨X, hX⟩ : ∃ X, X = Tm.bytes T.it := ⟨_, rfl⟩
    rw [← hX] at HTB HRS HLE HTN HTM HBY HL1 HL2 HL3
    clear hX
    obtain ⟨Y, hY⟩ : ∃ Y, Y = [] ++ X ++ more := ⟨_, rfl⟩
    rw [← hY] at HTM HBY HL3
    have HYE := hide hY.symm
    clear hY
    go_wp2_with fail
    refine HTB.out.mono ?_
    rintro e w2 ⟨v2, rfl, ho2, hb2⟩
    have HB2 := hide (HB1.out.trans (hb2.mono HB1.out.size))
    have HO2 := hide (ho2.mono HB1.out.size)
    clear hb2 HTB hc0 hc1 hc2 HI1
    by_cases h0 : 0 ≤ n
    · obtain ⟨k, rfl⟩ := Int.eq_ofNat_of_zero_le h0
      by_cases hlt : k < X.length
      · obtain ⟨xb, xo, xc, rfl, hp1, hp2, hp3, hcell⟩ : ∃ b off cap, v2 = .slice (some ⟨b, off, none⟩) X.length cap ∧ 0 < X.length ∧ X.length ≤ cap ∧ cap ≤ maxLen ∧ ∀ j, j < X.length → w2.cell? ⟨b, off + j, none⟩ = some (.int .u8 (X.getD j 0)) := by
          rcases Own.has ho2 with ⟨a, c, rfl, e, _⟩ | h
          · subst e; simp at hlt
          · exact h
        have HRK := hide (tread_any _ _ w2 (Has.front hcell hp2 hp3 k (by omega)) (HRS.out.1.take k) (by rw [List.length_take]; have := HLE.out; omega))
        rw [HTN.out k hlt] at HRK
        have hki : (k : Int) < (X.length : Int) := by omega
        have hk0 : decide ((k : Int) < (X.length : Int)) = true := decide_eq_true hki
        have hkg : decide ((k : Int) ≥ 0) = true := decide_eq_true h0
        unfold maxLen at hp3
        clear ho2 hcell hp1 HTN
        generalize X.length = xl at *
        go_wp2_with fail
        refine HRK.out.mono ?_
        rintro e w3 ⟨hb3, rfl⟩
        have HB3 := hide (HB2.out.trans (hb3.mono HB2.out.size))
        have HB4 := hide (HB3.out.trans ((below_alloc w3 (.cells #[.slice none 0 0, .slice none 0 0, .int .i64 0] 25)).mono HB3.out.size))
        have HSE := hide (error_any 1 1 _ (HEV.out _ HB4.out))
        have HOX1 := hide ((HO2.out.below hb3).below (below_alloc w3 (.cells #[.slice none 0 0, .slice none 0 0, .int .i64 0] 25)))
        rw [show errV 1 = .iface 35 (.int .i64 1) from rfl] at HSE ⊢
        clear hb3 HRK HO2
        go_wp2_with (refine wpList_store_new 25 [.slice none 0 0, .slice none 0 0, .int .i64 0] [.slice none 0 0, .slice none 0 0, .int .i64 0] w3 size_tx rfl rfl (by intro v hv; simp only [List.mem_cons, List.not_mem_nil, or_false] at hv; rcases hv with rfl | rfl | rfl <;> rfl) rfl (.tmp 10) (.tmp 39) rfl rfl rfl rfl ?_)
        refine HSE.out.mono ?_
        rintro e w5 ⟨rfl, hb5⟩
        have HBX := hide (HB4.out.trans (hb5.mono HB4.out.size))
        have HOX := hide (HOX1.out.below hb5)
        clear hb5 HSE HOX1 hk0 hkg hki hlt h0
        by_cases hm0 : more.length = 0
        · have hmd : ((more.length : Int) == 0) = true := by rw [beq_iff_eq]; omega
          clear hm0 HTM
          generalize more.length = mm at *
          go_wp2_with fail
          go_ret
          exact ⟨rfl, HBX.out⟩
        · have hmd : ((more.length : Int) == 0) = false := by rw [beq_eq_false_iff_ne]; omega
          have HRM := hide (HTM.out (by omega))
          clear hm0
          have HHM := hide (HMV.out _ HBX.out)
          generalize more.length = mm at *
          go_wp2_with (first
            | (at_builtin; refine wpList_append_bytes _ rfl _ _ rfl w.heap.size _ [] rfl (Own.empty _ _ HBX.out.size) _ X rfl ((Own.has HOX.out).below (below_alloc _ _)) HL1.out (HBX.out.alloc HBX.out.size _).size ?_; intro v4 w4 ho4 hg4; have hb4 := to_empty hg4; have HB4 := hide (HBX.out.trans (hb4.mono HBX.out.size)); have HM4 := hide (HHM.out.below hb4); have HO4 := hide ho4; clear hg4 hb4 ho4)
            | (at_builtin; go_loud (refine wpList_append_bytes _ rfl _ _ rfl w.heap.size _ _ rfl HO4.out _ more rfl HM4.out HL2.out HB4.out.size ?_); intro v5 w5 ho5 hg5; rw [HYE.out] at ho5; have HB5 := hide (to_own HB4.out HO4.out HB4.out.size hg5); have HO5 := hide ho5; obtain ⟨ya, yc, hy5, _, _⟩ := ho5.form; subst hy5; clear hg5 ho5))
          refine (tread_any _ _ w5 (Own.has HO5.out) HBY.out HL3.out).mono ?_
          intro e w6 hr6
          rw [HRM.out] at hr6
          obtain ⟨hb6, rfl⟩ := hr6
          have HB6 := hide (HB5.out.trans (hb6.mono HB5.out.size))
          have HB7 := hide (HB6.out.trans ((below_alloc w6 (.cells #[.slice none 0 0, .slice none 0 0, .int .i64 0] 25)).mono HB6.out.size))
          have HSE := hide (error_any 1 1 _ (HEV.out _ HB7.out))
          rw [show errV 1 = .iface 35 (.int .i64 1) from rfl] at HSE ⊢
          clear hb6 HO5
          go_wp2_with (refine wpList_store_new 25 [.slice none 0 0, .slice none 0 0, .int .i64 0] [.slice none 0 0, .slice none 0 0, .int .i64 0] w6 size_tx rfl rfl (by intro v hv; simp only [List.mem_cons, List.not_mem_nil, or_false] at hv; rcases hv with rfl | rfl | rfl <;> rfl) rfl (.tmp 13) (.tmp 55) rfl rfl rfl rfl ?_)
          refine HSE.out.mono ?_
          rintro e w8 ⟨rfl, hb8⟩
          have HB8 := hide (HB7.out.trans (hb8.mono HB7.out.size))
          clear hb8
          go_wp2_with fail
          go_ret
          exact ⟨rfl, HB8.out⟩
      · have hk0 : decide ((k : Int) < (X.length : Int)) = false := decide_eq_false (by omega)
        have hk1 : ¬ (k : Int) < (X.length : Int) := by omega
        have hkg : decide ((k : Int) ≥ 0) = true := decide_eq_true h0
        have HBX := HB2
        obtain ⟨xa, xc, rfl, _, _⟩ := ho2.form
        have HOX := HO2
        clear ho2 HTN hlt
        generalize X.length = xl at *
        by_cases hm0 : more.length = 0
        · have hmd : ((more.length : Int) == 0) = true := by rw [beq_iff_eq]; omega
          clear hm0 HTM
          generalize more.length = mm at *
          go_wp2_with fail
          go_ret
          exact ⟨rfl, HBX.out⟩
        · have hmd : ((more.length : Int) == 0) = false := by rw [beq_eq_false_iff_ne]; omega
          have HRM := hide (HTM.out (by omega))
          clear hm0
          have HHM := hide (HMV.out _ HBX.out)
          generalize more.length = mm at *
          go_wp2_with (first
            | (at_builtin; refine wpList_append_bytes _ rfl _ _ rfl w.heap.size _ [] rfl (Own.empty _ _ HBX.out.size) _ X rfl ((Own.has HOX.out).below (below_alloc _ _)) HL1.out (HBX.out.alloc HBX.out.size _).size ?_; intro v4 w4 ho4 hg4; have hb4 := to_empty hg4; have HB4 := hide (HBX.out.trans (hb4.mono HBX.out.size)); have HM4 := hide (HHM.out.below hb4); have HO4 := hide ho4; clear hg4 hb4 ho4)
            | (at_builtin; go_loud (refine wpList_append_bytes _ rfl _ _ rfl w.heap.size _ _ rfl HO4.out _ more rfl HM4.out HL2.out HB4.out.size ?_); intro v5 w5 ho5 hg5; rw [HYE.out] at ho5; have HB5 := hide (to_own HB4.out HO4.out HB4.out.size hg5); have HO5 := hide ho5; obtain ⟨ya, yc, hy5, _, _⟩ := ho5.form; subst hy5; clear hg5 ho5))
          refine (tread_any _ _ w5 (Own.has HO5.out) HBY.out HL3.out).mono ?_
          intro e w6 hr6
          rw [HRM.out] at hr6
          obtain ⟨hb6, rfl⟩ := hr6
          have HB6 := hide (HB5.out.trans (hb6.mono HB5.out.size))
          have HB7 := hide (HB6.out.trans ((below_alloc w6 (.cells #[.slice none 0 0, .slice none 0 0, .int .i64 0] 25)).mono HB6.out.size))
          have HSE := hide (error_any 1 1 _ (HEV.out _ HB7.out))
          rw [show errV 1 = .iface 35 (.int .i64 1) from rfl] at HSE ⊢
          clear hb6 HO5
          go_wp2_with (refine wpList_store_new 25 [.slice none 0 0, .slice none 0 0, .int .i64 0] [.slice none 0 0, .slice none 0 0, .int .i64 0] w6 size_tx rfl rfl (by intro v hv; simp only [List.mem_cons, List.not_mem_nil, or_false] at hv; rcases hv with rfl | rfl | rfl <;> rfl) rfl (.tmp 13) (.tmp 55) rfl rfl rfl rfl ?_)
          refine HSE.out.mono ?_
          rintro e w8 ⟨rfl, hb8⟩
          have HB8 := hide (HB7.out.trans (hb8.mono HB7.out.size))
          clear hb8
          go_wp2_with fail
          go_ret
          exact ⟨rfl, HB8.out⟩
    · have hkg : decide (n ≥ 0) = false := decide_eq_false (by omega)
      have HBX := HB2
      obtain ⟨xa, xc, rfl, _, _⟩ := ho2.form
      have HOX := HO2
      clear ho2 HTN h0
      generalize X.length = xl at *
      by_cases hm0 : more.length = 0
      · have hmd : ((more.length : Int) == 0) = true := by rw [beq_iff_eq]; omega
        clear hm0 HTM
        generalize more.length = mm at *
        go_wp2_with fail
        go_ret
        exact ⟨rfl, HBX.out⟩
      · have hmd : ((more.length : Int) == 0) = false := by rw [beq_eq_false_iff_ne]; omega
        have HRM := hide (HTM.out (by omega))
        clear hm0
        have HHM := hide (HMV.out _ HBX.out)
        generalize more.length = mm at *
        go_wp2_with (first
          | (at_builtin; refine wpList_append_bytes _ rfl _ _ rfl w.heap.size _ [] rfl (Own.empty _ _ HBX.out.size) _ X rfl ((Own.has HOX.out).below (below_alloc _ _)) HL1.out (HBX.out.alloc HBX.out.size _).size ?_; intro v4 w4 ho4 hg4; have hb4 := to_empty hg4; have HB4 := hide (HBX.out.trans (hb4.mono HBX.out.size)); have HM4 := hide (HHM.out.below hb4); have HO4 := hide ho4; clear hg4 hb4 ho4)
          | (at_builtin; go_loud (refine wpList_append_bytes _ rfl _ _ rfl w.heap.size _ _ rfl HO4.out _ more rfl HM4.out HL2.out HB4.out.size ?_); intro v5 w5 ho5 hg5; rw [HYE.out] at ho5; have HB5 := hide (to_own HB4.out HO4.out HB4.out.size hg5); have HO5 := hide ho5; obtain ⟨ya, yc, hy5, _, _⟩ := ho5.form; subst hy5; clear hg5 ho5))
        refine (tread_any _ _ w5 (Own.has HO5.out) HBY.out HL3.out).mono ?_
        intro e w6 hr6
        rw [HRM.out] at hr6
        obtain ⟨hb6, rfl⟩ := hr6
        have HB6 := hide (HB5.out.trans (hb6.mono HB5.out.size))
        have HB7 := hide (HB6.out.trans ((below_alloc w6 (.cells #[.slice none 0 0, .slice none 0 0, .int .i64 0] 25)).mono HB6.out.size))
        have HSE := hide (error_any 1 1 _ (HEV.out _ HB7.out))
        rw [show errV 1 = .iface 35 (.int .i64 1) from rfl] at HSE ⊢
        clear hb6 HO5
        go_wp2_with (refine wpList_store_new 25 [.slice none 0 0, .slice none 0 0, .int .i64 0] [.slice none 0 0, .slice none 0 0, .int .i64 0] w6 size_tx rfl rfl (by intro v hv; simp only [List.mem_cons, List.not_mem_nil, or_false] at hv; rcases hv with rfl | rfl | rfl <;> rfl) rfl (.tmp 13) (.tmp 55) rfl rfl rfl rfl ?_)
        refine HSE.out.mono ?_
        rintro e w8 ⟨rfl, hb8⟩
        have HB8 := hide (HB7.out.trans (hb8.mono HB7.out.size))
        clear hb8
        go_wp2_with fail
        go_ret
        exact ⟨rfl, HB8.out⟩
  · have HTB := hide (tbytes_bad T w1 (HC.out w1 HB1.out) hck)
    have hce : errV (Tm.check T.it) = .iface 35 (.int .i64 (Tm.check T.it)) := by unfold errV; rw [if_neg hck]
    rw [HV.out, hce] at HTB
    clear hck hce
    generalize Tm.check T.it = ck at *
    go_wp2_with fail
    refine HTB.out.mono ?_
    rintro e w2 ⟨rfl, hb2⟩
    have HBX := hide (HB1.out.trans (hb2.mono HB1.out.size))
    clear hb2 HTB hc0 hc1 hc2
    go_wp2_with fail
    go_ret
    exact ⟨rfl, HBX.out⟩
end Go.Proofs.YtmoijbdpbpfljaaDoor
