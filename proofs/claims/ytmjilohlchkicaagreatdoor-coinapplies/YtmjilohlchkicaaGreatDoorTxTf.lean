/- The document's answer: what is wrong with a payment. -/
import Derived.Test.YtmjilohlchkicaaGreatDoorZTs
import Derived.Test.YtmjilohlchkicaaGreatDoorZTw
import Derived.Test.YtmjilohlchkicaaGreatDoorZTf
import Derived.Test.YtmjilohlchkicaaGreatDoorZRa
namespace Go.Proofs.YtmjilohlchkicaaGreatDoor
open Go.RowKit
set_option linter.unusedVariables false
set_option linter.unusedSimpArgs false

theorem tf_money (n : Int) (w : World) : Calls Tryz.prog 28 #[.int .i64 n] w fun e w' => e = .returned (.bool (decide (Mo.chk n = 0))) ∧ w = w' := by
  by_cases h : Mo.ok n
  · rw [Mo.chk_good n h]
    obtain ⟨h0, h1⟩ := h
    go_enter Tryz.func28, Tryz.ntmps28
    go_wp2
    go_ret
    exact ⟨rfl, rfl⟩
  · rw [Mo.chk_bad n h]
    by_cases a : 0 ≤ n
    · have b : ¬ n ≤ 1125899906842624 := fun h1 => h ⟨a, h1⟩
      clear h
      go_enter Tryz.func28, Tryz.ntmps28
      go_wp2
      go_ret
      exact ⟨rfl, rfl⟩
    · clear h
      go_enter Tryz.func28, Tryz.ntmps28
      go_wp2
      go_ret
      exact ⟨rfl, rfl⟩
theorem tf_time (n : Int) (w : World) : Calls Tryz.prog 11 #[.int .i64 n] w fun e w' => e = .returned (.bool (decide (0 ≤ n ∧ n ≤ 1073741824))) ∧ w = w' := by
  by_cases a : 0 ≤ n
  · by_cases b : n ≤ 1073741824
    · have e : decide (0 ≤ n ∧ n ≤ 1073741824) = true := decide_eq_true ⟨a, b⟩
      rw [e]
      clear e
      go_enter Tryz.func11, Tryz.ntmps11
      go_wp2
      go_ret
      exact ⟨rfl, rfl⟩
    · have e : decide (0 ≤ n ∧ n ≤ 1073741824) = false := decide_eq_false (fun h => b h.2)
      rw [e]
      clear e
      go_enter Tryz.func11, Tryz.ntmps11
      go_wp2
      go_ret
      exact ⟨rfl, rfl⟩
  · have e : decide (0 ≤ n ∧ n ≤ 1073741824) = false := decide_eq_false (fun h => a h.1)
    rw [e]
    clear e
    go_enter Tryz.func11, Tryz.ntmps11
    go_wp2
    go_ret
    exact ⟨rfl, rfl⟩
/-- The payment's box, and an in's. -/
structure BxF (w : World) (b : Nat) (c0 c : List Value) (W : World) : Prop where
  below : Below w.heap.size w W
  b1 : Is W w.heap.size c0 26
  b2 : Is W b c 49
theorem BxF.drew {w W : World} {b : Nat} {c0 c : List Value} (h : BxF w b c0 c W) : BxF w b c0 c W.drew := ⟨h.below.drew, h.b1.drew, h.b2.drew⟩
theorem BxF.call {w W W' : World} {b : Nat} {c0 c : List Value} (h : BxF w b c0 c W) (hb : Below W.heap.size W W') : BxF w b c0 c W' :=
  ⟨h.below.trans (hb.mono h.below.size), h.b1.below hb h.b1.lt, h.b2.below hb h.b2.lt⟩
def plc (x : InV) : List Int × Int := (x.tx, x.at')
theorem insF_next (ah : List (List Int × Int)) (x : InV) (r : List InV) : Tm.insF ah ((x :: r).map InV.it) = if Tm.inF ah x.it = 0 then Tm.insF (ah ++ [plc x]) (r.map InV.it) else Tm.inF ah x.it := rfl
theorem inF_range (ah : List (List Int × Int)) (x : InV) (h : x.at' < 0 ∨ 40 ≤ x.at') : Tm.inF ah x.it = 2 := by unfold Tm.inF; exact if_pos h
theorem inF_twice (ah : List (List Int × Int)) (x : InV) (h : ¬ (x.at' < 0 ∨ 40 ≤ x.at')) (hm : plc x ∈ ah) : Tm.inF ah x.it = 6 := by
  unfold Tm.inF; exact (if_neg h).trans (if_pos hm)
theorem inF_keys (ah : List (List Int × Int)) (x : InV) (h : ¬ (x.at' < 0 ∨ 40 ≤ x.at')) (hm : plc x ∉ ah) : Tm.inF ah x.it = Tm.keysF (x.K.map Prod.fst) := by
  unfold Tm.inF; exact (if_neg h).trans (if_neg hm)
theorem keysF_many (K : List (List Int × Value)) (h : 30 < K.length) : Tm.keysF (K.map Prod.fst) = 4 := by unfold Tm.keysF; rw [if_pos (by simpa using h)]
theorem keysF_long (K : List (List Int × Value)) (h : ¬ 30 < K.length) (j : Nat) (hj : j < K.length) (hl : 3000 < K[j].1.length) : Tm.keysF (K.map Prod.fst) = 4 := by
  unfold Tm.keysF
  rw [if_neg (by simpa using h), if_pos]
  exact List.any_eq_true.2 ⟨K[j].1, List.mem_map.2 ⟨K[j], List.getElem_mem hj, rfl⟩, decide_eq_true hl⟩
theorem keysF_ok (K : List (List Int × Value)) (h : ¬ 30 < K.length) (hl : ∀ j (hj : j < K.length), ¬ 3000 < K[j].1.length) : Tm.keysF (K.map Prod.fst) = 0 := by
  unfold Tm.keysF
  rw [if_neg (by simpa using h), if_neg]
  intro ha
  obtain ⟨l, hm, hd⟩ := List.any_eq_true.1 ha
  obtain ⟨p, hp, rfl⟩ := List.mem_map.1 hm
  obtain ⟨j, hj, rfl⟩ := List.getElem_of_mem hp
  exact hl j hj (of_decide_eq_true hd)
theorem plc_ahead (R : List InV) (k : Nat) (hk : k < R.length) : (plc R[k] ∈ (R.take k).map plc) ↔ ∃ j, ∃ hj : j < k, plc (R[j]'(by omega)) = plc R[k] := by
  constructor
  · intro h
    obtain ⟨x, hx, hp⟩ := List.mem_map.1 h
    obtain ⟨j, hj, rfl⟩ := List.getElem_of_mem hx
    rw [List.length_take] at hj
    exact ⟨j, by omega, by simpa using hp⟩
  · rintro ⟨j, hj, hp⟩
    refine List.mem_map.2 ⟨R[j]'(by omega), ?_, hp⟩
    rw [List.mem_take_iff_getElem]
    exact ⟨j, by omega, rfl⟩

set_option maxRecDepth 100000 in
set_option maxHeartbeats 8000000 in
theorem rtxFault_any (t : TxV) (w : World) (ht : HasTx w t) :
    Calls Tryz.prog 10 #[t.val] w fun e w' => e = .returned (.int .i64 (Tm.check t.it)) ∧ Below w.heap.size w w' := by
  obtain ⟨iv, ins, ov, outs, time⟩ := t
  obtain ⟨hi, ho⟩ := ht
  obtain ⟨ia, ic, hie, him, hif⟩ := ins_form hi
  obtain ⟨oa, oc, hoe, hom, hof⟩ := outs_form ho
  simp only at hi ho hie hoe hif hof
  subst hie hoe
  have HIF := hide hif
  have HIR := hide hi.form
  have HOF := hide hof
  have HID := hide hi.2
  have HOD := hide ho.2
  unfold maxLen at him hom
  have hck : Tm.check (TxV.it ⟨.slice ia ins.length ic, ins, .slice oa outs.length oc, outs, time⟩) = if 40 < ins.length ∨ 40 < outs.length then 4 else if outs.length = 0 then 5 else if time < 0 ∨ 1073741824 < time then 2 else if Tm.insF [] (ins.map InV.it) = 0 then Tm.outsF (outs.map OutV.it) else Tm.insF [] (ins.map InV.it) := by
    unfold Tm.check TxV.it; simp only [List.length_map]
  rw [hck]
  show Calls Tryz.prog 10 #[.agg #[.slice ia ins.length ic, .slice oa outs.length oc, .int .i64 time]] w _
  have HB0 := hide (below_alloc w (.cells #[.slice ia ins.length ic, .slice oa outs.length oc, .int .i64 time] 26))
  have HI0 := hide (Is.new w [.slice ia ins.length ic, .slice oa outs.length oc, .int .i64 time] 26)
  by_cases h1 : 40 < ins.length
  · rw [if_pos (.inl h1)]
    have hi1 : (40 : Int) < (ins.length : Int) := by omega
    have hi1d : decide ((40 : Int) < (ins.length : Int)) = true := decide_eq_true hi1
    clear hi ho hck hif hof HIF HOF HIR
    generalize ins.length = il at *
    generalize outs.length = ol at *
    go_enter Tryz.func10, Tryz.ntmps10
    go_wp2
    go_ret
    exact ⟨rfl, HB0.out⟩
  have hi1 : ¬ (40 : Int) < (ins.length : Int) := by omega
  have hi1d : decide ((40 : Int) < (ins.length : Int)) = false := decide_eq_false hi1
  by_cases h2 : 40 < outs.length
  · rw [if_pos (.inr h2)]
    have hi2 : decide ((40 : Int) < (outs.length : Int)) = true := decide_eq_true (by omega)
    clear hi ho hck h1 hif hof HIF HOF HIR
    generalize ins.length = il at *
    generalize outs.length = ol at *
    go_enter Tryz.func10, Tryz.ntmps10
    go_wp2
    go_ret
    exact ⟨rfl, HB0.out⟩
  have hi2d : decide ((40 : Int) < (outs.length : Int)) = false := decide_eq_false (by omega)
  rw [if_neg (by omega)]
  by_cases h3 : outs.length = 0
  · rw [if_pos h3]
    have hi3 : ((outs.length : Int) == 0) = true := by rw [beq_iff_eq]; omega
    clear hi ho hck h1 h2 h3 hif hof HIF HOF HIR
    generalize ins.length = il at *
    generalize outs.length = ol at *
    go_enter Tryz.func10, Tryz.ntmps10
    go_wp2
    go_ret
    exact ⟨rfl, HB0.out⟩
  have hi3 : ((outs.length : Int) == 0) = false := by rw [beq_eq_false_iff_ne]; omega
  rw [if_neg h3]
  have HTI := hide (tf_time time (w.alloc (.cells #[.slice ia ins.length ic, .slice oa outs.length oc, .int .i64 time] 26)))
  by_cases h4 : time < 0 ∨ 1073741824 < time
  · rw [if_pos h4]
    have e : decide (0 ≤ time ∧ time ≤ 1073741824) = false := decide_eq_false (by omega)
    rw [e] at HTI
    clear hi ho hck h1 h2 h3 h4 e hif hof HIF HOF HIR
    generalize ins.length = il at *
    generalize outs.length = ol at *
    go_enter Tryz.func10, Tryz.ntmps10
    go_wp2_with fail
    refine HTI.out.mono ?_
    rintro e w1 ⟨rfl, rfl⟩
    go_wp2
    go_ret
    exact ⟨rfl, HB0.out⟩
  rw [if_neg h4]
  have e : decide (0 ≤ time ∧ time ≤ 1073741824) = true := decide_eq_true (by omega)
  rw [e] at HTI
  obtain ⟨FI, hFI⟩ : ∃ F, F = Tm.insF [] (ins.map InV.it) := ⟨_, rfl⟩
  obtain ⟨FO, hFO⟩ : ∃ F, F = Tm.outsF (outs.map OutV.it) := ⟨_, rfl⟩
  have HFI := hide hFI
  have HFO := hide hFO
  rw [← hFI, ← hFO]
  obtain ⟨RR, hRR⟩ : ∃ R, R = if FI = 0 then FO else FI := ⟨_, rfl⟩
  have HRR := hide hRR
  rw [← hRR]
  clear hRR
  have hzi := zero_in
  obtain ⟨Y, hY⟩ : ∃ Y, Y = vals (List.replicate 32 0) ++ ([.int .i64 0, .slice none 0 0] : List Value) := ⟨_, rfl⟩
  rw [← hY] at hzi
  have hYl : Y.length = 34 := by rw [hY]; simp [vals]
  have hYp : ¬ Y = [] := by intro h; rw [h] at hYl; cases hYl
  have HYL := hide hYl
  obtain ⟨il, hil⟩ : ∃ n, n = ins.length := ⟨_, rfl⟩
  obtain ⟨ol, hol⟩ : ∃ n, n = outs.length := ⟨_, rfl⟩
  rw [← hil] at him h1 hi1 hi1d HB0 HI0 HTI ⊢
  rw [← hol] at hom h2 hi2d h3 hi3 HB0 HI0 HTI ⊢
  have HIL := hide hil.symm
  have HOL := hide hol.symm
  clear hi ho hck h4 e hif hof hFI hFO hY hYl hil hol
  go_enter Tryz.func10, Tryz.ntmps10
  go_wp2_with fail
  refine HTI.out.mono ?_
  rintro e w1 ⟨rfl, rfl⟩
  clear HTI
  go_wp2
  go_loopw [3] (fun i wr => ∃ k : Nat, k ≤ il ∧ i = .int .i64 k ∧ Below w.heap.size w wr ∧ Is wr w.heap.size [.slice ia il ic, .slice oa ol oc, .int .i64 time] 26 ∧ Tm.insF ((ins.take k).map plc) ((ins.drop k).map InV.it) = FI) (fun i _ => il - (intOf i).toNat)
  case atStart => exact ⟨0, by omega, rfl, HB0.out, HI0.out, by rw [List.drop_zero]; exact HFI.out.symm⟩
  case round =>
    obtain ⟨k, hk, rfl, hbel, hbx, hfi⟩ := hrel
    have hcA := hbx.cell 0
    simp only [List.getElem?_cons_zero, List.getElem?_cons_succ] at hcA
    by_cases hlt : k < il
    · have hkI : k < ins.length := by rw [HIL.out]; exact hlt
      have HBEL := hide hbel
      have HBX := hide hbx
      obtain ⟨b, off, hia, hc1, hc2, hb3, hpl, hkv⟩ := HIF.out k hkI
      obtain ⟨ia2, ic2, hee, _, hrr⟩ := HIR.out
      injection hee with hee1 hee2 hee3
      subst hee1 hee3
      obtain ⟨b', off', hia2, _, _, _, hbr⟩ := hrr k hkI
      rw [hia] at hia2
      injection hia2 with hia2
      injection hia2 with hia2 hia3
      subst hia2 hia3
      have HPL : Hid (∀ j (hj : j < ins.length) W, Below w.heap.size w W → W.rangeAt b (off + j * 34) (vals ins[j].tx ++ [.int .i64 ins[j].at'])) := hide (fun j hj W hW => by
        obtain ⟨b2, o2, e1, _, _, e4, e5, _⟩ := HIF.out j hj
        rw [hia] at e1
        injection e1 with e1
        injection e1 with e1 e2
        subst e1 e2
        exact range_keep e5 hW e4)
      subst hia
      rw [HIL.out] at hc1
      unfold maxLen at hc2
      obtain ⟨d1, d2, d3⟩ := HID.out ins[k] (List.getElem_mem hkI)
      have hin := range_at (range_keep hbr hbel hb3) (fun x hx => inCell_length x (HID.out x hx).1) k hkI
      have hcl := inCell_length ins[k] d1
      have hone : ∀ v ∈ inCell ins[k], v.oneCell' = true := by
        intro v hv
        unfold inCell at hv
        rcases List.mem_append.1 hv with hv | hv
        · exact vals_one _ v hv
        · simp only [List.mem_cons, List.not_mem_nil, or_false] at hv
          rcases hv with rfl | rfl
          · rfl
          · obtain ⟨a, c, e, _⟩ := d3.form; rw [e]; rfl
      rw [List.drop_eq_getElem_cons hkI, insF_next] at hfi
      have hnx : (ins.take k).map plc ++ [plc ins[k]] = (ins.take (k + 1)).map plc := by rw [List.take_succ_eq_append_getElem hkI, List.map_append]; rfl
      rw [hnx] at hfi
      have HFS := hide hfi
      obtain ⟨AH, hAH⟩ : ∃ A, A = (ins.take k).map plc := ⟨_, rfl⟩
      have HAH := hide hAH
      have HPA := hide (plc_ahead ins k hkI)
      rw [← hAH] at HFS HPA
      have h32 := fun j (hj : j < ins.length) => (HID.out ins[j] (List.getElem_mem hj)).1
      have H32 := hide h32
      obtain ⟨ka, kc, hke, hkm, hkl, hkf⟩ := keys_form d3
      have HKF := hide hkf
      have HKH := hide d3.2
      obtain ⟨C, hC⟩ : ∃ C, C = inCell ins[k] := ⟨_, rfl⟩
      have hsub : inCell ins[k] = vals ins[k].tx ++ [.int .i64 ins[k].at', ins[k].kv] := rfl
      have hvl : (vals ins[k].tx).length = 32 := by rw [vals_length]; exact d1
      rw [← hC] at hin hcl hone
      have HC32 : Hid (∀ W b, Is W b C 49 → W.cell? ⟨b, 32, none⟩ = some (.int .i64 ins[k].at')) := hide (fun W b h => by rw [h.cell, hC, hsub, in_get32 _ _ _ hvl])
      have HC33 : Hid (∀ W b, Is W b C 49 → W.cell? ⟨b, 33, none⟩ = some (.slice ka ins[k].K.length kc)) := hide (fun W b h => by rw [h.cell, hC, hsub, in_get33 _ _ _ hvl, hke])
      have HCP : Hid (∀ W b, Is W b C 49 → W.rangeAt b 0 (vals ins[k].tx ++ [.int .i64 ins[k].at'])) := hide (fun W b h => by rw [hC] at h; exact (place_cells (is_range h) d1).1)
      have HIC := hide hin
      have HCL := hide hcl
      have HONE := hide hone
      have HRG2 := hide (inF_range AH ins[k])
      have HRG6 := hide (inF_twice AH ins[k])
      have HRGK := hide (inF_keys AH ins[k])
      have hki : (k : Int) < (il : Int) := by omega
      obtain ⟨wA, rfl⟩ : ∃ wA, wA = wr := ⟨_, rfl⟩
      clear hbel hbx hfi hbr hpl hkv hin hcl hone hnx hAH h32 hkf hC hsub hvl d1 d2 d3 hke hkm hrr hee2
      unfold maxLen at hkl
      by_cases hr1 : ins[k].at' < 0
      · have HFK : Hid (Tm.inF AH ins[k].it = 2) := hide (HRG2.out (.inl hr1))
        have HRES : Hid (FI = 2) := hide (by have := HFS.out; rw [HFK.out, if_neg (by omega)] at this; exact this.symm)
        clear HFS HPA HRG2 HRG6 HRGK HFK
        generalize ins[k].at' = at' at *
        go_wp2_with (first
          | (refine wpList_load_part 49 C b (off + k * 34) rfl (.tmp 37) rfl rfl HIC.out Tryz.underlying49 rfl size_in HCL.out ?_)
          | (refine wpList_store_any3 49 Y C wA.heap.size rfl (.tmp 4) (.tmp 38) rfl rfl rfl rfl (Is.new wA _ _) size_in HYL.out HCL.out HONE.out ?_; intro w5 hi5 hw5; have hb5 : Below wA.heap.size wA w5 := (by rw [hw5]; exact below_row); have HX1 : Hid (BxF w wA.heap.size [.slice (some ⟨b, off, none⟩) il ic, .slice oa ol oc, .int .i64 time] C w5) := hide ⟨HBEL.out.trans (hb5.mono HBEL.out.size), HBX.out.below hb5 HBX.out.lt, hi5⟩; have hc32 := HC32.out _ _ hi5; clear hw5 hb5 hi5))
        go_ret
        exact ⟨by rw [HRR.out, HRES.out]; rfl, HX1.out.below⟩
      have hr1d : decide (ins[k].at' < 0) = false := decide_eq_false hr1
      by_cases hr2 : 40 ≤ ins[k].at'
      · have HFK : Hid (Tm.inF AH ins[k].it = 2) := hide (HRG2.out (.inr hr2))
        have HRES : Hid (FI = 2) := hide (by have := HFS.out; rw [HFK.out, if_neg (by omega)] at this; exact this.symm)
        have hr2d : decide (ins[k].at' ≥ 40) = true := decide_eq_true hr2
        clear HFS HPA HRG2 HRG6 HRGK HFK
        generalize ins[k].at' = at' at *
        go_wp2_with (first
          | (refine wpList_load_part 49 C b (off + k * 34) rfl (.tmp 37) rfl rfl HIC.out Tryz.underlying49 rfl size_in HCL.out ?_)
          | (refine wpList_store_any3 49 Y C wA.heap.size rfl (.tmp 4) (.tmp 38) rfl rfl rfl rfl (Is.new wA _ _) size_in HYL.out HCL.out HONE.out ?_; intro w5 hi5 hw5; have hb5 : Below wA.heap.size wA w5 := (by rw [hw5]; exact below_row); have HX1 : Hid (BxF w wA.heap.size [.slice (some ⟨b, off, none⟩) il ic, .slice oa ol oc, .int .i64 time] C w5) := hide ⟨HBEL.out.trans (hb5.mono HBEL.out.size), HBX.out.below hb5 HBX.out.lt, hi5⟩; have hc32 := HC32.out _ _ hi5; clear hw5 hb5 hi5))
        go_ret
        exact ⟨by rw [HRR.out, HRES.out]; rfl, HX1.out.below⟩
      have hr2d : decide (ins[k].at' ≥ 40) = false := decide_eq_false (by omega)
      have HNR : Hid (¬ (ins[k].at' < 0 ∨ 40 ≤ ins[k].at')) := hide (by omega)
      obtain ⟨at', hat⟩ : ∃ a, a = ins[k].at' := ⟨_, rfl⟩
      rw [← hat] at hr1 hr1d hr2 hr2d HC32
      have HATE := hide hat
      clear hat
      go_wp2_with (first
        | (refine wpList_load_part 49 C b (off + k * 34) rfl (.tmp 37) rfl rfl HIC.out Tryz.underlying49 rfl size_in HCL.out ?_)
        | (refine wpList_store_any3 49 Y C wA.heap.size rfl (.tmp 4) (.tmp 38) rfl rfl rfl rfl (Is.new wA _ _) size_in HYL.out HCL.out HONE.out ?_; intro w5 hi5 hw5; have hb5 : Below wA.heap.size wA w5 := (by rw [hw5]; exact below_row); have HX1 : Hid (BxF w wA.heap.size [.slice (some ⟨b, off, none⟩) il ic, .slice oa ol oc, .int .i64 time] C w5) := hide ⟨HBEL.out.trans (hb5.mono HBEL.out.size), HBX.out.below hb5 HBX.out.lt, hi5⟩; have hc32 := HC32.out _ _ hi5; clear hw5 hb5 hi5))
      go_loopw [5] (fun i wq => ∃ j : Nat, j ≤ k ∧ i = .int .i64 j ∧ (∀ m (hm : m < j) (hx : m < ins.length), plc ins[m] ≠ plc ins[k]) ∧ BxF w wA.heap.size [.slice (some ⟨b, off, none⟩) il ic, .slice oa ol oc, .int .i64 time] C wq) (fun i _ => k - (intOf i).toNat)
      case atStart => exact ⟨0, by omega, rfl, (fun m hm => by omega), HX1.out⟩
      case round =>
        obtain ⟨wq, rfl⟩ : ∃ wq, wq = wr := ⟨_, rfl⟩
        clear hc32 hcA
        obtain ⟨j, hj, rfl, hno, hbj⟩ := hrel
        have HBJ := hide hbj
        by_cases hjt : j < k
        · have hjI : j < ins.length := by omega
          have hji : (j : Int) < (k : Int) := by omega
          have hjl : (j : Int) < (il : Int) := by omega
          have hcA2 : wq.drew.cell? ⟨w.heap.size, 0, none⟩ = some (.slice (some ⟨b, off, none⟩) il ic) := hbj.b1.cell 0
          obtain ⟨PJ, hPJ⟩ : ∃ P, P = vals ins[j].tx ++ [Value.int .i64 ins[j].at'] := ⟨_, rfl⟩
          obtain ⟨PK, hPK⟩ : ∃ P, P = vals ins[k].tx ++ [Value.int .i64 ins[k].at'] := ⟨_, rfl⟩
          have HPJ : Hid (wq.drew.rangeAt b (off + j * 34) PJ) := hide (by rw [hPJ]; exact HPL.out j hjI _ hbj.below.drew)
          have HPK : Hid (wq.drew.rangeAt wA.heap.size 0 PK) := hide (by rw [hPK]; exact HCP.out _ _ hbj.b2.drew)
          have hPJl : PJ.length = 33 := by rw [hPJ, List.length_append, vals_length, H32.out j hjI]; rfl
          have hPKl : PK.length = 33 := by rw [hPK, List.length_append, vals_length, H32.out k hkI]; rfl
          have hszj : (Tryz.prog.info? 46).map (·.size) = some PJ.length := by rw [hPJl]; exact size_place
          have hszk : (Tryz.prog.info? 46).map (·.size) = some PK.length := by rw [hPKl]; exact size_place
          have hgd := guard_place
          by_cases hp : ins[j].tx = ins[k].tx ∧ ins[j].at' = ins[k].at'
          · have hq : ∀ w', (Op.equalIn 10000 46 (.agg PJ.toArray) (.agg PK.toArray)).run Tryz.prog w' = .ok true w' := fun w' => by rw [hPJ, hPK, place_eq _ _ _ _ (H32.out j hjI) (H32.out k hkI) w', decide_eq_true hp]
            have hmem : plc ins[k] ∈ AH := HPA.out.2 ⟨j, hjt, by unfold plc; rw [hp.1, hp.2]⟩
            have HFK : Hid (FI = 6) := hide (by have := HFS.out; rw [HRG6.out HNR.out hmem, if_neg (by omega)] at this; exact this.symm)
            clear hPJ hPK hPJl hPKl hp hmem hno hbj HFS HPA HRG2 HRG6 HRGK
            go_wp2
            refine wp_region_held_drew (S := fun W : World => W.cell? ⟨w.heap.size, 0, none⟩ = some (.slice (some ⟨b, off, none⟩) il ic) ∧ W.rangeAt b (off + j * 34) PJ ∧ W.rangeAt wA.heap.size 0 PK ∧ BxF w wA.heap.size [.slice (some ⟨b, off, none⟩) il ic, .slice oa ol oc, .int .i64 time] C W) (by kernel_rfl) ?_ (fun hHeld0 => ?_)
            · exact ⟨hcA2, HPJ.out, HPK.out, HBJ.out.drew⟩
            refine wpAnyH_take (i := 0) (v := ?_) rfl (by kernel_rfl) (by kernel_rfl) (by kernel_rfl) (fun _ _ _ h => h) (Or.inl ⟨by rfl, ?_⟩) hHeld0 ?_
            rotate_left
            · (intro w hSw; (try dsimp only at hSw); go_simp <;> (try with_reducible rfl))
            simp only [Act.put, List.getElem_toArray, List.getElem_cons_zero, List.getElem_cons_succ, List.setIfInBounds_toArray, List.set_cons_zero, List.set_cons_succ]
            refine wpAnyH_take (i := 1) (v := ?_) rfl (by kernel_rfl) (by kernel_rfl) (by kernel_rfl) (fun _ _ _ h => h) (Or.inl ⟨by rfl, ?_⟩) hHeld0 ?_
            rotate_left
            · (intro w hSw; (try dsimp only at hSw); go_simp <;> (try with_reducible rfl))
            simp only [Act.put, List.getElem_toArray, List.getElem_cons_zero, List.getElem_cons_succ, List.setIfInBounds_toArray, List.set_cons_zero, List.set_cons_succ]
            refine wpAnyH_take (i := 2) (v := ?_) rfl (by kernel_rfl) (by kernel_rfl) (by kernel_rfl) (fun _ _ _ h => h) (Or.inl ⟨by rfl, ?_⟩) hHeld0 ?_
            rotate_left
            · (intro w hSw; (try dsimp only at hSw); go_simp <;> (try with_reducible rfl))
            simp only [Act.put, List.getElem_toArray, List.getElem_cons_zero, List.getElem_cons_succ, List.setIfInBounds_toArray, List.set_cons_zero, List.set_cons_succ]
            refine wpAnyH_take (i := 3) (v := ?_) rfl (by kernel_rfl) (by kernel_rfl) (by kernel_rfl) (fun _ _ _ h => h) (Or.inl ⟨by rfl, ?_⟩) hHeld0 ?_
            rotate_left
            · (intro w hSw; (try dsimp only at hSw); go_simp <;> (try with_reducible rfl))
            simp only [Act.put, List.getElem_toArray, List.getElem_cons_zero, List.getElem_cons_succ, List.setIfInBounds_toArray, List.set_cons_zero, List.set_cons_succ]
            refine wpAnyH_take (i := 4) (v := ?_) rfl (by kernel_rfl) (by kernel_rfl) (by kernel_rfl) (fun _ _ _ h => h) (Or.inl ⟨by rfl, ?_⟩) hHeld0 ?_
            rotate_left
            · (intro w hSw; (try dsimp only at hSw); go_simp <;> (try with_reducible rfl))
            simp only [Act.put, List.getElem_toArray, List.getElem_cons_zero, List.getElem_cons_succ, List.setIfInBounds_toArray, List.set_cons_zero, List.set_cons_succ]
            refine wpAnyH_take (i := 5) (v := .agg (PJ).toArray) rfl (by kernel_rfl) (by kernel_rfl) (by kernel_rfl) (fun _ _ _ h => h) (yieldsIf_load_mid (by rfl) _ _ rfl _ _ rfl (PJ) _ (fun w hSw => hSw.2.1) Tryz.underlying46 rfl hszj) hHeld0 ?_
            simp only [Act.put, List.getElem_toArray, List.getElem_cons_zero, List.getElem_cons_succ, List.setIfInBounds_toArray, List.set_cons_zero, List.set_cons_succ]
            refine wpAnyH_take (i := 6) (v := ?_) rfl (by kernel_rfl) (by kernel_rfl) (by kernel_rfl) (fun _ _ _ h => h) (Or.inl ⟨by rfl, ?_⟩) hHeld0 ?_
            rotate_left
            · (intro w hSw; (try dsimp only at hSw); go_simp <;> (try with_reducible rfl))
            simp only [Act.put, List.getElem_toArray, List.getElem_cons_zero, List.getElem_cons_succ, List.setIfInBounds_toArray, List.set_cons_zero, List.set_cons_succ]
            refine wpAnyH_take (i := 7) (v := .agg (PK).toArray) rfl (by kernel_rfl) (by kernel_rfl) (by kernel_rfl) (fun _ _ _ h => h) (yieldsIf_load_mid (by rfl) _ _ rfl _ _ rfl (PK) _ (fun w hSw => hSw.2.2.1) Tryz.underlying46 rfl hszk) hHeld0 ?_
            simp only [Act.put, List.getElem_toArray, List.getElem_cons_zero, List.getElem_cons_succ, List.setIfInBounds_toArray, List.set_cons_zero, List.set_cons_succ]
            refine wpAnyH_take (i := 8) (v := ?_) rfl (by kernel_rfl) (by kernel_rfl) (by kernel_rfl) (fun _ _ _ h => h) (Or.inl ⟨by rfl, ?_⟩) hHeld0 ?_
            rotate_left
            · (intro w hSw; (try dsimp only at hSw); go_simp <;> (try with_reducible rfl))
            simp only [Act.put, List.getElem_toArray, List.getElem_cons_zero, List.getElem_cons_succ, List.setIfInBounds_toArray, List.set_cons_zero, List.set_cons_succ]
            refine wpAnyH_done (by kernel_rfl) ?_ _
            go_wp2
            go_ret
            exact ⟨by rw [HRR.out, HFK.out]; rfl, hHeld0.2.2.2.below⟩
          · have hq : ∀ w', (Op.equalIn 10000 46 (.agg PJ.toArray) (.agg PK.toArray)).run Tryz.prog w' = .ok false w' := fun w' => by rw [hPJ, hPK, place_eq _ _ _ _ (H32.out j hjI) (H32.out k hkI) w', decide_eq_false hp]
            have HNO : Hid (∀ m (hm : m < j + 1) (hx : m < ins.length), plc ins[m] ≠ plc ins[k]) := hide (fun m hm hx => by
              by_cases e : m = j
              · subst e; intro h; exact hp ⟨congrArg Prod.fst h, congrArg Prod.snd h⟩
              · exact hno m (by omega) hx)
            clear hPJ hPK hPJl hPKl hp hno hbj
            go_wp2
            refine wp_region_held_drew (S := fun W : World => W.cell? ⟨w.heap.size, 0, none⟩ = some (.slice (some ⟨b, off, none⟩) il ic) ∧ W.rangeAt b (off + j * 34) PJ ∧ W.rangeAt wA.heap.size 0 PK ∧ BxF w wA.heap.size [.slice (some ⟨b, off, none⟩) il ic, .slice oa ol oc, .int .i64 time] C W) (by kernel_rfl) ?_ (fun hHeld0 => ?_)
            · exact ⟨hcA2, HPJ.out, HPK.out, HBJ.out.drew⟩
            refine wpAnyH_take (i := 0) (v := ?_) rfl (by kernel_rfl) (by kernel_rfl) (by kernel_rfl) (fun _ _ _ h => h) (Or.inl ⟨by rfl, ?_⟩) hHeld0 ?_
            rotate_left
            · (intro w hSw; (try dsimp only at hSw); go_simp <;> (try with_reducible rfl))
            simp only [Act.put, List.getElem_toArray, List.getElem_cons_zero, List.getElem_cons_succ, List.setIfInBounds_toArray, List.set_cons_zero, List.set_cons_succ]
            refine wpAnyH_take (i := 1) (v := ?_) rfl (by kernel_rfl) (by kernel_rfl) (by kernel_rfl) (fun _ _ _ h => h) (Or.inl ⟨by rfl, ?_⟩) hHeld0 ?_
            rotate_left
            · (intro w hSw; (try dsimp only at hSw); go_simp <;> (try with_reducible rfl))
            simp only [Act.put, List.getElem_toArray, List.getElem_cons_zero, List.getElem_cons_succ, List.setIfInBounds_toArray, List.set_cons_zero, List.set_cons_succ]
            refine wpAnyH_take (i := 2) (v := ?_) rfl (by kernel_rfl) (by kernel_rfl) (by kernel_rfl) (fun _ _ _ h => h) (Or.inl ⟨by rfl, ?_⟩) hHeld0 ?_
            rotate_left
            · (intro w hSw; (try dsimp only at hSw); go_simp <;> (try with_reducible rfl))
            simp only [Act.put, List.getElem_toArray, List.getElem_cons_zero, List.getElem_cons_succ, List.setIfInBounds_toArray, List.set_cons_zero, List.set_cons_succ]
            refine wpAnyH_take (i := 3) (v := ?_) rfl (by kernel_rfl) (by kernel_rfl) (by kernel_rfl) (fun _ _ _ h => h) (Or.inl ⟨by rfl, ?_⟩) hHeld0 ?_
            rotate_left
            · (intro w hSw; (try dsimp only at hSw); go_simp <;> (try with_reducible rfl))
            simp only [Act.put, List.getElem_toArray, List.getElem_cons_zero, List.getElem_cons_succ, List.setIfInBounds_toArray, List.set_cons_zero, List.set_cons_succ]
            refine wpAnyH_take (i := 4) (v := ?_) rfl (by kernel_rfl) (by kernel_rfl) (by kernel_rfl) (fun _ _ _ h => h) (Or.inl ⟨by rfl, ?_⟩) hHeld0 ?_
            rotate_left
            · (intro w hSw; (try dsimp only at hSw); go_simp <;> (try with_reducible rfl))
            simp only [Act.put, List.getElem_toArray, List.getElem_cons_zero, List.getElem_cons_succ, List.setIfInBounds_toArray, List.set_cons_zero, List.set_cons_succ]
            refine wpAnyH_take (i := 5) (v := .agg (PJ).toArray) rfl (by kernel_rfl) (by kernel_rfl) (by kernel_rfl) (fun _ _ _ h => h) (yieldsIf_load_mid (by rfl) _ _ rfl _ _ rfl (PJ) _ (fun w hSw => hSw.2.1) Tryz.underlying46 rfl hszj) hHeld0 ?_
            simp only [Act.put, List.getElem_toArray, List.getElem_cons_zero, List.getElem_cons_succ, List.setIfInBounds_toArray, List.set_cons_zero, List.set_cons_succ]
            refine wpAnyH_take (i := 6) (v := ?_) rfl (by kernel_rfl) (by kernel_rfl) (by kernel_rfl) (fun _ _ _ h => h) (Or.inl ⟨by rfl, ?_⟩) hHeld0 ?_
            rotate_left
            · (intro w hSw; (try dsimp only at hSw); go_simp <;> (try with_reducible rfl))
            simp only [Act.put, List.getElem_toArray, List.getElem_cons_zero, List.getElem_cons_succ, List.setIfInBounds_toArray, List.set_cons_zero, List.set_cons_succ]
            refine wpAnyH_take (i := 7) (v := .agg (PK).toArray) rfl (by kernel_rfl) (by kernel_rfl) (by kernel_rfl) (fun _ _ _ h => h) (yieldsIf_load_mid (by rfl) _ _ rfl _ _ rfl (PK) _ (fun w hSw => hSw.2.2.1) Tryz.underlying46 rfl hszk) hHeld0 ?_
            simp only [Act.put, List.getElem_toArray, List.getElem_cons_zero, List.getElem_cons_succ, List.setIfInBounds_toArray, List.set_cons_zero, List.set_cons_succ]
            refine wpAnyH_take (i := 8) (v := ?_) rfl (by kernel_rfl) (by kernel_rfl) (by kernel_rfl) (fun _ _ _ h => h) (Or.inl ⟨by rfl, ?_⟩) hHeld0 ?_
            rotate_left
            · (intro w hSw; (try dsimp only at hSw); go_simp <;> (try with_reducible rfl))
            simp only [Act.put, List.getElem_toArray, List.getElem_cons_zero, List.getElem_cons_succ, List.setIfInBounds_toArray, List.set_cons_zero, List.set_cons_succ]
            refine wpAnyH_done (by kernel_rfl) ?_ _
            go_wp2
            go_roundw
            case rel => exact ⟨j + 1, by omega, by go_num, HNO.out, hHeld0.2.2.2⟩
            case measure => simp [intOf]; omega
        · have hnm : plc ins[k] ∉ AH := fun h => by
            obtain ⟨m, hm, e⟩ := HPA.out.1 h
            exact hno m (by omega) (by omega) e
          have HIK := hide (HRGK.out HNR.out hnm)
          have HFS2 := hide HFS.out
          rw [HIK.out] at HFS2
          have hc33 := HC33.out _ _ hbj.b2
          clear hnm hno hbj HFS HPA HRG2 HRG6 HRGK HIK
          obtain ⟨K, hK⟩ : ∃ K, K = ins[k].K := ⟨_, rfl⟩
          rw [← hK] at hc33 HC33 HFS2 hkl HKH
          have HKF2 : Hid (∀ j (hj : j < K.length), ∃ b off, ka = some ⟨b, off, none⟩ ∧ K.length ≤ kc ∧ b < w.heap.size ∧ w.cell? ⟨b, off + j, none⟩ = some K[j].2) := hide (by rw [hK]; exact HKF.out)
          clear hK HKF
          by_cases hm : 30 < K.length
          · have HRES : Hid (FI = 4) := hide (by have := HFS2.out; rw [keysF_many K hm, if_neg (by omega)] at this; exact this.symm)
            have hmd : decide ((K.length : Int) > 30) = true := decide_eq_true (by omega)
            have hmi : (30 : Int) < (K.length : Int) := by omega
            clear hm HFS2 HKF2
            generalize K.length = kn at *
            go_wp2
            go_ret
            exact ⟨by rw [HRR.out, HRES.out]; rfl, HBJ.out.below⟩
          have hmd : decide ((K.length : Int) > 30) = false := decide_eq_false (by omega)
          have hmi : ¬ (30 : Int) < (K.length : Int) := by omega
          have HM := hide hm
          obtain ⟨kn, hkn⟩ : ∃ n, n = K.length := ⟨_, rfl⟩
          have HKN := hide hkn.symm
          rw [← hkn] at hc33 HC33 hkl hmd hmi hm
          clear hkn
          go_wp2
          go_loopw [6] (fun i wz => ∃ j : Nat, j ≤ kn ∧ i = .int .i64 j ∧ (∀ m (hm : m < j) (hx : m < K.length), ¬ 3000 < K[m].1.length) ∧ BxF w wA.heap.size [.slice (some ⟨b, off, none⟩) il ic, .slice oa ol oc, .int .i64 time] C wz) (fun i _ => kn - (intOf i).toNat)
          case atStart => exact ⟨0, by omega, rfl, (fun m hm => by omega), HBJ.out⟩
          case round =>
            obtain ⟨wz, rfl⟩ : ∃ wz, wz = wr := ⟨_, rfl⟩
            clear hc33 HBJ
            obtain ⟨m, hm2, rfl, hno, hbz⟩ := hrel
            have HBZ := hide hbz
            have hc33 := HC33.out _ _ hbz.b2
            by_cases hmt : m < kn
            · have hmK : m < K.length := by rw [HKN.out]; exact hmt
              obtain ⟨kb, ko, rfl, hkc, hkb, hkx⟩ := HKF2.out m hmK
              rw [HKN.out] at hkc
              have hcK : wz.cell? ⟨kb, ko + m, none⟩ = some K[m].2 := sm_cell hkx hbz.below
              obtain ⟨sa, sc, hse, _, hsl⟩ := (HKH.out K[m] (List.getElem_mem hmK)).1.shape
              rw [hse] at hcK
              unfold maxLen at hsl
              have hmi2 : (m : Int) < (kn : Int) := by omega
              by_cases hlong : 3000 < K[m].1.length
              · have HRES : Hid (FI = 4) := hide (by have := HFS2.out; rw [keysF_long K HM.out m hmK hlong, if_neg (by omega)] at this; exact this.symm)
                have hld : decide ((K[m].1.length : Int) > 3000) = true := decide_eq_true (by omega)
                have hli : (3000 : Int) < (K[m].1.length : Int) := by omega
                clear hlong hno hbz hkx hse HFS2
                generalize K[m].1.length = kl at *
                go_wp2
                go_ret
                exact ⟨by rw [HRR.out, HRES.out]; rfl, HBZ.out.below⟩
              · have hld : decide ((K[m].1.length : Int) > 3000) = false := decide_eq_false (by omega)
                have hli : ¬ (3000 : Int) < (K[m].1.length : Int) := by omega
                have HNO : Hid (∀ q (hq : q < m + 1) (hx : q < K.length), ¬ 3000 < K[q].1.length) := hide (fun q hq hx => by
                  by_cases e : q = m
                  · subst e; exact hlong
                  · exact hno q (by omega) hx)
                clear hlong hno hbz hkx hse
                generalize K[m].1.length = kl at *
                go_wp2
                go_roundw
                case rel => exact ⟨m + 1, by omega, by go_num, HNO.out, HBZ.out⟩
                case measure => simp [intOf]; omega
            · have hz : Tm.keysF (K.map Prod.fst) = 0 := keysF_ok K HM.out (fun q hq => hno q (by have := HKN.out; omega) hq)
              have HNX : Hid (Tm.insF ((ins.take (k + 1)).map plc) ((ins.drop (k + 1)).map InV.it) = FI) := hide (by have := HFS2.out; rw [hz, if_pos rfl] at this; exact this)
              clear hz hno hbz HFS2
              go_wp2
              go_roundw
              case rel => exact ⟨k + 1, by omega, by go_num, HBZ.out.below, HBZ.out.b1, HNX.out⟩
              case measure => simp [intOf]; omega
    · have hke : k = il := by omega
      rw [List.drop_eq_nil_of_le (by rw [HIL.out]; omega), List.map_nil] at hfi
      have HFZ : Hid (FI = 0) := hide hfi.symm
      have HBEL := hide hbel
      have HBX := hide hbx
      clear hfi hbel hbx hke
      go_wp2
      go_loopw [7, 8] (fun i z wr => ∃ k : Nat, k ≤ ol ∧ i = .int .i64 k ∧ Below w.heap.size w wr ∧ Is wr w.heap.size [.slice ia il ic, .slice oa ol oc, .int .i64 time] 26 ∧ Tm.outsF ((outs.drop k).map OutV.it) = FO) (fun i _ _ => ol - (intOf i).toNat)
      case atStart => exact ⟨0, by omega, rfl, HBEL.out, HBX.out, by rw [List.drop_zero]; exact HFO.out.symm⟩
      case round =>
        clear hcA HBEL HBX
        obtain ⟨k2, hk2, rfl, hbel, hbx, hfo⟩ := hrel
        have HBEL := hide hbel
        have HBX := hide hbx
        have hcA := hbx.cell 1
        simp only [List.getElem?_cons_zero, List.getElem?_cons_succ] at hcA
        by_cases hlt2 : k2 < ol
        · have hkO : k2 < outs.length := by rw [HOL.out]; exact hlt2
          obtain ⟨b, off, rfl, hc1, hc2, hb3, hq0, hq1⟩ := HOF.out k2 hkO
          rw [HOL.out] at hc1
          unfold maxLen at hc2
          have hc0 : wr.cell? ⟨b, off + k2 * 2, none⟩ = some (.int .i64 outs[k2].amount) := sm_cell hq0 hbel
          have hcl : wr.cell? ⟨b, off + k2 * 2 + 1, none⟩ = some outs[k2].lv := sm_cell hq1 hbel
          have d3 := HOD.out outs[k2] (List.getElem_mem hkO)
          obtain ⟨la, lc, hle, -⟩ := ops_form d3
          have HLF : Hid (∀ W, Below w.heap.size w W → Calls Tryz.prog 29 #[outs[k2].lv] W fun e w' => e = .returned (.int .i64 (Lk.check (opsOf outs[k2].L))) ∧ Below W.heap.size W w') := hide (fun W hW => rLockFault_any _ _ W (d3.below hW))
          rw [hle] at hcl HLF
          rw [List.drop_eq_getElem_cons hkO, List.map_cons] at hfo
          have hfo2 : (if Tm.outF outs[k2].it = 0 then Tm.outsF ((outs.drop (k2 + 1)).map OutV.it) else Tm.outF outs[k2].it) = FO := hfo
          have hof : Tm.outF outs[k2].it = if Mo.chk outs[k2].amount = 0 then Lk.check (opsOf outs[k2].L) else Mo.chk outs[k2].amount := rfl
          have hmv : Mo.chk outs[k2].amount = 0 ∨ Mo.chk outs[k2].amount = 2 := by unfold Mo.chk; split <;> simp
          have HMC := hide (tf_money outs[k2].amount wr)
          have HFO2 := hide hfo2
          have HOF2 := hide hof
          have hki : (k2 : Int) < (ol : Int) := by omega
          clear hbel hbx hfo hfo2 hof hq0 hq1 d3 hle
          generalize outs[k2].amount = am at *
          generalize Tm.outF outs[k2].it = f at *
          generalize Lk.check (opsOf outs[k2].L) = c at *
          generalize outs[k2].L.length = ll at *
          rcases hmv with hm | hm
          · rw [hm, show decide ((0 : Int) = 0) = true from rfl] at HMC
            have HF : Hid (f = c) := hide (by rw [HOF2.out, if_pos hm])
            clear hm HOF2
            go_wp2_with fail
            refine HMC.out.mono ?_
            rintro e w5 ⟨rfl, rfl⟩
            go_wp2_with fail
            refine (HLF.out _ HBEL.out).mono ?_
            rintro e w6 ⟨rfl, hb6⟩
            have HB6 := hide (HBEL.out.trans (hb6.mono HBEL.out.size))
            have HI6 := hide (HBX.out.below hb6 HBX.out.lt)
            clear hb6
            by_cases hc : c = 0
            · have HX4 : Hid (Tm.outsF ((outs.drop (k2 + 1)).map OutV.it) = FO) := hide (by have := HFO2.out; rw [HF.out, hc, if_pos rfl] at this; exact this)
              have hcd : (c != 0) = false := by rw [bne_eq_false_iff_eq]; exact hc
              clear hc HF HFO2
              go_wp2
              go_roundw
              case rel => exact ⟨k2 + 1, by omega, by go_num, HB6.out, HI6.out, HX4.out⟩
              case measure => simp [intOf]; omega
            · have HX4 : Hid (FO = c) := hide (by have := HFO2.out; rw [HF.out, if_neg hc] at this; exact this.symm)
              have hcd : (c != 0) = true := by rw [bne_iff_ne]; exact hc
              clear hc HF HFO2
              go_wp2
              go_ret
              exact ⟨by rw [HRR.out, HFZ.out, if_pos rfl, HX4.out] <;> rfl, HB6.out⟩
          · rw [hm, show decide ((2 : Int) = 0) = false from rfl] at HMC
            have HX4 : Hid (FO = 2) := hide (by have := HFO2.out; rw [HOF2.out, hm, if_neg (by omega), if_neg (by omega)] at this; exact this.symm)
            clear hm HOF2 HFO2
            go_wp2_with fail
            refine HMC.out.mono ?_
            rintro e w5 ⟨rfl, rfl⟩
            go_wp2
            go_ret
            exact ⟨by rw [HRR.out, HFZ.out, if_pos rfl, HX4.out] <;> rfl, HBEL.out⟩
        · have hke : k2 = ol := by omega
          rw [List.drop_eq_nil_of_le (by rw [HOL.out]; omega), List.map_nil] at hfo
          have HX2 : Hid (FO = 0) := hide hfo.symm
          clear hfo hbel hbx
          go_wp2
          go_ret
          exact ⟨by rw [HRR.out, HFZ.out, if_pos rfl, HX2.out] <;> rfl, HBEL.out⟩
end Go.Proofs.YtmjilohlchkicaaGreatDoor
