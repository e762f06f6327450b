/- TxTells: what is wrong with a payment, its bytes, its ID; what bytes are one. -/
import Derived.Test.YtbdnbjemocjlaaaGreatDoorTxOf
import Derived.Test.YtbdnbjemocjlaaaGreatDoorTxQ
import Derived.Test.YtbdnbjemocjlaaaGreatDoorZTs
import Derived.Test.YtbdnbjemocjlaaaGreatDoorZTk
import Derived.Test.YtbdnbjemocjlaaaGreatDoorTxB
import Derived.Test.YtbdnbjemocjlaaaGreatDoorZTc
import Derived.Test.YtbdnbjemocjlaaaGreatDoorZTb
import Derived.Test.YtbdnbjemocjlaaaGreatDoorTold2
import Derived.Test.YtbdnbjemocjlaaaGreatDoorBytes
import Derived.Test.YtbdnbjemocjlaaaGreatDoorTxMa
namespace Go.Proofs.YtbdnbjemocjlaaaGreatDoor
open Go.RowKit
set_option linter.unusedVariables false
set_option linter.unusedSimpArgs false

theorem tl_same (l : List Int) : sameB l l = true := decide_eq_true rfl
theorem hasTx_none (w : World) : HasTx w ⟨.slice none 0 0, [], .slice none 0 0, [], 0⟩ := ⟨⟨.inl ⟨none, 0, rfl, rfl⟩, fun x hx => by cases hx⟩, ⟨.inl ⟨none, 0, rfl, rfl⟩, fun x hx => by cases hx⟩⟩
/-- What a payment of unknown parts is. -/
theorem tx_form {w : World} {T : TxV} (h : HasTx w T) : ∃ a n c a2 n2 c2, ∃ tm : Int, T.val = .agg #[.slice a n c, .slice a2 n2 c2, .int .i64 tm] := by
  obtain ⟨iv, ins, ov, outs, tm⟩ := T
  obtain ⟨a, n, c, h1⟩ := hasIns_form h.1
  obtain ⟨a2, n2, c2, h2⟩ := hasOuts_form h.2
  exact ⟨a, n, c, a2, n2, c2, tm, by unfold TxV.val; rw [h1, h2]⟩
theorem load_arrG (t : TypeId) (c : List Value) (b : Nat) {n m : Nat} {e : TypeId} {w : World} {ops : Array Oper} {rest : List Oper} {o : Oper} {a : Act} {Q : Exit → Act → World → Prop} (hgd : Region.wanted o (yielded ops a.tmps) = true) (s : Operand) (ho : o.op = .load t s) (hs : a.eval s = .pointer (some ⟨b, 0, none⟩))
    (hi : Is w b c t) (hu : Tryz.prog.underlying t = some (.array n e)) (hz : Sized t m) (hc : c.length = m)
    (h : wpList Tryz.prog ops Q rest (a.put o.dst (.agg c.toArray)) w) : wpList Tryz.prog ops Q (o :: rest) a w := by
  refine wpList_step fun K hK => ?_
  rw [if_pos hgd]
  have hl := hi.load hu (by rw [hc]; exact hz)
  unfold Oper.wp
  simp only [execOp, ho, hs, hl, Sem.run_bind, Sem.run_pure, Result.andThen_ok]
  exact hK _ _ h
/-- The payment's box, and what is below. -/
structure TlS (w : World) (c : List Value) (W : World) : Prop where
  below : Below w.heap.size w W
  box : Is W w.heap.size c 25
theorem TlS.call {w : World} {c : List Value} {W W' : World} (h : TlS w c W) (hb : Below W.heap.size W W') : TlS w c W' := ⟨h.below.trans (hb.mono h.below.size), h.box.below hb h.box.lt⟩
theorem TlS.alloc {w : World} {c : List Value} {W : World} (h : TlS w c W) (x : Obj) : TlS w c (W.alloc x) := h.call (below_alloc W x)
theorem tl_new {w : World} {c c' : List Value} {t : TypeId} : Below w.heap.size w ((w.alloc (.cells c.toArray t)).setRow w.heap.size c'.toArray) :=
  (below_alloc w _).trans ⟨rfl, rfl, rfl, by simp [World.setRow], fun k hk => setRow_other _ _ k _ (by omega)⟩

set_option maxRecDepth 100000 in
set_option maxHeartbeats 16000000 in
theorem txTells_walk (t : TxV) (bv : Value) (l : List Int) (w : World) (ht : HasTx w t) (hl : Has w bv l) (hbt : Sz.Byt l) (hlen : l.length ≤ 140737488351232) (hT : Tab w) (hw : 1 < w.heap.size) (hE : ErrVar w) :
    Calls Tryz.prog 3 #[t.val, bv] w fun e w' => e = .returned (.bool true) ∧ Below w.heap.size w w' := by
  obtain ⟨iv, ins, ov, outs, time⟩ := t
  obtain ⟨ia, ic, hie, him, _⟩ := ins_form ht.1
  obtain ⟨oa, oc, hoe, hom, _⟩ := ht.2.form
  simp only at hie hoe
  subst hie hoe
  obtain ⟨T, hTV⟩ : ∃ T : TxV, T = ⟨.slice ia ins.length ic, ins, .slice oa outs.length oc, outs, time⟩ := ⟨_, rfl⟩
  have hv : T.val = .agg #[.slice ia ins.length ic, .slice oa outs.length oc, .int .i64 time] := by rw [hTV]; rfl
  rw [← hTV] at ht ⊢
  rw [hv]
  obtain ⟨cc, hcc⟩ : ∃ c, c = Tm.check T.it := ⟨_, rfl⟩
  obtain ⟨ev, hev⟩ : ∃ e, e = errV cc := ⟨_, rfl⟩
  have HTF : Hid (∀ W, Below w.heap.size w W → Calls Tryz.prog 4 #[T.val] W fun e w' => e = .returned (.int .i64 cc) ∧ Below W.heap.size W w') := hide (fun W hW => by rw [hcc]; exact rtxFault_any T W (ht.below hW))
  have HCK : Hid (∀ W, Below w.heap.size w W → Calls Tryz.prog 6 #[T.val] W fun e w' => e = .returned ev ∧ Below W.heap.size W w') := hide (fun W hW => by rw [hev, hcc]; exact tcheck_any T W (ht.below hW))
  have HER : Hid (∀ W, Below w.heap.size w W → Calls Tryz.prog 5 #[ev, .int .i64 cc] W fun e w' => e = .returned (.bool true) ∧ Below W.heap.size W w') := hide (fun W hW => by rw [hev]; exact (error_any cc cc W (hE.below hW)).mono (by rintro e w' ⟨rfl, hb⟩; exact ⟨by simp, hb⟩))
  obtain ⟨bb, hbb⟩ : ∃ b, b = (if Tm.check T.it = 0 then Tm.bytes T.it else []) := ⟨_, rfl⟩
  have HTB : Hid (∀ W, Below w.heap.size w W → Calls Tryz.prog 10 #[T.val] W fun e w' => ∃ a n c, e = .returned (.tuple #[.slice a n c, ev]) ∧ Own w' W.heap.size (.slice a n c) bb ∧ Below W.heap.size W w') := hide (fun W hW => (tbytes_any T W (ht.below hW)).mono (by
    rintro e w' ⟨v, rfl, ho, hb⟩
    obtain ⟨a, c, rfl, _, _⟩ := Own.form ho
    exact ⟨a, _, c, by rw [hev, hcc], by rw [hbb]; exact ho, hb⟩))
  have HSB : Hid (∀ v1 v2 W, Has W v1 bb → Has W v2 bb → Calls Tryz.prog 11 #[v1, v2] W fun e w' => e = .returned (.bool true) ∧ Below W.heap.size W w') := hide (fun v1 v2 W h1 h2 => (bytes_any v1 v2 bb bb W h1 h2).mono (by rintro e w' ⟨rfl, hb⟩; exact ⟨by rw [tl_same], hb⟩))
  obtain ⟨dd, hdd⟩ : ∃ d, d = (if Tm.check T.it = 0 then Tm.id T.it else List.replicate 32 0) := ⟨_, rfl⟩
  have hdl : dd.length = 32 := by rw [hdd]; split; · simp [Tm.id, Sh.sum, Sh.digest]
                                  · simp
  have HID : Hid (∀ W, Below w.heap.size w W → Calls Tryz.prog 12 #[T.val] W fun e w' => e = .returned (.tuple #[.agg (vals dd).toArray, ev]) ∧ Below W.heap.size W w') := hide (fun W hW => by
    by_cases h0 : Tm.check T.it = 0
    · have e0 : ev = .nilIface := by rw [hev, hcc, h0]; rfl
      rw [e0, hdd, if_pos h0]
      exact tid_good T W (ht.below hW) h0 (hT.below hW hw) (Nat.lt_of_lt_of_le hw hW.size)
    · rw [hev, hcc, hdd, if_neg h0]
      exact tid_bad T W (ht.below hW) h0)
  have HRB : Hid (cc = 0 → ∀ W, Below w.heap.size w W → Calls Tryz.prog 7 #[T.val, .bool true] W fun e w' => ∃ a n c, e = .returned (.slice a n c) ∧ Own w' W.heap.size (.slice a n c) bb ∧ Below W.heap.size W w') := hide (fun h0 W hW => (rtb_keys T W (ht.below hW) (by rw [← hcc]; exact h0)).mono (by
    rintro e w' ⟨v, rfl, ho, hb⟩
    obtain ⟨a, c, rfl, _, _⟩ := Own.form ho
    exact ⟨a, _, c, rfl, by rw [hbb, if_pos (by rw [← hcc]; exact h0)]; exact ho, hb⟩))
  have HRI : Hid (cc = 0 → ∀ W, Below w.heap.size w W → Calls Tryz.prog 9 #[T.val] W fun e w' => ∃ a n c, e = .returned (.slice a n c) ∧ Own w' W.heap.size (.slice a n c) (Tm.idText T.it) ∧ Below W.heap.size W w') := hide (fun h0 W hW => (ridtext_any T W (ht.below hW) (by rw [← hcc]; exact h0)).mono (by
    rintro e w' ⟨v, rfl, ho, hb⟩
    obtain ⟨a, c, rfl, _, _⟩ := Own.form ho
    exact ⟨a, _, c, rfl, ho, hb⟩))
  have HRS : Hid (cc = 0 → ∀ v W, Has W v (Tm.idText T.it) → Calls Tryz.prog 8 #[v] W fun e w' => e = .returned (.agg (vals dd).toArray) ∧ Below W.heap.size W w') := hide (fun h0 v W h => by
    have h1 : Tm.check T.it = 0 := by rw [← hcc]; exact h0
    have hbyt : Sz.Byt (Tm.idText T.it) := Tm.idText_byt _ h1 ht.byt
    have hle : (Tm.idText T.it).length ≤ 149000000000000 := by
      have := bytes_le _ (Tm.check_bare _ h1) (Tm.bare_byt _ ht.byt)
      show (21 :: _).length ≤ _; rw [List.length_cons]; omega
    rw [hdd, if_pos h1]
    exact rsum_any v _ W h hbyt hle)
  have HBE : Hid (cc ≠ 0 → bb = []) := hide (fun h => by rw [hbb, if_neg (fun k => h (by rw [hcc]; exact k))])
  have HDE : Hid (cc ≠ 0 → vals dd = vals (List.replicate 32 0)) := hide (fun h => by rw [hdd, if_neg (fun k => h (by rw [hcc]; exact k))])
  have HOF := hide (fun W (hW : Below w.heap.size w W) => rtxOf_any bv l W (hl.below hW) hbt (by omega))
  have HRD := hide (fun W (hW : Below w.heap.size w W) => tread_any bv l W (hl.below hW) hbt (by omega))
  have HEV := hide (fun W (hW : Below w.heap.size w W) => hE.below hW)
  have HDL := hide hdl
  have HVL : Hid ((vals dd).length = 32) := hide (by rw [vals_length]; exact hdl)
  unfold maxLen at him hom
  obtain ⟨il, hil⟩ : ∃ n, n = ins.length := ⟨_, rfl⟩
  obtain ⟨ol, hol⟩ : ∃ n, n = outs.length := ⟨_, rfl⟩
  rw [← hil, ← hol] at hv ⊢
  rw [← hil] at him
  rw [← hol] at hom
  rw [hv] at HTF HCK HTB HID HRB HRI
  obtain ⟨ba, bc, hbe, _, _⟩ := hl.shape
  obtain ⟨bn, hbn⟩ : ∃ n, n = l.length := ⟨_, rfl⟩
  rw [← hbn] at hbe
  subst hbe
  have hzd := zero_dig
  obtain ⟨Zd, hZ⟩ : ∃ Z, Z = vals (List.replicate 32 0) := ⟨_, rfl⟩
  rw [← hZ] at hzd HDE
  have hZl : Zd.length = 32 := by rw [hZ]; simp [vals]
  have hZp : ¬ Zd = [] := by intro h; rw [h] at hZl; cases hZl
  have HZL := hide hZl
  have HS0 : Hid (TlS w [.slice ia il ic, .slice oa ol oc, .int .i64 time] (w.alloc (.cells #[.slice ia il ic, .slice oa ol oc, .int .i64 time] 25))) := hide ⟨below_alloc w _, Is.new w _ 25⟩
  have hq : ∀ w', (Op.equalIn 10000 34 (.agg (vals dd).toArray) (.agg (vals dd).toArray)).run Tryz.prog w' = .ok true w' := fun w' => by rw [dig_eq _ _ hdl hdl w', decide_eq_true rfl]
  have HQ := hide hq
  by_cases h0 : cc = 0
  · have HRB := hide (HRB.out h0)
    have HRI := hide (HRI.out h0)
    have HRS := hide (HRS.out h0)
    have hd0 : (cc == 0) = true := by rw [h0]; rfl
    clear hv hil hol hcc hev hbb hdd hdl ht hl hbt hlen hT hw hE hZ hZl hbn HBE HDE hq h0
    go_enter Tryz.func3, Tryz.ntmps3
    have hc0 := HS0.out.box.cell 0
    have hc1 := HS0.out.box.cell 1
    have hc2 := HS0.out.box.cell 2
    simp only [List.getElem?_cons_zero, List.getElem?_cons_succ] at hc0 hc1 hc2
    go_wp2_with fail
    refine (HTF.out _ HS0.out.below).mono ?_
    rintro e w1 ⟨rfl, hb1⟩
    have HS1 := hide (HS0.out.call hb1)
    clear hb1 HS0 hc0 hc1 hc2
    have hc0 := HS1.out.box.cell 0; have hc1 := HS1.out.box.cell 1; have hc2 := HS1.out.box.cell 2; simp only [List.getElem?_cons_zero, List.getElem?_cons_succ] at hc0 hc1 hc2
    go_wp2_with fail
    refine (HCK.out _ HS1.out.below).mono ?_
    rintro e w2 ⟨rfl, hb2⟩
    have HS2 := hide (HS1.out.call hb2)
    clear hb2 HS1 hc0 hc1 hc2
    go_wp2_with fail
    refine (HER.out _ HS2.out.below).mono ?_
    rintro e w3 ⟨rfl, hb3⟩
    have HS3 := hide (HS2.out.call hb3)
    have HS4 := hide (HS3.out.alloc (.cells Zd.toArray 34))
    have HD4 := hide (Is.new w3 Zd 34)
    clear hb3 HS2
    have hc0 := HS4.out.box.cell 0; have hc1 := HS4.out.box.cell 1; have hc2 := HS4.out.box.cell 2; simp only [List.getElem?_cons_zero, List.getElem?_cons_succ] at hc0 hc1 hc2
    go_wp2_with fail
    refine (HRB.out _ HS4.out.below).mono ?_
    rintro e w5 ⟨wa, wn, wc, rfl, hwo, hb5⟩
    have HS5 := hide (HS4.out.call hb5)
    have HD5 := hide (HD4.out.below hb5 HD4.out.lt)
    have HW5 : Hid (Own w5 (w3.heap.size + 1) (.slice wa wn wc) bb) := hide (by have h := hwo; rw [show (w3.alloc (.cells Zd.toArray 34)).heap.size = w3.heap.size + 1 from by simp] at h; exact h)
    have HB3 : Hid (w.heap.size < w3.heap.size) := hide HS3.out.box.lt
    clear hb5 hwo HS4 HS3 HD4 hc0 hc1 hc2
    have hc0 := HS5.out.box.cell 0; have hc1 := HS5.out.box.cell 1; have hc2 := HS5.out.box.cell 2; simp only [List.getElem?_cons_zero, List.getElem?_cons_succ] at hc0 hc1 hc2
    go_wp2_with fail
    refine (HRI.out _ HS5.out.below).mono ?_
    rintro e w6 ⟨xa, xn, xc, rfl, hxo, hb6⟩
    have HS6 := hide (HS5.out.call hb6)
    have HD6 := hide (HD5.out.below hb6 HD5.out.lt)
    have HW6 := hide (HW5.out.below hb6)
    have HX6 := hide hxo.has
    clear hb6 hxo HS5 HD5 HW5 hc0 hc1 hc2
    go_wp2_with fail
    refine (HRS.out _ _ HX6.out).mono ?_
    rintro e w7 ⟨rfl, hb7⟩
    have HS7 := hide (HS6.out.call hb7)
    have HD7 := hide (HD6.out.below hb7 HD6.out.lt)
    have HW7 := hide (HW6.out.below hb7)
    clear hb7 HS6 HD6 HW6 HX6
    go_wp2_with (first
      | (refine wpList_store_any3 34 Zd (vals dd) w3.heap.size rfl (.tmp 8) (.tmp 31) rfl rfl rfl rfl HD7.out size_dig HZL.out HVL.out (vals_one _) ?_; intro w8 hi8 hw8; have hbu : But w3.heap.size w7 w8 := (by rw [hw8]; exact But.row _ w3.heap.size _); have HS8 : Hid (TlS w [.slice ia il ic, .slice oa ol oc, .int .i64 time] w8) := hide ⟨HS7.out.below.trans (hbu.under HS7.out.below.size (Nat.le_of_lt HB3.out)), hbu.kept HS7.out.box (Nat.ne_of_lt HB3.out)⟩; have HD8 := hide hi8; have HW8 : Hid (Has w8 (.slice wa wn wc) bb) := hide (own_but HW7.out hbu (Nat.lt_succ_self _)).has; have hc0 := HS8.out.box.cell 0; have hc1 := HS8.out.box.cell 1; have hc2 := HS8.out.box.cell 2; simp only [List.getElem?_cons_zero, List.getElem?_cons_succ] at hc0 hc1 hc2; clear hi8 hw8 hbu))
    refine (HTB.out _ HS8.out.below).mono ?_
    rintro e w9 ⟨ya, yn, yc, rfl, hyo, hb9⟩
    have HS9 := hide (HS8.out.call hb9)
    have HD9 := hide (HD8.out.below hb9 HD8.out.lt)
    have HW9 := hide (HW8.out.below hb9)
    have HY9 := hide hyo.has
    clear hb9 hyo HS7 HD7 HW7 HS8 HD8 HW8 hc0 hc1 hc2
    go_wp2_with fail
    refine (HER.out _ HS9.out.below).mono ?_
    rintro e wA ⟨rfl, hbA⟩
    have HSA := hide (HS9.out.call hbA)
    have HDA := hide (HD9.out.below hbA HD9.out.lt)
    have HWA := hide (HW9.out.below hbA)
    have HYA := hide (HY9.out.below hbA)
    clear hbA HS9 HD9 HW9 HY9
    go_wp2_with fail
    refine (HSB.out _ _ _ HYA.out HWA.out).mono ?_
    rintro e wB ⟨rfl, hbB⟩
    have HSB2 := hide (HSA.out.call hbB)
    have HDB := hide (HDA.out.below hbB HDA.out.lt)
    clear hbB HSA HDA HWA HYA
    have hc0 := HSB2.out.box.cell 0; have hc1 := HSB2.out.box.cell 1; have hc2 := HSB2.out.box.cell 2; simp only [List.getElem?_cons_zero, List.getElem?_cons_succ] at hc0 hc1 hc2
    go_wp2_with fail
    refine (HID.out _ HSB2.out.below).mono ?_
    rintro e wC ⟨rfl, hbC⟩
    have HSC := hide (HSB2.out.call hbC)
    have HDC := hide (HDB.out.below hbC HDB.out.lt)
    clear hbC HSB2 HDB hc0 hc1 hc2
    go_wp2_with (first
      | (refine wpList_store_any3 34 Zd (vals dd) wC.heap.size rfl (.tmp 13) (.tmp 46) rfl rfl rfl rfl (Is.new wC _ _) size_dig HZL.out HVL.out (vals_one _) ?_; intro wD hiD hwD; have hbD : Below wC.heap.size wC wD := (by rw [hwD]; exact tl_new); have HSD := hide (HSC.out.call hbD); have HDD := hide (HDC.out.below hbD HDC.out.lt); have HED := hide hiD; clear hiD hwD hbD))
    refine (HER.out _ HSD.out.below).mono ?_
    rintro e wE ⟨rfl, hbE⟩
    have HSE := hide (HSD.out.call hbE)
    have HDE2 := hide (HDD.out.below hbE HDD.out.lt)
    have HEE := hide (HED.out.below hbE HED.out.lt)
    clear hbE HSC HDC HSD HDD HED
    have hq := HQ.out
    go_wp2_with (first
      | (refine load_arrG 34 (vals dd) wC.heap.size (by rfl) (.tmp 13) rfl rfl HEE.out Tryz.underlying34 size_dig HVL.out ?_)
      | (refine load_arrG 34 (vals dd) w3.heap.size (by rfl) (.tmp 8) rfl rfl HDE2.out Tryz.underlying34 size_dig HVL.out ?_))
    clear hq HEE HDE2
    refine (HOF.out _ HSE.out.below).mono ?_
    rintro e wF ⟨⟨xv, rfl, hxn, hxs⟩, hbF⟩
    have HSF := hide (HSE.out.call hbF)
    clear hbF HSE
    cases hr : Tm.read l with
    | none =>
      obtain rfl := hxn hr
      rw [Option.isSome_none]
      have HR := hide hr
      clear hr hxn hxs
      go_wp2_with (first
        | (refine wpList_store_new 25 [.slice none 0 0, .slice none 0 0, .int .i64 0] [.slice none 0 0, .slice none 0 0, .int .i64 0] wF size_tx rfl rfl (by intro v hv; simp only [List.mem_cons, List.not_mem_nil, or_false] at hv; rcases hv with rfl | rfl | rfl <;> rfl) rfl (.tmp 16) (.tmp 73) rfl rfl rfl rfl ?_)
        | (refine wpList_store_new 25 [.slice none 0 0, .slice none 0 0, .int .i64 0] [.slice none 0 0, .slice none 0 0, .int .i64 0] wF size_tx rfl rfl (by intro v hv; simp only [List.mem_cons, List.not_mem_nil, or_false] at hv; rcases hv with rfl | rfl | rfl <;> rfl) rfl (.tmp 16) (.tmp 77) rfl rfl rfl rfl ?_; have HSG := hide (HSF.out.alloc (.cells #[.slice none 0 0, .slice none 0 0, .int .i64 0] 25)); have HXG := hide (Is.new wF [.slice none 0 0, .slice none 0 0, .int .i64 0] 25)))
      refine (HRD.out _ HSG.out.below).mono ?_
      rintro e wH ⟨hbH, hm⟩
      rw [HR.out] at hm
      subst hm
      have HSH := hide (HSG.out.call hbH)
      have HXH := hide (HXG.out.below hbH HXG.out.lt)
      clear hbH HSG HXG HSF
      obtain ⟨e1, he1⟩ : ∃ e, e = errV 1 := ⟨_, rfl⟩
      have HER1 : Hid (∀ W, Below w.heap.size w W → Calls Tryz.prog 5 #[e1, .int .i64 1] W fun e w' => e = .returned (.bool true) ∧ Below W.heap.size W w') := hide (fun W hW => by rw [he1]; exact (error_any 1 1 W (HEV.out W hW)).mono (by rintro e w' ⟨rfl, hb⟩; exact ⟨by simp, hb⟩))
      rw [← he1]
      clear he1
      go_wp2_with (first
        | (refine wpList_store_new 25 [.slice none 0 0, .slice none 0 0, .int .i64 0] [.slice none 0 0, .slice none 0 0, .int .i64 0] wH size_tx rfl rfl (by intro v hv; simp only [List.mem_cons, List.not_mem_nil, or_false] at hv; rcases hv with rfl | rfl | rfl <;> rfl) rfl (.tmp 18) (.tmp 81) rfl rfl rfl rfl ?_; have HSI := hide (HSH.out.alloc (.cells #[.slice none 0 0, .slice none 0 0, .int .i64 0] 25)); have HXI := hide (HXH.out.alloc (.cells #[.slice none 0 0, .slice none 0 0, .int .i64 0] 25)); have HYI := hide (Is.new wH [.slice none 0 0, .slice none 0 0, .int .i64 0] 25)))
      refine (HER1.out _ HSI.out.below).mono ?_
      rintro e wJ ⟨rfl, hbJ⟩
      have HSJ := hide (HSI.out.call hbJ)
      have HXJ := hide (HXI.out.below hbJ HXI.out.lt)
      have HYJ := hide (HYI.out.below hbJ HYI.out.lt)
      clear hbJ HSI HXI HYI HSH HXH
      have hx0 := HXJ.out.cell 0
      have hx1 := HXJ.out.cell 1
      have hx2 := HXJ.out.cell 2
      have hy0 := HYJ.out.cell 0
      have hy1 := HYJ.out.cell 1
      have hy2 := HYJ.out.cell 2
      simp only [List.getElem?_cons_zero, List.getElem?_cons_succ] at hx0 hx1 hx2 hy0 hy1 hy2
      go_wp2_with fail
      refine (txSame_any ⟨.slice none 0 0, [], .slice none 0 0, [], 0⟩ ⟨.slice none 0 0, [], .slice none 0 0, [], 0⟩ wJ (hasTx_none _) (hasTx_none _)).mono ?_
      rintro e wK ⟨⟨b, rfl, hbt⟩, hbK⟩
      obtain rfl : b = true := hbt.2 rfl
      have HSK := hide (HSJ.out.call hbK)
      clear hbt hbK
      go_wp2
      go_ret
      exact ⟨rfl, HSK.out.below⟩
    | some t =>
      obtain ⟨X, rfl, hXt, hXh⟩ := hxs t hr
      rw [Option.isSome_some]
      obtain ⟨xa, xn, xc, xa2, xn2, xc2, xt, hxf⟩ := tx_form hXh
      have HXF := hide hxf
      have HXT := hide hXt
      have HXH := hide hXh
      have HR := hide hr
      rw [hxf]
      clear hr hxn hxs hxf hXt hXh
      go_wp2_with (first
        | (refine wpList_store_new 25 [.slice none 0 0, .slice none 0 0, .int .i64 0] [.slice xa xn xc, .slice xa2 xn2 xc2, .int .i64 xt] wF size_tx rfl rfl (by intro v hv; simp only [List.mem_cons, List.not_mem_nil, or_false] at hv; rcases hv with rfl | rfl | rfl <;> rfl) rfl (.tmp 16) (.tmp 73) rfl rfl rfl rfl ?_; have HSG := hide (HSF.out.alloc (.cells #[.slice xa xn xc, .slice xa2 xn2 xc2, .int .i64 xt] 25)); have HXG := hide (Is.new wF [.slice xa xn xc, .slice xa2 xn2 xc2, .int .i64 xt] 25); have HXK := hide (HXH.out.below (below_alloc wF (.cells #[.slice xa xn xc, .slice xa2 xn2 xc2, .int .i64 xt] 25)))))
      refine (HRD.out _ HSG.out.below).mono ?_
      rintro e wH ⟨hbH, hm⟩
      rw [HR.out] at hm
      obtain ⟨Y, hYt, rfl, hYh⟩ := hm
      obtain ⟨ya2, yn2, yc2, yb, ym, yd, yt, hyf⟩ := tx_form hYh.out
      have HYF := hide hyf
      have HYT := hide hYt
      have HYH := hide hYh.out
      have HSH := hide (HSG.out.call hbH)
      have HXB := hide (HXG.out.below hbH HXG.out.lt)
      have HXL := hide (HXK.out.below hbH)
      rw [hyf]
      clear hbH HSG HXG HSF HXK HXH hyf hYt hYh
      have HER0 : Hid (∀ W, Below w.heap.size w W → Calls Tryz.prog 5 #[.nilIface, .int .i64 0] W fun e w' => e = .returned (.bool true) ∧ Below W.heap.size W w') := hide (fun W hW => (error_any 0 0 W (HEV.out W hW)).mono (by rintro e w' ⟨rfl, hb⟩; exact ⟨by simp, hb⟩))
      go_wp2_with (first
        | (refine wpList_store_new 25 [.slice none 0 0, .slice none 0 0, .int .i64 0] [.slice ya2 yn2 yc2, .slice yb ym yd, .int .i64 yt] wH size_tx rfl rfl (by intro v hv; simp only [List.mem_cons, List.not_mem_nil, or_false] at hv; rcases hv with rfl | rfl | rfl <;> rfl) rfl (.tmp 18) (.tmp 81) rfl rfl rfl rfl ?_; have HBI := hide (below_alloc wH (.cells #[.slice ya2 yn2 yc2, .slice yb ym yd, .int .i64 yt] 25)); have HSI := hide (HSH.out.call HBI.out); have HXI := hide (HXB.out.below HBI.out HXB.out.lt); have HYI := hide (Is.new wH [.slice ya2 yn2 yc2, .slice yb ym yd, .int .i64 yt] 25); have HXM := hide (HXL.out.below HBI.out); have HYM := hide (HYH.out.below HBI.out)))
      refine (HER0.out _ HSI.out.below).mono ?_
      rintro e wJ ⟨rfl, hbJ⟩
      have HSJ := hide (HSI.out.call hbJ)
      have HXJ := hide (HXI.out.below hbJ HXI.out.lt)
      have HYJ := hide (HYI.out.below hbJ HYI.out.lt)
      have HXN := hide (HXM.out.below hbJ)
      have HYN := hide (HYM.out.below hbJ)
      clear hbJ HSI HXI HYI HSH HXB HXM HYM HBI HXL HYH
      have hx0 := HXJ.out.cell 0
      have hx1 := HXJ.out.cell 1
      have hx2 := HXJ.out.cell 2
      have hy0 := HYJ.out.cell 0
      have hy1 := HYJ.out.cell 1
      have hy2 := HYJ.out.cell 2
      simp only [List.getElem?_cons_zero, List.getElem?_cons_succ] at hx0 hx1 hx2 hy0 hy1 hy2
      have HSM := hide (txSame_any Y X wJ HYN.out HXN.out)
      rw [HYF.out, HXF.out] at HSM
      go_wp2_with fail
      refine HSM.out.mono ?_
      rintro e wK ⟨⟨b, rfl, hbt⟩, hbK⟩
      obtain rfl : b = true := hbt.2 (by rw [HYT.out, HXT.out])
      have HSK := hide (HSJ.out.call hbK)
      clear hbt hbK
      go_wp2
      go_ret
      exact ⟨rfl, HSK.out.below⟩
  · have HBE := hide (HBE.out h0)
    have HDE := hide (HDE.out h0)
    have hd0 : (cc == 0) = false := by simpa using h0
    clear hv hil hol hcc hev hbb hdd hdl ht hl hbt hlen hT hw hE hZ hZl hbn HRB HRI HRS hq h0
    go_enter Tryz.func3, Tryz.ntmps3
    have hc0 := HS0.out.box.cell 0
    have hc1 := HS0.out.box.cell 1
    have hc2 := HS0.out.box.cell 2
    simp only [List.getElem?_cons_zero, List.getElem?_cons_succ] at hc0 hc1 hc2
    go_wp2_with fail
    refine (HTF.out _ HS0.out.below).mono ?_
    rintro e w1 ⟨rfl, hb1⟩
    have HS1 := hide (HS0.out.call hb1)
    clear hb1 HS0 hc0 hc1 hc2
    have hc0 := HS1.out.box.cell 0; have hc1 := HS1.out.box.cell 1; have hc2 := HS1.out.box.cell 2; simp only [List.getElem?_cons_zero, List.getElem?_cons_succ] at hc0 hc1 hc2
    go_wp2_with fail
    refine (HCK.out _ HS1.out.below).mono ?_
    rintro e w2 ⟨rfl, hb2⟩
    have HS2 := hide (HS1.out.call hb2)
    clear hb2 HS1 hc0 hc1 hc2
    go_wp2_with fail
    refine (HER.out _ HS2.out.below).mono ?_
    rintro e w3 ⟨rfl, hb3⟩
    have HS3 := hide (HS2.out.call hb3)
    have HS4 := hide (HS3.out.alloc (.cells Zd.toArray 34))
    have HD4 : Hid (Is (w3.alloc (.cells Zd.toArray 34)) w3.heap.size (vals dd) 34) := hide (by rw [HDE.out]; exact Is.new w3 Zd 34)
    clear hb3 HS2
    have hc0 := HS4.out.box.cell 0; have hc1 := HS4.out.box.cell 1; have hc2 := HS4.out.box.cell 2; simp only [List.getElem?_cons_zero, List.getElem?_cons_succ] at hc0 hc1 hc2
    go_wp2_with fail
    refine (HTB.out _ HS4.out.below).mono ?_
    rintro e w9 ⟨ya, yn, yc, rfl, hyo, hb9⟩
    have HS9 := hide (HS4.out.call hb9)
    have HD9 := hide (HD4.out.below hb9 HD4.out.lt)
    have HY9 := hide hyo.has
    clear hb9 hyo HS3 HS4 HD4 hc0 hc1 hc2
    go_wp2_with fail
    refine (HER.out _ HS9.out.below).mono ?_
    rintro e wA ⟨rfl, hbA⟩
    have HSA := hide (HS9.out.call hbA)
    have HDA := hide (HD9.out.below hbA HD9.out.lt)
    have HYA := hide (HY9.out.below hbA)
    clear hbA HS9 HD9 HY9
    go_wp2_with fail
    have HNIL : Hid (Has wA (.slice none 0 0) bb) := hide (by rw [HBE.out]; exact .inl ⟨none, 0, rfl, rfl, Nat.zero_le _, fun _ => rfl⟩)
    refine (HSB.out _ _ _ HYA.out HNIL.out).mono ?_
    rintro e wB ⟨rfl, hbB⟩
    have HSB2 := hide (HSA.out.call hbB)
    have HDB := hide (HDA.out.below hbB HDA.out.lt)
    clear hbB HSA HDA HYA HNIL
    have hc0 := HSB2.out.box.cell 0; have hc1 := HSB2.out.box.cell 1; have hc2 := HSB2.out.box.cell 2; simp only [List.getElem?_cons_zero, List.getElem?_cons_succ] at hc0 hc1 hc2
    go_wp2_with fail
    refine (HID.out _ HSB2.out.below).mono ?_
    rintro e wC ⟨rfl, hbC⟩
    have HSC := hide (HSB2.out.call hbC)
    have HDC := hide (HDB.out.below hbC HDB.out.lt)
    clear hbC HSB2 HDB hc0 hc1 hc2
    go_wp2_with (first
      | (refine wpList_store_any3 34 Zd (vals dd) wC.heap.size rfl (.tmp 13) (.tmp 46) rfl rfl rfl rfl (Is.new wC _ _) size_dig HZL.out HVL.out (vals_one _) ?_; intro wD hiD hwD; have hbD : Below wC.heap.size wC wD := (by rw [hwD]; exact tl_new); have HSD := hide (HSC.out.call hbD); have HDD := hide (HDC.out.below hbD HDC.out.lt); have HED := hide hiD; clear hiD hwD hbD))
    refine (HER.out _ HSD.out.below).mono ?_
    rintro e wE ⟨rfl, hbE⟩
    have HSE := hide (HSD.out.call hbE)
    have HDE2 := hide (HDD.out.below hbE HDD.out.lt)
    have HEE := hide (HED.out.below hbE HED.out.lt)
    clear hbE HSC HDC HSD HDD HED
    have hq := HQ.out
    go_wp2_with (first
      | (refine load_arrG 34 (vals dd) wC.heap.size (by rfl) (.tmp 13) rfl rfl HEE.out Tryz.underlying34 size_dig HVL.out ?_)
      | (refine load_arrG 34 (vals dd) w3.heap.size (by rfl) (.tmp 8) rfl rfl HDE2.out Tryz.underlying34 size_dig HVL.out ?_))
    clear hq HEE HDE2
    refine (HOF.out _ HSE.out.below).mono ?_
    rintro e wF ⟨⟨xv, rfl, hxn, hxs⟩, hbF⟩
    have HSF := hide (HSE.out.call hbF)
    clear hbF HSE
    cases hr : Tm.read l with
    | none =>
      obtain rfl := hxn hr
      rw [Option.isSome_none]
      have HR := hide hr
      clear hr hxn hxs
      go_wp2_with (first
        | (refine wpList_store_new 25 [.slice none 0 0, .slice none 0 0, .int .i64 0] [.slice none 0 0, .slice none 0 0, .int .i64 0] wF size_tx rfl rfl (by intro v hv; simp only [List.mem_cons, List.not_mem_nil, or_false] at hv; rcases hv with rfl | rfl | rfl <;> rfl) rfl (.tmp 16) (.tmp 73) rfl rfl rfl rfl ?_)
        | (refine wpList_store_new 25 [.slice none 0 0, .slice none 0 0, .int .i64 0] [.slice none 0 0, .slice none 0 0, .int .i64 0] wF size_tx rfl rfl (by intro v hv; simp only [List.mem_cons, List.not_mem_nil, or_false] at hv; rcases hv with rfl | rfl | rfl <;> rfl) rfl (.tmp 16) (.tmp 77) rfl rfl rfl rfl ?_; have HSG := hide (HSF.out.alloc (.cells #[.slice none 0 0, .slice none 0 0, .int .i64 0] 25)); have HXG := hide (Is.new wF [.slice none 0 0, .slice none 0 0, .int .i64 0] 25)))
      refine (HRD.out _ HSG.out.below).mono ?_
      rintro e wH ⟨hbH, hm⟩
      rw [HR.out] at hm
      subst hm
      have HSH := hide (HSG.out.call hbH)
      have HXH := hide (HXG.out.below hbH HXG.out.lt)
      clear hbH HSG HXG HSF
      obtain ⟨e1, he1⟩ : ∃ e, e = errV 1 := ⟨_, rfl⟩
      have HER1 : Hid (∀ W, Below w.heap.size w W → Calls Tryz.prog 5 #[e1, .int .i64 1] W fun e w' => e = .returned (.bool true) ∧ Below W.heap.size W w') := hide (fun W hW => by rw [he1]; exact (error_any 1 1 W (HEV.out W hW)).mono (by rintro e w' ⟨rfl, hb⟩; exact ⟨by simp, hb⟩))
      rw [← he1]
      clear he1
      go_wp2_with (first
        | (refine wpList_store_new 25 [.slice none 0 0, .slice none 0 0, .int .i64 0] [.slice none 0 0, .slice none 0 0, .int .i64 0] wH size_tx rfl rfl (by intro v hv; simp only [List.mem_cons, List.not_mem_nil, or_false] at hv; rcases hv with rfl | rfl | rfl <;> rfl) rfl (.tmp 18) (.tmp 81) rfl rfl rfl rfl ?_; have HSI := hide (HSH.out.alloc (.cells #[.slice none 0 0, .slice none 0 0, .int .i64 0] 25)); have HXI := hide (HXH.out.alloc (.cells #[.slice none 0 0, .slice none 0 0, .int .i64 0] 25)); have HYI := hide (Is.new wH [.slice none 0 0, .slice none 0 0, .int .i64 0] 25)))
      refine (HER1.out _ HSI.out.below).mono ?_
      rintro e wJ ⟨rfl, hbJ⟩
      have HSJ := hide (HSI.out.call hbJ)
      have HXJ := hide (HXI.out.below hbJ HXI.out.lt)
      have HYJ := hide (HYI.out.below hbJ HYI.out.lt)
      clear hbJ HSI HXI HYI HSH HXH
      have hx0 := HXJ.out.cell 0
      have hx1 := HXJ.out.cell 1
      have hx2 := HXJ.out.cell 2
      have hy0 := HYJ.out.cell 0
      have hy1 := HYJ.out.cell 1
      have hy2 := HYJ.out.cell 2
      simp only [List.getElem?_cons_zero, List.getElem?_cons_succ] at hx0 hx1 hx2 hy0 hy1 hy2
      go_wp2_with fail
      refine (txSame_any ⟨.slice none 0 0, [], .slice none 0 0, [], 0⟩ ⟨.slice none 0 0, [], .slice none 0 0, [], 0⟩ wJ (hasTx_none _) (hasTx_none _)).mono ?_
      rintro e wK ⟨⟨b, rfl, hbt⟩, hbK⟩
      obtain rfl : b = true := hbt.2 rfl
      have HSK := hide (HSJ.out.call hbK)
      clear hbt hbK
      go_wp2
      go_ret
      exact ⟨rfl, HSK.out.below⟩
    | some t =>
      obtain ⟨X, rfl, hXt, hXh⟩ := hxs t hr
      rw [Option.isSome_some]
      obtain ⟨xa, xn, xc, xa2, xn2, xc2, xt, hxf⟩ := tx_form hXh
      have HXF := hide hxf
      have HXT := hide hXt
      have HXH := hide hXh
      have HR := hide hr
      rw [hxf]
      clear hr hxn hxs hxf hXt hXh
      go_wp2_with (first
        | (refine wpList_store_new 25 [.slice none 0 0, .slice none 0 0, .int .i64 0] [.slice xa xn xc, .slice xa2 xn2 xc2, .int .i64 xt] wF size_tx rfl rfl (by intro v hv; simp only [List.mem_cons, List.not_mem_nil, or_false] at hv; rcases hv with rfl | rfl | rfl <;> rfl) rfl (.tmp 16) (.tmp 73) rfl rfl rfl rfl ?_; have HSG := hide (HSF.out.alloc (.cells #[.slice xa xn xc, .slice xa2 xn2 xc2, .int .i64 xt] 25)); have HXG := hide (Is.new wF [.slice xa xn xc, .slice xa2 xn2 xc2, .int .i64 xt] 25); have HXK := hide (HXH.out.below (below_alloc wF (.cells #[.slice xa xn xc, .slice xa2 xn2 xc2, .int .i64 xt] 25)))))
      refine (HRD.out _ HSG.out.below).mono ?_
      rintro e wH ⟨hbH, hm⟩
      rw [HR.out] at hm
      obtain ⟨Y, hYt, rfl, hYh⟩ := hm
      obtain ⟨ya2, yn2, yc2, yb, ym, yd, yt, hyf⟩ := tx_form hYh.out
      have HYF := hide hyf
      have HYT := hide hYt
      have HYH := hide hYh.out
      have HSH := hide (HSG.out.call hbH)
      have HXB := hide (HXG.out.below hbH HXG.out.lt)
      have HXL := hide (HXK.out.below hbH)
      rw [hyf]
      clear hbH HSG HXG HSF HXK HXH hyf hYt hYh
      have HER0 : Hid (∀ W, Below w.heap.size w W → Calls Tryz.prog 5 #[.nilIface, .int .i64 0] W fun e w' => e = .returned (.bool true) ∧ Below W.heap.size W w') := hide (fun W hW => (error_any 0 0 W (HEV.out W hW)).mono (by rintro e w' ⟨rfl, hb⟩; exact ⟨by simp, hb⟩))
      go_wp2_with (first
        | (refine wpList_store_new 25 [.slice none 0 0, .slice none 0 0, .int .i64 0] [.slice ya2 yn2 yc2, .slice yb ym yd, .int .i64 yt] wH size_tx rfl rfl (by intro v hv; simp only [List.mem_cons, List.not_mem_nil, or_false] at hv; rcases hv with rfl | rfl | rfl <;> rfl) rfl (.tmp 18) (.tmp 81) rfl rfl rfl rfl ?_; have HBI := hide (below_alloc wH (.cells #[.slice ya2 yn2 yc2, .slice yb ym yd, .int .i64 yt] 25)); have HSI := hide (HSH.out.call HBI.out); have HXI := hide (HXB.out.below HBI.out HXB.out.lt); have HYI := hide (Is.new wH [.slice ya2 yn2 yc2, .slice yb ym yd, .int .i64 yt] 25); have HXM := hide (HXL.out.below HBI.out); have HYM := hide (HYH.out.below HBI.out)))
      refine (HER0.out _ HSI.out.below).mono ?_
      rintro e wJ ⟨rfl, hbJ⟩
      have HSJ := hide (HSI.out.call hbJ)
      have HXJ := hide (HXI.out.below hbJ HXI.out.lt)
      have HYJ := hide (HYI.out.below hbJ HYI.out.lt)
      have HXN := hide (HXM.out.below hbJ)
      have HYN := hide (HYM.out.below hbJ)
      clear hbJ HSI HXI HYI HSH HXB HXM HYM HBI HXL HYH
      have hx0 := HXJ.out.cell 0
      have hx1 := HXJ.out.cell 1
      have hx2 := HXJ.out.cell 2
      have hy0 := HYJ.out.cell 0
      have hy1 := HYJ.out.cell 1
      have hy2 := HYJ.out.cell 2
      simp only [List.getElem?_cons_zero, List.getElem?_cons_succ] at hx0 hx1 hx2 hy0 hy1 hy2
      have HSM := hide (txSame_any Y X wJ HYN.out HXN.out)
      rw [HYF.out, HXF.out] at HSM
      go_wp2_with fail
      refine HSM.out.mono ?_
      rintro e wK ⟨⟨b, rfl, hbt⟩, hbK⟩
      obtain rfl : b = true := hbt.2 (by rw [HYT.out, HXT.out])
      have HSK := hide (HSJ.out.call hbK)
      clear hbt hbK
      go_wp2
      go_ret
      exact ⟨rfl, HSK.out.below⟩
end Go.Proofs.YtbdnbjemocjlaaaGreatDoor
