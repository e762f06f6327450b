/- The walk of LockNot: the opposite. -/
import Derived.Test.YtkdihbgjeanjdabDoorLkFact
namespace Go.Proofs.YtkdihbgjeanjdabDoor
open Go.RowKit
set_option linter.unusedVariables false
set_option linter.unusedSimpArgs false

theorem below_step {wA W W' : World} (h : Below wA.heap.size wA W) (hb : Below W.heap.size W W') : Below wA.heap.size wA W' := h.trans (hb.mono h.size)
/-- An op that a slice of one holds. -/
theorem src_one {W : World} {k : Nat} (L : List (Lk.Op × Value)) (h1 : L.length = 1) (hk : Is W k (opCells L) 33) (c : Nat) : SrcOps W (.slice (some ⟨k, 0, none⟩) 1 c) L := .inr ⟨k, 0, c, by rw [h1], by omega, is_range hk⟩
theorem is_grown {W W' : World} {k : Nat} {c : List Value} {t : TypeId} {r : Option Nat} (h : Is W k c t) (hg : W.grownBy W' r) (hne : r ≠ some k) : Is W' k c t := by
  unfold Is; rw [hg.block k h.lt (fun e => hne e.symm)]; exact h
theorem info_op : (Tryd.prog.info? 33).map (fun i => (i.zero, i.size)) = some (some (.agg ([.int .i64 0, .int .i64 0, .slice none 0 0] : List Value).toArray), 3) := by kernel_rfl
/-- A slice of one op is made. -/
theorem step_one_op (L : List (Lk.Op × Value)) (h1 : L.length = 1) {w : World} {ops : Array Oper} {o : Oper} {a : Act} {K : Act → World → Prop} {Q : Exit → Act → World → Prop} {E : Prop} (hgd : o.guard = none) (s : Operand) (ho : o.op = .buildSlice 22 1 #[(0, s)]) (hs : a.eval s = .agg (opCells L).toArray)
    (h : ∀ (k : Nat) (W' : World), w.heap.size ≤ k → Is W' k (opCells L) 33 → Below w.heap.size w W' → K (a.put o.dst (.slice (some ⟨k, 0, none⟩) 1 1)) W') :
    if Region.wanted o (yielded ops a.tmps) = true then Oper.wp Tryd.prog o a w K Q else E :=
  step_build_one 22 33 (opCells L) hgd s ho hs Tryd.underlying22 _ info_op (by omega) (by omega) (by rw [opCells_length, h1]) (h _ _ (Nat.le_refl _) (Is.new w _ _) (below_alloc w _))
/-- A slice of no op is made. -/
theorem step_no_op {w : World} {ops : Array Oper} {o : Oper} {a : Act} {K : Act → World → Prop} {Q : Exit → Act → World → Prop} {E : Prop} (base : Nat) (hb : base ≤ w.heap.size) (hgd : o.guard = none) (ho : o.op = .buildSlice 22 0 #[])
    (h : ∀ (k : Nat) (W' : World), w.heap.size ≤ k → OwnOps W' base (.slice (some ⟨k, 0, none⟩) 0 0) [] → Below w.heap.size w W' → K (a.put o.dst (.slice (some ⟨k, 0, none⟩) 0 0)) W') :
    if Region.wanted o (yielded ops a.tmps) = true then Oper.wp Tryd.prog o a w K Q else E := by
  have hw : Region.wanted o (yielded ops a.tmps) = true := by simp [Region.wanted, hgd]
  rw [if_pos hw]
  have hk := h w.heap.size (w.alloc (.cells #[] 33)) (Nat.le_refl _) (OwnOps.lit w base [] hb (by simp) _ rfl) (below_alloc w _)
  have hr : (Instr.buildSlice 22 0 #[]).run Tryd.prog w = .ok (.slice (some ⟨w.heap.size, 0, none⟩) 0 0) (w.alloc (.cells #[] 33)) := by
    obtain ⟨i, z, hu, hi, hz, hs, _⟩ := elem_op
    simp [Instr.buildSlice, run_underlying hu, sizeOf, typeInfo, hi, Instr.fill, newRow, go_sem]
  unfold Oper.wp
  simp only [execOp, ho, List.map_toArray, List.map_nil, Sem.run_bind, Sem.run_pure, Result.andThen_ok, hr]
  exact hk
set_option maxRecDepth 100000 in
set_option maxHeartbeats 8000000 in
theorem lockNot_walk (lv : Value) (L : List (Lk.Op × Value)) (kv : Value) (KS : List (List Int × Value)) (m : List Int) (h : Int) (w : World) (hl : HasOps w lv L) (hk : HasKeys w kv KS) (hkl24 : KS.length * 24 ≤ 140737488351232) (hm : m.length = 32) (hmb : Sz.Byt m) (ht : Tab w) (hw : 1 < w.heap.size) (hE : ErrVar w) :
    Calls Tryd.prog 3 #[lv, kv, .agg (vals m).toArray, .int .i64 h] w fun e w' => e = .returned (.bool true) ∧ Below w.heap.size w w' := by
  obtain ⟨la, lc, rfl⟩ : ∃ a c, lv = .slice a L.length c := by
    rcases hl.1 with ⟨a, cap, rfl, rfl⟩ | ⟨b, off, cap, rfl, _⟩
    · exact ⟨a, cap, rfl⟩
    · exact ⟨_, cap, rfl⟩
  have hLm := hl.length_le
  obtain ⟨ka, kc, rfl, hkcm, hKm, hkrng⟩ := hk.form
  have HKRNG := hide hkrng
  unfold maxLen at hLm hKm
  have hML : (vals m).length = 32 := by rw [vals_length]; exact hm
  have HML := hide hML
  have hb0 := below_alloc w (.cells (vals m).toArray 25)
  have HB0 := hide hb0
  have HOP := hide (opened_any _ (ht.below hb0 hw) (Nat.lt_of_lt_of_le hw hb0.size) (hE.below hb0))
  have HIS := hide (Is.new w (vals m) 25)
  have hszM : (Tryd.prog.info? 25).map (·.size) = some (vals m).length := by rw [hML]; exact size_dig
  have HCK : Hid (∀ W, Below w.heap.size w W → Calls Tryd.prog 7 #[.slice la L.length lc] W fun e w' => e = .returned (errV (Lk.check (opsOf L))) ∧ Below W.heap.size W w') := fun W hW => check_any _ L W (hl.below hW)
  have HRK : Hid (∀ W ov O kv2 K2, Below w.heap.size w W → HasOps W ov O → HasKeys W kv2 K2 → Calls Tryd.prog 8 #[ov, kv2, .agg (vals m).toArray, .int .i64 h] W fun e w' => e = .returned (errV (Lk.run m h (opsOf O) (K2.map Prod.fst))) ∧ Below W.heap.size W w') := fun W ov O kv2 K2 hW hO hK => run_any O K2 ov kv2 m h W hO hK hm hmb (ht.below hW hw) (Nat.lt_of_lt_of_le hw hW.size)
  have HRUN : Hid (∀ W ov O, Below w.heap.size w W → HasOps W ov O → Calls Tryd.prog 8 #[ov, .slice ka KS.length kc, .agg (vals m).toArray, .int .i64 h] W fun e w' => e = .returned (errV (Lk.run m h (opsOf O) (KS.map Prod.fst))) ∧ Below W.heap.size W w') := fun W ov O hW hO => run_any O KS ov _ m h W hO (hk.below hW) hm hmb (ht.below hW hw) (Nat.lt_of_lt_of_le hw hW.size)
  have HTD : Hid (∀ W a b, Below w.heap.size w W → Calls Tryd.prog 9 #[errV a, errV b] W fun e w' => e = .returned (.bool (a == b)) ∧ Below W.heap.size W w') := fun W a b hW => toldE_any a b W (hE.below hW)
  have HL := hide hl
  have HK := hide hk
  have HK24 := hide hkl24
  have HKL : Hid ((KS.map Prod.fst).length = KS.length) := hide (List.length_map _)
  clear hl hk hm hmb ht hw hE hML hb0 hkl24 hkrng
  generalize vals m = M at *
  obtain ⟨c, hc⟩ : ∃ c, c = Lk.check (opsOf L) := ⟨_, rfl⟩
  rw [← hc] at HCK
  have HC := hide hc
  clear hc
  have HLL := hide (opsOf_length L)
  go_enter Tryd.func3, Tryd.ntmps3
  go_wp2_with fail
  refine HOP.out.mono ?_
  rintro e wA ⟨rfl, hbA⟩
  have HIA := hide (HIS.out.below hbA (by simp))
  have HBA := hide (HB0.out.trans (hbA.mono (by simp)))
  clear hbA
  have HC1 := hide (HCK.out _ HBA.out)
  by_cases hc0 : c = 0
  · subst hc0
    have e0 : errV 0 = .nilIface := rfl
    rw [e0] at HC1
    clear e0
    have hl60 : L.length ≤ 60 := by have := ((Lk.check_zero _).1 HC.out.symm).1; rw [HLL.out] at this; exact this
    by_cases hlen : L.length + 2 ≤ 60
    · have hlaw := Lk.law_not m h (opsOf L) (KS.map Prod.fst) HC.out.symm (by rw [HLL.out]; exact hlen)
      obtain ⟨N1, hN1⟩ : ∃ N1, N1 = L ++ [((⟨14, 0, []⟩ : Lk.Op), Value.slice none 0 0)] := ⟨_, rfl⟩
      obtain ⟨N2, hN2⟩ : ∃ N2, N2 = N1 ++ [((⟨14, 0, []⟩ : Lk.Op), Value.slice none 0 0)] := ⟨_, rfl⟩
      have e1 : opsOf L ++ [Lk.notOp] = opsOf N1 := by rw [hN1]; simp [opsOf, Lk.notOp]
      have e2 : opsOf N1 ++ [Lk.notOp] = opsOf N2 := by rw [hN2]; simp [opsOf, Lk.notOp]
      rw [e1, e2] at hlaw
      obtain ⟨X0, hX0⟩ : ∃ X, X = Lk.run m h (opsOf L) (KS.map Prod.fst) := ⟨_, rfl⟩
      obtain ⟨X1, hX1⟩ : ∃ X, X = Lk.run m h (opsOf N1) (KS.map Prod.fst) := ⟨_, rfl⟩
      obtain ⟨X2, hX2⟩ : ∃ X, X = Lk.run m h (opsOf N2) (KS.map Prod.fst) := ⟨_, rfl⟩
      rw [← hX0, ← hX1, ← hX2] at hlaw
      obtain ⟨v0, hv0⟩ : ∃ v, v = errV X0 := ⟨_, rfl⟩
      obtain ⟨v1, hv1⟩ : ∃ v, v = errV X1 := ⟨_, rfl⟩
      obtain ⟨v2, hv2⟩ : ∃ v, v = errV X2 := ⟨_, rfl⟩
      have HLAW := hide hlaw
      have HX0 := hide hX0
      have HX1 := hide hX1
      have HX2 := hide hX2
      have HV0 := hide hv0
      have HV1 := hide hv1
      have HV2 := hide hv2
      have HN1 := hide hN1
      have HN2 := hide hN2
      have HF1 : Hid (Formed N1) := hide (by rw [hN1]; exact HL.out.formed.append (fun r hr => by simp only [List.mem_cons, List.not_mem_nil, or_false] at hr; subst hr; rfl))
      have HD1 : Hid (∀ W, Below w.heap.size w W → ∀ r ∈ N1, Has W r.2 r.1.data ∧ Sz.Byt r.1.data) := hide (fun W hW r hr => by
        rw [hN1] at hr
        rcases List.mem_append.1 hr with hr | hr
        · exact (HL.out.below hW).2 r hr
        · simp only [List.mem_cons, List.not_mem_nil, or_false] at hr; subst hr; exact ⟨.inl ⟨none, 0, rfl, rfl, by unfold maxLen; omega, fun _ => rfl⟩, Sz.Byt.nil⟩)
      have HD2 : Hid (∀ W, Below w.heap.size w W → ∀ r ∈ N2, Has W r.2 r.1.data ∧ Sz.Byt r.1.data) := hide (fun W hW r hr => by
        rw [hN2] at hr
        rcases List.mem_append.1 hr with hr | hr
        · exact HD1.out W hW r hr
        · simp only [List.mem_cons, List.not_mem_nil, or_false] at hr; subst hr; exact ⟨.inl ⟨none, 0, rfl, rfl, by unfold maxLen; omega, fun _ => rfl⟩, Sz.Byt.nil⟩)
      have HNL : Hid (N1.length = L.length + 1) := hide (by rw [hN1]; simp)
      have hi1 : ¬ (60 : Int) < (L.length : Int) + 2 := by omega
      clear hlaw hX0 hX1 hX2 hv0 hv1 hv2 hN1 hN2 e1 e2
      generalize hll : L.length = ll at *
      have HL1 := hide hll
      clear hll
      generalize KS.length = kl at *
      go_wp2_with fail
      refine HC1.out.mono ?_
      rintro e wB ⟨rfl, hbB⟩
      have HIB := hide (HIA.out.below hbB HIA.out.lt)
      have HBB := hide (HBA.out.trans (hbB.mono HBA.out.size))
      clear hbB
      have HR0 := hide (HRUN.out wB (.slice la ll lc) L HBB.out (HL.out.below HBB.out))
      rw [← HX0.out, ← HV0.out] at HR0
      have HR1 : Hid (∀ W v b, Below w.heap.size w W → OwnOps W b v N1 → Calls Tryd.prog 8 #[v, .slice ka kl kc, .agg M.toArray, .int .i64 h] W fun e w' => e = .returned v1 ∧ Below W.heap.size W w') := hide (fun W v b hW hO => by
        have := HRUN.out W v N1 hW (hO.hasOps (HD1.out W hW))
        rw [← HX1.out, ← HV1.out] at this
        exact this)
      have HR2 : Hid (∀ W v b, Below w.heap.size w W → OwnOps W b v N2 → Calls Tryd.prog 8 #[v, .slice ka kl kc, .agg M.toArray, .int .i64 h] W fun e w' => e = .returned v2 ∧ Below W.heap.size W w') := hide (fun W v b hW hO => by
        have := HRUN.out W v N2 hW (hO.hasOps (HD2.out W hW))
        rw [← HX2.out, ← HV2.out] at this
        exact this)
      go_wp2_with (refine wpList_load_arr2 25 M w.heap.size rfl (.tmp 6) rfl rfl HIB.out Tryd.underlying25 size_dig HML.out ?_)
      refine HR0.out.mono ?_
      rintro e wC ⟨rfl, hbC⟩
      have HIC := hide (HIB.out.below hbC HIB.out.lt)
      have HBC := hide (HBB.out.trans (hbC.mono HBB.out.size))
      clear hbC
      go_wp2_with (first
        | (at_builtin; refine wpList_append_of (AppOps wC _ wC.heap.size _ L) rfl (.tmp 32) (.tmp 33) rfl (.slice (some ⟨wC.heap.size, 0, none⟩) 0 0) (.slice la ll lc) rfl rfl (fun ty => run_append_ops wC _ wC.heap.size _ _ [] L (Nat.le_refl _) (below_alloc wC _) (by simp) (OwnOps.lit wC wC.heap.size [] (Nat.le_refl _) (by simp) _ rfl) (HL.out.below (HBC.out.alloc HBC.out.size _)).src HL.out.formed (by have := HL1.out; simp; omega) ty) ?_; intro v34 wP hP)
        | (at_builtin; refine wpList_append_of (AppOps wC _ wC.heap.size _ N1) rfl (.tmp 34) (.tmp 36) rfl v34 (.slice (some ⟨wP.heap.size, 0, none⟩) 1 1) rfl rfl (fun ty => by rw [HN1.out]; exact run_append_ops wC _ wC.heap.size _ _ L [(⟨14, 0, []⟩, .slice none 0 0)] (Nat.le_refl _) (hP.2.1.alloc hP.2.1.size _) (Nat.le_trans hP.2.1.size (by simp)) (OwnOps.below hP.1 (below_alloc _ _)) (src_one [(⟨14, 0, []⟩, .slice none 0 0)] rfl (Is.new wP _ 33) 1) (fun r hr => by simp only [List.mem_cons, List.not_mem_nil, or_false] at hr; subst hr; rfl) (by have := HL1.out; simp; omega) ty) ?_; intro v37 wQ hQ; have HIQ := hide (HIC.out.below hQ.2.1 HIC.out.lt); have HBQ := hide (HBC.out.trans (hQ.2.1.mono HBC.out.size)))
        | (refine wpList_load_arr2 25 M w.heap.size rfl (.tmp 6) rfl rfl HIQ.out Tryd.underlying25 size_dig HML.out ?_))
      refine (HR1.out _ _ _ HBQ.out hQ.1).mono ?_
      rintro e wR ⟨rfl, hbR⟩
      have HIR := hide (HIQ.out.below hbR HIQ.out.lt)
      have HBR := hide (HBQ.out.trans (hbR.mono HBQ.out.size))
      have HQR := hide (hQ.1.below hbR)
      clear hbR hP hQ
      go_wp2
      refine wp_region_held_drew (S := fun W : World => Below wR.heap.size wR W) (by kernel_rfl) ?_ (fun hHeld0 => ?_)
      · exact (Below.refl _ _).drew
      refine wpAnyH_take (i := 1) (v := ?_) rfl (by kernel_rfl) (by kernel_rfl) (by kernel_rfl) (fun _ _ _ h => h) (Or.inl ⟨by rfl, ?_⟩) hHeld0 ?_
      rotate_left
      · (intro w hSw; (try dsimp only at hSw); go_simp <;> (try with_reducible rfl))
      simp only [Act.put, List.getElem_toArray, List.getElem_cons_zero, List.getElem_cons_succ, List.setIfInBounds_toArray, List.set_cons_zero, List.set_cons_succ]
      refine wpAnyH_take (i := 3) (v := ?_) rfl (by kernel_rfl) (by kernel_rfl) (by kernel_rfl) (fun _ _ _ h => h) (Or.inl ⟨by rfl, ?_⟩) hHeld0 ?_
      rotate_left
      · (intro w hSw; (try dsimp only at hSw); go_simp <;> (try with_reducible rfl))
      simp only [Act.put, List.getElem_toArray, List.getElem_cons_zero, List.getElem_cons_succ, List.setIfInBounds_toArray, List.set_cons_zero, List.set_cons_succ]
      refine wpAnyH_take (i := 6) (v := ?_) rfl (by kernel_rfl) (by kernel_rfl) (by kernel_rfl) (fun _ _ _ h => h) (Or.inl ⟨by rfl, ?_⟩) hHeld0 ?_
      rotate_left
      · (intro w hSw; (try dsimp only at hSw); go_simp <;> (try with_reducible rfl))
      simp only [Act.put, List.getElem_toArray, List.getElem_cons_zero, List.getElem_cons_succ, List.setIfInBounds_toArray, List.set_cons_zero, List.set_cons_succ]
      refine wpAnyH_take (i := 7) (v := .agg (M).toArray) rfl (by kernel_rfl) (by kernel_rfl) (by kernel_rfl) (fun _ _ _ h => h) (yieldsIf_load_mid (by rfl) _ _ rfl _ _ rfl (M) _ (fun w hSw => range_below HIR.out.range hSw) Tryd.underlying25 rfl hszM) hHeld0 ?_
      simp only [Act.put, List.getElem_toArray, List.getElem_cons_zero, List.getElem_cons_succ, List.setIfInBounds_toArray, List.set_cons_zero, List.set_cons_succ]
      refine wpAnyH_take (i := 8) (v := ?_) rfl (by kernel_rfl) (by kernel_rfl) (by kernel_rfl) (fun _ _ _ h => h) (Or.inl ⟨by rfl, ?_⟩) hHeld0 ?_
      rotate_left
      · (intro w hSw; (try dsimp only at hSw); go_simp <;> (try with_reducible rfl))
      simp only [Act.put, List.getElem_toArray, List.getElem_cons_zero, List.getElem_cons_succ, List.setIfInBounds_toArray, List.set_cons_zero, List.set_cons_succ]
      refine wpAnyH_ready (rs := [0, 4]) (by kernel_rfl) (by simp) ?_
      refine AllReadyH.cons rfl (fun K hK => ?_) ?_
      ·
        refine step_no_op wR.heap.size hHeld0.size rfl rfl ?_
        intro k0 W0 hk0 ho0 hb0
        refine hK.out _ _ (by exact below_step hHeld0 hb0) (fun hHeld1 => ?_)
        clear hK K hHeld0
        try simp only [Act.put, List.getElem_toArray, List.getElem_cons_zero, List.getElem_cons_succ, List.setIfInBounds_toArray, List.set_cons_zero, List.set_cons_succ]
        refine wpAnyH_ready (rs := [2, 4]) (by kernel_rfl) (by simp) ?_
        refine AllReadyH.cons rfl (fun K hK => ?_) ?_
        ·
          refine step_append_of (AppOps wR _ wR.heap.size _ N1) rfl (.tmp 43) (.tmp 44) rfl _ _ rfl rfl (fun ty => run_append_ops wR _ wR.heap.size _ _ [] N1 (Nat.le_refl _) hHeld1 hHeld1.size ho0 (OwnOps.below HQR.out hHeld1).src HF1.out (by have := HNL.out; simp; omega) ty) ?_
          intro v45 W2 hA2
          refine hK.out _ _ (by exact hA2.2.1) (fun hHeld2 => ?_)
          clear hK K hHeld1
          try simp only [Act.put, List.getElem_toArray, List.getElem_cons_zero, List.getElem_cons_succ, List.setIfInBounds_toArray, List.set_cons_zero, List.set_cons_succ]
          have hO1 := hA2.1
          refine wpAnyH_ready (rs := [4]) (by kernel_rfl) (by simp) ?_
          refine AllReadyH.cons rfl (fun K hK => ?_) AllReadyH.nil
          refine step_one_op [(⟨14, 0, []⟩, .slice none 0 0)] rfl rfl (.tmp 46) rfl rfl ?_
          intro k4 W4 hk4 hi4 hb4
          refine hK.out _ _ (by exact below_step hHeld2 hb4) (fun hHeld3 => ?_)
          clear hK K hHeld2
          try simp only [Act.put, List.getElem_toArray, List.getElem_cons_zero, List.getElem_cons_succ, List.setIfInBounds_toArray, List.set_cons_zero, List.set_cons_succ]
          have hO1 := hO1.below hb4
          refine wpAnyH_ready (rs := [5]) (by kernel_rfl) (by simp) ?_
          refine AllReadyH.cons rfl (fun K hK => ?_) AllReadyH.nil
          refine step_append_of (AppOps wR _ wR.heap.size _ N2) rfl (.tmp 45) (.tmp 47) rfl _ _ rfl rfl (fun ty => by rw [HN2.out]; exact run_append_ops wR _ wR.heap.size _ _ N1 [(⟨14, 0, []⟩, .slice none 0 0)] (Nat.le_refl _) hHeld3 hHeld3.size hO1 (src_one [(⟨14, 0, []⟩, .slice none 0 0)] rfl hi4 1) (fun r hr => by simp only [List.mem_cons, List.not_mem_nil, or_false] at hr; subst hr; rfl) (by have := HNL.out; simp; omega) ty) ?_
          intro v48 W5 hA5
          refine hK.out _ _ (by exact hA5.2.1) (fun hHeld4 => ?_)
          clear hK K hHeld3
          try simp only [Act.put, List.getElem_toArray, List.getElem_cons_zero, List.getElem_cons_succ, List.setIfInBounds_toArray, List.set_cons_zero, List.set_cons_succ]
          refine wpAnyH_ready (rs := [9]) (by kernel_rfl) (by simp) ?_
          refine AllReadyH.cons rfl (fun K hK => ?_) AllReadyH.nil
          go_simp
          go_wp2_with ((go_at_call 8; refine (HR2.out _ _ _ (HBR.out.trans (hHeld4.mono HBR.out.size)) hA5.1).mono ?_; rintro e W9 ⟨rfl, hb9⟩))
          refine hK.out _ _ (by exact below_step hHeld4 hb9) (fun hHeld5 => ?_)
          clear hK K hHeld4
          try simp only [Act.put, List.getElem_toArray, List.getElem_cons_zero, List.getElem_cons_succ, List.setIfInBounds_toArray, List.set_cons_zero, List.set_cons_succ]
          refine wpAnyH_take (i := 10) (v := ?_) rfl (by kernel_rfl) (by kernel_rfl) (by kernel_rfl) (fun _ _ _ h => h) (Or.inl ⟨by rfl, ?_⟩) hHeld5 ?_
          rotate_left
          · (intro w hSw; (try dsimp only at hSw); go_simp <;> (try with_reducible rfl))
          simp only [Act.put, List.getElem_toArray, List.getElem_cons_zero, List.getElem_cons_succ, List.setIfInBounds_toArray, List.set_cons_zero, List.set_cons_succ]
          refine wpAnyH_done (by kernel_rfl) ?_ _
          have HBX := hide (HBR.out.trans (hHeld5.mono HBR.out.size))
          obtain ⟨l1, l2, l3⟩ := HLAW.out
          by_cases z0 : X0 = 0
          · have q0 : v0 = .nilIface := by rw [HV0.out, z0]; rfl
            have q1 : v1 = .iface 38 (.int .i64 X1) := by rw [HV1.out]; unfold errV; rw [if_neg (l1 z0).1]
            have q2 : v2 = .nilIface := by rw [HV2.out, (l1 z0).2]; rfl
            clear l1 l2 l3 z0 HV0 HV1 HV2 HR0 HR1 HR2 HLAW
            subst q0 q1 q2
            go_wp2
            go_ret
            exact ⟨rfl, HBX.out⟩
          · have q0 : v0 = .iface 38 (.int .i64 X0) := by rw [HV0.out]; unfold errV; rw [if_neg z0]
            by_cases z1 : X1 = 0
            · have q1 : v1 = .nilIface := by rw [HV1.out, z1]; rfl
              have q2 : v2 = .iface 38 (.int .i64 X2) := by rw [HV2.out]; unfold errV; rw [if_neg (l2 z0 z1)]
              clear l1 l2 l3 z0 z1 HV0 HV1 HV2 HR0 HR1 HR2 HLAW
              subst q0 q1 q2
              go_wp2
              go_ret
              exact ⟨rfl, HBX.out⟩
            · have z2 := l3 z0 z1
              have q1 : v1 = .iface 38 (.int .i64 X1) := by rw [HV1.out]; unfold errV; rw [if_neg z1]
              have q2 : v2 = .iface 38 (.int .i64 X2) := by rw [HV2.out]; unfold errV; rw [if_neg (by rw [← z2]; exact z1)]
              have HT := hide (HTD.out _ X1 X2 HBX.out)
              rw [← HV1.out, ← HV2.out, show (X1 == X2) = true by rw [z2]; exact beq_self_eq_true _] at HT
              clear l1 l2 l3 z0 z1 z2 HV0 HV1 HV2 HR0 HR1 HR2 HLAW
              subst q0 q1 q2
              go_wp2_with fail
              refine HT.out.mono ?_
              rintro e wZ ⟨rfl, hbZ⟩
              have HBZ := hide (HBX.out.trans (hbZ.mono HBX.out.size))
              clear hbZ
              go_wp2
              go_ret
              exact ⟨rfl, HBZ.out⟩
        refine AllReadyH.cons rfl (fun K hK => ?_) AllReadyH.nil
        refine step_one_op [(⟨14, 0, []⟩, .slice none 0 0)] rfl rfl (.tmp 46) rfl rfl ?_
        intro k4 W4 hk4 hi4 hb4
        refine hK.out _ _ (by exact below_step hHeld1 hb4) (fun hHeld2 => ?_)
        clear hK K hHeld1
        try simp only [Act.put, List.getElem_toArray, List.getElem_cons_zero, List.getElem_cons_succ, List.setIfInBounds_toArray, List.set_cons_zero, List.set_cons_succ]
        have hne : k0 ≠ k4 := by have := (World.ownsRow.lt ho0 k0 rfl).2; omega
        have ho0 := ho0.below hb4
        refine wpAnyH_ready (rs := [2]) (by kernel_rfl) (by simp) ?_
        refine AllReadyH.cons rfl (fun K hK => ?_) AllReadyH.nil
        refine step_append_of (AppOps wR _ wR.heap.size _ N1) rfl (.tmp 43) (.tmp 44) rfl _ _ rfl rfl (fun ty => run_append_ops wR _ wR.heap.size _ _ [] N1 (Nat.le_refl _) hHeld2 hHeld2.size ho0 (OwnOps.below HQR.out hHeld2).src HF1.out (by have := HNL.out; simp; omega) ty) ?_
        intro v45 W2 hA2
        refine hK.out _ _ (by exact hA2.2.1) (fun hHeld3 => ?_)
        clear hK K hHeld2
        try simp only [Act.put, List.getElem_toArray, List.getElem_cons_zero, List.getElem_cons_succ, List.setIfInBounds_toArray, List.set_cons_zero, List.set_cons_succ]
        have hO1 := hA2.1
        have hi4 := is_grown hi4 hA2.2.2.2 (by intro e; injection e with e; exact hne e)
        refine wpAnyH_ready (rs := [5]) (by kernel_rfl) (by simp) ?_
        refine AllReadyH.cons rfl (fun K hK => ?_) AllReadyH.nil
        refine step_append_of (AppOps wR _ wR.heap.size _ N2) rfl (.tmp 45) (.tmp 47) rfl _ _ rfl rfl (fun ty => by rw [HN2.out]; exact run_append_ops wR _ wR.heap.size _ _ N1 [(⟨14, 0, []⟩, .slice none 0 0)] (Nat.le_refl _) hHeld3 hHeld3.size hO1 (src_one [(⟨14, 0, []⟩, .slice none 0 0)] rfl hi4 1) (fun r hr => by simp only [List.mem_cons, List.not_mem_nil, or_false] at hr; subst hr; rfl) (by have := HNL.out; simp; omega) ty) ?_
        intro v48 W5 hA5
        refine hK.out _ _ (by exact hA5.2.1) (fun hHeld4 => ?_)
        clear hK K hHeld3
        try simp only [Act.put, List.getElem_toArray, List.getElem_cons_zero, List.getElem_cons_succ, List.setIfInBounds_toArray, List.set_cons_zero, List.set_cons_succ]
        refine wpAnyH_ready (rs := [9]) (by kernel_rfl) (by simp) ?_
        refine AllReadyH.cons rfl (fun K hK => ?_) AllReadyH.nil
        go_simp
        go_wp2_with ((go_at_call 8; refine (HR2.out _ _ _ (HBR.out.trans (hHeld4.mono HBR.out.size)) hA5.1).mono ?_; rintro e W9 ⟨rfl, hb9⟩))
        refine hK.out _ _ (by exact below_step hHeld4 hb9) (fun hHeld5 => ?_)
        clear hK K hHeld4
        try simp only [Act.put, List.getElem_toArray, List.getElem_cons_zero, List.getElem_cons_succ, List.setIfInBounds_toArray, List.set_cons_zero, List.set_cons_succ]
        refine wpAnyH_take (i := 10) (v := ?_) rfl (by kernel_rfl) (by kernel_rfl) (by kernel_rfl) (fun _ _ _ h => h) (Or.inl ⟨by rfl, ?_⟩) hHeld5 ?_
        rotate_left
        · (intro w hSw; (try dsimp only at hSw); go_simp <;> (try with_reducible rfl))
        simp only [Act.put, List.getElem_toArray, List.getElem_cons_zero, List.getElem_cons_succ, List.setIfInBounds_toArray, List.set_cons_zero, List.set_cons_succ]
        refine wpAnyH_done (by kernel_rfl) ?_ _
        have HBX := hide (HBR.out.trans (hHeld5.mono HBR.out.size))
        obtain ⟨l1, l2, l3⟩ := HLAW.out
        by_cases z0 : X0 = 0
        · have q0 : v0 = .nilIface := by rw [HV0.out, z0]; rfl
          have q1 : v1 = .iface 38 (.int .i64 X1) := by rw [HV1.out]; unfold errV; rw [if_neg (l1 z0).1]
          have q2 : v2 = .nilIface := by rw [HV2.out, (l1 z0).2]; rfl
          clear l1 l2 l3 z0 HV0 HV1 HV2 HR0 HR1 HR2 HLAW
          subst q0 q1 q2
          go_wp2
          go_ret
          exact ⟨rfl, HBX.out⟩
        · have q0 : v0 = .iface 38 (.int .i64 X0) := by rw [HV0.out]; unfold errV; rw [if_neg z0]
          by_cases z1 : X1 = 0
          · have q1 : v1 = .nilIface := by rw [HV1.out, z1]; rfl
            have q2 : v2 = .iface 38 (.int .i64 X2) := by rw [HV2.out]; unfold errV; rw [if_neg (l2 z0 z1)]
            clear l1 l2 l3 z0 z1 HV0 HV1 HV2 HR0 HR1 HR2 HLAW
            subst q0 q1 q2
            go_wp2
            go_ret
            exact ⟨rfl, HBX.out⟩
          · have z2 := l3 z0 z1
            have q1 : v1 = .iface 38 (.int .i64 X1) := by rw [HV1.out]; unfold errV; rw [if_neg z1]
            have q2 : v2 = .iface 38 (.int .i64 X2) := by rw [HV2.out]; unfold errV; rw [if_neg (by rw [← z2]; exact z1)]
            have HT := hide (HTD.out _ X1 X2 HBX.out)
            rw [← HV1.out, ← HV2.out, show (X1 == X2) = true by rw [z2]; exact beq_self_eq_true _] at HT
            clear l1 l2 l3 z0 z1 z2 HV0 HV1 HV2 HR0 HR1 HR2 HLAW
            subst q0 q1 q2
            go_wp2_with fail
            refine HT.out.mono ?_
            rintro e wZ ⟨rfl, hbZ⟩
            have HBZ := hide (HBX.out.trans (hbZ.mono HBX.out.size))
            clear hbZ
            go_wp2
            go_ret
            exact ⟨rfl, HBZ.out⟩
      refine AllReadyH.cons rfl (fun K hK => ?_) AllReadyH.nil
      refine step_one_op [(⟨14, 0, []⟩, .slice none 0 0)] rfl rfl (.tmp 46) rfl rfl ?_
      intro k4 W4 hk4 hi4 hb4
      refine hK.out _ _ (by exact below_step hHeld0 hb4) (fun hHeld1 => ?_)
      clear hK K hHeld0
      try simp only [Act.put, List.getElem_toArray, List.getElem_cons_zero, List.getElem_cons_succ, List.setIfInBounds_toArray, List.set_cons_zero, List.set_cons_succ]
      refine wpAnyH_ready (rs := [0]) (by kernel_rfl) (by simp) ?_
      refine AllReadyH.cons rfl (fun K hK => ?_) AllReadyH.nil
      refine step_no_op wR.heap.size hHeld1.size rfl rfl ?_
      intro k0 W0 hk0 ho0 hb0
      refine hK.out _ _ (by exact below_step hHeld1 hb0) (fun hHeld2 => ?_)
      clear hK K hHeld1
      try simp only [Act.put, List.getElem_toArray, List.getElem_cons_zero, List.getElem_cons_succ, List.setIfInBounds_toArray, List.set_cons_zero, List.set_cons_succ]
      have hne : k0 ≠ k4 := by have := hi4.lt; omega
      have hi4 := hi4.below hb0 hi4.lt
      refine wpAnyH_ready (rs := [2]) (by kernel_rfl) (by simp) ?_
      refine AllReadyH.cons rfl (fun K hK => ?_) AllReadyH.nil
      refine step_append_of (AppOps wR _ wR.heap.size _ N1) rfl (.tmp 43) (.tmp 44) rfl _ _ rfl rfl (fun ty => run_append_ops wR _ wR.heap.size _ _ [] N1 (Nat.le_refl _) hHeld2 hHeld2.size ho0 (OwnOps.below HQR.out hHeld2).src HF1.out (by have := HNL.out; simp; omega) ty) ?_
      intro v45 W2 hA2
      refine hK.out _ _ (by exact hA2.2.1) (fun hHeld3 => ?_)
      clear hK K hHeld2
      try simp only [Act.put, List.getElem_toArray, List.getElem_cons_zero, List.getElem_cons_succ, List.setIfInBounds_toArray, List.set_cons_zero, List.set_cons_succ]
      have hO1 := hA2.1
      have hi4 := is_grown hi4 hA2.2.2.2 (by intro e; injection e with e; exact hne e)
      refine wpAnyH_ready (rs := [5]) (by kernel_rfl) (by simp) ?_
      refine AllReadyH.cons rfl (fun K hK => ?_) AllReadyH.nil
      refine step_append_of (AppOps wR _ wR.heap.size _ N2) rfl (.tmp 45) (.tmp 47) rfl _ _ rfl rfl (fun ty => by rw [HN2.out]; exact run_append_ops wR _ wR.heap.size _ _ N1 [(⟨14, 0, []⟩, .slice none 0 0)] (Nat.le_refl _) hHeld3 hHeld3.size hO1 (src_one [(⟨14, 0, []⟩, .slice none 0 0)] rfl hi4 1) (fun r hr => by simp only [List.mem_cons, List.not_mem_nil, or_false] at hr; subst hr; rfl) (by have := HNL.out; simp; omega) ty) ?_
      intro v48 W5 hA5
      refine hK.out _ _ (by exact hA5.2.1) (fun hHeld4 => ?_)
      clear hK K hHeld3
      try simp only [Act.put, List.getElem_toArray, List.getElem_cons_zero, List.getElem_cons_succ, List.setIfInBounds_toArray, List.set_cons_zero, List.set_cons_succ]
      refine wpAnyH_ready (rs := [9]) (by kernel_rfl) (by simp) ?_
      refine AllReadyH.cons rfl (fun K hK => ?_) AllReadyH.nil
      go_simp
      go_wp2_with ((go_at_call 8; refine (HR2.out _ _ _ (HBR.out.trans (hHeld4.mono HBR.out.size)) hA5.1).mono ?_; rintro e W9 ⟨rfl, hb9⟩))
      refine hK.out _ _ (by exact below_step hHeld4 hb9) (fun hHeld5 => ?_)
      clear hK K hHeld4
      try simp only [Act.put, List.getElem_toArray, List.getElem_cons_zero, List.getElem_cons_succ, List.setIfInBounds_toArray, List.set_cons_zero, List.set_cons_succ]
      refine wpAnyH_take (i := 10) (v := ?_) rfl (by kernel_rfl) (by kernel_rfl) (by kernel_rfl) (fun _ _ _ h => h) (Or.inl ⟨by rfl, ?_⟩) hHeld5 ?_
      rotate_left
      · (intro w hSw; (try dsimp only at hSw); go_simp <;> (try with_reducible rfl))
      simp only [Act.put, List.getElem_toArray, List.getElem_cons_zero, List.getElem_cons_succ, List.setIfInBounds_toArray, List.set_cons_zero, List.set_cons_succ]
      refine wpAnyH_done (by kernel_rfl) ?_ _
      have HBX := hide (HBR.out.trans (hHeld5.mono HBR.out.size))
      obtain ⟨l1, l2, l3⟩ := HLAW.out
      by_cases z0 : X0 = 0
      · have q0 : v0 = .nilIface := by rw [HV0.out, z0]; rfl
        have q1 : v1 = .iface 38 (.int .i64 X1) := by rw [HV1.out]; unfold errV; rw [if_neg (l1 z0).1]
        have q2 : v2 = .nilIface := by rw [HV2.out, (l1 z0).2]; rfl
        clear l1 l2 l3 z0 HV0 HV1 HV2 HR0 HR1 HR2 HLAW
        subst q0 q1 q2
        go_wp2
        go_ret
        exact ⟨rfl, HBX.out⟩
      · have q0 : v0 = .iface 38 (.int .i64 X0) := by rw [HV0.out]; unfold errV; rw [if_neg z0]
        by_cases z1 : X1 = 0
        · have q1 : v1 = .nilIface := by rw [HV1.out, z1]; rfl
          have q2 : v2 = .iface 38 (.int .i64 X2) := by rw [HV2.out]; unfold errV; rw [if_neg (l2 z0 z1)]
          clear l1 l2 l3 z0 z1 HV0 HV1 HV2 HR0 HR1 HR2 HLAW
          subst q0 q1 q2
          go_wp2
          go_ret
          exact ⟨rfl, HBX.out⟩
        · have z2 := l3 z0 z1
          have q1 : v1 = .iface 38 (.int .i64 X1) := by rw [HV1.out]; unfold errV; rw [if_neg z1]
          have q2 : v2 = .iface 38 (.int .i64 X2) := by rw [HV2.out]; unfold errV; rw [if_neg (by rw [← z2]; exact z1)]
          have HT := hide (HTD.out _ X1 X2 HBX.out)
          rw [← HV1.out, ← HV2.out, show (X1 == X2) = true by rw [z2]; exact beq_self_eq_true _] at HT
          clear l1 l2 l3 z0 z1 z2 HV0 HV1 HV2 HR0 HR1 HR2 HLAW
          subst q0 q1 q2
          go_wp2_with fail
          refine HT.out.mono ?_
          rintro e wZ ⟨rfl, hbZ⟩
          have HBZ := hide (HBX.out.trans (hbZ.mono HBX.out.size))
          clear hbZ
          go_wp2
          go_ret
          exact ⟨rfl, HBZ.out⟩
    · have hi1 : decide ((60 : Int) < (L.length : Int) + 2) = true := decide_eq_true (by omega)
      clear hlen
      generalize L.length = ll at *
      generalize KS.length = kl at *
      go_wp2_with fail
      refine HC1.out.mono ?_
      rintro e wB ⟨rfl, hbB⟩
      have HBB := hide (HBA.out.trans (hbB.mono HBA.out.size))
      clear hbB
      go_wp2
      go_ret
      exact ⟨rfl, HBB.out⟩
  · have hcv : errV c = .iface 38 (.int .i64 c) := by unfold errV; rw [if_neg hc0]
    rw [hcv] at HC1
    clear hcv hc0
    generalize L.length = ll at *
    generalize KS.length = kl at *
    go_wp2_with fail
    refine HC1.out.mono ?_
    rintro e wB ⟨rfl, hbB⟩
    have HBB := hide (HBA.out.trans (hbB.mono HBA.out.size))
    clear hbB
    go_wp2
    go_ret
    exact ⟨rfl, HBB.out⟩
end Go.Proofs.YtkdihbgjeanjdabDoor
