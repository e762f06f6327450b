/- The walk of LockIdle: what is put and taken is nothing. -/
import Derived.Test.YtkdihbgjeanjdabDoorLkFact
namespace Go.Proofs.YtkdihbgjeanjdabDoor
open Go.RowKit
set_option linter.unusedVariables false
set_option linter.unusedSimpArgs false

theorem below_step {wA W W' : World} (h : Below wA.heap.size wA W) (hb : Below W.heap.size W W') : Below wA.heap.size wA W' := h.trans (hb.mono h.size)

set_option maxRecDepth 100000 in
set_option maxHeartbeats 8000000 in
theorem lockIdle_walk (lv : Value) (L : List (Lk.Op × Value)) (kv : Value) (KS : List (List Int × Value)) (xv : Value) (x : List Int) (m : List Int) (h : Int) (w : World) (hl : HasOps w lv L) (hk : HasKeys w kv KS) (hkl24 : KS.length * 24 ≤ 140737488351232) (hx : Has w xv x) (hxb : Sz.Byt x) (hxl47 : x.length ≤ 140737488351232) (hm : m.length = 32) (hmb : Sz.Byt m) (ht : Tab w) (hw : 1 < w.heap.size) (hE : ErrVar w) :
    Calls Tryd.prog 4 #[lv, kv, xv, .agg (vals m).toArray, .int .i64 h] w fun e w' => e = .returned (.bool true) ∧ Below w.heap.size w w' := by
  clear hkl24 hxl47
  obtain ⟨la, lc, rfl⟩ : ∃ a c, lv = .slice a L.length c := by
    rcases hl.1 with ⟨a, cap, rfl, rfl⟩ | ⟨b, off, cap, rfl, _⟩
    · exact ⟨a, cap, rfl⟩
    · exact ⟨_, cap, rfl⟩
  have hLm := hl.length_le
  obtain ⟨ka, kc, rfl, _, hKm, _⟩ := hk.form
  obtain ⟨xa, xc, rfl, _, hXm⟩ := hx.shape
  unfold maxLen at hLm hKm hXm
  have hML : (vals m).length = 32 := by rw [vals_length]; exact hm
  have HML := hide hML
  have hb0 := below_alloc w (.cells (vals m).toArray 25)
  have HB0 := hide hb0
  have HOP := hide (opened_any _ (ht.below hb0 hw) (Nat.lt_of_lt_of_le hw hb0.size) (hE.below hb0))
  have HIS := hide (Is.new w (vals m) 25)
  have hszM : (Tryd.prog.info? 25).map (·.size) = some (vals m).length := by rw [hML]; exact size_dig
  have HCK : Hid (∀ W, Below w.heap.size w W → Calls Tryd.prog 7 #[.slice la L.length lc] W fun e w' => e = .returned (errV (Lk.check (opsOf L))) ∧ Below W.heap.size W w') := fun W hW => check_any _ L W (hl.below hW)
  have HRUN : Hid (∀ W ov O, Below w.heap.size w W → HasOps W ov O → Calls Tryd.prog 8 #[ov, .slice ka KS.length kc, .agg (vals m).toArray, .int .i64 h] W fun e w' => e = .returned (errV (Lk.run m h (opsOf O) (KS.map Prod.fst))) ∧ Below W.heap.size W w') := fun W ov O hW hO => run_any O KS ov _ m h W hO (hk.below hW) hm hmb (ht.below hW hw) (Nat.lt_of_lt_of_le hw hW.size)
  have HTD : Hid (∀ W a b, Below w.heap.size w W → Calls Tryd.prog 9 #[errV a, errV b] W fun e w' => e = .returned (.bool (a == b)) ∧ Below W.heap.size W w') := fun W a b hW => toldE_any a b W (hE.below hW)
  have HL := hide hl
  have HX := hide hx
  have HXB := hide hxb
  have HKL : Hid ((KS.map Prod.fst).length = KS.length) := hide (List.length_map _)
  clear hl hk hx hxb hm hmb ht hw hE hML hb0
  generalize vals m = M at *
  obtain ⟨c, hc⟩ : ∃ c, c = Lk.check (opsOf L) := ⟨_, rfl⟩
  rw [← hc] at HCK
  have HC := hide hc
  clear hc
  have HLL := hide (opsOf_length L)
  go_enter Tryd.func4, Tryd.ntmps4
  go_wp2_with fail
  refine HOP.out.mono ?_
  rintro e wA ⟨rfl, hbA⟩
  have HIA := hide (HIS.out.below hbA (by simp))
  have HBA := hide (HB0.out.trans (hbA.mono (by simp)))
  clear hbA
  have HC1 := hide (HCK.out _ HBA.out)
  by_cases hc0 : c = 0
  · subst hc0
    have e0 : errV 0 = .nilIface := rfl
    rw [e0] at HC1
    clear e0
    have hl60 : L.length ≤ 60 := by have := ((Lk.check_zero _).1 HC.out.symm).1; rw [HLL.out] at this; exact this
    by_cases hlen : L.length + 2 ≤ 60 ∧ KS.length < 30 ∧ x.length ≤ 300
    · obtain ⟨hl1, hl2, hl3⟩ := hlen
      have HX1 : Hid (Lk.run m h (opsOf ((⟨1, 0, x⟩, .slice xa x.length xc) :: (⟨3, 0, []⟩, .slice none 0 0) :: L)) (KS.map Prod.fst) = Lk.run m h (opsOf L) (KS.map Prod.fst)) := hide (Lk.law_push m h (opsOf L) (KS.map Prod.fst) x HC.out.symm (by rw [HLL.out]; exact hl1) (by rw [HKL.out]; exact hl2) hl3)
      have HX2 : KS.length ≠ 0 → Hid (Lk.run m h (opsOf ((⟨2, 0, []⟩, .slice none 0 0) :: (⟨3, 0, []⟩, .slice none 0 0) :: L)) (KS.map Prod.fst) = Lk.run m h (opsOf L) (KS.map Prod.fst)) := fun h0 => hide (Lk.law_dup m h (opsOf L) (KS.map Prod.fst) HC.out.symm (by rw [HLL.out]; exact hl1) (by rw [HKL.out]; exact hl2) (by rw [HKL.out]; exact h0))
      have hi1 : ¬ (60 : Int) < (L.length : Int) + 2 := by omega
      have hi2 : ¬ (30 : Int) ≤ (KS.length : Int) := by omega
      have hi3 : ¬ (300 : Int) < (x.length : Int) := by omega
      obtain ⟨X, hX⟩ : ∃ X, X = Lk.run m h (opsOf L) (KS.map Prod.fst) := ⟨_, rfl⟩
      have HXE := hide hX
      clear hX
      generalize hll : L.length = ll at *
      generalize hkl : KS.length = kl at *
      generalize hxl : x.length = xl at *
      have HL1 := hide hll
      have HL3 := hide hxl
      clear hll hkl hxl
      go_wp2_with fail
      refine HC1.out.mono ?_
      rintro e wB ⟨rfl, hbB⟩
      have HIB := hide (HIA.out.below hbB HIA.out.lt)
      have HBB := hide (HBA.out.trans (hbB.mono HBA.out.size))
      clear hbB
      have HR0 := hide (HRUN.out wB (.slice la ll lc) L HBB.out (HL.out.below HBB.out))
      rw [← HXE.out] at HR0
      go_wp2_with (first
        | (refine wpList_load_arr2 25 M w.heap.size rfl (.tmp 8) rfl rfl HIB.out Tryd.underlying25 size_dig HML.out ?_)
        | (go_at_call 8; refine HR0.out.mono ?_; rintro e wC ⟨rfl, hbC⟩))
      have HIC := hide (HIB.out.below hbC HIB.out.lt)
      have HBC := hide (HBB.out.trans (hbC.mono HBB.out.size))
      clear hbC
      have HR1 : Hid (∀ W v, Below wC.heap.size wC W → OwnOps W wC.heap.size v ([((⟨1, 0, x⟩ : Lk.Op), Value.slice xa xl xc), (⟨3, 0, []⟩, .slice none 0 0)] ++ L) → Calls Tryd.prog 8 #[v, .slice ka kl kc, .agg M.toArray, .int .i64 h] W fun e w' => e = .returned (errV X) ∧ Below W.heap.size W w') := hide (fun W v hW hO => by
        have hbw := HBC.out.trans (hW.mono HBC.out.size)
        have := HRUN.out W v ([((⟨1, 0, x⟩ : Lk.Op), Value.slice xa xl xc), (⟨3, 0, []⟩, .slice none 0 0)] ++ L) hbw (hO.hasOps (fun p hp => by
          rcases List.mem_append.1 hp with hp | hp
          · simp only [List.mem_cons, List.not_mem_nil, or_false] at hp
            rcases hp with rfl | rfl
            · exact ⟨HX.out.below hbw, HXB.out⟩
            · exact ⟨.inl ⟨none, 0, rfl, rfl, by unfold maxLen; omega, fun _ => rfl⟩, Sz.Byt.nil⟩
          · exact (HL.out.below hbw).2 p hp))
        rw [show opsOf ([((⟨1, 0, x⟩ : Lk.Op), Value.slice xa xl xc), (⟨3, 0, []⟩, .slice none 0 0)] ++ L) = opsOf (((⟨1, 0, x⟩ : Lk.Op), Value.slice xa xl xc) :: (⟨3, 0, []⟩, .slice none 0 0) :: L) from rfl, HX1.out, ← HXE.out] at this
        exact this)
      refine wp_region_held_drew (S := fun W : World => Below wC.heap.size wC W) (by kernel_rfl) ?_ (fun hHeld0 => ?_)
      · exact (Below.refl _ _).drew
      refine wpAnyH_take (i := 0) (v := ?_) rfl (by kernel_rfl) (by kernel_rfl) (by kernel_rfl) (fun _ _ _ h => h) (Or.inl ⟨by rfl, ?_⟩) hHeld0 ?_
      rotate_left
      · (intro w hSw; (try dsimp only at hSw); go_simp <;> (try with_reducible rfl))
      simp only [Act.put, List.getElem_toArray, List.getElem_cons_zero, List.getElem_cons_succ, List.setIfInBounds_toArray, List.set_cons_zero, List.set_cons_succ]
      refine wpAnyH_take (i := 1) (v := ?_) rfl (by kernel_rfl) (by kernel_rfl) (by kernel_rfl) (fun _ _ _ h => h) (Or.inl ⟨by rfl, ?_⟩) hHeld0 ?_
      rotate_left
      · (intro w hSw; (try dsimp only at hSw); go_simp <;> (try with_reducible rfl))
      simp only [Act.put, List.getElem_toArray, List.getElem_cons_zero, List.getElem_cons_succ, List.setIfInBounds_toArray, List.set_cons_zero, List.set_cons_succ]
      refine wpAnyH_take (i := 2) (v := ?_) rfl (by kernel_rfl) (by kernel_rfl) (by kernel_rfl) (fun _ _ _ h => h) (Or.inl ⟨by rfl, ?_⟩) hHeld0 ?_
      rotate_left
      · (intro w hSw; (try dsimp only at hSw); go_simp <;> (try with_reducible rfl))
      simp only [Act.put, List.getElem_toArray, List.getElem_cons_zero, List.getElem_cons_succ, List.setIfInBounds_toArray, List.set_cons_zero, List.set_cons_succ]
      refine wpAnyH_take (i := 4) (v := ?_) rfl (by kernel_rfl) (by kernel_rfl) (by kernel_rfl) (fun _ _ _ h => h) (Or.inl ⟨by rfl, ?_⟩) hHeld0 ?_
      rotate_left
      · (intro w hSw; (try dsimp only at hSw); go_simp <;> (try with_reducible rfl))
      simp only [Act.put, List.getElem_toArray, List.getElem_cons_zero, List.getElem_cons_succ, List.setIfInBounds_toArray, List.set_cons_zero, List.set_cons_succ]
      refine wpAnyH_take (i := 6) (v := ?_) rfl (by kernel_rfl) (by kernel_rfl) (by kernel_rfl) (fun _ _ _ h => h) (Or.inl ⟨by rfl, ?_⟩) hHeld0 ?_
      rotate_left
      · (intro w hSw; (try dsimp only at hSw); go_simp <;> (try with_reducible rfl))
      simp only [Act.put, List.getElem_toArray, List.getElem_cons_zero, List.getElem_cons_succ, List.setIfInBounds_toArray, List.set_cons_zero, List.set_cons_succ]
      refine wpAnyH_take (i := 7) (v := .agg (M).toArray) rfl (by kernel_rfl) (by kernel_rfl) (by kernel_rfl) (fun _ _ _ h => h) (yieldsIf_load_mid (by rfl) _ _ rfl _ _ rfl (M) _ (fun w hSw => range_below HIC.out.range hSw) Tryd.underlying25 rfl hszM) hHeld0 ?_
      simp only [Act.put, List.getElem_toArray, List.getElem_cons_zero, List.getElem_cons_succ, List.setIfInBounds_toArray, List.set_cons_zero, List.set_cons_succ]
      refine wpAnyH_take (i := 8) (v := ?_) rfl (by kernel_rfl) (by kernel_rfl) (by kernel_rfl) (fun _ _ _ h => h) (Or.inl ⟨by rfl, ?_⟩) hHeld0 ?_
      rotate_left
      · (intro w hSw; (try dsimp only at hSw); go_simp <;> (try with_reducible rfl))
      simp only [Act.put, List.getElem_toArray, List.getElem_cons_zero, List.getElem_cons_succ, List.setIfInBounds_toArray, List.set_cons_zero, List.set_cons_succ]
      refine wpAnyH_ready (rs := [3]) (by kernel_rfl) (by simp) ?_
      refine AllReadyH.cons rfl (fun K hK => ?_) AllReadyH.nil
      go_simp
      refine hK.out _ _ (by exact ((Below.refl _ _).alloc (Nat.le_refl _) _).drew) (fun hHeld1 => ?_)
      clear hK K hHeld0
      try simp only [Act.put, List.getElem_toArray, List.getElem_cons_zero, List.getElem_cons_succ, List.setIfInBounds_toArray, List.set_cons_zero, List.set_cons_succ]
      refine wpAnyH_ready (rs := [5]) (by kernel_rfl) (by simp) ?_
      refine AllReadyH.cons rfl (fun K hK => ?_) AllReadyH.nil
      refine step_append_of (AppOps wC _ wC.heap.size _ ([((⟨1, 0, x⟩ : Lk.Op), Value.slice xa xl xc), (⟨3, 0, []⟩, .slice none 0 0)] ++ L)) rfl (.tmp 46) (.tmp 47) rfl _ _ rfl rfl (fun ty => run_append_ops wC _ wC.heap.size _ _ ([((⟨1, 0, x⟩ : Lk.Op), Value.slice xa xl xc), (⟨3, 0, []⟩, .slice none 0 0)]) L (Nat.le_refl _) hHeld1 hHeld1.size (OwnOps.lit wC wC.heap.size ([((⟨1, 0, x⟩ : Lk.Op), Value.slice xa xl xc), (⟨3, 0, []⟩, .slice none 0 0)]) (Nat.le_refl _) (by simp) _ rfl) (HL.out.below (HBC.out.trans (hHeld1.mono HBC.out.size))).src HL.out.formed (by have := HL1.out; simp; omega) ty) ?_
      intro va1 wa1 ha1
      refine hK.out _ _ (by exact ha1.2.1) (fun hHeld2 => ?_)
      clear hK K hHeld1
      try simp only [Act.put, List.getElem_toArray, List.getElem_cons_zero, List.getElem_cons_succ, List.setIfInBounds_toArray, List.set_cons_zero, List.set_cons_succ]
      refine wpAnyH_ready (rs := [9]) (by kernel_rfl) (by simp) ?_
      refine AllReadyH.cons rfl (fun K hK => ?_) AllReadyH.nil
      go_simp
      go_wp2_with ((go_at_call 8; refine (HR1.out _ _ hHeld2 ha1.1).mono ?_; rintro e wx1 ⟨rfl, hbx1⟩))
      refine hK.out _ _ (by exact below_step hHeld2 hbx1) (fun hHeld3 => ?_)
      clear hK K hHeld2
      try simp only [Act.put, List.getElem_toArray, List.getElem_cons_zero, List.getElem_cons_succ, List.setIfInBounds_toArray, List.set_cons_zero, List.set_cons_succ]
      refine wpAnyH_take (i := 10) (v := ?_) rfl (by kernel_rfl) (by kernel_rfl) (by kernel_rfl) (fun _ _ _ h => h) (Or.inl ⟨by rfl, ?_⟩) hHeld3 ?_
      rotate_left
      · (intro w hSw; (try dsimp only at hSw); go_simp <;> (try with_reducible rfl))
      simp only [Act.put, List.getElem_toArray, List.getElem_cons_zero, List.getElem_cons_succ, List.setIfInBounds_toArray, List.set_cons_zero, List.set_cons_succ]
      refine wpAnyH_done (by kernel_rfl) ?_ _
      have HID := hide (HIC.out.below hHeld3 HIC.out.lt)
      have HBD := hide (HBC.out.trans (hHeld3.mono HBC.out.size))
      have HT1 := hide (HTD.out _ X X HBD.out)
      rw [beq_self_eq_true] at HT1
      obtain ⟨vX, hvX⟩ : ∃ vX, vX = errV X := ⟨_, rfl⟩
      rw [← hvX] at HT1 ⊢
      have HVX := hide hvX
      clear hvX HR1
      go_wp2_with fail
      refine HT1.out.mono ?_
      rintro e wE ⟨rfl, hbE⟩
      have HIE := hide (HID.out.below hbE HID.out.lt)
      have HBE := hide (HBD.out.trans (hbE.mono HBD.out.size))
      clear hbE
      by_cases hk0 : kl = 0
      · subst hk0
        go_wp2
        go_ret
        exact ⟨rfl, HBE.out⟩
      · have hk0' : ((kl : Int) == 0) = false := by rw [beq_eq_false_iff_ne]; omega
        have HX2' := HX2 hk0
        clear HX2 hk0
        have HR2 : Hid (∀ W v, Below wE.heap.size wE W → OwnOps W wE.heap.size v ([((⟨2, 0, []⟩ : Lk.Op), Value.slice none 0 0), (⟨3, 0, []⟩, .slice none 0 0)] ++ L) → Calls Tryd.prog 8 #[v, .slice ka kl kc, .agg M.toArray, .int .i64 h] W fun e w' => e = .returned (errV X) ∧ Below W.heap.size W w') := hide (fun W v hW hO => by
          have hbw := HBE.out.trans (hW.mono HBE.out.size)
          have := HRUN.out W v ([((⟨2, 0, []⟩ : Lk.Op), Value.slice none 0 0), (⟨3, 0, []⟩, .slice none 0 0)] ++ L) hbw (hO.hasOps (fun p hp => by
            rcases List.mem_append.1 hp with hp | hp
            · simp only [List.mem_cons, List.not_mem_nil, or_false] at hp
              rcases hp with rfl | rfl
              · exact ⟨.inl ⟨none, 0, rfl, rfl, by unfold maxLen; omega, fun _ => rfl⟩, Sz.Byt.nil⟩
              · exact ⟨.inl ⟨none, 0, rfl, rfl, by unfold maxLen; omega, fun _ => rfl⟩, Sz.Byt.nil⟩
            · exact (HL.out.below hbw).2 p hp))
          rw [show opsOf ([((⟨2, 0, []⟩ : Lk.Op), Value.slice none 0 0), (⟨3, 0, []⟩, .slice none 0 0)] ++ L) = opsOf (((⟨2, 0, []⟩ : Lk.Op), Value.slice none 0 0) :: (⟨3, 0, []⟩, .slice none 0 0) :: L) from rfl, HX2'.out, ← HXE.out] at this
          exact this)
        rw [← HVX.out] at HR2
        go_wp2
        refine wp_region_held_drew (S := fun W : World => Below wE.heap.size wE W) (by kernel_rfl) ?_ (fun hHeld0 => ?_)
        · exact (Below.refl _ _).drew
        refine wpAnyH_take (i := 0) (v := ?_) rfl (by kernel_rfl) (by kernel_rfl) (by kernel_rfl) (fun _ _ _ h => h) (Or.inl ⟨by rfl, ?_⟩) hHeld0 ?_
        rotate_left
        · (intro w hSw; (try dsimp only at hSw); go_simp <;> (try with_reducible rfl))
        simp only [Act.put, List.getElem_toArray, List.getElem_cons_zero, List.getElem_cons_succ, List.setIfInBounds_toArray, List.set_cons_zero, List.set_cons_succ]
        refine wpAnyH_take (i := 1) (v := ?_) rfl (by kernel_rfl) (by kernel_rfl) (by kernel_rfl) (fun _ _ _ h => h) (Or.inl ⟨by rfl, ?_⟩) hHeld0 ?_
        rotate_left
        · (intro w hSw; (try dsimp only at hSw); go_simp <;> (try with_reducible rfl))
        simp only [Act.put, List.getElem_toArray, List.getElem_cons_zero, List.getElem_cons_succ, List.setIfInBounds_toArray, List.set_cons_zero, List.set_cons_succ]
        refine wpAnyH_take (i := 3) (v := ?_) rfl (by kernel_rfl) (by kernel_rfl) (by kernel_rfl) (fun _ _ _ h => h) (Or.inl ⟨by rfl, ?_⟩) hHeld0 ?_
        rotate_left
        · (intro w hSw; (try dsimp only at hSw); go_simp <;> (try with_reducible rfl))
        simp only [Act.put, List.getElem_toArray, List.getElem_cons_zero, List.getElem_cons_succ, List.setIfInBounds_toArray, List.set_cons_zero, List.set_cons_succ]
        refine wpAnyH_take (i := 5) (v := ?_) rfl (by kernel_rfl) (by kernel_rfl) (by kernel_rfl) (fun _ _ _ h => h) (Or.inl ⟨by rfl, ?_⟩) hHeld0 ?_
        rotate_left
        · (intro w hSw; (try dsimp only at hSw); go_simp <;> (try with_reducible rfl))
        simp only [Act.put, List.getElem_toArray, List.getElem_cons_zero, List.getElem_cons_succ, List.setIfInBounds_toArray, List.set_cons_zero, List.set_cons_succ]
        refine wpAnyH_take (i := 6) (v := .agg (M).toArray) rfl (by kernel_rfl) (by kernel_rfl) (by kernel_rfl) (fun _ _ _ h => h) (yieldsIf_load_mid (by rfl) _ _ rfl _ _ rfl (M) _ (fun w hSw => range_below HIE.out.range hSw) Tryd.underlying25 rfl hszM) hHeld0 ?_
        simp only [Act.put, List.getElem_toArray, List.getElem_cons_zero, List.getElem_cons_succ, List.setIfInBounds_toArray, List.set_cons_zero, List.set_cons_succ]
        refine wpAnyH_take (i := 7) (v := ?_) rfl (by kernel_rfl) (by kernel_rfl) (by kernel_rfl) (fun _ _ _ h => h) (Or.inl ⟨by rfl, ?_⟩) hHeld0 ?_
        rotate_left
        · (intro w hSw; (try dsimp only at hSw); go_simp <;> (try with_reducible rfl))
        simp only [Act.put, List.getElem_toArray, List.getElem_cons_zero, List.getElem_cons_succ, List.setIfInBounds_toArray, List.set_cons_zero, List.set_cons_succ]
        refine wpAnyH_ready (rs := [2]) (by kernel_rfl) (by simp) ?_
        refine AllReadyH.cons rfl (fun K hK => ?_) AllReadyH.nil
        go_simp
        refine hK.out _ _ (by exact ((Below.refl _ _).alloc (Nat.le_refl _) _).drew) (fun hHeld1 => ?_)
        clear hK K hHeld0
        try simp only [Act.put, List.getElem_toArray, List.getElem_cons_zero, List.getElem_cons_succ, List.setIfInBounds_toArray, List.set_cons_zero, List.set_cons_succ]
        refine wpAnyH_ready (rs := [4]) (by kernel_rfl) (by simp) ?_
        refine AllReadyH.cons rfl (fun K hK => ?_) AllReadyH.nil
        refine step_append_of (AppOps wE _ wE.heap.size _ ([((⟨2, 0, []⟩ : Lk.Op), Value.slice none 0 0), (⟨3, 0, []⟩, .slice none 0 0)] ++ L)) rfl (.tmp 66) (.tmp 67) rfl _ _ rfl rfl (fun ty => run_append_ops wE _ wE.heap.size _ _ ([((⟨2, 0, []⟩ : Lk.Op), Value.slice none 0 0), (⟨3, 0, []⟩, .slice none 0 0)]) L (Nat.le_refl _) hHeld1 hHeld1.size (OwnOps.lit wE wE.heap.size ([((⟨2, 0, []⟩ : Lk.Op), Value.slice none 0 0), (⟨3, 0, []⟩, .slice none 0 0)]) (Nat.le_refl _) (by simp) _ rfl) (HL.out.below (HBE.out.trans (hHeld1.mono HBE.out.size))).src HL.out.formed (by have := HL1.out; simp; omega) ty) ?_
        intro va2 wa2 ha2
        refine hK.out _ _ (by exact ha2.2.1) (fun hHeld2 => ?_)
        clear hK K hHeld1
        try simp only [Act.put, List.getElem_toArray, List.getElem_cons_zero, List.getElem_cons_succ, List.setIfInBounds_toArray, List.set_cons_zero, List.set_cons_succ]
        refine wpAnyH_ready (rs := [8]) (by kernel_rfl) (by simp) ?_
        refine AllReadyH.cons rfl (fun K hK => ?_) AllReadyH.nil
        go_simp
        go_wp2_with ((go_at_call 8; refine (HR2.out _ _ hHeld2 ha2.1).mono ?_; rintro e wx2 ⟨rfl, hbx2⟩))
        refine hK.out _ _ (by exact below_step hHeld2 hbx2) (fun hHeld3 => ?_)
        clear hK K hHeld2
        try simp only [Act.put, List.getElem_toArray, List.getElem_cons_zero, List.getElem_cons_succ, List.setIfInBounds_toArray, List.set_cons_zero, List.set_cons_succ]
        refine wpAnyH_take (i := 9) (v := ?_) rfl (by kernel_rfl) (by kernel_rfl) (by kernel_rfl) (fun _ _ _ h => h) (Or.inl ⟨by rfl, ?_⟩) hHeld3 ?_
        rotate_left
        · (intro w hSw; (try dsimp only at hSw); go_simp <;> (try with_reducible rfl))
        simp only [Act.put, List.getElem_toArray, List.getElem_cons_zero, List.getElem_cons_succ, List.setIfInBounds_toArray, List.set_cons_zero, List.set_cons_succ]
        refine wpAnyH_done (by kernel_rfl) ?_ _
        have HBF := hide (HBE.out.trans (hHeld3.mono HBE.out.size))
        have HT2 := hide (HTD.out _ X X HBF.out)
        rw [beq_self_eq_true, ← HVX.out] at HT2
        go_wp2_with fail
        refine HT2.out.mono ?_
        rintro e wG ⟨rfl, hbG⟩
        have HBG := hide (HBF.out.trans (hbG.mono HBF.out.size))
        clear hbG
        go_wp2
        go_ret
        exact ⟨rfl, HBG.out⟩
      
    · have hcs : ¬ L.length + 2 ≤ 60 ∨ (L.length + 2 ≤ 60 ∧ ¬ KS.length < 30) ∨ (L.length + 2 ≤ 60 ∧ KS.length < 30 ∧ ¬ x.length ≤ 300) := by omega
      clear hlen
      rcases hcs with a1 | ⟨a1, a2⟩ | ⟨a1, a2, a3⟩
      · have hi1 : decide ((60 : Int) < (L.length : Int) + 2) = true := decide_eq_true (by omega)
        clear a1
        generalize L.length = ll at *
        generalize KS.length = kl at *
        generalize x.length = xl at *
        go_wp2_with fail
        refine HC1.out.mono ?_
        rintro e wB ⟨rfl, hbB⟩
        have HBB := hide (HBA.out.trans (hbB.mono HBA.out.size))
        clear hbB
        go_wp2
        go_ret
        exact ⟨rfl, HBB.out⟩
      · have hi1 : decide ((60 : Int) < (L.length : Int) + 2) = false := decide_eq_false (by omega)
        have hi2 : decide ((30 : Int) ≤ (KS.length : Int)) = true := decide_eq_true (by omega)
        clear a1 a2
        generalize L.length = ll at *
        generalize KS.length = kl at *
        generalize x.length = xl at *
        go_wp2_with fail
        refine HC1.out.mono ?_
        rintro e wB ⟨rfl, hbB⟩
        have HBB := hide (HBA.out.trans (hbB.mono HBA.out.size))
        clear hbB
        go_wp2
        go_ret
        exact ⟨rfl, HBB.out⟩
      · have hi1 : decide ((60 : Int) < (L.length : Int) + 2) = false := decide_eq_false (by omega)
        have hi2 : decide ((30 : Int) ≤ (KS.length : Int)) = false := decide_eq_false (by omega)
        have hi3 : decide ((300 : Int) < (x.length : Int)) = true := decide_eq_true (by omega)
        clear a1 a2 a3
        generalize L.length = ll at *
        generalize KS.length = kl at *
        generalize x.length = xl at *
        go_wp2_with fail
        refine HC1.out.mono ?_
        rintro e wB ⟨rfl, hbB⟩
        have HBB := hide (HBA.out.trans (hbB.mono HBA.out.size))
        clear hbB
        go_wp2
        go_ret
        exact ⟨rfl, HBB.out⟩
  · have hcv : errV c = .iface 38 (.int .i64 c) := by unfold errV; rw [if_neg hc0]
    rw [hcv] at HC1
    clear hcv hc0
    generalize L.length = ll at *
    generalize KS.length = kl at *
    generalize x.length = xl at *
    go_wp2_with fail
    refine HC1.out.mono ?_
    rintro e wB ⟨rfl, hbB⟩
    have HBB := hide (HBA.out.trans (hbB.mono HBA.out.size))
    clear hbB
    go_wp2
    go_ret
    exact ⟨rfl, HBB.out⟩
end Go.Proofs.YtkdihbgjeanjdabDoor
