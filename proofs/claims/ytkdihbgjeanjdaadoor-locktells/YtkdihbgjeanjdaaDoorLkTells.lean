/- The walk of LockTells: any lock, any keys, any digest, any height. -/
import Derived.Test.YtkdihbgjeanjdaaDoorZRq
import Derived.Test.YtkdihbgjeanjdaaDoorLkFact
import Derived.Deep.RegionHeld2
namespace Go.Proofs.YtkdihbgjeanjdaaDoor
open Go.RowKit
set_option linter.unusedVariables false
set_option linter.unusedSimpArgs false

theorem tl_step {wA W W' : World} (h : Below wA.heap.size wA W) (hb : Below W.heap.size W W') : Below wA.heap.size wA W' := h.trans (hb.mono h.size)
set_option maxRecDepth 100000 in
set_option maxHeartbeats 4000000 in
theorem lockTells_walk (lv : Value) (L : List (Lk.Op × Value)) (kv : Value) (KS : List (List Int × Value)) (m : List Int) (h : Int) (w : World) (hl : HasOps w lv L) (hk : HasKeys w kv KS) (hkl24 : KS.length * 24 ≤ 140737488351232) (hm : m.length = 32) (hmb : Sz.Byt m) (ht : Tab w) (hw : 1 < w.heap.size) (hE : ErrVar w) :
    Calls Tryd.prog 3 #[lv, kv, .agg (vals m).toArray, .int .i64 h] w fun e w' => e = .returned (.bool true) ∧ Below w.heap.size w w' := by
  have hb0 := below_alloc w (.cells (vals m).toArray 25)
  have HB0 := hide hb0
  have HI0 := hide (Is.new w (vals m) 25)
  have HOP : Hid (∀ W, Below w.heap.size w W → Calls Tryd.prog 14 #[] W fun e w' => e = .returned (.bool true) ∧ Below W.heap.size W w') := hide (fun W hW => opened_any W (ht.below hW hw) (Nat.lt_of_lt_of_le hw hW.size) (hE.below hW))
  have HRU : Hid (∀ W, Below w.heap.size w W → Calls Tryd.prog 12 #[lv, kv, .agg (vals m).toArray, .int .i64 h] W fun e w' => e = .returned (errV (Lk.run m h (opsOf L) (KS.map Prod.fst))) ∧ Below W.heap.size W w') := hide (fun W hW => run_any L KS lv kv m h W (hl.below hW) (hk.below hW) hm hmb (ht.below hW hw) (Nat.lt_of_lt_of_le hw hW.size))
  have HRO : Hid (∀ W, Below w.heap.size w W → Calls Tryd.prog 13 #[lv, kv, .agg (vals m).toArray, .int .i64 h] W fun e w' => e = .returned (.int .i64 (Lk.run m h (opsOf L) (KS.map Prod.fst))) ∧ Below W.heap.size W w') := hide (fun W hW => ropened_any L KS lv kv m h W (hl.below hW) (hk.below hW) hm hmb)
  have HCK := hide (check_any lv L _ (hl.below hb0))
  have HLF : Hid (∀ W, Below w.heap.size w W → Calls Tryd.prog 11 #[lv] W fun e w' => e = .returned (.int .i64 (Lk.check (opsOf L))) ∧ Below W.heap.size W w') := hide (fun W hW => rLockFault_any lv L W (hl.below hW))
  have HE : Hid (∀ W c, Below w.heap.size w W → Calls Tryd.prog 9 #[errV c, .int .i64 c] W fun e w' => e = .returned (.bool true) ∧ Below W.heap.size W w') := hide (fun W c hW => by
    have := error_any c c W (hE.below hW)
    rwa [show (c == c) = true from beq_self_eq_true c] at this)
  have hML : (vals m).length = 32 := by rw [vals_length]; exact hm
  have hszM : (Tryd.prog.info? 25).map (·.size) = some (vals m).length := by rw [hML]; exact size_dig
  clear hl hk hkl24 hm hmb ht hw hE hb0 hML
  generalize vals m = M at *
  have HSE : Hid (∀ W, Below w.heap.size w W → Calls Tryd.prog 9 #[errV (Lk.run m h (opsOf L) (KS.map Prod.fst)), .int .i64 (Lk.run m h (opsOf L) (KS.map Prod.fst))] W fun e w' => e = .returned (.bool true) ∧ Below W.heap.size W w') := hide (fun W hW => HE.out W _ hW)
  have HSC : Hid (∀ W, Below w.heap.size w W → Calls Tryd.prog 9 #[errV (Lk.check (opsOf L)), .int .i64 (Lk.check (opsOf L))] W fun e w' => e = .returned (.bool true) ∧ Below W.heap.size W w') := hide (fun W hW => HE.out W _ hW)
  generalize errV (Lk.run m h (opsOf L) (KS.map Prod.fst)) = rv at *
  generalize Lk.run m h (opsOf L) (KS.map Prod.fst) = r at *
  generalize errV (Lk.check (opsOf L)) = cv at *
  generalize Lk.check (opsOf L) = c at *
  clear HE
  go_enter Tryd.func3, Tryd.ntmps3
  go_wp2_with fail
  refine HCK.out.mono ?_
  rintro e w1 ⟨rfl, hb1⟩
  have HB1 := hide (HB0.out.trans (hb1.mono (by simp)))
  have HI1 := hide (HI0.out.below hb1 (by simp))
  have HLF1 := hide (HLF.out _ HB1.out)
  clear hb1
  go_wp2_with fail
  refine HLF1.out.mono ?_
  rintro e w2 ⟨rfl, hb2⟩
  have HB2 := hide (HB1.out.trans (hb2.mono HB1.out.size))
  have HI2 := hide (HI1.out.below hb2 HI1.out.lt)
  have HSC2 := hide (HSC.out _ HB2.out)
  clear hb2
  go_wp2_with fail
  refine HSC2.out.mono ?_
  rintro e wA ⟨rfl, hbA⟩
  have HBA := hide (HB2.out.trans (hbA.mono HB2.out.size))
  have HIA := hide (HI2.out.below hbA HI2.out.lt)
  clear hbA
  go_wp2
  refine wp_region_held_drew (S := fun W : World => Below wA.heap.size wA W) (by kernel_rfl) ?_ (fun hHeld0 => ?_)
  · exact (Below.refl _ _).drew
  refine wpAnyH_take (i := 0) (v := ?_) rfl (by kernel_rfl) (by kernel_rfl) (by kernel_rfl) (fun _ _ _ h => h) (Or.inl ⟨by rfl, ?_⟩) hHeld0 ?_
  rotate_left
  · (intro w hSw; (try dsimp only at hSw); go_simp <;> (try with_reducible rfl))
  simp only [Act.put, List.getElem_toArray, List.getElem_cons_zero, List.getElem_cons_succ, List.setIfInBounds_toArray, List.set_cons_zero, List.set_cons_succ]
  refine wpAnyH_take (i := 1) (v := ?_) rfl (by kernel_rfl) (by kernel_rfl) (by kernel_rfl) (fun _ _ _ h => h) (Or.inl ⟨by rfl, ?_⟩) hHeld0 ?_
  rotate_left
  · (intro w hSw; (try dsimp only at hSw); go_simp <;> (try with_reducible rfl))
  simp only [Act.put, List.getElem_toArray, List.getElem_cons_zero, List.getElem_cons_succ, List.setIfInBounds_toArray, List.set_cons_zero, List.set_cons_succ]
  refine wpAnyH_take (i := 2) (v := .agg (M).toArray) rfl (by kernel_rfl) (by kernel_rfl) (by kernel_rfl) (fun _ _ _ h => h) (yieldsIf_load_mid (by rfl) _ _ rfl _ _ rfl (M) _ (fun w hSw => range_below HIA.out.range hSw) Tryd.underlying25 rfl hszM) hHeld0 ?_
  simp only [Act.put, List.getElem_toArray, List.getElem_cons_zero, List.getElem_cons_succ, List.setIfInBounds_toArray, List.set_cons_zero, List.set_cons_succ]
  refine wpAnyH_take (i := 3) (v := ?_) rfl (by kernel_rfl) (by kernel_rfl) (by kernel_rfl) (fun _ _ _ h => h) (Or.inl ⟨by rfl, ?_⟩) hHeld0 ?_
  rotate_left
  · (intro w hSw; (try dsimp only at hSw); go_simp <;> (try with_reducible rfl))
  simp only [Act.put, List.getElem_toArray, List.getElem_cons_zero, List.getElem_cons_succ, List.setIfInBounds_toArray, List.set_cons_zero, List.set_cons_succ]
  refine wpAnyH_take (i := 5) (v := ?_) rfl (by kernel_rfl) (by kernel_rfl) (by kernel_rfl) (fun _ _ _ h => h) (Or.inl ⟨by rfl, ?_⟩) hHeld0 ?_
  rotate_left
  · (intro w hSw; (try dsimp only at hSw); go_simp <;> (try with_reducible rfl))
  simp only [Act.put, List.getElem_toArray, List.getElem_cons_zero, List.getElem_cons_succ, List.setIfInBounds_toArray, List.set_cons_zero, List.set_cons_succ]
  refine wpAnyH_take (i := 6) (v := ?_) rfl (by kernel_rfl) (by kernel_rfl) (by kernel_rfl) (fun _ _ _ h => h) (Or.inl ⟨by rfl, ?_⟩) hHeld0 ?_
  rotate_left
  · (intro w hSw; (try dsimp only at hSw); go_simp <;> (try with_reducible rfl))
  simp only [Act.put, List.getElem_toArray, List.getElem_cons_zero, List.getElem_cons_succ, List.setIfInBounds_toArray, List.set_cons_zero, List.set_cons_succ]
  refine wpAnyH_take (i := 7) (v := .agg (M).toArray) rfl (by kernel_rfl) (by kernel_rfl) (by kernel_rfl) (fun _ _ _ h => h) (yieldsIf_load_mid (by rfl) _ _ rfl _ _ rfl (M) _ (fun w hSw => range_below HIA.out.range hSw) Tryd.underlying25 rfl hszM) hHeld0 ?_
  simp only [Act.put, List.getElem_toArray, List.getElem_cons_zero, List.getElem_cons_succ, List.setIfInBounds_toArray, List.set_cons_zero, List.set_cons_succ]
  refine wpAnyH_take (i := 8) (v := ?_) rfl (by kernel_rfl) (by kernel_rfl) (by kernel_rfl) (fun _ _ _ h => h) (Or.inl ⟨by rfl, ?_⟩) hHeld0 ?_
  rotate_left
  · (intro w hSw; (try dsimp only at hSw); go_simp <;> (try with_reducible rfl))
  simp only [Act.put, List.getElem_toArray, List.getElem_cons_zero, List.getElem_cons_succ, List.setIfInBounds_toArray, List.set_cons_zero, List.set_cons_succ]
  refine wpAnyH_ready (rs := [4]) (by kernel_rfl) (by simp) ?_
  refine AllReadyH.cons rfl (fun K hK => ?_) AllReadyH.nil
  go_simp
  go_wp2_with ((go_at_call 12; refine (HRU.out _ (HBA.out.trans (hHeld0.mono HBA.out.size))).mono ?_; rintro e W1 ⟨rfl, hb1⟩))
  refine hK.out _ _ (by exact tl_step hHeld0 hb1) (fun hHeld1 => ?_)
  clear hK K hHeld0
  try simp only [Act.put, List.getElem_toArray, List.getElem_cons_zero, List.getElem_cons_succ, List.setIfInBounds_toArray, List.set_cons_zero, List.set_cons_succ]
  refine wpAnyH_ready (rs := [9]) (by kernel_rfl) (by simp) ?_
  refine AllReadyH.cons rfl (fun K hK => ?_) AllReadyH.nil
  go_simp
  go_wp2_with ((go_at_call 13; refine (HRO.out _ (HBA.out.trans (hHeld1.mono HBA.out.size))).mono ?_; rintro e W2 ⟨rfl, hb2⟩))
  refine hK.out _ _ (by exact tl_step hHeld1 hb2) (fun hHeld2 => ?_)
  clear hK K hHeld1
  try simp only [Act.put, List.getElem_toArray, List.getElem_cons_zero, List.getElem_cons_succ, List.setIfInBounds_toArray, List.set_cons_zero, List.set_cons_succ]
  refine wpAnyH_ready (rs := [10]) (by kernel_rfl) (by simp) ?_
  refine AllReadyH.cons rfl (fun K hK => ?_) AllReadyH.nil
  go_simp
  go_wp2_with ((go_at_call 9; refine (HSE.out _ (HBA.out.trans (hHeld2.mono HBA.out.size))).mono ?_; rintro e W3 ⟨rfl, hb3⟩))
  refine hK.out _ _ (by exact tl_step hHeld2 hb3) (fun hHeld3 => ?_)
  clear hK K hHeld2
  try simp only [Act.put, List.getElem_toArray, List.getElem_cons_zero, List.getElem_cons_succ, List.setIfInBounds_toArray, List.set_cons_zero, List.set_cons_succ]
  refine wpAnyH_take (i := 11) (v := ?_) rfl (by kernel_rfl) (by kernel_rfl) (by kernel_rfl) (fun _ _ _ h => h) (Or.inl ⟨by rfl, ?_⟩) hHeld3 ?_
  rotate_left
  · (intro w hSw; (try dsimp only at hSw); go_simp <;> (try with_reducible rfl))
  simp only [Act.put, List.getElem_toArray, List.getElem_cons_zero, List.getElem_cons_succ, List.setIfInBounds_toArray, List.set_cons_zero, List.set_cons_succ]
  refine wpAnyH_done (by kernel_rfl) ?_ _
  have HBX := hide (HBA.out.trans (hHeld3.mono HBA.out.size))
  have HO := hide (HOP.out _ HBX.out)
  clear hHeld3
  go_wp2_with fail
  refine HO.out.mono ?_
  rintro e wZ ⟨rfl, hbZ⟩
  have HBZ := hide (HBX.out.trans (hbZ.mono HBX.out.size))
  clear hbZ
  go_wp2
  go_ret
  exact ⟨rfl, HBZ.out⟩
end Go.Proofs.YtkdihbgjeanjdaaDoor
