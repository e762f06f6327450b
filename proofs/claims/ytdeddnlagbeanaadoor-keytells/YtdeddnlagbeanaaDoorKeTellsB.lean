/- The walk of KeyTells: bytes that are no signature. -/
import Derived.Test.YtdeddnlagbeanaaDoorKeRec
import Derived.Test.YtdeddnlagbeanaaDoorKeSteps
import Derived.Test.YtdeddnlagbeanaaDoorRKey5
import Derived.Test.YtdeddnlagbeanaaDoorTold2
import Derived.Test.YtdeddnlagbeanaaDoorLoadG
namespace Go.Proofs.YtdeddnlagbeanaaDoor
open Go.RowKit
set_option linter.unusedVariables false
set_option linter.unusedSimpArgs false

theorem range_lt0 {w : World} {b off : Nat} {L : List Int} (h : w.rangeAt b off (vals L)) (h0 : 0 < L.length) : b < w.heap.size :=
  World.block_lt_of_cell? w _ (h 0 _ (vals_get L 0 h0))
theorem range_part0 {w w' : World} {b off B : Nat} {L : List Value} (h : w.rangeAt b off L) (hb : Below B w w') (hlt : b < B) : w'.rangeAt b off L := fun j v hv => by
  rw [hb.cell (p := ⟨b, off + j, none⟩) hlt]
  exact h j v hv
set_option maxRecDepth 100000 in
set_option maxHeartbeats 16000000 in
theorem ktells_bad (seed m : List Int) (sa : Option Addr) (sn cap : Nat) (z : Int) (w : World) (hs : seed.length = 32) (hsb : Sz.Byt seed) (hm : m.length = 32) (hmb : Sz.Byt m) (hsn : sn ≠ 2144) (hsm : sn ≤ 9223372036854775807) (ht : Tab w) (hw : 1 < w.heap.size) (he : ErrVar w) (hz : ¬ 1000 < z) :
    Calls Tryd.prog 3 #[.agg (vals seed).toArray, .agg (vals m).toArray, .slice sa sn cap, .int .i64 z] w fun e w' => e = .returned (.bool true) ∧ Below w.heap.size w w' := by
  have hdl := Ky.digits_length m
  have TW : ∀ {W : World}, Below w.heap.size w W → Tab W := fun hW => ht.below hW hw
  have TP : ∀ {W : World}, Below w.heap.size w W → 1 < W.heap.size := fun hW => Nat.lt_of_lt_of_le hw hW.size
  have HDI : Hid (∀ W, Calls Tryd.prog 8 #[.agg (vals m).toArray] W fun e w' => ∃ b, W.heap.size ≤ b ∧ e = .returned (.slice (some ⟨b, 0, none⟩) 67 67) ∧ Is w' b (ivals (Ky.digits m)) 47 ∧ Below W.heap.size W w') := fun W => digits_any m W hm hmb
  have HNI : Hid (∀ W, Calls Tryd.prog 9 #[.agg (vals m).toArray] W fun e w' => ∃ v, e = .returned v ∧ OwnN w' (W.heap.size + 1) v (Ky.digits m) ∧ Below W.heap.size W w') := fun W => rnibbles_any m W hm hmb
  have HIN : Hid (∀ W b1 b2 c2, W.rangeAt b1 0 (ivals (Ky.digits m)) → W.rangeAt b2 0 (ivals (Ky.digits m)) → b1 < W.heap.size → b2 < W.heap.size → Calls Tryd.prog 7 #[.slice (some ⟨b1, 0, none⟩) 67 67, .slice (some ⟨b2, 0, none⟩) 67 c2] W fun e w' => e = .returned (.bool true) ∧ Below W.heap.size W w') := fun W b1 b2 c2 h1 h2 h3 h4 => ints_same b1 0 67 b2 0 c2 67 _ W hdl h1 h2 h3 h4 (by omega)
  have HSI : Hid (∀ W, Below w.heap.size w W → Calls Tryd.prog 11 #[.agg (vals seed).toArray, .agg (vals m).toArray] W fun e w' => ∃ v, e = .returned v ∧ Own w' W.heap.size v (Ky.sign seed m) ∧ Below W.heap.size W w') := fun W hW => sign_any seed m W hs hsb hm hmb (TW hW) (TP hW)
  have HKS : Hid (∀ W, Calls Tryd.prog 12 #[.agg (vals seed).toArray, .agg (vals m).toArray] W fun e w' => ∃ v, e = .returned v ∧ Own w' W.heap.size v (Ky.sign seed m) ∧ Below W.heap.size W w') := fun W => rkeysigned_any seed m W hs hsb hm hmb
  have HBY : Hid (∀ W v1 v2, Has W v1 (Ky.sign seed m) → Has W v2 (Ky.sign seed m) → Calls Tryd.prog 10 #[v1, v2] W fun e w' => e = .returned (.bool true) ∧ Below W.heap.size W w') := fun W v1 v2 h1 h2 => by
    have := bytes_any v1 v2 _ _ W h1 h2
    rwa [show sameB (Ky.sign seed m) (Ky.sign seed m) = true by unfold sameB; simp] at this
  obtain ⟨P1, hP1⟩ : ∃ P1, P1 = Ky.pub seed := ⟨_, rfl⟩
  obtain ⟨P2, hP2⟩ : ∃ P2, P2 = Ky.pub seed := ⟨_, rfl⟩
  have HP1 : Hid (∀ W, Below w.heap.size w W → Calls Tryd.prog 13 #[.agg (vals seed).toArray] W fun e w' => e = .returned (.agg (vals P1).toArray) ∧ Below W.heap.size W w') := fun W hW => by rw [hP1]; exact public_any seed W hs hsb (TW hW) (TP hW)
  have HP2 : Hid (∀ W, Calls Tryd.prog 14 #[.agg (vals seed).toArray] W fun e w' => e = .returned (.agg (vals P2).toArray) ∧ Below W.heap.size W w') := fun W => by rw [hP2]; exact rpublic_any seed W hs hsb
  have heqP : ∀ w', (Op.equalIn 10000 23 (.agg (vals P1).toArray) (.agg (vals P2).toArray)).run Tryd.prog w' = .ok true w' := fun w' => dig_same _ _ (by rw [hP2]; exact Ky.pub_length seed) (by rw [hP1, hP2]) w'
  obtain ⟨A1, hA1⟩ : ∃ A1, A1 = Ky.steps m z.toNat := ⟨_, rfl⟩
  obtain ⟨A2, hA2⟩ : ∃ A2, A2 = Ky.steps m z.toNat := ⟨_, rfl⟩
  have HA1 : Hid (∀ W, Below w.heap.size w W → Calls Tryd.prog 15 #[.agg (vals m).toArray, .int .i64 z] W fun e w' => e = .returned (.agg (vals A1).toArray) ∧ Below W.heap.size W w') := fun W hW => by rw [hA1]; exact step_any m z W hm hmb (by omega) (TW hW) (TP hW)
  have HA2 : Hid (∀ W, Calls Tryd.prog 16 #[.agg (vals m).toArray, .int .i64 z] W fun e w' => e = .returned (.agg (vals A2).toArray) ∧ Below W.heap.size W w') := fun W => by rw [hA2]; exact rwalked_any m z W hm hmb (by omega)
  have heqA : ∀ w', (Op.equalIn 10000 23 (.agg (vals A1).toArray) (.agg (vals A2).toArray)).run Tryd.prog w' = .ok true w' := fun w' => dig_same _ _ (by rw [hA2]; exact Ky.steps_length _ hm _) (by rw [hA1, hA2]) w'
  obtain ⟨Z, hZ⟩ : ∃ Z : List Int, Z = List.replicate 32 0 := ⟨_, rfl⟩
  have hzd := zero_dig
  rw [← hZ] at hzd
  have hZl : Z.length = 32 := by rw [hZ]; rfl
  have hvz : ¬ vals Z = [] := by intro h; have : (vals Z).length = 0 := by rw [h]; rfl
                                 rw [vals_length, hZl] at this; cases this
  obtain ⟨R2, hR2⟩ : ∃ R2 : List Int, R2 = List.replicate 32 0 := ⟨_, rfl⟩
  have HR2 : Hid (∀ W, Calls Tryd.prog 18 #[.agg (vals m).toArray, .slice sa sn cap] W fun e w' => e = .returned (.tuple #[.agg (vals R2).toArray, .iface 32 (.int .i64 3)]) ∧ Below W.heap.size W w') := fun W => by rw [hR2]; exact recover_bad m sa sn cap W hsn hsm
  have HER : Hid (∀ W, Below w.heap.size w W → Calls Tryd.prog 19 #[.iface 32 (.int .i64 3), .int .i64 3] W fun e w' => e = .returned (.bool true) ∧ Below W.heap.size W w') := fun W hW => error_any 3 3 W (he.below hW)
  have hR2l : R2.length = 32 := by rw [hR2]; rfl
  have heqR : ∀ w', (Op.equalIn 10000 23 (.agg (vals R2).toArray) (.agg (vals Z).toArray)).run Tryd.prog w' = .ok true w' := fun w' => dig_same _ _ hZl (by rw [hR2, hZ]) w'
  have hsi : ¬ (sn : Int) = 2144 := by omega
  have hgd := guard_dig
  generalize Ky.sign seed m = R at *
  generalize Ky.digits m = G at *
  have HZL := hide hZl
  have HSL := hide hs
  have HML := hide hm
  have HGL := hide hdl
  have HR2L := hide hR2l
  have hszs : (Tryd.prog.info? 23).map (·.size) = some (vals seed).length := by rw [vals_length, hs]; exact size_dig
  have hszm : (Tryd.prog.info? 23).map (·.size) = some (vals m).length := by rw [vals_length, hm]; exact size_dig
  have HI0 := hide ((Is.new w (vals seed) 23).alloc (.cells (vals m).toArray 23))
  have HJ0 : Hid (Is ((w.alloc (.cells (vals seed).toArray 23)).alloc (.cells (vals m).toArray 23)) (w.heap.size + 1) (vals m) 23) := Is.new' _ 23 (by simp)
  have HB0 := hide (below_alloc2 w (.cells (vals seed).toArray 23) (.cells (vals m).toArray 23))
  have hS0 : ((w.alloc (.cells (vals seed).toArray 23)).alloc (.cells (vals m).toArray 23)).rangeAt w.heap.size 0 (vals seed) ∧ ((w.alloc (.cells (vals seed).toArray 23)).alloc (.cells (vals m).toArray 23)).rangeAt (w.heap.size + 1) 0 (vals m) ∧ Below w.heap.size w ((w.alloc (.cells (vals seed).toArray 23)).alloc (.cells (vals m).toArray 23)) := ⟨HI0.out.range, HJ0.out.range, HB0.out⟩
  have HS0 := hide hS0
  clear hR2 hR2l hsm hsn
  clear hP1 hP2 hA1 hA2 hZ hZl hs hsb hm hmb hdl ht he hS0 HI0 HJ0 HB0 TW TP
  go_enter Tryd.func3, Tryd.ntmps3
  go_wp2
  refine wp_region_held_drew (S := fun W : World => W.rangeAt w.heap.size 0 (vals seed) ∧ W.rangeAt (w.heap.size + 1) 0 (vals m) ∧ Below w.heap.size w W) (by kernel_rfl) ?_ (fun hHeld0 => ?_)
  · exact two_below HS0.out ((Below.refl _ _).drew)
  refine wpAnyH_take (i := 0) (v := .agg (vals m).toArray) rfl (by kernel_rfl) (by kernel_rfl) (by kernel_rfl) (fun _ _ _ h => h) (yieldsIf_load_mid (by rfl) _ _ rfl _ _ rfl (vals m) _ (fun w hSw => hSw.2.1) Tryd.underlying23 rfl hszm) hHeld0 ?_
  simp only [Act.put, List.getElem_toArray, List.getElem_cons_zero, List.getElem_cons_succ, List.setIfInBounds_toArray, List.set_cons_zero, List.set_cons_succ]
  refine wpAnyH_take (i := 2) (v := .agg (vals m).toArray) rfl (by kernel_rfl) (by kernel_rfl) (by kernel_rfl) (fun _ _ _ h => h) (yieldsIf_load_mid (by rfl) _ _ rfl _ _ rfl (vals m) _ (fun w hSw => hSw.2.1) Tryd.underlying23 rfl hszm) hHeld0 ?_
  simp only [Act.put, List.getElem_toArray, List.getElem_cons_zero, List.getElem_cons_succ, List.setIfInBounds_toArray, List.set_cons_zero, List.set_cons_succ]
  refine wpAnyH_ready (rs := [1]) (by kernel_rfl) (by simp) ?_
  refine AllReadyH.cons rfl (fun K hK => ?_) AllReadyH.nil
  go_simp
  go_wp2_with ((go_at_call 8; refine (HDI.out _).mono ?_; rintro e wq1 ⟨b19, hb19, rfl, hi19, hbq1⟩; clear hb19))
  refine hK.out _ _ (by exact two_below hHeld0 hbq1) (fun hHeld1 => ?_)
  clear hK K hHeld0
  try simp only [Act.put, List.getElem_toArray, List.getElem_cons_zero, List.getElem_cons_succ, List.setIfInBounds_toArray, List.set_cons_zero, List.set_cons_succ]
  refine wpAnyH_ready (rs := [3]) (by kernel_rfl) (by simp) ?_
  refine AllReadyH.cons rfl (fun K hK => ?_) AllReadyH.nil
  go_simp
  go_wp2_with ((go_at_call 9; refine (HNI.out _).mono ?_; rintro e wq2 ⟨v21, rfl, ho21, hbq2⟩))
  refine hK.out _ _ (by exact two_below hHeld1 hbq2) (fun hHeld2 => ?_)
  clear hK K hHeld1
  try simp only [Act.put, List.getElem_toArray, List.getElem_cons_zero, List.getElem_cons_succ, List.setIfInBounds_toArray, List.set_cons_zero, List.set_cons_succ]
  unfold OwnN at ho21
  rw [HGL.out] at ho21
  obtain ⟨gd, cd, rfl, hgd0, hgdl, hcd, hcdm, hrgd⟩ := owns_some ho21 (by omega)
  have hi20 := hi19.below hbq2 hi19.lt
  clear ho21 hi19 hgd0 hcd hcdm
  refine wpAnyH_ready (rs := [4]) (by kernel_rfl) (by simp) ?_
  refine AllReadyH.cons rfl (fun K hK => ?_) AllReadyH.nil
  go_simp
  go_wp2_with ((go_at_call 7; refine (HIN.out _ b19 gd cd hi20.range hrgd hi20.lt hgdl).mono ?_; rintro e wq3 ⟨rfl, hbq3⟩))
  refine hK.out _ _ (by exact two_below hHeld2 hbq3) (fun hHeld3 => ?_)
  clear hK K hHeld2
  try simp only [Act.put, List.getElem_toArray, List.getElem_cons_zero, List.getElem_cons_succ, List.setIfInBounds_toArray, List.set_cons_zero, List.set_cons_succ]
  refine wpAnyH_take (i := 5) (v := ?_) rfl (by kernel_rfl) (by kernel_rfl) (by kernel_rfl) (fun _ _ _ h => h) (Or.inl ⟨by rfl, ?_⟩) hHeld3 ?_
  rotate_left
  · (intro w hSw; (try dsimp only at hSw); go_simp <;> (try with_reducible rfl))
  simp only [Act.put, List.getElem_toArray, List.getElem_cons_zero, List.getElem_cons_succ, List.setIfInBounds_toArray, List.set_cons_zero, List.set_cons_succ]
  refine wpAnyH_done (by kernel_rfl) ?_ _
  clear hi20 hrgd hgdl
  go_wp2
  have HS1 := hide hHeld3
  clear hHeld3
  obtain ⟨wB, hwB⟩ : ∃ wB, wB = wq3 := ⟨_, rfl⟩
  subst hwB
  refine wp_region_held_drew (S := fun W : World => W.rangeAt w.heap.size 0 (vals seed) ∧ W.rangeAt (w.heap.size + 1) 0 (vals m) ∧ Below w.heap.size w W) (by kernel_rfl) ?_ (fun hHele0 => ?_)
  · exact two_below HS1.out ((Below.refl _ _).drew)
  refine wpAnyH_take (i := 0) (v := .agg (vals seed).toArray) rfl (by kernel_rfl) (by kernel_rfl) (by kernel_rfl) (fun _ _ _ h => h) (yieldsIf_load_mid (by rfl) _ _ rfl _ _ rfl (vals seed) _ (fun w hSw => hSw.1) Tryd.underlying23 rfl hszs) hHele0 ?_
  simp only [Act.put, List.getElem_toArray, List.getElem_cons_zero, List.getElem_cons_succ, List.setIfInBounds_toArray, List.set_cons_zero, List.set_cons_succ]
  refine wpAnyH_take (i := 1) (v := .agg (vals m).toArray) rfl (by kernel_rfl) (by kernel_rfl) (by kernel_rfl) (fun _ _ _ h => h) (yieldsIf_load_mid (by rfl) _ _ rfl _ _ rfl (vals m) _ (fun w hSw => hSw.2.1) Tryd.underlying23 rfl hszm) hHele0 ?_
  simp only [Act.put, List.getElem_toArray, List.getElem_cons_zero, List.getElem_cons_succ, List.setIfInBounds_toArray, List.set_cons_zero, List.set_cons_succ]
  refine wpAnyH_take (i := 3) (v := .agg (vals seed).toArray) rfl (by kernel_rfl) (by kernel_rfl) (by kernel_rfl) (fun _ _ _ h => h) (yieldsIf_load_mid (by rfl) _ _ rfl _ _ rfl (vals seed) _ (fun w hSw => hSw.1) Tryd.underlying23 rfl hszs) hHele0 ?_
  simp only [Act.put, List.getElem_toArray, List.getElem_cons_zero, List.getElem_cons_succ, List.setIfInBounds_toArray, List.set_cons_zero, List.set_cons_succ]
  refine wpAnyH_take (i := 4) (v := .agg (vals m).toArray) rfl (by kernel_rfl) (by kernel_rfl) (by kernel_rfl) (fun _ _ _ h => h) (yieldsIf_load_mid (by rfl) _ _ rfl _ _ rfl (vals m) _ (fun w hSw => hSw.2.1) Tryd.underlying23 rfl hszm) hHele0 ?_
  simp only [Act.put, List.getElem_toArray, List.getElem_cons_zero, List.getElem_cons_succ, List.setIfInBounds_toArray, List.set_cons_zero, List.set_cons_succ]
  refine wpAnyH_ready (rs := [2]) (by kernel_rfl) (by simp) ?_
  refine AllReadyH.cons rfl (fun K hK => ?_) AllReadyH.nil
  go_simp
  go_wp2_with ((go_at_call 11; refine (HSI.out _ hHele0.2.2).mono ?_; rintro e wp1 ⟨v25, rfl, ho25, hbp1⟩))
  refine hK.out _ _ (by exact two_below hHele0 hbp1) (fun hHele1 => ?_)
  clear hK K hHele0
  try simp only [Act.put, List.getElem_toArray, List.getElem_cons_zero, List.getElem_cons_succ, List.setIfInBounds_toArray, List.set_cons_zero, List.set_cons_succ]
  have hv25 := ho25.has
  clear ho25
  refine wpAnyH_ready (rs := [5]) (by kernel_rfl) (by simp) ?_
  refine AllReadyH.cons rfl (fun K hK => ?_) AllReadyH.nil
  go_simp
  go_wp2_with ((go_at_call 12; refine (HKS.out _).mono ?_; rintro e wp2 ⟨v28, rfl, ho28, hbp2⟩))
  refine hK.out _ _ (by exact two_below hHele1 hbp2) (fun hHele2 => ?_)
  clear hK K hHele1
  try simp only [Act.put, List.getElem_toArray, List.getElem_cons_zero, List.getElem_cons_succ, List.setIfInBounds_toArray, List.set_cons_zero, List.set_cons_succ]
  have hv28 := ho28.has
  have hv26 := hv25.below hbp2
  clear ho28 hv25
  refine wpAnyH_ready (rs := [6]) (by kernel_rfl) (by simp) ?_
  refine AllReadyH.cons rfl (fun K hK => ?_) AllReadyH.nil
  go_simp
  go_wp2_with ((go_at_call 10; refine (HBY.out _ v25 v28 hv26 hv28).mono ?_; rintro e wp3 ⟨rfl, hbp3⟩))
  refine hK.out _ _ (by exact two_below hHele2 hbp3) (fun hHele3 => ?_)
  clear hK K hHele2
  try simp only [Act.put, List.getElem_toArray, List.getElem_cons_zero, List.getElem_cons_succ, List.setIfInBounds_toArray, List.set_cons_zero, List.set_cons_succ]
  refine wpAnyH_take (i := 7) (v := ?_) rfl (by kernel_rfl) (by kernel_rfl) (by kernel_rfl) (fun _ _ _ h => h) (Or.inl ⟨by rfl, ?_⟩) hHele3 ?_
  rotate_left
  · (intro w hSw; (try dsimp only at hSw); go_simp <;> (try with_reducible rfl))
  simp only [Act.put, List.getElem_toArray, List.getElem_cons_zero, List.getElem_cons_succ, List.setIfInBounds_toArray, List.set_cons_zero, List.set_cons_succ]
  refine wpAnyH_done (by kernel_rfl) ?_ _
  clear hv26 hv28
  go_wp2
  have HS2 := hide hHele3
  clear hHele3
  obtain ⟨wC, hwC⟩ : ∃ wC, wC = wp3 := ⟨_, rfl⟩
  subst hwC
  refine wp_region_held_drew (S := fun W : World => W.rangeAt w.heap.size 0 (vals seed) ∧ W.rangeAt (w.heap.size + 1) 0 (vals m) ∧ Below w.heap.size w W) (by kernel_rfl) ?_ (fun hHelf0 => ?_)
  · exact two_below HS2.out ((Below.refl _ _).drew)
  refine wpAnyH_take (i := 0) (v := ?_) rfl (by kernel_rfl) (by kernel_rfl) (by kernel_rfl) (fun _ _ _ h => h) (Or.inl ⟨by rfl, ?_⟩) hHelf0 ?_
  rotate_left
  · (intro w hSw; (try dsimp only at hSw); go_simp <;> (try with_reducible rfl))
  simp only [Act.put, List.getElem_toArray, List.getElem_cons_zero, List.getElem_cons_succ, List.setIfInBounds_toArray, List.set_cons_zero, List.set_cons_succ]
  refine wpAnyH_take (i := 1) (v := ?_) rfl (by kernel_rfl) (by kernel_rfl) (by kernel_rfl) (fun _ _ _ h => h) (Or.inl ⟨by rfl, ?_⟩) hHelf0 ?_
  rotate_left
  · (intro w hSw; (try dsimp only at hSw); go_simp <;> (try with_reducible rfl))
  simp only [Act.put, List.getElem_toArray, List.getElem_cons_zero, List.getElem_cons_succ, List.setIfInBounds_toArray, List.set_cons_zero, List.set_cons_succ]
  refine wpAnyH_take (i := 2) (v := ?_) rfl (by kernel_rfl) (by kernel_rfl) (by kernel_rfl) (fun _ _ _ h => h) (Or.inl ⟨by rfl, ?_⟩) hHelf0 ?_
  rotate_left
  · (intro w hSw; (try dsimp only at hSw); go_simp <;> (try with_reducible rfl))
  simp only [Act.put, List.getElem_toArray, List.getElem_cons_zero, List.getElem_cons_succ, List.setIfInBounds_toArray, List.set_cons_zero, List.set_cons_succ]
  refine wpAnyH_take (i := 3) (v := ?_) rfl (by kernel_rfl) (by kernel_rfl) (by kernel_rfl) (fun _ _ _ h => h) (Or.inl ⟨by rfl, ?_⟩) hHelf0 ?_
  rotate_left
  · (intro w hSw; (try dsimp only at hSw); go_simp <;> (try with_reducible rfl))
  simp only [Act.put, List.getElem_toArray, List.getElem_cons_zero, List.getElem_cons_succ, List.setIfInBounds_toArray, List.set_cons_zero, List.set_cons_succ]
  refine wpAnyH_take (i := 4) (v := ?_) rfl (by kernel_rfl) (by kernel_rfl) (by kernel_rfl) (fun _ _ _ h => h) (Or.inl ⟨by rfl, ?_⟩) hHelf0 ?_
  rotate_left
  · (intro w hSw; (try dsimp only at hSw); go_simp <;> (try with_reducible rfl))
  simp only [Act.put, List.getElem_toArray, List.getElem_cons_zero, List.getElem_cons_succ, List.setIfInBounds_toArray, List.set_cons_zero, List.set_cons_succ]
  refine wpAnyH_take (i := 5) (v := ?_) rfl (by kernel_rfl) (by kernel_rfl) (by kernel_rfl) (fun _ _ _ h => h) (Or.inl ⟨by rfl, ?_⟩) hHelf0 ?_
  rotate_left
  · (intro w hSw; (try dsimp only at hSw); go_simp <;> (try with_reducible rfl))
  simp only [Act.put, List.getElem_toArray, List.getElem_cons_zero, List.getElem_cons_succ, List.setIfInBounds_toArray, List.set_cons_zero, List.set_cons_succ]
  refine wpAnyH_take (i := 6) (v := ?_) rfl (by kernel_rfl) (by kernel_rfl) (by kernel_rfl) (fun _ _ _ h => h) (Or.inl ⟨by rfl, ?_⟩) hHelf0 ?_
  rotate_left
  · (intro w hSw; (try dsimp only at hSw); go_simp <;> (try with_reducible rfl))
  simp only [Act.put, List.getElem_toArray, List.getElem_cons_zero, List.getElem_cons_succ, List.setIfInBounds_toArray, List.set_cons_zero, List.set_cons_succ]
  refine wpAnyH_take (i := 7) (v := .agg (vals seed).toArray) rfl (by kernel_rfl) (by kernel_rfl) (by kernel_rfl) (fun _ _ _ h => h) (yieldsIf_load_mid (by rfl) _ _ rfl _ _ rfl (vals seed) _ (fun w hSw => hSw.1) Tryd.underlying23 rfl hszs) hHelf0 ?_
  simp only [Act.put, List.getElem_toArray, List.getElem_cons_zero, List.getElem_cons_succ, List.setIfInBounds_toArray, List.set_cons_zero, List.set_cons_succ]
  refine wpAnyH_take (i := 9) (v := .agg (vals seed).toArray) rfl (by kernel_rfl) (by kernel_rfl) (by kernel_rfl) (fun _ _ _ h => h) (yieldsIf_load_mid (by rfl) _ _ rfl _ _ rfl (vals seed) _ (fun w hSw => hSw.1) Tryd.underlying23 rfl hszs) hHelf0 ?_
  simp only [Act.put, List.getElem_toArray, List.getElem_cons_zero, List.getElem_cons_succ, List.setIfInBounds_toArray, List.set_cons_zero, List.set_cons_succ]
  refine wpAnyH_ready (rs := [8]) (by kernel_rfl) (by simp) ?_
  refine AllReadyH.cons rfl (fun K hK => ?_) AllReadyH.nil
  go_simp
  go_wp2_with ((go_at_call 13; refine (HP1.out _ hHelf0.2.2).mono ?_; rintro e wr1 ⟨rfl, hbr1⟩))
  refine hK.out _ _ (by exact two_below hHelf0 hbr1) (fun hHelf1 => ?_)
  clear hK K hHelf0
  try simp only [Act.put, List.getElem_toArray, List.getElem_cons_zero, List.getElem_cons_succ, List.setIfInBounds_toArray, List.set_cons_zero, List.set_cons_succ]
  refine wpAnyH_ready (rs := [10]) (by kernel_rfl) (by simp) ?_
  refine AllReadyH.cons rfl (fun K hK => ?_) AllReadyH.nil
  go_simp
  go_wp2_with ((go_at_call 14; refine (HP2.out _).mono ?_; rintro e wr2 ⟨rfl, hbr2⟩))
  refine hK.out _ _ (by exact two_below hHelf1 hbr2) (fun hHelf2 => ?_)
  clear hK K hHelf1
  try simp only [Act.put, List.getElem_toArray, List.getElem_cons_zero, List.getElem_cons_succ, List.setIfInBounds_toArray, List.set_cons_zero, List.set_cons_succ]
  refine wpAnyH_take (i := 11) (v := ?_) rfl (by kernel_rfl) (by kernel_rfl) (by kernel_rfl) (fun _ _ _ h => h) (Or.inl ⟨by rfl, ?_⟩) hHelf2 ?_
  rotate_left
  · (intro w hSw; (try dsimp only at hSw); go_simp <;> (try with_reducible rfl))
  simp only [Act.put, List.getElem_toArray, List.getElem_cons_zero, List.getElem_cons_succ, List.setIfInBounds_toArray, List.set_cons_zero, List.set_cons_succ]
  refine wpAnyH_take (i := 12) (v := ?_) rfl (by kernel_rfl) (by kernel_rfl) (by kernel_rfl) (fun _ _ _ h => h) (Or.inl ⟨by rfl, ?_⟩) hHelf2 ?_
  rotate_left
  · (intro w hSw; (try dsimp only at hSw); go_simp <;> (try with_reducible rfl))
  simp only [Act.put, List.getElem_toArray, List.getElem_cons_zero, List.getElem_cons_succ, List.setIfInBounds_toArray, List.set_cons_zero, List.set_cons_succ]
  refine wpAnyH_take (i := 13) (v := ?_) rfl (by kernel_rfl) (by kernel_rfl) (by kernel_rfl) (fun _ _ _ h => h) (Or.inl ⟨by rfl, ?_⟩) hHelf2 ?_
  rotate_left
  · (intro w hSw; (try dsimp only at hSw); go_simp <;> (try with_reducible rfl))
  simp only [Act.put, List.getElem_toArray, List.getElem_cons_zero, List.getElem_cons_succ, List.setIfInBounds_toArray, List.set_cons_zero, List.set_cons_succ]
  refine wpAnyH_take (i := 14) (v := .agg (vals m).toArray) rfl (by kernel_rfl) (by kernel_rfl) (by kernel_rfl) (fun _ _ _ h => h) (yieldsIf_load_mid (by rfl) _ _ rfl _ _ rfl (vals m) _ (fun w hSw => hSw.2.1) Tryd.underlying23 rfl hszm) hHelf2 ?_
  simp only [Act.put, List.getElem_toArray, List.getElem_cons_zero, List.getElem_cons_succ, List.setIfInBounds_toArray, List.set_cons_zero, List.set_cons_succ]
  refine wpAnyH_take (i := 15) (v := ?_) rfl (by kernel_rfl) (by kernel_rfl) (by kernel_rfl) (fun _ _ _ h => h) (Or.inl ⟨by rfl, ?_⟩) hHelf2 ?_
  rotate_left
  · (intro w hSw; (try dsimp only at hSw); go_simp <;> (try with_reducible rfl))
  simp only [Act.put, List.getElem_toArray, List.getElem_cons_zero, List.getElem_cons_succ, List.setIfInBounds_toArray, List.set_cons_zero, List.set_cons_succ]
  refine wpAnyH_take (i := 17) (v := .agg (vals m).toArray) rfl (by kernel_rfl) (by kernel_rfl) (by kernel_rfl) (fun _ _ _ h => h) (yieldsIf_load_mid (by rfl) _ _ rfl _ _ rfl (vals m) _ (fun w hSw => hSw.2.1) Tryd.underlying23 rfl hszm) hHelf2 ?_
  simp only [Act.put, List.getElem_toArray, List.getElem_cons_zero, List.getElem_cons_succ, List.setIfInBounds_toArray, List.set_cons_zero, List.set_cons_succ]
  refine wpAnyH_take (i := 18) (v := ?_) rfl (by kernel_rfl) (by kernel_rfl) (by kernel_rfl) (fun _ _ _ h => h) (Or.inl ⟨by rfl, ?_⟩) hHelf2 ?_
  rotate_left
  · (intro w hSw; (try dsimp only at hSw); go_simp <;> (try with_reducible rfl))
  simp only [Act.put, List.getElem_toArray, List.getElem_cons_zero, List.getElem_cons_succ, List.setIfInBounds_toArray, List.set_cons_zero, List.set_cons_succ]
  refine wpAnyH_ready (rs := [16]) (by kernel_rfl) (by simp) ?_
  refine AllReadyH.cons rfl (fun K hK => ?_) AllReadyH.nil
  go_simp
  go_wp2_with ((go_at_call 15; refine (HA1.out _ hHelf2.2.2).mono ?_; rintro e wr3 ⟨rfl, hbr3⟩))
  refine hK.out _ _ (by exact two_below hHelf2 hbr3) (fun hHelf3 => ?_)
  clear hK K hHelf2
  try simp only [Act.put, List.getElem_toArray, List.getElem_cons_zero, List.getElem_cons_succ, List.setIfInBounds_toArray, List.set_cons_zero, List.set_cons_succ]
  refine wpAnyH_ready (rs := [19]) (by kernel_rfl) (by simp) ?_
  refine AllReadyH.cons rfl (fun K hK => ?_) AllReadyH.nil
  go_simp
  go_wp2_with ((go_at_call 16; refine (HA2.out _).mono ?_; rintro e wr4 ⟨rfl, hbr4⟩))
  refine hK.out _ _ (by exact two_below hHelf3 hbr4) (fun hHelf4 => ?_)
  clear hK K hHelf3
  try simp only [Act.put, List.getElem_toArray, List.getElem_cons_zero, List.getElem_cons_succ, List.setIfInBounds_toArray, List.set_cons_zero, List.set_cons_succ]
  refine wpAnyH_take (i := 20) (v := ?_) rfl (by kernel_rfl) (by kernel_rfl) (by kernel_rfl) (fun _ _ _ h => h) (Or.inl ⟨by rfl, ?_⟩) hHelf4 ?_
  rotate_left
  · (intro w hSw; (try dsimp only at hSw); go_simp <;> (try with_reducible rfl))
  simp only [Act.put, List.getElem_toArray, List.getElem_cons_zero, List.getElem_cons_succ, List.setIfInBounds_toArray, List.set_cons_zero, List.set_cons_succ]
  refine wpAnyH_take (i := 21) (v := ?_) rfl (by kernel_rfl) (by kernel_rfl) (by kernel_rfl) (fun _ _ _ h => h) (Or.inl ⟨by rfl, ?_⟩) hHelf4 ?_
  rotate_left
  · (intro w hSw; (try dsimp only at hSw); go_simp <;> (try with_reducible rfl))
  simp only [Act.put, List.getElem_toArray, List.getElem_cons_zero, List.getElem_cons_succ, List.setIfInBounds_toArray, List.set_cons_zero, List.set_cons_succ]
  refine wpAnyH_done (by kernel_rfl) ?_ _
  have HS3 := hide hHelf4
  clear hHelf4
  obtain ⟨wD, hwD⟩ : ∃ wD, wD = wr4 := ⟨_, rfl⟩
  subst hwD
  have hbD := HS3.out.2.2
  have hlm := range_lt0 HS3.out.2.1 (by rw [HML.out]; omega)
  clear HS0 HS1 HS2 HDI HNI HIN HSI HKS HBY HP1 HP2 HA1 HA2 heqP heqA
  have hmA := range_below0 HS3.out.2.1 (below_alloc wD (.cells (vals Z).toArray 23)) hlm
  have hbA := hbD.alloc hbD.size (.cells (vals Z).toArray 23)
  go_wp2_with (first
    | (refine wpList_load_mid2 23 (vals m) (w.heap.size + 1) 0 rfl (.tmp 5) rfl rfl hmA Tryd.underlying23 size_dig (by rw [vals_length]; exact HML.out) ?_)
    | (go_at_call 18; refine (HR2.out _).mono ?_; rintro e w4 ⟨rfl, hb4⟩; have hb4' := hbA.trans (hb4.mono hbA.size); have hi4 := (Is.new wD (vals Z) 23).below hb4 (by simp))
    | (refine wpList_store_any2 23 (vals Z) (vals R2) w4.heap.size rfl (.tmp 13) (.tmp 62) rfl rfl rfl rfl (Is.new w4 _ _) size_dig (by rw [vals_length]; exact HZL.out) (by rw [vals_length]; exact HR2L.out) (vals_one _) ?_; intro w5 hi5 hb5 hk5 hz5; clear hz5; have hb5' := hb5 _ _ (hb4'.alloc hb4'.size _) hb4'.size; have hi55 := hk5 _ _ _ (by have := hi4.lt; omega) (hi4.alloc (.cells (vals Z).toArray 23)))
    | (go_at_call 19; refine (HER.out _ hb5').mono ?_; rintro e w6 ⟨rfl, hb6⟩; have hb6' := hb5'.trans (hb6.mono hb5'.size); have hi6 := hi5.below hb6 hi5.lt; have hi66 := hi55.below hb6 hi55.lt)
    | (refine wpList_load_arrG 23 (vals R2) w4.heap.size (.tmp 13) rfl rfl rfl hi6 Tryd.underlying23 size_dig (by rw [vals_length]; exact HR2L.out) ?_)
    | (refine wpList_load_arrG 23 (vals Z) wD.heap.size (.tmp 12) rfl rfl rfl hi66 Tryd.underlying23 size_dig (by rw [vals_length]; exact HZL.out) ?_))
  go_ret
  exact ⟨rfl, hb6'⟩
end Go.Proofs.YtdeddnlagbeanaaDoor
