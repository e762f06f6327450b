/- The walk of KeyForged, its head: the seed's own signature tells its public key. -/
import Derived.Test.YtfgjgaenhpelkaaDoorKeSigned
import Derived.Test.YtfgjgaenhpelkaaDoorRKey5
import Derived.Test.YtfgjgaenhpelkaaDoorDigs
import Derived.Test.YtfgjgaenhpelkaaDoorKh
import Derived.Test.YtfgjgaenhpelkaaDoorLoadG
import Derived.Test.YtfgjgaenhpelkaaDoorKeForgedF
import Derived.Deep.CutRange
namespace Go.Proofs.YtfgjgaenhpelkaaDoor
open Go.RowKit
set_option linter.unusedVariables false
set_option linter.unusedSimpArgs false

theorem four_belowB {w W W' : World} {a b c d : Nat} {x y z u : List Value} (h : W.rangeAt a 0 x ∧ W.rangeAt b 0 y ∧ W.rangeAt c 0 z ∧ W.rangeAt d 0 u ∧ Below w.heap.size w W) (hb : Below W.heap.size W W') : W'.rangeAt a 0 x ∧ W'.rangeAt b 0 y ∧ W'.rangeAt c 0 z ∧ W'.rangeAt d 0 u ∧ Below w.heap.size w W' :=
  ⟨range_below h.1 hb, range_below h.2.1 hb, range_below h.2.2.1 hb, range_below h.2.2.2.1 hb, h.2.2.2.2.trans (hb.mono h.2.2.2.2.size)⟩

set_option maxRecDepth 100000 in
set_option maxHeartbeats 32000000 in
/-- Bytes that are no signature. -/
theorem kforged_bad (seed m other : List Int) (sa : Option Addr) (sn cap : Nat) (hsn : sn ≠ 2144) (hsm : sn ≤ 9223372036854775807) (w : World) (hs : seed.length = 32) (hsb : Sz.Byt seed) (hm : m.length = 32) (hmb : Sz.Byt m) (ho : other.length = 32) (hob : Sz.Byt other) (ht : Tab w) (hw : 0 < w.heap.size) :
    Calls Tryd.prog 3 #[.agg (vals seed).toArray, .agg (vals m).toArray, .agg (vals other).toArray, .slice sa sn cap] w fun e w' => e = .returned (.bool true) ∧ Below w.heap.size w w' := by
  obtain ⟨Z, hZ⟩ : ∃ Z : List Int, Z = List.replicate 32 0 := ⟨_, rfl⟩
  have hzd := zero_dig
  have hZl : Z.length = 32 := by rw [hZ]; rfl
  have TW : ∀ {W : World}, Below w.heap.size w W → Tab W := fun hW => ht.below hW hw
  have TP : ∀ {W : World}, Below w.heap.size w W → 0 < W.heap.size := fun hW => Nat.lt_of_lt_of_le hw hW.size
  have HG : Hid (∀ W, Below w.heap.size w W → Calls Tryd.prog 5 #[.agg (vals seed).toArray, .agg (vals m).toArray] W fun e w' => ∃ v, e = .returned v ∧ Own w' W.heap.size v (Ky.sign seed m) ∧ Below W.heap.size W w') := fun W hW => sign_any seed m W hs hsb hm hmb (TW hW) (TP hW)
  obtain ⟨P1, hP1⟩ : ∃ P1, P1 = Ky.pub seed := ⟨_, rfl⟩
  obtain ⟨P2, hP2⟩ : ∃ P2, P2 = Ky.pub seed := ⟨_, rfl⟩
  have HR : Hid (∀ W v, Below w.heap.size w W → Has W v (Ky.sign seed m) → Calls Tryd.prog 4 #[.agg (vals m).toArray, v] W fun e w' => e = .returned (.tuple #[.agg (vals P1).toArray, .nilIface]) ∧ Below W.heap.size W w') := fun W v hW hv => by
    have := recover_any v m (Ky.sign seed m) W hv hm hmb (Ky.sign_byt seed m) (TW hW) (TP hW)
    rw [hP1]
    rwa [if_pos (Ky.sign_length seed m), if_pos (Ky.sign_length seed m), Ky.recov_sign seed m hmb] at this
  have HP2 : Hid (∀ W, Below w.heap.size w W → Calls Tryd.prog 6 #[.agg (vals seed).toArray] W fun e w' => e = .returned (.agg (vals P2).toArray) ∧ Below W.heap.size W w') := fun W hW => by rw [hP2]; exact public_any seed W hs hsb (TW hW) (TP hW)
  have hP1l : P1.length = 32 := by rw [hP1]; exact Ky.pub_length seed
  have heq1 : ∀ w', (Op.equalIn 10000 23 (.agg (vals P1).toArray) (.agg (vals P2).toArray)).run Tryd.prog w' = .ok true w' := fun w' => dig_same _ _ (by rw [hP2]; exact Ky.pub_length seed) (by rw [hP1, hP2]) w'
  have HPZ : Hid (P1 = Z → seed ≠ Z) := fun h e => pub_ne Z hZ (by have h2 := hP1; rw [h, e] at h2; exact h2.symm)
  rw [← hZ] at hzd
  have hvz : ¬ vals Z = [] := by intro h; have : (vals Z).length = 0 := by rw [h]; rfl
                                 rw [vals_length, hZl] at this; cases this
  have hgd := guard_dig
  have HZL := hide hZl
  have HSL := hide hs
  have HML := hide hm
  have HOL := hide ho
  have HPL := hide hP1l
  have hszs : (Tryd.prog.info? 23).map (·.size) = some (vals seed).length := by rw [vals_length, hs]; exact size_dig
  have hszm : (Tryd.prog.info? 23).map (·.size) = some (vals m).length := by rw [vals_length, hm]; exact size_dig
  have hszp : (Tryd.prog.info? 23).map (·.size) = some (vals P1).length := by rw [vals_length, hP1l]; exact size_dig
  have HVP : Hid ((vals P1).toArray.size = 32) := by show _ = _; rw [List.size_toArray, vals_length, hP1l]
  have HRB : Hid (∀ W, Calls Tryd.prog 4 #[.agg (vals other).toArray, .slice sa sn cap] W fun e w' => e = .returned (.tuple #[.agg (vals Z).toArray, .iface 39 (.int .i64 3)]) ∧ Below W.heap.size W w') := fun W => by rw [hZ]; exact recover_bad other sa sn cap W hsn hsm
  have hsi : ¬ (sn : Int) = 2144 := by omega
  have HI0 : Hid (Is (((w.alloc (.cells (vals seed).toArray 23)).alloc (.cells (vals m).toArray 23)).alloc (.cells (vals other).toArray 23)) w.heap.size (vals seed) 23) := ((Is.new w (vals seed) 23).alloc _).alloc _
  have HJ0 : Hid (Is (((w.alloc (.cells (vals seed).toArray 23)).alloc (.cells (vals m).toArray 23)).alloc (.cells (vals other).toArray 23)) (w.heap.size + 1) (vals m) 23) := Is.alloc (Is.new' (vals m) 23 (by simp)) _
  have HK0 : Hid (Is (((w.alloc (.cells (vals seed).toArray 23)).alloc (.cells (vals m).toArray 23)).alloc (.cells (vals other).toArray 23)) (w.heap.size + 1 + 1) (vals other) 23) := Is.new' (vals other) 23 (by simp)
  have hS0 : (fun W : World => W.rangeAt w.heap.size 0 (vals seed) ∧ W.rangeAt (w.heap.size + 1) 0 (vals m) ∧ W.rangeAt (w.heap.size + 1 + 1) 0 (vals other) ∧ Below w.heap.size w W) (((w.alloc (.cells (vals seed).toArray 23)).alloc (.cells (vals m).toArray 23)).alloc (.cells (vals other).toArray 23)) := ⟨HI0.out.range, HJ0.out.range, HK0.out.range, below_alloc3 _ _ _ _⟩
  clear hP1 hP2 hP1l hZ hZl hs hsb hm hmb ho hob ht TW TP HI0 HJ0 HK0 hsn hsm
  go_enter Tryd.func3, Tryd.ntmps3
  go_wp2
  generalize ((w.alloc (.cells (vals seed).toArray 23)).alloc (.cells (vals m).toArray 23)).alloc (.cells (vals other).toArray 23) = wS at *
  have HS0 := hide hS0
  clear hS0
  refine wp_cut (fun a W => ∃ (v26 : Value) (b9 : Nat), a = { tmps := (.agg (vals seed).toArray :: .agg (vals m).toArray :: .agg (vals other).toArray :: (.slice sa sn cap) :: .pointer (some ⟨w.heap.size, 0, none⟩) :: .pointer (some ⟨w.heap.size + 1, 0, none⟩) :: .pointer (some ⟨w.heap.size + 1 + 1, 0, none⟩) :: undef :: .bool false :: .pointer (some ⟨b9, 0, none⟩) :: .nilIface :: undef :: undef :: undef :: undef :: undef :: undef :: undef :: undef :: undef :: undef :: undef :: .tuple #[.agg (vals P1).toArray, .nilIface] :: .agg (vals m).toArray :: .agg (vals seed).toArray :: .agg (vals m).toArray :: v26 :: .tuple #[.agg (vals P1).toArray, .nilIface] :: .agg (vals P1).toArray :: .nilIface :: undef :: undef :: undef :: undef :: undef :: undef :: undef :: undef :: undef :: undef :: undef :: undef :: undef :: undef :: undef :: undef :: undef :: undef :: undef :: undef :: undef :: undef :: undef :: undef :: undef :: undef :: undef :: undef :: undef :: undef :: undef :: undef :: undef :: undef :: undef :: undef :: undef :: undef :: undef :: undef :: undef :: undef :: undef :: undef :: undef :: undef :: undef :: undef :: undef :: undef :: undef :: undef :: undef :: undef :: undef :: undef :: undef :: undef :: undef :: undef :: undef :: undef :: undef :: undef :: undef :: undef :: undef :: undef :: undef :: undef :: undef :: undef :: undef :: undef :: undef :: undef :: undef :: undef :: undef :: undef :: undef :: undef :: undef :: undef :: undef :: undef :: undef :: undef :: undef :: undef :: undef :: undef :: undef :: undef :: undef :: undef :: undef :: undef :: undef :: undef :: undef :: undef :: undef :: undef :: undef :: undef :: undef :: undef :: undef :: undef :: undef :: undef :: undef :: undef :: undef :: undef :: undef :: undef :: undef :: undef :: undef :: undef :: undef :: undef :: undef :: undef :: undef :: undef :: undef :: undef :: undef :: undef :: undef :: undef :: undef :: undef :: undef :: undef :: undef :: undef :: undef :: undef :: undef :: []).toArray, defers := [] } ∧ (fun W : World => W.rangeAt w.heap.size 0 (vals seed) ∧ W.rangeAt (w.heap.size + 1) 0 (vals m) ∧ W.rangeAt (w.heap.size + 1 + 1) 0 (vals other) ∧ W.rangeAt b9 0 (vals P1) ∧ Below w.heap.size w W) W) ?_ ?_
  ·
    refine wp_region_held_drew (S := fun W : World => W.rangeAt w.heap.size 0 (vals seed) ∧ W.rangeAt (w.heap.size + 1) 0 (vals m) ∧ W.rangeAt (w.heap.size + 1 + 1) 0 (vals other) ∧ Below w.heap.size w W) (by kernel_rfl) ?_ (fun hHeld0 => ?_)
    · exact three_below HS0.out ((Below.refl _ _).drew)
    refine wpAnyH_take (i := 0) (v := .agg (vals m).toArray) rfl (by kernel_rfl) (by kernel_rfl) (by kernel_rfl) (fun _ _ _ h => h) (yieldsIf_load_mid (by rfl) _ _ rfl _ _ rfl (vals m) _ (fun w hSw => hSw.2.1) Tryd.underlying23 rfl hszm) hHeld0 ?_
    simp only [Act.put, List.getElem_toArray, List.getElem_cons_zero, List.getElem_cons_succ, List.setIfInBounds_toArray, List.set_cons_zero, List.set_cons_succ]
    refine wpAnyH_take (i := 1) (v := .agg (vals seed).toArray) rfl (by kernel_rfl) (by kernel_rfl) (by kernel_rfl) (fun _ _ _ h => h) (yieldsIf_load_mid (by rfl) _ _ rfl _ _ rfl (vals seed) _ (fun w hSw => hSw.1) Tryd.underlying23 rfl hszs) hHeld0 ?_
    simp only [Act.put, List.getElem_toArray, List.getElem_cons_zero, List.getElem_cons_succ, List.setIfInBounds_toArray, List.set_cons_zero, List.set_cons_succ]
    refine wpAnyH_take (i := 2) (v := .agg (vals m).toArray) rfl (by kernel_rfl) (by kernel_rfl) (by kernel_rfl) (fun _ _ _ h => h) (yieldsIf_load_mid (by rfl) _ _ rfl _ _ rfl (vals m) _ (fun w hSw => hSw.2.1) Tryd.underlying23 rfl hszm) hHeld0 ?_
    simp only [Act.put, List.getElem_toArray, List.getElem_cons_zero, List.getElem_cons_succ, List.setIfInBounds_toArray, List.set_cons_zero, List.set_cons_succ]
    refine wpAnyH_ready (rs := [3, 8]) (by kernel_rfl) (by simp) ?_
    refine AllReadyH.cons rfl (fun K hK => ?_) ?_
    ·
      go_simp
      go_wp2_with ((go_at_call 5; refine (HG.out _ hHeld0.2.2.2).mono ?_; rintro e wq1 ⟨v26, rfl, ho14, hbq1⟩))
      refine hK.out _ _ (by exact three_below hHeld0 hbq1) (fun hHeld1 => ?_)
      clear hK K hHeld0
      try simp only [Act.put, List.getElem_toArray, List.getElem_cons_zero, List.getElem_cons_succ, List.setIfInBounds_toArray, List.set_cons_zero, List.set_cons_succ]
      have hv := ho14.has
      clear ho14
      refine wpAnyH_ready (rs := [4, 8]) (by kernel_rfl) (by simp) ?_
      refine AllReadyH.cons rfl (fun K hK => ?_) ?_
      ·
        go_simp
        go_wp2_with ((go_at_call 4; refine (HR.out _ v26 hHeld1.2.2.2 hv).mono ?_; rintro e wq2 ⟨rfl, hbq2⟩))
        refine hK.out _ _ (by exact three_below hHeld1 hbq2) (fun hHeld2 => ?_)
        clear hK K hHeld1
        try simp only [Act.put, List.getElem_toArray, List.getElem_cons_zero, List.getElem_cons_succ, List.setIfInBounds_toArray, List.set_cons_zero, List.set_cons_succ]
        refine wpAnyH_take (i := 5) (v := ?_) rfl (by kernel_rfl) (by kernel_rfl) (by kernel_rfl) (fun _ _ _ h => h) (Or.inl ⟨by rfl, ?_⟩) hHeld2 ?_
        rotate_left
        · (intro w hSw; (try dsimp only at hSw); go_simp <;> (try with_reducible rfl))
        simp only [Act.put, List.getElem_toArray, List.getElem_cons_zero, List.getElem_cons_succ, List.setIfInBounds_toArray, List.set_cons_zero, List.set_cons_succ]
        refine wpAnyH_take (i := 6) (v := ?_) rfl (by kernel_rfl) (by kernel_rfl) (by kernel_rfl) (fun _ _ _ h => h) (Or.inl ⟨by rfl, ?_⟩) hHeld2 ?_
        rotate_left
        · (intro w hSw; (try dsimp only at hSw); go_simp <;> (try with_reducible rfl))
        simp only [Act.put, List.getElem_toArray, List.getElem_cons_zero, List.getElem_cons_succ, List.setIfInBounds_toArray, List.set_cons_zero, List.set_cons_succ]
        refine wpAnyH_take (i := 7) (v := ?_) rfl (by kernel_rfl) (by kernel_rfl) (by kernel_rfl) (fun _ _ _ h => h) (Or.inl ⟨by rfl, ?_⟩) hHeld2 ?_
        rotate_left
        · (intro w hSw; (try dsimp only at hSw); go_simp <;> (try with_reducible rfl))
        simp only [Act.put, List.getElem_toArray, List.getElem_cons_zero, List.getElem_cons_succ, List.setIfInBounds_toArray, List.set_cons_zero, List.set_cons_succ]
        refine wpAnyH_ready (rs := [8]) (by kernel_rfl) (by simp) ?_
        refine AllReadyH.cons rfl (fun K hK => ?_) AllReadyH.nil
        go_simp
        have hl1 := range_lt hHeld2.1 (by rw [HSL.out]; omega)
        have hl2 := range_lt hHeld2.2.1 (by rw [HML.out]; omega)
        have hl3 := range_lt hHeld2.2.2.1 (by rw [HOL.out]; omega)
        have hal := (Is.new wq2 (vals Z) 23).there (n := 32) (by rw [vals_length]; exact HZL.out)
        obtain ⟨b6, hb6⟩ : ∃ b, b = (wq2.heap.size) := ⟨_, rfl⟩
        have hn1 : w.heap.size ≠ b6 := by rw [hb6]; exact Nat.ne_of_lt hl1
        have hn2 : w.heap.size + 1 ≠ b6 := by rw [hb6]; exact Nat.ne_of_lt hl2
        have hn3 : w.heap.size + 1 + 1 ≠ b6 := by rw [hb6]; exact Nat.ne_of_lt hl3
        have hn4 : w.heap.size ≤ b6 := by rw [hb6]; exact Nat.le_of_lt hl1
        clear hl1 hl2 hl3
        rw [← hb6]
        replace hal : ((wq2).alloc (.cells (vals Z).toArray 23)).there b6 0 32 := by rw [hb6]; exact hal
        clear hb6
        refine hK.out _ _ (by exact three_below hHeld2 (below_alloc _ _)) (fun hHeld3 => ?_)
        clear hK K hHeld2
        try simp only [Act.put, List.getElem_toArray, List.getElem_cons_zero, List.getElem_cons_succ, List.setIfInBounds_toArray, List.set_cons_zero, List.set_cons_succ]
        refine wpAnyH_ready (rs := [9]) (by kernel_rfl) (by simp) ?_
        refine AllReadyH.cons rfl (fun K hK => ?_) AllReadyH.nil
        rw [if_pos (by rfl)]
        refine wp_store_mid _ _ _ rfl _ _ (vals P1).toArray rfl rfl (by rw [HVP.out]; exact hal) (by rw [HVP.out]; exact size_dig) (all_oneCell_toArray (vals_one _)) ?_
        simp only [Act.put, List.toList_toArray]
        refine hK.out _ _ (by exact three_store hHeld3 hn1 hn2 hn3 hn4 _) (fun hHeld4 => ?_)
        clear hK K hHeld3
        try simp only [Act.put, List.getElem_toArray, List.getElem_cons_zero, List.getElem_cons_succ, List.setIfInBounds_toArray, List.set_cons_zero, List.set_cons_succ]
        refine wpAnyH_take (i := 10) (v := ?_) rfl (by kernel_rfl) (by kernel_rfl) (by kernel_rfl) (fun _ _ _ h => h) (Or.inl ⟨by rfl, ?_⟩) hHeld4 ?_
        rotate_left
        · (intro w hSw; (try dsimp only at hSw); go_simp <;> (try with_reducible rfl))
        simp only [Act.put, List.getElem_toArray, List.getElem_cons_zero, List.getElem_cons_succ, List.setIfInBounds_toArray, List.set_cons_zero, List.set_cons_succ]
        refine wpAnyH_done (by kernel_rfl) ?_ _
        exact ⟨v26, b6, rfl, hHeld4.1, hHeld4.2.1, hHeld4.2.2.1, World.rangeAt_setCells_same _ b6 0 (vals P1) (by rw [vals_length, HPL.out]; exact hal), hHeld4.2.2.2⟩
      refine AllReadyH.cons rfl (fun K hK => ?_) AllReadyH.nil
      go_simp
      have hl1 := range_lt hHeld1.1 (by rw [HSL.out]; omega)
      have hl2 := range_lt hHeld1.2.1 (by rw [HML.out]; omega)
      have hl3 := range_lt hHeld1.2.2.1 (by rw [HOL.out]; omega)
      have hal := (Is.new wq1 (vals Z) 23).there (n := 32) (by rw [vals_length]; exact HZL.out)
      obtain ⟨b6, hb6⟩ : ∃ b, b = (wq1.heap.size) := ⟨_, rfl⟩
      have hn1 : w.heap.size ≠ b6 := by rw [hb6]; exact Nat.ne_of_lt hl1
      have hn2 : w.heap.size + 1 ≠ b6 := by rw [hb6]; exact Nat.ne_of_lt hl2
      have hn3 : w.heap.size + 1 + 1 ≠ b6 := by rw [hb6]; exact Nat.ne_of_lt hl3
      have hn4 : w.heap.size ≤ b6 := by rw [hb6]; exact Nat.le_of_lt hl1
      clear hl1 hl2 hl3
      rw [← hb6]
      replace hal : ((wq1).alloc (.cells (vals Z).toArray 23)).there b6 0 32 := by rw [hb6]; exact hal
      clear hb6
      refine hK.out _ _ (by exact three_below hHeld1 (below_alloc _ _)) (fun hHeld2 => ?_)
      clear hK K hHeld1
      try simp only [Act.put, List.getElem_toArray, List.getElem_cons_zero, List.getElem_cons_succ, List.setIfInBounds_toArray, List.set_cons_zero, List.set_cons_succ]
      have hv := hv.below (below_alloc _ (.cells (vals Z).toArray 23))
      refine wpAnyH_ready (rs := [4]) (by kernel_rfl) (by simp) ?_
      refine AllReadyH.cons rfl (fun K hK => ?_) AllReadyH.nil
      go_simp
      go_wp2_with ((go_at_call 4; refine (HR.out _ v26 hHeld2.2.2.2 hv).mono ?_; rintro e wq3 ⟨rfl, hbq3⟩))
      refine hK.out _ _ (by exact three_below hHeld2 hbq3) (fun hHeld3 => ?_)
      clear hK K hHeld2
      try simp only [Act.put, List.getElem_toArray, List.getElem_cons_zero, List.getElem_cons_succ, List.setIfInBounds_toArray, List.set_cons_zero, List.set_cons_succ]
      have hal := there_below hal hbq3
      refine wpAnyH_take (i := 5) (v := ?_) rfl (by kernel_rfl) (by kernel_rfl) (by kernel_rfl) (fun _ _ _ h => h) (Or.inl ⟨by rfl, ?_⟩) hHeld3 ?_
      rotate_left
      · (intro w hSw; (try dsimp only at hSw); go_simp <;> (try with_reducible rfl))
      simp only [Act.put, List.getElem_toArray, List.getElem_cons_zero, List.getElem_cons_succ, List.setIfInBounds_toArray, List.set_cons_zero, List.set_cons_succ]
      refine wpAnyH_take (i := 6) (v := ?_) rfl (by kernel_rfl) (by kernel_rfl) (by kernel_rfl) (fun _ _ _ h => h) (Or.inl ⟨by rfl, ?_⟩) hHeld3 ?_
      rotate_left
      · (intro w hSw; (try dsimp only at hSw); go_simp <;> (try with_reducible rfl))
      simp only [Act.put, List.getElem_toArray, List.getElem_cons_zero, List.getElem_cons_succ, List.setIfInBounds_toArray, List.set_cons_zero, List.set_cons_succ]
      refine wpAnyH_take (i := 7) (v := ?_) rfl (by kernel_rfl) (by kernel_rfl) (by kernel_rfl) (fun _ _ _ h => h) (Or.inl ⟨by rfl, ?_⟩) hHeld3 ?_
      rotate_left
      · (intro w hSw; (try dsimp only at hSw); go_simp <;> (try with_reducible rfl))
      simp only [Act.put, List.getElem_toArray, List.getElem_cons_zero, List.getElem_cons_succ, List.setIfInBounds_toArray, List.set_cons_zero, List.set_cons_succ]
      refine wpAnyH_ready (rs := [9]) (by kernel_rfl) (by simp) ?_
      refine AllReadyH.cons rfl (fun K hK => ?_) AllReadyH.nil
      rw [if_pos (by rfl)]
      refine wp_store_mid _ _ _ rfl _ _ (vals P1).toArray rfl rfl (by rw [HVP.out]; exact hal) (by rw [HVP.out]; exact size_dig) (all_oneCell_toArray (vals_one _)) ?_
      simp only [Act.put, List.toList_toArray]
      refine hK.out _ _ (by exact three_store hHeld3 hn1 hn2 hn3 hn4 _) (fun hHeld4 => ?_)
      clear hK K hHeld3
      try simp only [Act.put, List.getElem_toArray, List.getElem_cons_zero, List.getElem_cons_succ, List.setIfInBounds_toArray, List.set_cons_zero, List.set_cons_succ]
      refine wpAnyH_take (i := 10) (v := ?_) rfl (by kernel_rfl) (by kernel_rfl) (by kernel_rfl) (fun _ _ _ h => h) (Or.inl ⟨by rfl, ?_⟩) hHeld4 ?_
      rotate_left
      · (intro w hSw; (try dsimp only at hSw); go_simp <;> (try with_reducible rfl))
      simp only [Act.put, List.getElem_toArray, List.getElem_cons_zero, List.getElem_cons_succ, List.setIfInBounds_toArray, List.set_cons_zero, List.set_cons_succ]
      refine wpAnyH_done (by kernel_rfl) ?_ _
      exact ⟨v26, b6, rfl, hHeld4.1, hHeld4.2.1, hHeld4.2.2.1, World.rangeAt_setCells_same _ b6 0 (vals P1) (by rw [vals_length, HPL.out]; exact hal), hHeld4.2.2.2⟩
    refine AllReadyH.cons rfl (fun K hK => ?_) AllReadyH.nil
    go_simp
    have hl1 := range_lt hHeld0.1 (by rw [HSL.out]; omega)
    have hl2 := range_lt hHeld0.2.1 (by rw [HML.out]; omega)
    have hl3 := range_lt hHeld0.2.2.1 (by rw [HOL.out]; omega)
    have hal := (Is.new wS.drew (vals Z) 23).there (n := 32) (by rw [vals_length]; exact HZL.out)
    obtain ⟨b6, hb6⟩ : ∃ b, b = (wS.heap.size) := ⟨_, rfl⟩
    have hn1 : w.heap.size ≠ b6 := by rw [hb6]; exact Nat.ne_of_lt hl1
    have hn2 : w.heap.size + 1 ≠ b6 := by rw [hb6]; exact Nat.ne_of_lt hl2
    have hn3 : w.heap.size + 1 + 1 ≠ b6 := by rw [hb6]; exact Nat.ne_of_lt hl3
    have hn4 : w.heap.size ≤ b6 := by rw [hb6]; exact Nat.le_of_lt hl1
    clear hl1 hl2 hl3
    rw [← hb6]
    replace hal : ((wS.drew).alloc (.cells (vals Z).toArray 23)).there b6 0 32 := by rw [hb6]; exact hal
    clear hb6
    refine hK.out _ _ (by exact three_below hHeld0 (below_alloc _ _)) (fun hHeld1 => ?_)
    clear hK K hHeld0
    try simp only [Act.put, List.getElem_toArray, List.getElem_cons_zero, List.getElem_cons_succ, List.setIfInBounds_toArray, List.set_cons_zero, List.set_cons_succ]
    refine wpAnyH_ready (rs := [3]) (by kernel_rfl) (by simp) ?_
    refine AllReadyH.cons rfl (fun K hK => ?_) AllReadyH.nil
    go_simp
    go_wp2_with ((go_at_call 5; refine (HG.out _ hHeld1.2.2.2).mono ?_; rintro e wq2 ⟨v26, rfl, ho14, hbq2⟩))
    refine hK.out _ _ (by exact three_below hHeld1 hbq2) (fun hHeld2 => ?_)
    clear hK K hHeld1
    try simp only [Act.put, List.getElem_toArray, List.getElem_cons_zero, List.getElem_cons_succ, List.setIfInBounds_toArray, List.set_cons_zero, List.set_cons_succ]
    have hv := ho14.has
    clear ho14
    have hal := there_below hal hbq2
    refine wpAnyH_ready (rs := [4]) (by kernel_rfl) (by simp) ?_
    refine AllReadyH.cons rfl (fun K hK => ?_) AllReadyH.nil
    go_simp
    go_wp2_with ((go_at_call 4; refine (HR.out _ v26 hHeld2.2.2.2 hv).mono ?_; rintro e wq3 ⟨rfl, hbq3⟩))
    refine hK.out _ _ (by exact three_below hHeld2 hbq3) (fun hHeld3 => ?_)
    clear hK K hHeld2
    try simp only [Act.put, List.getElem_toArray, List.getElem_cons_zero, List.getElem_cons_succ, List.setIfInBounds_toArray, List.set_cons_zero, List.set_cons_succ]
    have hal := there_below hal hbq3
    refine wpAnyH_take (i := 5) (v := ?_) rfl (by kernel_rfl) (by kernel_rfl) (by kernel_rfl) (fun _ _ _ h => h) (Or.inl ⟨by rfl, ?_⟩) hHeld3 ?_
    rotate_left
    · (intro w hSw; (try dsimp only at hSw); go_simp <;> (try with_reducible rfl))
    simp only [Act.put, List.getElem_toArray, List.getElem_cons_zero, List.getElem_cons_succ, List.setIfInBounds_toArray, List.set_cons_zero, List.set_cons_succ]
    refine wpAnyH_take (i := 6) (v := ?_) rfl (by kernel_rfl) (by kernel_rfl) (by kernel_rfl) (fun _ _ _ h => h) (Or.inl ⟨by rfl, ?_⟩) hHeld3 ?_
    rotate_left
    · (intro w hSw; (try dsimp only at hSw); go_simp <;> (try with_reducible rfl))
    simp only [Act.put, List.getElem_toArray, List.getElem_cons_zero, List.getElem_cons_succ, List.setIfInBounds_toArray, List.set_cons_zero, List.set_cons_succ]
    refine wpAnyH_take (i := 7) (v := ?_) rfl (by kernel_rfl) (by kernel_rfl) (by kernel_rfl) (fun _ _ _ h => h) (Or.inl ⟨by rfl, ?_⟩) hHeld3 ?_
    rotate_left
    · (intro w hSw; (try dsimp only at hSw); go_simp <;> (try with_reducible rfl))
    simp only [Act.put, List.getElem_toArray, List.getElem_cons_zero, List.getElem_cons_succ, List.setIfInBounds_toArray, List.set_cons_zero, List.set_cons_succ]
    refine wpAnyH_ready (rs := [9]) (by kernel_rfl) (by simp) ?_
    refine AllReadyH.cons rfl (fun K hK => ?_) AllReadyH.nil
    rw [if_pos (by rfl)]
    refine wp_store_mid _ _ _ rfl _ _ (vals P1).toArray rfl rfl (by rw [HVP.out]; exact hal) (by rw [HVP.out]; exact size_dig) (all_oneCell_toArray (vals_one _)) ?_
    simp only [Act.put, List.toList_toArray]
    refine hK.out _ _ (by exact three_store hHeld3 hn1 hn2 hn3 hn4 _) (fun hHeld4 => ?_)
    clear hK K hHeld3
    try simp only [Act.put, List.getElem_toArray, List.getElem_cons_zero, List.getElem_cons_succ, List.setIfInBounds_toArray, List.set_cons_zero, List.set_cons_succ]
    refine wpAnyH_take (i := 10) (v := ?_) rfl (by kernel_rfl) (by kernel_rfl) (by kernel_rfl) (fun _ _ _ h => h) (Or.inl ⟨by rfl, ?_⟩) hHeld4 ?_
    rotate_left
    · (intro w hSw; (try dsimp only at hSw); go_simp <;> (try with_reducible rfl))
    simp only [Act.put, List.getElem_toArray, List.getElem_cons_zero, List.getElem_cons_succ, List.setIfInBounds_toArray, List.set_cons_zero, List.set_cons_succ]
    refine wpAnyH_done (by kernel_rfl) ?_ _
    exact ⟨v26, b6, rfl, hHeld4.1, hHeld4.2.1, hHeld4.2.2.1, World.rangeAt_setCells_same _ b6 0 (vals P1) (by rw [vals_length, HPL.out]; exact hal), hHeld4.2.2.2⟩
  · rintro a W ⟨v26, b9, rfl, hS4⟩
    have HS4 := hide hS4
    clear hS4 HS0
    go_wp2
    refine wp_cut (fun a W => ∃ x41 x42 x43 x44 x45 : Value, a = { tmps := (.agg (vals seed).toArray :: .agg (vals m).toArray :: .agg (vals other).toArray :: (.slice sa sn cap) :: .pointer (some ⟨w.heap.size, 0, none⟩) :: .pointer (some ⟨w.heap.size + 1, 0, none⟩) :: .pointer (some ⟨w.heap.size + 1 + 1, 0, none⟩) :: undef :: .bool false :: .pointer (some ⟨b9, 0, none⟩) :: .nilIface :: undef :: undef :: undef :: undef :: undef :: undef :: undef :: undef :: undef :: undef :: undef :: .tuple #[.agg (vals P1).toArray, .nilIface] :: .agg (vals m).toArray :: .agg (vals seed).toArray :: .agg (vals m).toArray :: v26 :: .tuple #[.agg (vals P1).toArray, .nilIface] :: .agg (vals P1).toArray :: .nilIface :: .nilIface :: .bool false :: .bool false :: .agg (vals P1).toArray :: .agg (vals seed).toArray :: .agg (vals P2).toArray :: .bool false :: .bool false :: .bool false :: .agg (vals P1).toArray :: .agg (vals Z).toArray :: x41 :: x42 :: x43 :: x44 :: x45 :: .bool false :: .bool false :: undef :: undef :: undef :: undef :: undef :: undef :: undef :: undef :: undef :: undef :: undef :: undef :: undef :: undef :: undef :: undef :: undef :: undef :: undef :: undef :: undef :: undef :: undef :: undef :: undef :: undef :: undef :: undef :: undef :: undef :: undef :: undef :: undef :: undef :: undef :: undef :: undef :: undef :: undef :: undef :: undef :: undef :: undef :: undef :: undef :: undef :: undef :: undef :: undef :: undef :: undef :: undef :: undef :: undef :: undef :: undef :: undef :: undef :: undef :: undef :: undef :: undef :: undef :: undef :: undef :: undef :: undef :: undef :: undef :: undef :: undef :: undef :: undef :: undef :: undef :: undef :: undef :: undef :: undef :: undef :: undef :: undef :: undef :: undef :: undef :: undef :: undef :: undef :: undef :: undef :: undef :: undef :: undef :: undef :: undef :: undef :: undef :: undef :: undef :: undef :: undef :: undef :: undef :: undef :: undef :: undef :: undef :: undef :: undef :: undef :: undef :: undef :: undef :: undef :: undef :: undef :: undef :: undef :: undef :: undef :: undef :: undef :: undef :: undef :: undef :: []).toArray, defers := [] } ∧ (fun W : World => W.rangeAt w.heap.size 0 (vals seed) ∧ W.rangeAt (w.heap.size + 1) 0 (vals m) ∧ W.rangeAt (w.heap.size + 1 + 1) 0 (vals other) ∧ W.rangeAt b9 0 (vals P1) ∧ Below w.heap.size w W) W) ?_ ?_
    · by_cases hpz : P1 = Z
      · have hsz2 := HPZ.out hpz
        have hq1 : ∀ w', (Op.equalIn 10000 23 (.agg (vals P1).toArray) (.agg (vals Z).toArray)).run Tryd.prog w' = .ok true w' := fun w' => dig_same _ _ HZL.out hpz w'
        have hq2 : ∀ w', (Op.equalIn 10000 23 (.agg (vals seed).toArray) (.agg (vals Z).toArray)).run Tryd.prog w' = .ok false w' := fun w' => by rw [dig_eq _ _ HSL.out HZL.out, decide_eq_false hsz2]
        clear hpz hsz2
        refine wp_region_held_drew (S := fun W : World => W.rangeAt w.heap.size 0 (vals seed) ∧ W.rangeAt (w.heap.size + 1) 0 (vals m) ∧ W.rangeAt (w.heap.size + 1 + 1) 0 (vals other) ∧ W.rangeAt b9 0 (vals P1) ∧ Below w.heap.size w W) (by kernel_rfl) ?_ (fun hHeld0 => ?_)
        · exact four_belowB HS4.out ((Below.refl _ _).drew)
        refine wpAnyH_take (i := 0) (v := ?_) rfl (by kernel_rfl) (by kernel_rfl) (by kernel_rfl) (fun _ _ _ h => h) (Or.inl ⟨by rfl, ?_⟩) hHeld0 ?_
        rotate_left
        · (intro w hSw; (try dsimp only at hSw); go_simp <;> (try with_reducible rfl))
        simp only [Act.put, List.getElem_toArray, List.getElem_cons_zero, List.getElem_cons_succ, List.setIfInBounds_toArray, List.set_cons_zero, List.set_cons_succ]
        refine wpAnyH_take (i := 1) (v := ?_) rfl (by kernel_rfl) (by kernel_rfl) (by kernel_rfl) (fun _ _ _ h => h) (Or.inl ⟨by rfl, ?_⟩) hHeld0 ?_
        rotate_left
        · (intro w hSw; (try dsimp only at hSw); go_simp <;> (try with_reducible rfl))
        simp only [Act.put, List.getElem_toArray, List.getElem_cons_zero, List.getElem_cons_succ, List.setIfInBounds_toArray, List.set_cons_zero, List.set_cons_succ]
        refine wpAnyH_take (i := 2) (v := ?_) rfl (by kernel_rfl) (by kernel_rfl) (by kernel_rfl) (fun _ _ _ h => h) (Or.inl ⟨by rfl, ?_⟩) hHeld0 ?_
        rotate_left
        · (intro w hSw; (try dsimp only at hSw); go_simp <;> (try with_reducible rfl))
        simp only [Act.put, List.getElem_toArray, List.getElem_cons_zero, List.getElem_cons_succ, List.setIfInBounds_toArray, List.set_cons_zero, List.set_cons_succ]
        refine wpAnyH_take (i := 3) (v := .agg (vals P1).toArray) rfl (by kernel_rfl) (by kernel_rfl) (by kernel_rfl) (fun _ _ _ h => h) (yieldsIf_load_mid (by rfl) _ _ rfl _ _ rfl (vals P1) _ (fun w hSw => hSw.2.2.2.1) Tryd.underlying23 rfl hszp) hHeld0 ?_
        simp only [Act.put, List.getElem_toArray, List.getElem_cons_zero, List.getElem_cons_succ, List.setIfInBounds_toArray, List.set_cons_zero, List.set_cons_succ]
        refine wpAnyH_take (i := 4) (v := .agg (vals seed).toArray) rfl (by kernel_rfl) (by kernel_rfl) (by kernel_rfl) (fun _ _ _ h => h) (yieldsIf_load_mid (by rfl) _ _ rfl _ _ rfl (vals seed) _ (fun w hSw => hSw.1) Tryd.underlying23 rfl hszs) hHeld0 ?_
        simp only [Act.put, List.getElem_toArray, List.getElem_cons_zero, List.getElem_cons_succ, List.setIfInBounds_toArray, List.set_cons_zero, List.set_cons_succ]
        refine wpAnyH_ready (rs := [5]) (by kernel_rfl) (by simp) ?_
        refine AllReadyH.cons rfl (fun K hK => ?_) AllReadyH.nil
        go_simp
        go_wp2_with ((go_at_call 6; refine (HP2.out _ hHeld0.2.2.2.2).mono ?_; rintro e wq1 ⟨rfl, hbq1⟩))
        refine hK.out _ _ (by exact four_belowB hHeld0 hbq1) (fun hHeld1 => ?_)
        clear hK K hHeld0
        try simp only [Act.put, List.getElem_toArray, List.getElem_cons_zero, List.getElem_cons_succ, List.setIfInBounds_toArray, List.set_cons_zero, List.set_cons_succ]
        refine wpAnyH_take (i := 6) (v := ?_) rfl (by kernel_rfl) (by kernel_rfl) (by kernel_rfl) (fun _ _ _ h => h) (Or.inl ⟨by rfl, ?_⟩) hHeld1 ?_
        rotate_left
        · (intro w hSw; (try dsimp only at hSw); go_simp <;> (try with_reducible rfl))
        simp only [Act.put, List.getElem_toArray, List.getElem_cons_zero, List.getElem_cons_succ, List.setIfInBounds_toArray, List.set_cons_zero, List.set_cons_succ]
        refine wpAnyH_take (i := 7) (v := ?_) rfl (by kernel_rfl) (by kernel_rfl) (by kernel_rfl) (fun _ _ _ h => h) (Or.inl ⟨by rfl, ?_⟩) hHeld1 ?_
        rotate_left
        · (intro w hSw; (try dsimp only at hSw); go_simp <;> (try with_reducible rfl))
        simp only [Act.put, List.getElem_toArray, List.getElem_cons_zero, List.getElem_cons_succ, List.setIfInBounds_toArray, List.set_cons_zero, List.set_cons_succ]
        refine wpAnyH_take (i := 8) (v := ?_) rfl (by kernel_rfl) (by kernel_rfl) (by kernel_rfl) (fun _ _ _ h => h) (Or.inl ⟨by rfl, ?_⟩) hHeld1 ?_
        rotate_left
        · (intro w hSw; (try dsimp only at hSw); go_simp <;> (try with_reducible rfl))
        simp only [Act.put, List.getElem_toArray, List.getElem_cons_zero, List.getElem_cons_succ, List.setIfInBounds_toArray, List.set_cons_zero, List.set_cons_succ]
        refine wpAnyH_take (i := 9) (v := .agg (vals P1).toArray) rfl (by kernel_rfl) (by kernel_rfl) (by kernel_rfl) (fun _ _ _ h => h) (yieldsIf_load_mid (by rfl) _ _ rfl _ _ rfl (vals P1) _ (fun w hSw => hSw.2.2.2.1) Tryd.underlying23 rfl hszp) hHeld1 ?_
        simp only [Act.put, List.getElem_toArray, List.getElem_cons_zero, List.getElem_cons_succ, List.setIfInBounds_toArray, List.set_cons_zero, List.set_cons_succ]
        refine wpAnyH_take (i := 10) (v := ?_) rfl (by kernel_rfl) (by kernel_rfl) (by kernel_rfl) (fun _ _ _ h => h) (Or.inl ⟨by rfl, ?_⟩) hHeld1 ?_
        rotate_left
        · (intro w hSw; (try dsimp only at hSw); go_simp <;> (try with_reducible rfl))
        simp only [Act.put, List.getElem_toArray, List.getElem_cons_zero, List.getElem_cons_succ, List.setIfInBounds_toArray, List.set_cons_zero, List.set_cons_succ]
        refine wpAnyH_take (i := 11) (v := ?_) rfl (by kernel_rfl) (by kernel_rfl) (by kernel_rfl) (fun _ _ _ h => h) (Or.inl ⟨by rfl, ?_⟩) hHeld1 ?_
        rotate_left
        · (intro w hSw; (try dsimp only at hSw); go_simp <;> (try with_reducible rfl))
        simp only [Act.put, List.getElem_toArray, List.getElem_cons_zero, List.getElem_cons_succ, List.setIfInBounds_toArray, List.set_cons_zero, List.set_cons_succ]
        refine wpAnyH_take (i := 12) (v := ?_) rfl (by kernel_rfl) (by kernel_rfl) (by kernel_rfl) (fun _ _ _ h => h) (Or.inl ⟨by rfl, ?_⟩) hHeld1 ?_
        rotate_left
        · (intro w hSw; (try dsimp only at hSw); go_simp <;> (try with_reducible rfl))
        simp only [Act.put, List.getElem_toArray, List.getElem_cons_zero, List.getElem_cons_succ, List.setIfInBounds_toArray, List.set_cons_zero, List.set_cons_succ]
        refine wpAnyH_take (i := 13) (v := .agg (vals seed).toArray) rfl (by kernel_rfl) (by kernel_rfl) (by kernel_rfl) (fun _ _ _ h => h) (yieldsIf_load_mid (by rfl) _ _ rfl _ _ rfl (vals seed) _ (fun w hSw => hSw.1) Tryd.underlying23 rfl hszs) hHeld1 ?_
        simp only [Act.put, List.getElem_toArray, List.getElem_cons_zero, List.getElem_cons_succ, List.setIfInBounds_toArray, List.set_cons_zero, List.set_cons_succ]
        refine wpAnyH_take (i := 14) (v := ?_) rfl (by kernel_rfl) (by kernel_rfl) (by kernel_rfl) (fun _ _ _ h => h) (Or.inl ⟨by rfl, ?_⟩) hHeld1 ?_
        rotate_left
        · (intro w hSw; (try dsimp only at hSw); go_simp <;> (try with_reducible rfl))
        simp only [Act.put, List.getElem_toArray, List.getElem_cons_zero, List.getElem_cons_succ, List.setIfInBounds_toArray, List.set_cons_zero, List.set_cons_succ]
        refine wpAnyH_take (i := 15) (v := ?_) rfl (by kernel_rfl) (by kernel_rfl) (by kernel_rfl) (fun _ _ _ h => h) (Or.inl ⟨by rfl, ?_⟩) hHeld1 ?_
        rotate_left
        · (intro w hSw; (try dsimp only at hSw); go_simp <;> (try with_reducible rfl))
        simp only [Act.put, List.getElem_toArray, List.getElem_cons_zero, List.getElem_cons_succ, List.setIfInBounds_toArray, List.set_cons_zero, List.set_cons_succ]
        refine wpAnyH_take (i := 16) (v := ?_) rfl (by kernel_rfl) (by kernel_rfl) (by kernel_rfl) (fun _ _ _ h => h) (Or.inl ⟨by rfl, ?_⟩) hHeld1 ?_
        rotate_left
        · (intro w hSw; (try dsimp only at hSw); go_simp <;> (try with_reducible rfl))
        simp only [Act.put, List.getElem_toArray, List.getElem_cons_zero, List.getElem_cons_succ, List.setIfInBounds_toArray, List.set_cons_zero, List.set_cons_succ]
        refine wpAnyH_take (i := 17) (v := ?_) rfl (by kernel_rfl) (by kernel_rfl) (by kernel_rfl) (fun _ _ _ h => h) (Or.inl ⟨by rfl, ?_⟩) hHeld1 ?_
        rotate_left
        · (intro w hSw; (try dsimp only at hSw); go_simp <;> (try with_reducible rfl))
        simp only [Act.put, List.getElem_toArray, List.getElem_cons_zero, List.getElem_cons_succ, List.setIfInBounds_toArray, List.set_cons_zero, List.set_cons_succ]
        refine wpAnyH_done (by kernel_rfl) ?_ _
        exact ⟨_, _, _, _, _, rfl, hHeld1⟩
      · have hq1 : ∀ w', (Op.equalIn 10000 23 (.agg (vals P1).toArray) (.agg (vals Z).toArray)).run Tryd.prog w' = .ok false w' := fun w' => by rw [dig_eq _ _ HPL.out HZL.out, decide_eq_false hpz]
        clear hpz
        refine wp_region_held_drew (S := fun W : World => W.rangeAt w.heap.size 0 (vals seed) ∧ W.rangeAt (w.heap.size + 1) 0 (vals m) ∧ W.rangeAt (w.heap.size + 1 + 1) 0 (vals other) ∧ W.rangeAt b9 0 (vals P1) ∧ Below w.heap.size w W) (by kernel_rfl) ?_ (fun hHeld0 => ?_)
        · exact four_belowB HS4.out ((Below.refl _ _).drew)
        refine wpAnyH_take (i := 0) (v := ?_) rfl (by kernel_rfl) (by kernel_rfl) (by kernel_rfl) (fun _ _ _ h => h) (Or.inl ⟨by rfl, ?_⟩) hHeld0 ?_
        rotate_left
        · (intro w hSw; (try dsimp only at hSw); go_simp <;> (try with_reducible rfl))
        simp only [Act.put, List.getElem_toArray, List.getElem_cons_zero, List.getElem_cons_succ, List.setIfInBounds_toArray, List.set_cons_zero, List.set_cons_succ]
        refine wpAnyH_take (i := 1) (v := ?_) rfl (by kernel_rfl) (by kernel_rfl) (by kernel_rfl) (fun _ _ _ h => h) (Or.inl ⟨by rfl, ?_⟩) hHeld0 ?_
        rotate_left
        · (intro w hSw; (try dsimp only at hSw); go_simp <;> (try with_reducible rfl))
        simp only [Act.put, List.getElem_toArray, List.getElem_cons_zero, List.getElem_cons_succ, List.setIfInBounds_toArray, List.set_cons_zero, List.set_cons_succ]
        refine wpAnyH_take (i := 2) (v := ?_) rfl (by kernel_rfl) (by kernel_rfl) (by kernel_rfl) (fun _ _ _ h => h) (Or.inl ⟨by rfl, ?_⟩) hHeld0 ?_
        rotate_left
        · (intro w hSw; (try dsimp only at hSw); go_simp <;> (try with_reducible rfl))
        simp only [Act.put, List.getElem_toArray, List.getElem_cons_zero, List.getElem_cons_succ, List.setIfInBounds_toArray, List.set_cons_zero, List.set_cons_succ]
        refine wpAnyH_take (i := 3) (v := .agg (vals P1).toArray) rfl (by kernel_rfl) (by kernel_rfl) (by kernel_rfl) (fun _ _ _ h => h) (yieldsIf_load_mid (by rfl) _ _ rfl _ _ rfl (vals P1) _ (fun w hSw => hSw.2.2.2.1) Tryd.underlying23 rfl hszp) hHeld0 ?_
        simp only [Act.put, List.getElem_toArray, List.getElem_cons_zero, List.getElem_cons_succ, List.setIfInBounds_toArray, List.set_cons_zero, List.set_cons_succ]
        refine wpAnyH_take (i := 4) (v := .agg (vals seed).toArray) rfl (by kernel_rfl) (by kernel_rfl) (by kernel_rfl) (fun _ _ _ h => h) (yieldsIf_load_mid (by rfl) _ _ rfl _ _ rfl (vals seed) _ (fun w hSw => hSw.1) Tryd.underlying23 rfl hszs) hHeld0 ?_
        simp only [Act.put, List.getElem_toArray, List.getElem_cons_zero, List.getElem_cons_succ, List.setIfInBounds_toArray, List.set_cons_zero, List.set_cons_succ]
        refine wpAnyH_ready (rs := [5]) (by kernel_rfl) (by simp) ?_
        refine AllReadyH.cons rfl (fun K hK => ?_) AllReadyH.nil
        go_simp
        go_wp2_with ((go_at_call 6; refine (HP2.out _ hHeld0.2.2.2.2).mono ?_; rintro e wq1 ⟨rfl, hbq1⟩))
        refine hK.out _ _ (by exact four_belowB hHeld0 hbq1) (fun hHeld1 => ?_)
        clear hK K hHeld0
        try simp only [Act.put, List.getElem_toArray, List.getElem_cons_zero, List.getElem_cons_succ, List.setIfInBounds_toArray, List.set_cons_zero, List.set_cons_succ]
        refine wpAnyH_take (i := 6) (v := ?_) rfl (by kernel_rfl) (by kernel_rfl) (by kernel_rfl) (fun _ _ _ h => h) (Or.inl ⟨by rfl, ?_⟩) hHeld1 ?_
        rotate_left
        · (intro w hSw; (try dsimp only at hSw); go_simp <;> (try with_reducible rfl))
        simp only [Act.put, List.getElem_toArray, List.getElem_cons_zero, List.getElem_cons_succ, List.setIfInBounds_toArray, List.set_cons_zero, List.set_cons_succ]
        refine wpAnyH_take (i := 7) (v := ?_) rfl (by kernel_rfl) (by kernel_rfl) (by kernel_rfl) (fun _ _ _ h => h) (Or.inl ⟨by rfl, ?_⟩) hHeld1 ?_
        rotate_left
        · (intro w hSw; (try dsimp only at hSw); go_simp <;> (try with_reducible rfl))
        simp only [Act.put, List.getElem_toArray, List.getElem_cons_zero, List.getElem_cons_succ, List.setIfInBounds_toArray, List.set_cons_zero, List.set_cons_succ]
        refine wpAnyH_take (i := 8) (v := ?_) rfl (by kernel_rfl) (by kernel_rfl) (by kernel_rfl) (fun _ _ _ h => h) (Or.inl ⟨by rfl, ?_⟩) hHeld1 ?_
        rotate_left
        · (intro w hSw; (try dsimp only at hSw); go_simp <;> (try with_reducible rfl))
        simp only [Act.put, List.getElem_toArray, List.getElem_cons_zero, List.getElem_cons_succ, List.setIfInBounds_toArray, List.set_cons_zero, List.set_cons_succ]
        refine wpAnyH_take (i := 9) (v := .agg (vals P1).toArray) rfl (by kernel_rfl) (by kernel_rfl) (by kernel_rfl) (fun _ _ _ h => h) (yieldsIf_load_mid (by rfl) _ _ rfl _ _ rfl (vals P1) _ (fun w hSw => hSw.2.2.2.1) Tryd.underlying23 rfl hszp) hHeld1 ?_
        simp only [Act.put, List.getElem_toArray, List.getElem_cons_zero, List.getElem_cons_succ, List.setIfInBounds_toArray, List.set_cons_zero, List.set_cons_succ]
        refine wpAnyH_take (i := 10) (v := ?_) rfl (by kernel_rfl) (by kernel_rfl) (by kernel_rfl) (fun _ _ _ h => h) (Or.inl ⟨by rfl, ?_⟩) hHeld1 ?_
        rotate_left
        · (intro w hSw; (try dsimp only at hSw); go_simp <;> (try with_reducible rfl))
        simp only [Act.put, List.getElem_toArray, List.getElem_cons_zero, List.getElem_cons_succ, List.setIfInBounds_toArray, List.set_cons_zero, List.set_cons_succ]
        refine wpAnyH_take (i := 11) (v := ?_) rfl (by kernel_rfl) (by kernel_rfl) (by kernel_rfl) (fun _ _ _ h => h) (Or.inl ⟨by rfl, ?_⟩) hHeld1 ?_
        rotate_left
        · (intro w hSw; (try dsimp only at hSw); go_simp <;> (try with_reducible rfl))
        simp only [Act.put, List.getElem_toArray, List.getElem_cons_zero, List.getElem_cons_succ, List.setIfInBounds_toArray, List.set_cons_zero, List.set_cons_succ]
        refine wpAnyH_take (i := 12) (v := ?_) rfl (by kernel_rfl) (by kernel_rfl) (by kernel_rfl) (fun _ _ _ h => h) (Or.inl ⟨by rfl, ?_⟩) hHeld1 ?_
        rotate_left
        · (intro w hSw; (try dsimp only at hSw); go_simp <;> (try with_reducible rfl))
        simp only [Act.put, List.getElem_toArray, List.getElem_cons_zero, List.getElem_cons_succ, List.setIfInBounds_toArray, List.set_cons_zero, List.set_cons_succ]
        refine wpAnyH_take (i := 13) (v := undef) rfl (by kernel_rfl) (by kernel_rfl) (by kernel_rfl) (fun _ _ _ h => h) (Or.inr ⟨by rfl, rfl⟩) hHeld1 ?_
        simp only [Act.put, List.getElem_toArray, List.getElem_cons_zero, List.getElem_cons_succ, List.setIfInBounds_toArray, List.set_cons_zero, List.set_cons_succ]
        refine wpAnyH_take (i := 14) (v := undef) rfl (by kernel_rfl) (by kernel_rfl) (by kernel_rfl) (fun _ _ _ h => h) (Or.inr ⟨by rfl, rfl⟩) hHeld1 ?_
        simp only [Act.put, List.getElem_toArray, List.getElem_cons_zero, List.getElem_cons_succ, List.setIfInBounds_toArray, List.set_cons_zero, List.set_cons_succ]
        refine wpAnyH_take (i := 15) (v := undef) rfl (by kernel_rfl) (by kernel_rfl) (by kernel_rfl) (fun _ _ _ h => h) (Or.inr ⟨by rfl, rfl⟩) hHeld1 ?_
        simp only [Act.put, List.getElem_toArray, List.getElem_cons_zero, List.getElem_cons_succ, List.setIfInBounds_toArray, List.set_cons_zero, List.set_cons_succ]
        refine wpAnyH_take (i := 16) (v := ?_) rfl (by kernel_rfl) (by kernel_rfl) (by kernel_rfl) (fun _ _ _ h => h) (Or.inl ⟨by rfl, ?_⟩) hHeld1 ?_
        rotate_left
        · (intro w hSw; (try dsimp only at hSw); go_simp <;> (try with_reducible rfl))
        simp only [Act.put, List.getElem_toArray, List.getElem_cons_zero, List.getElem_cons_succ, List.setIfInBounds_toArray, List.set_cons_zero, List.set_cons_succ]
        refine wpAnyH_take (i := 17) (v := ?_) rfl (by kernel_rfl) (by kernel_rfl) (by kernel_rfl) (fun _ _ _ h => h) (Or.inl ⟨by rfl, ?_⟩) hHeld1 ?_
        rotate_left
        · (intro w hSw; (try dsimp only at hSw); go_simp <;> (try with_reducible rfl))
        simp only [Act.put, List.getElem_toArray, List.getElem_cons_zero, List.getElem_cons_succ, List.setIfInBounds_toArray, List.set_cons_zero, List.set_cons_succ]
        refine wpAnyH_done (by kernel_rfl) ?_ _
        exact ⟨_, _, _, _, _, rfl, hHeld1⟩
    · rintro a W2 ⟨x41, x42, x43, x44, x45, rfl, hS5⟩
      have HS5 := hide hS5
      clear hS5 HS4
      have hb5 := HS5.out.2.2.2.2
      go_wp2_with (first
        | (refine wpList_load_mid2 23 (vals other) (w.heap.size + 1 + 1) 0 rfl (.tmp 6) rfl rfl HS5.out.2.2.1 Tryd.underlying23 size_dig (by rw [vals_length]; exact HOL.out) ?_)
        | (go_at_call 4; refine (HRB.out _).mono ?_; rintro e w4 ⟨rfl, hb4⟩; have hb4' := hb5.trans (hb4.mono hb5.size))
        | (refine wpList_store_any2 23 (vals Z) (vals Z) w4.heap.size rfl (.tmp 11) (.tmp 52) rfl rfl rfl rfl (Is.new w4 _ _) size_dig (by rw [vals_length]; exact HZL.out) (by rw [vals_length]; exact HZL.out) (vals_one _) ?_; intro w5 hi5 hb6 hk5 hz5; clear hz5; have hb5' := hb6 _ _ (hb4'.alloc hb4'.size _) hb4'.size))
      go_ret
      exact ⟨rfl, hb5'⟩
end Go.Proofs.YtfgjgaenhpelkaaDoor
