/- The walk of KeySigned: a signature tells the public key of its seed. -/
import Derived.Test.YtdeddnlagbeanaaDoorKeRec
import Derived.Test.YtdeddnlagbeanaaDoorKeSteps
import Derived.Test.YtdeddnlagbeanaaDoorKf
namespace Go.Proofs.YtdeddnlagbeanaaDoor
open Go.RowKit
set_option linter.unusedVariables false
set_option linter.unusedSimpArgs false

theorem pub_zero_ne : Ky.pub (List.replicate 32 0) ≠ List.replicate 32 0 := fun h => by
  have := Kf.pub_zero
  rw [h] at this
  exact absurd this (by decide)
theorem pub_ne (Z : List Int) (hZ : Z = List.replicate 32 0) : Ky.pub Z ≠ Z := by rw [hZ]; exact pub_zero_ne
theorem range_lt {w : World} {b off : Nat} {L : List Int} (h : w.rangeAt b off (vals L)) (h0 : 0 < L.length) : b < w.heap.size := by
  have := h 0 _ (vals_get L 0 h0)
  exact World.block_lt_of_cell? w _ this
/-- Three ranges and what was there stand behind a call that makes memory alone. -/
theorem three_below {w W W' : World} {a b c : Nat} {x y z : List Value} (h : W.rangeAt a 0 x ∧ W.rangeAt b 0 y ∧ W.rangeAt c 0 z ∧ Below w.heap.size w W) (hb : Below W.heap.size W W') : W'.rangeAt a 0 x ∧ W'.rangeAt b 0 y ∧ W'.rangeAt c 0 z ∧ Below w.heap.size w W' :=
  ⟨range_below h.1 hb, range_below h.2.1 hb, range_below h.2.2.1 hb, h.2.2.2.trans (hb.mono h.2.2.2.size)⟩
theorem three_store {w W : World} {a b c : Nat} {x y z : List Value} (h : W.rangeAt a 0 x ∧ W.rangeAt b 0 y ∧ W.rangeAt c 0 z ∧ Below w.heap.size w W) {g : Nat} (ha : a ≠ g) (hb : b ≠ g) (hc : c ≠ g) (hg : w.heap.size ≤ g) (vs : List Value) :
    (W.setCells g 0 vs).rangeAt a 0 x ∧ (W.setCells g 0 vs).rangeAt b 0 y ∧ (W.setCells g 0 vs).rangeAt c 0 z ∧ Below w.heap.size w (W.setCells g 0 vs) :=
  ⟨World.rangeAt_setCells_apart h.1 _ _ _ (.inl ha), World.rangeAt_setCells_apart h.2.1 _ _ _ (.inl hb), World.rangeAt_setCells_apart h.2.2.1 _ _ _ (.inl hc), setCells_below hg _ _ _ h.2.2.2⟩

set_option maxRecDepth 100000 in
set_option maxHeartbeats 8000000 in
theorem ksigned_walk (seed m : List Int) (w : World) (hs : seed.length = 32) (hsb : Sz.Byt seed) (hm : m.length = 32) (hmb : Sz.Byt m) (ht : Tab w) (hw : 1 < w.heap.size) :
    Calls Tryd.prog 4 #[.agg (vals seed).toArray, .agg (vals m).toArray] w fun e w' => e = .returned (.bool true) ∧ Below w.heap.size w w' := by
  obtain ⟨Z, hZ⟩ : ∃ Z : List Int, Z = List.replicate 32 0 := ⟨_, rfl⟩
  have hzd := zero_dig
  have hZl : Z.length = 32 := by rw [hZ]; rfl
  have hZb : Sz.Byt Z := fun x hx => by rw [hZ] at hx; rw [List.eq_of_mem_replicate hx]; omega
  have HP : Hid (∀ W (x : List Int), Below w.heap.size w W → x.length = 32 → Sz.Byt x → Calls Tryd.prog 13 #[.agg (vals x).toArray] W fun e w' => e = .returned (.agg (vals (Ky.pub x)).toArray) ∧ Below W.heap.size W w') := fun W x hW hx hxb => public_any x W hx hxb (ht.below hW hw) (Nat.lt_of_lt_of_le hw hW.size)
  have HG : Hid (∀ W, Below w.heap.size w W → Calls Tryd.prog 11 #[.agg (vals seed).toArray, .agg (vals m).toArray] W fun e w' => ∃ v, e = .returned v ∧ Own w' W.heap.size v (Ky.sign seed m) ∧ Below W.heap.size W w') := fun W hW => sign_any seed m W hs hsb hm hmb (ht.below hW hw) (Nat.lt_of_lt_of_le hw hW.size)
  have HR : Hid (∀ W v, Below w.heap.size w W → Has W v (Ky.sign seed m) → Calls Tryd.prog 18 #[.agg (vals m).toArray, v] W fun e w' => e = .returned (.tuple #[.agg (vals (Ky.pub seed)).toArray, .nilIface]) ∧ Below W.heap.size W w') := fun W v hW hv => by
    have := recover_any v m (Ky.sign seed m) W hv hm hmb (Ky.sign_byt seed m) (ht.below hW hw) (Nat.lt_of_lt_of_le hw hW.size)
    rwa [if_pos (Ky.sign_length seed m), if_pos (Ky.sign_length seed m), Ky.recov_sign seed m hmb] at this
  have hPl : (Ky.pub seed).length = 32 := Ky.pub_length seed
  have hFl : (Ky.pub Z).length = 32 := Ky.pub_length Z
  obtain ⟨P2, hP2⟩ : ∃ P2, P2 = Ky.pub seed := ⟨_, rfl⟩
  have heq1 : ∀ w', (Op.equalIn 10000 23 (.agg (vals (Ky.pub seed)).toArray) (.agg (vals P2).toArray)).run Tryd.prog w' = .ok true w' := fun w' => dig_same _ _ (by rw [hP2]; exact hPl) hP2.symm w'
  have heq3 : ∀ w', (Op.equalIn 10000 23 (.agg (vals (Ky.pub Z)).toArray) (.agg (vals Z).toArray)).run Tryd.prog w' = .ok false w' := fun w' => by
    rw [dig_eq _ _ hFl hZl, decide_eq_false (pub_ne Z hZ)]
  rw [← hZ] at hzd
  have HPS := HP.out
  have HP1 : Hid (∀ W, Below w.heap.size w W → Calls Tryd.prog 13 #[.agg (vals seed).toArray] W fun e w' => e = .returned (.agg (vals P2).toArray) ∧ Below W.heap.size W w') := fun W hW => by rw [hP2]; exact HPS W seed hW hs hsb
  have HP0 : Hid (∀ W, Below w.heap.size w W → Calls Tryd.prog 13 #[.agg (vals Z).toArray] W fun e w' => e = .returned (.agg (vals (Ky.pub Z)).toArray) ∧ Below W.heap.size W w') := fun W hW => HPS W Z hW hZl hZb
  have HP2 := hide hP2
  clear hP2
  generalize Ky.pub Z = F at *
  generalize Ky.pub seed = P at *
  generalize Ky.sign seed m = R at *
  have hgd := guard_dig
  have hvz : ¬ vals Z = [] := by intro h; have : (vals Z).length = 0 := by rw [h]; rfl
                                 rw [vals_length, hZl] at this; cases this
  have HZL := hide hZl
  have HSL := hide hs
  have HML := hide hm
  have HPL := hide hPl
  have HFL := hide hFl
  have hszs : (Tryd.prog.info? 23).map (·.size) = some (vals seed).length := by rw [vals_length, hs]; exact size_dig
  have hszm : (Tryd.prog.info? 23).map (·.size) = some (vals m).length := by rw [vals_length, hm]; exact size_dig
  have hszf : (Tryd.prog.info? 23).map (·.size) = some (vals F).length := by rw [vals_length, hFl]; exact size_dig
  have hszp : (Tryd.prog.info? 23).map (·.size) = some (vals P).length := by rw [vals_length, hPl]; exact size_dig
  have HVP : Hid ((vals P).toArray.size = 32) := by show _ = _; rw [List.size_toArray, vals_length, hPl]
  have HI0 := hide ((Is.new w (vals seed) 23).alloc (.cells (vals m).toArray 23))
  have HJ0 : Hid (Is ((w.alloc (.cells (vals seed).toArray 23)).alloc (.cells (vals m).toArray 23)) (w.heap.size + 1) (vals m) 23) := Is.new' _ 23 (by simp)
  have HB0 := hide (below_alloc2 w (.cells (vals seed).toArray 23) (.cells (vals m).toArray 23))
  clear HP2 hZ hZl hZb hPl hFl hs hsb hm hmb ht HPS HP
  go_enter Tryd.func4, Tryd.ntmps4
  go_wp2_with (first
    | (go_at_call 13; refine (HP0.out _ HB0.out).mono ?_; rintro e w1 ⟨rfl, hb1⟩; have hb1' := HB0.out.trans (hb1.mono HB0.out.size); have hI1 := HI0.out.below hb1 HI0.out.lt; have hJ1 := HJ0.out.below hb1 HJ0.out.lt)
    | (refine wpList_store_any2 23 (vals Z) (vals F) w1.heap.size rfl (.tmp 5) (.tmp 9) rfl rfl rfl rfl (Is.new w1 _ _) size_dig (by rw [vals_length]; exact HZL.out) (by rw [vals_length]; exact HFL.out) (vals_one _) ?_; intro w2 hi2 hb2 hk2 hz2))
  have hb2' := hb2 _ _ (hb1'.alloc hb1'.size _) hb1'.size
  have hl1 := hI1.lt
  have hl2 := hJ1.lt
  have hS0 : w2.rangeAt w.heap.size 0 (vals seed) ∧ w2.rangeAt (w.heap.size + 1) 0 (vals m) ∧ w2.rangeAt w1.heap.size 0 (vals F) ∧ Below w.heap.size w w2 :=
    ⟨(hk2 _ _ _ (by omega) (hI1.alloc _)).range, (hk2 _ _ _ (by omega) (hJ1.alloc _)).range, hi2.range, hb2'⟩
  obtain ⟨g, hg⟩ : ∃ g, g = w1.heap.size := ⟨_, rfl⟩
  rw [← hg] at hS0 ⊢
  have HS0 := hide hS0
  clear hS0 hg hb1 hb1' hI1 hJ1 hi2 hb2 hk2 hz2 hb2' HI0 HJ0 HB0 hl1 hl2 HP0
  refine wp_cut (fun a W => ∃ (v14 : Value) (b6 : Nat), a = { tmps := #[.agg (vals seed).toArray, .agg (vals m).toArray, .pointer (some ⟨w.heap.size, 0, none⟩), .pointer (some ⟨w.heap.size + 1, 0, none⟩), .bool false, .pointer (some ⟨g, 0, none⟩), .pointer (some ⟨b6, 0, none⟩), .nilIface, .agg (vals Z).toArray, .agg (vals F).toArray, .tuple #[.agg (vals P).toArray, .nilIface], .agg (vals m).toArray, .agg (vals seed).toArray, .agg (vals m).toArray, v14, .tuple #[.agg (vals P).toArray, .nilIface], .agg (vals P).toArray, .nilIface, undef, undef, undef, undef, undef, undef, undef, undef, undef, undef, undef, undef, undef], defers := [] } ∧ (fun W : World => W.rangeAt b6 0 (vals P) ∧ W.rangeAt w.heap.size 0 (vals seed) ∧ W.rangeAt g 0 (vals F) ∧ Below w.heap.size w W) W) ?_ ?_
  ·
    refine wp_region_held_drew (S := fun W : World => W.rangeAt w.heap.size 0 (vals seed) ∧ W.rangeAt (w.heap.size + 1) 0 (vals m) ∧ W.rangeAt g 0 (vals F) ∧ Below w.heap.size w W) (by kernel_rfl) ?_ (fun hHeld0 => ?_)
    · exact three_below HS0.out ((Below.refl _ _).drew)
    refine wpAnyH_take (i := 0) (v := .agg (vals m).toArray) rfl (by kernel_rfl) (by kernel_rfl) (by kernel_rfl) (fun _ _ _ h => h) (yieldsIf_load_mid (by rfl) _ _ rfl _ _ rfl (vals m) _ (fun w hSw => hSw.2.1) Tryd.underlying23 rfl hszm) hHeld0 ?_
    simp only [Act.put, List.getElem_toArray, List.getElem_cons_zero, List.getElem_cons_succ, List.setIfInBounds_toArray, List.set_cons_zero, List.set_cons_succ]
    refine wpAnyH_take (i := 1) (v := .agg (vals seed).toArray) rfl (by kernel_rfl) (by kernel_rfl) (by kernel_rfl) (fun _ _ _ h => h) (yieldsIf_load_mid (by rfl) _ _ rfl _ _ rfl (vals seed) _ (fun w hSw => hSw.1) Tryd.underlying23 rfl hszs) hHeld0 ?_
    simp only [Act.put, List.getElem_toArray, List.getElem_cons_zero, List.getElem_cons_succ, List.setIfInBounds_toArray, List.set_cons_zero, List.set_cons_succ]
    refine wpAnyH_take (i := 2) (v := .agg (vals m).toArray) rfl (by kernel_rfl) (by kernel_rfl) (by kernel_rfl) (fun _ _ _ h => h) (yieldsIf_load_mid (by rfl) _ _ rfl _ _ rfl (vals m) _ (fun w hSw => hSw.2.1) Tryd.underlying23 rfl hszm) hHeld0 ?_
    simp only [Act.put, List.getElem_toArray, List.getElem_cons_zero, List.getElem_cons_succ, List.setIfInBounds_toArray, List.set_cons_zero, List.set_cons_succ]
    refine wpAnyH_ready (rs := [3, 8]) (by kernel_rfl) (by simp) ?_
    refine AllReadyH.cons rfl (fun K hK => ?_) ?_
    ·
      go_simp
      go_wp2_with ((go_at_call 11; refine (HG.out _ hHeld0.2.2.2).mono ?_; rintro e wq1 ⟨v14, rfl, ho14, hbq1⟩))
      refine hK.out _ _ (by exact three_below hHeld0 hbq1) (fun hHeld1 => ?_)
      clear hK K hHeld0
      try simp only [Act.put, List.getElem_toArray, List.getElem_cons_zero, List.getElem_cons_succ, List.setIfInBounds_toArray, List.set_cons_zero, List.set_cons_succ]
      have hv := ho14.has
      clear ho14
      refine wpAnyH_ready (rs := [4, 8]) (by kernel_rfl) (by simp) ?_
      refine AllReadyH.cons rfl (fun K hK => ?_) ?_
      ·
        go_simp
        go_wp2_with ((go_at_call 18; refine (HR.out _ v14 hHeld1.2.2.2 hv).mono ?_; rintro e wq2 ⟨rfl, hbq2⟩))
        refine hK.out _ _ (by exact three_below hHeld1 hbq2) (fun hHeld2 => ?_)
        clear hK K hHeld1
        try simp only [Act.put, List.getElem_toArray, List.getElem_cons_zero, List.getElem_cons_succ, List.setIfInBounds_toArray, List.set_cons_zero, List.set_cons_succ]
        refine wpAnyH_take (i := 5) (v := ?_) rfl (by kernel_rfl) (by kernel_rfl) (by kernel_rfl) (fun _ _ _ h => h) (Or.inl ⟨by rfl, ?_⟩) hHeld2 ?_
        rotate_left
        · (intro w hSw; (try dsimp only at hSw); go_simp <;> (try with_reducible rfl))
        simp only [Act.put, List.getElem_toArray, List.getElem_cons_zero, List.getElem_cons_succ, List.setIfInBounds_toArray, List.set_cons_zero, List.set_cons_succ]
        refine wpAnyH_take (i := 6) (v := ?_) rfl (by kernel_rfl) (by kernel_rfl) (by kernel_rfl) (fun _ _ _ h => h) (Or.inl ⟨by rfl, ?_⟩) hHeld2 ?_
        rotate_left
        · (intro w hSw; (try dsimp only at hSw); go_simp <;> (try with_reducible rfl))
        simp only [Act.put, List.getElem_toArray, List.getElem_cons_zero, List.getElem_cons_succ, List.setIfInBounds_toArray, List.set_cons_zero, List.set_cons_succ]
        refine wpAnyH_take (i := 7) (v := ?_) rfl (by kernel_rfl) (by kernel_rfl) (by kernel_rfl) (fun _ _ _ h => h) (Or.inl ⟨by rfl, ?_⟩) hHeld2 ?_
        rotate_left
        · (intro w hSw; (try dsimp only at hSw); go_simp <;> (try with_reducible rfl))
        simp only [Act.put, List.getElem_toArray, List.getElem_cons_zero, List.getElem_cons_succ, List.setIfInBounds_toArray, List.set_cons_zero, List.set_cons_succ]
        refine wpAnyH_ready (rs := [8]) (by kernel_rfl) (by simp) ?_
        refine AllReadyH.cons rfl (fun K hK => ?_) AllReadyH.nil
        go_simp
        have hl1 := range_lt hHeld2.1 (by rw [HSL.out]; omega)
        have hl2 := range_lt hHeld2.2.1 (by rw [HML.out]; omega)
        have hl3 := range_lt hHeld2.2.2.1 (by rw [HFL.out]; omega)
        have hal := (Is.new wq2 (vals Z) 23).there (n := 32) (by rw [vals_length]; exact HZL.out)
        obtain ⟨b6, hb6⟩ : ∃ b, b = (wq2.heap.size) := ⟨_, rfl⟩
        have hn1 : w.heap.size ≠ b6 := by rw [hb6]; exact Nat.ne_of_lt hl1
        have hn2 : w.heap.size + 1 ≠ b6 := by rw [hb6]; exact Nat.ne_of_lt hl2
        have hn3 : g ≠ b6 := by rw [hb6]; exact Nat.ne_of_lt hl3
        have hn4 : w.heap.size ≤ b6 := by rw [hb6]; exact Nat.le_of_lt hl1
        clear hl1 hl2 hl3
        rw [← hb6]
        replace hal : ((wq2).alloc (.cells (vals Z).toArray 23)).there b6 0 32 := by rw [hb6]; exact hal
        clear hb6
        refine hK.out _ _ (by exact three_below hHeld2 (below_alloc _ _)) (fun hHeld3 => ?_)
        clear hK K hHeld2
        try simp only [Act.put, List.getElem_toArray, List.getElem_cons_zero, List.getElem_cons_succ, List.setIfInBounds_toArray, List.set_cons_zero, List.set_cons_succ]
        refine wpAnyH_ready (rs := [9]) (by kernel_rfl) (by simp) ?_
        refine AllReadyH.cons rfl (fun K hK => ?_) AllReadyH.nil
        rw [if_pos (by rfl)]
        refine wp_store_mid _ _ _ rfl _ _ (vals P).toArray rfl rfl (by rw [HVP.out]; exact hal) (by rw [HVP.out]; exact size_dig) (all_oneCell_toArray (vals_one _)) ?_
        simp only [Act.put, List.toList_toArray]
        refine hK.out _ _ (by exact three_store hHeld3 hn1 hn2 hn3 hn4 _) (fun hHeld4 => ?_)
        clear hK K hHeld3
        try simp only [Act.put, List.getElem_toArray, List.getElem_cons_zero, List.getElem_cons_succ, List.setIfInBounds_toArray, List.set_cons_zero, List.set_cons_succ]
        refine wpAnyH_take (i := 10) (v := ?_) rfl (by kernel_rfl) (by kernel_rfl) (by kernel_rfl) (fun _ _ _ h => h) (Or.inl ⟨by rfl, ?_⟩) hHeld4 ?_
        rotate_left
        · (intro w hSw; (try dsimp only at hSw); go_simp <;> (try with_reducible rfl))
        simp only [Act.put, List.getElem_toArray, List.getElem_cons_zero, List.getElem_cons_succ, List.setIfInBounds_toArray, List.set_cons_zero, List.set_cons_succ]
        refine wpAnyH_done (by kernel_rfl) ?_ _
        exact ⟨v14, b6, rfl, World.rangeAt_setCells_same _ b6 0 (vals P) (by rw [vals_length, HPL.out]; exact hal), hHeld4.1, hHeld4.2.2.1, hHeld4.2.2.2⟩
      refine AllReadyH.cons rfl (fun K hK => ?_) AllReadyH.nil
      go_simp
      have hl1 := range_lt hHeld1.1 (by rw [HSL.out]; omega)
      have hl2 := range_lt hHeld1.2.1 (by rw [HML.out]; omega)
      have hl3 := range_lt hHeld1.2.2.1 (by rw [HFL.out]; omega)
      have hal := (Is.new wq1 (vals Z) 23).there (n := 32) (by rw [vals_length]; exact HZL.out)
      obtain ⟨b6, hb6⟩ : ∃ b, b = (wq1.heap.size) := ⟨_, rfl⟩
      have hn1 : w.heap.size ≠ b6 := by rw [hb6]; exact Nat.ne_of_lt hl1
      have hn2 : w.heap.size + 1 ≠ b6 := by rw [hb6]; exact Nat.ne_of_lt hl2
      have hn3 : g ≠ b6 := by rw [hb6]; exact Nat.ne_of_lt hl3
      have hn4 : w.heap.size ≤ b6 := by rw [hb6]; exact Nat.le_of_lt hl1
      clear hl1 hl2 hl3
      rw [← hb6]
      replace hal : ((wq1).alloc (.cells (vals Z).toArray 23)).there b6 0 32 := by rw [hb6]; exact hal
      clear hb6
      refine hK.out _ _ (by exact three_below hHeld1 (below_alloc _ _)) (fun hHeld2 => ?_)
      clear hK K hHeld1
      try simp only [Act.put, List.getElem_toArray, List.getElem_cons_zero, List.getElem_cons_succ, List.setIfInBounds_toArray, List.set_cons_zero, List.set_cons_succ]
      have hv := hv.below (below_alloc _ (.cells (vals Z).toArray 23))
      refine wpAnyH_ready (rs := [4]) (by kernel_rfl) (by simp) ?_
      refine AllReadyH.cons rfl (fun K hK => ?_) AllReadyH.nil
      go_simp
      go_wp2_with ((go_at_call 18; refine (HR.out _ v14 hHeld2.2.2.2 hv).mono ?_; rintro e wq3 ⟨rfl, hbq3⟩))
      refine hK.out _ _ (by exact three_below hHeld2 hbq3) (fun hHeld3 => ?_)
      clear hK K hHeld2
      try simp only [Act.put, List.getElem_toArray, List.getElem_cons_zero, List.getElem_cons_succ, List.setIfInBounds_toArray, List.set_cons_zero, List.set_cons_succ]
      have hal := there_below hal hbq3
      refine wpAnyH_take (i := 5) (v := ?_) rfl (by kernel_rfl) (by kernel_rfl) (by kernel_rfl) (fun _ _ _ h => h) (Or.inl ⟨by rfl, ?_⟩) hHeld3 ?_
      rotate_left
      · (intro w hSw; (try dsimp only at hSw); go_simp <;> (try with_reducible rfl))
      simp only [Act.put, List.getElem_toArray, List.getElem_cons_zero, List.getElem_cons_succ, List.setIfInBounds_toArray, List.set_cons_zero, List.set_cons_succ]
      refine wpAnyH_take (i := 6) (v := ?_) rfl (by kernel_rfl) (by kernel_rfl) (by kernel_rfl) (fun _ _ _ h => h) (Or.inl ⟨by rfl, ?_⟩) hHeld3 ?_
      rotate_left
      · (intro w hSw; (try dsimp only at hSw); go_simp <;> (try with_reducible rfl))
      simp only [Act.put, List.getElem_toArray, List.getElem_cons_zero, List.getElem_cons_succ, List.setIfInBounds_toArray, List.set_cons_zero, List.set_cons_succ]
      refine wpAnyH_take (i := 7) (v := ?_) rfl (by kernel_rfl) (by kernel_rfl) (by kernel_rfl) (fun _ _ _ h => h) (Or.inl ⟨by rfl, ?_⟩) hHeld3 ?_
      rotate_left
      · (intro w hSw; (try dsimp only at hSw); go_simp <;> (try with_reducible rfl))
      simp only [Act.put, List.getElem_toArray, List.getElem_cons_zero, List.getElem_cons_succ, List.setIfInBounds_toArray, List.set_cons_zero, List.set_cons_succ]
      refine wpAnyH_ready (rs := [9]) (by kernel_rfl) (by simp) ?_
      refine AllReadyH.cons rfl (fun K hK => ?_) AllReadyH.nil
      rw [if_pos (by rfl)]
      refine wp_store_mid _ _ _ rfl _ _ (vals P).toArray rfl rfl (by rw [HVP.out]; exact hal) (by rw [HVP.out]; exact size_dig) (all_oneCell_toArray (vals_one _)) ?_
      simp only [Act.put, List.toList_toArray]
      refine hK.out _ _ (by exact three_store hHeld3 hn1 hn2 hn3 hn4 _) (fun hHeld4 => ?_)
      clear hK K hHeld3
      try simp only [Act.put, List.getElem_toArray, List.getElem_cons_zero, List.getElem_cons_succ, List.setIfInBounds_toArray, List.set_cons_zero, List.set_cons_succ]
      refine wpAnyH_take (i := 10) (v := ?_) rfl (by kernel_rfl) (by kernel_rfl) (by kernel_rfl) (fun _ _ _ h => h) (Or.inl ⟨by rfl, ?_⟩) hHeld4 ?_
      rotate_left
      · (intro w hSw; (try dsimp only at hSw); go_simp <;> (try with_reducible rfl))
      simp only [Act.put, List.getElem_toArray, List.getElem_cons_zero, List.getElem_cons_succ, List.setIfInBounds_toArray, List.set_cons_zero, List.set_cons_succ]
      refine wpAnyH_done (by kernel_rfl) ?_ _
      exact ⟨v14, b6, rfl, World.rangeAt_setCells_same _ b6 0 (vals P) (by rw [vals_length, HPL.out]; exact hal), hHeld4.1, hHeld4.2.2.1, hHeld4.2.2.2⟩
    refine AllReadyH.cons rfl (fun K hK => ?_) AllReadyH.nil
    go_simp
    have hl1 := range_lt hHeld0.1 (by rw [HSL.out]; omega)
    have hl2 := range_lt hHeld0.2.1 (by rw [HML.out]; omega)
    have hl3 := range_lt hHeld0.2.2.1 (by rw [HFL.out]; omega)
    have hal := (Is.new w2.drew (vals Z) 23).there (n := 32) (by rw [vals_length]; exact HZL.out)
    obtain ⟨b6, hb6⟩ : ∃ b, b = (w2.heap.size) := ⟨_, rfl⟩
    have hn1 : w.heap.size ≠ b6 := by rw [hb6]; exact Nat.ne_of_lt hl1
    have hn2 : w.heap.size + 1 ≠ b6 := by rw [hb6]; exact Nat.ne_of_lt hl2
    have hn3 : g ≠ b6 := by rw [hb6]; exact Nat.ne_of_lt hl3
    have hn4 : w.heap.size ≤ b6 := by rw [hb6]; exact Nat.le_of_lt hl1
    clear hl1 hl2 hl3
    rw [← hb6]
    replace hal : ((w2.drew).alloc (.cells (vals Z).toArray 23)).there b6 0 32 := by rw [hb6]; exact hal
    clear hb6
    refine hK.out _ _ (by exact three_below hHeld0 (below_alloc _ _)) (fun hHeld1 => ?_)
    clear hK K hHeld0
    try simp only [Act.put, List.getElem_toArray, List.getElem_cons_zero, List.getElem_cons_succ, List.setIfInBounds_toArray, List.set_cons_zero, List.set_cons_succ]
    refine wpAnyH_ready (rs := [3]) (by kernel_rfl) (by simp) ?_
    refine AllReadyH.cons rfl (fun K hK => ?_) AllReadyH.nil
    go_simp
    go_wp2_with ((go_at_call 11; refine (HG.out _ hHeld1.2.2.2).mono ?_; rintro e wq2 ⟨v14, rfl, ho14, hbq2⟩))
    refine hK.out _ _ (by exact three_below hHeld1 hbq2) (fun hHeld2 => ?_)
    clear hK K hHeld1
    try simp only [Act.put, List.getElem_toArray, List.getElem_cons_zero, List.getElem_cons_succ, List.setIfInBounds_toArray, List.set_cons_zero, List.set_cons_succ]
    have hv := ho14.has
    clear ho14
    have hal := there_below hal hbq2
    refine wpAnyH_ready (rs := [4]) (by kernel_rfl) (by simp) ?_
    refine AllReadyH.cons rfl (fun K hK => ?_) AllReadyH.nil
    go_simp
    go_wp2_with ((go_at_call 18; refine (HR.out _ v14 hHeld2.2.2.2 hv).mono ?_; rintro e wq3 ⟨rfl, hbq3⟩))
    refine hK.out _ _ (by exact three_below hHeld2 hbq3) (fun hHeld3 => ?_)
    clear hK K hHeld2
    try simp only [Act.put, List.getElem_toArray, List.getElem_cons_zero, List.getElem_cons_succ, List.setIfInBounds_toArray, List.set_cons_zero, List.set_cons_succ]
    have hal := there_below hal hbq3
    refine wpAnyH_take (i := 5) (v := ?_) rfl (by kernel_rfl) (by kernel_rfl) (by kernel_rfl) (fun _ _ _ h => h) (Or.inl ⟨by rfl, ?_⟩) hHeld3 ?_
    rotate_left
    · (intro w hSw; (try dsimp only at hSw); go_simp <;> (try with_reducible rfl))
    simp only [Act.put, List.getElem_toArray, List.getElem_cons_zero, List.getElem_cons_succ, List.setIfInBounds_toArray, List.set_cons_zero, List.set_cons_succ]
    refine wpAnyH_take (i := 6) (v := ?_) rfl (by kernel_rfl) (by kernel_rfl) (by kernel_rfl) (fun _ _ _ h => h) (Or.inl ⟨by rfl, ?_⟩) hHeld3 ?_
    rotate_left
    · (intro w hSw; (try dsimp only at hSw); go_simp <;> (try with_reducible rfl))
    simp only [Act.put, List.getElem_toArray, List.getElem_cons_zero, List.getElem_cons_succ, List.setIfInBounds_toArray, List.set_cons_zero, List.set_cons_succ]
    refine wpAnyH_take (i := 7) (v := ?_) rfl (by kernel_rfl) (by kernel_rfl) (by kernel_rfl) (fun _ _ _ h => h) (Or.inl ⟨by rfl, ?_⟩) hHeld3 ?_
    rotate_left
    · (intro w hSw; (try dsimp only at hSw); go_simp <;> (try with_reducible rfl))
    simp only [Act.put, List.getElem_toArray, List.getElem_cons_zero, List.getElem_cons_succ, List.setIfInBounds_toArray, List.set_cons_zero, List.set_cons_succ]
    refine wpAnyH_ready (rs := [9]) (by kernel_rfl) (by simp) ?_
    refine AllReadyH.cons rfl (fun K hK => ?_) AllReadyH.nil
    rw [if_pos (by rfl)]
    refine wp_store_mid _ _ _ rfl _ _ (vals P).toArray rfl rfl (by rw [HVP.out]; exact hal) (by rw [HVP.out]; exact size_dig) (all_oneCell_toArray (vals_one _)) ?_
    simp only [Act.put, List.toList_toArray]
    refine hK.out _ _ (by exact three_store hHeld3 hn1 hn2 hn3 hn4 _) (fun hHeld4 => ?_)
    clear hK K hHeld3
    try simp only [Act.put, List.getElem_toArray, List.getElem_cons_zero, List.getElem_cons_succ, List.setIfInBounds_toArray, List.set_cons_zero, List.set_cons_succ]
    refine wpAnyH_take (i := 10) (v := ?_) rfl (by kernel_rfl) (by kernel_rfl) (by kernel_rfl) (fun _ _ _ h => h) (Or.inl ⟨by rfl, ?_⟩) hHeld4 ?_
    rotate_left
    · (intro w hSw; (try dsimp only at hSw); go_simp <;> (try with_reducible rfl))
    simp only [Act.put, List.getElem_toArray, List.getElem_cons_zero, List.getElem_cons_succ, List.setIfInBounds_toArray, List.set_cons_zero, List.set_cons_succ]
    refine wpAnyH_done (by kernel_rfl) ?_ _
    exact ⟨v14, b6, rfl, World.rangeAt_setCells_same _ b6 0 (vals P) (by rw [vals_length, HPL.out]; exact hal), hHeld4.1, hHeld4.2.2.1, hHeld4.2.2.2⟩
  · rintro a W ⟨v14, b6, rfl, hS3⟩
    have HS3 := hide hS3
    clear hS3
    go_wp2
    refine wp_region_held_drew (S := fun W : World => W.rangeAt b6 0 (vals P) ∧ W.rangeAt w.heap.size 0 (vals seed) ∧ W.rangeAt g 0 (vals F) ∧ Below w.heap.size w W) (by kernel_rfl) ?_ (fun hHeld0 => ?_)
    · exact three_below HS3.out ((Below.refl _ _).drew)
    refine wpAnyH_take (i := 0) (v := ?_) rfl (by kernel_rfl) (by kernel_rfl) (by kernel_rfl) (fun _ _ _ h => h) (Or.inl ⟨by rfl, ?_⟩) hHeld0 ?_
    rotate_left
    · (intro w hSw; (try dsimp only at hSw); go_simp <;> (try with_reducible rfl))
    simp only [Act.put, List.getElem_toArray, List.getElem_cons_zero, List.getElem_cons_succ, List.setIfInBounds_toArray, List.set_cons_zero, List.set_cons_succ]
    refine wpAnyH_take (i := 1) (v := ?_) rfl (by kernel_rfl) (by kernel_rfl) (by kernel_rfl) (fun _ _ _ h => h) (Or.inl ⟨by rfl, ?_⟩) hHeld0 ?_
    rotate_left
    · (intro w hSw; (try dsimp only at hSw); go_simp <;> (try with_reducible rfl))
    simp only [Act.put, List.getElem_toArray, List.getElem_cons_zero, List.getElem_cons_succ, List.setIfInBounds_toArray, List.set_cons_zero, List.set_cons_succ]
    refine wpAnyH_take (i := 2) (v := ?_) rfl (by kernel_rfl) (by kernel_rfl) (by kernel_rfl) (fun _ _ _ h => h) (Or.inl ⟨by rfl, ?_⟩) hHeld0 ?_
    rotate_left
    · (intro w hSw; (try dsimp only at hSw); go_simp <;> (try with_reducible rfl))
    simp only [Act.put, List.getElem_toArray, List.getElem_cons_zero, List.getElem_cons_succ, List.setIfInBounds_toArray, List.set_cons_zero, List.set_cons_succ]
    refine wpAnyH_take (i := 3) (v := .agg (vals P).toArray) rfl (by kernel_rfl) (by kernel_rfl) (by kernel_rfl) (fun _ _ _ h => h) (yieldsIf_load_mid (by rfl) _ _ rfl _ _ rfl (vals P) _ (fun w hSw => hSw.1) Tryd.underlying23 rfl hszp) hHeld0 ?_
    simp only [Act.put, List.getElem_toArray, List.getElem_cons_zero, List.getElem_cons_succ, List.setIfInBounds_toArray, List.set_cons_zero, List.set_cons_succ]
    refine wpAnyH_take (i := 4) (v := .agg (vals seed).toArray) rfl (by kernel_rfl) (by kernel_rfl) (by kernel_rfl) (fun _ _ _ h => h) (yieldsIf_load_mid (by rfl) _ _ rfl _ _ rfl (vals seed) _ (fun w hSw => hSw.2.1) Tryd.underlying23 rfl hszs) hHeld0 ?_
    simp only [Act.put, List.getElem_toArray, List.getElem_cons_zero, List.getElem_cons_succ, List.setIfInBounds_toArray, List.set_cons_zero, List.set_cons_succ]
    refine wpAnyH_ready (rs := [5]) (by kernel_rfl) (by simp) ?_
    refine AllReadyH.cons rfl (fun K hK => ?_) AllReadyH.nil
    go_simp
    go_wp2_with ((go_at_call 13; refine (HP1.out _ hHeld0.2.2.2).mono ?_; rintro e wq1 ⟨rfl, hbq1⟩))
    refine hK.out _ _ (by exact three_below hHeld0 hbq1) (fun hHeld1 => ?_)
    clear hK K hHeld0
    try simp only [Act.put, List.getElem_toArray, List.getElem_cons_zero, List.getElem_cons_succ, List.setIfInBounds_toArray, List.set_cons_zero, List.set_cons_succ]
    refine wpAnyH_take (i := 6) (v := ?_) rfl (by kernel_rfl) (by kernel_rfl) (by kernel_rfl) (fun _ _ _ h => h) (Or.inl ⟨by rfl, ?_⟩) hHeld1 ?_
    rotate_left
    · (intro w hSw; (try dsimp only at hSw); go_simp <;> (try with_reducible rfl))
    simp only [Act.put, List.getElem_toArray, List.getElem_cons_zero, List.getElem_cons_succ, List.setIfInBounds_toArray, List.set_cons_zero, List.set_cons_succ]
    refine wpAnyH_take (i := 7) (v := ?_) rfl (by kernel_rfl) (by kernel_rfl) (by kernel_rfl) (fun _ _ _ h => h) (Or.inl ⟨by rfl, ?_⟩) hHeld1 ?_
    rotate_left
    · (intro w hSw; (try dsimp only at hSw); go_simp <;> (try with_reducible rfl))
    simp only [Act.put, List.getElem_toArray, List.getElem_cons_zero, List.getElem_cons_succ, List.setIfInBounds_toArray, List.set_cons_zero, List.set_cons_succ]
    refine wpAnyH_take (i := 8) (v := ?_) rfl (by kernel_rfl) (by kernel_rfl) (by kernel_rfl) (fun _ _ _ h => h) (Or.inl ⟨by rfl, ?_⟩) hHeld1 ?_
    rotate_left
    · (intro w hSw; (try dsimp only at hSw); go_simp <;> (try with_reducible rfl))
    simp only [Act.put, List.getElem_toArray, List.getElem_cons_zero, List.getElem_cons_succ, List.setIfInBounds_toArray, List.set_cons_zero, List.set_cons_succ]
    refine wpAnyH_take (i := 9) (v := .agg (vals F).toArray) rfl (by kernel_rfl) (by kernel_rfl) (by kernel_rfl) (fun _ _ _ h => h) (yieldsIf_load_mid (by rfl) _ _ rfl _ _ rfl (vals F) _ (fun w hSw => hSw.2.2.1) Tryd.underlying23 rfl hszf) hHeld1 ?_
    simp only [Act.put, List.getElem_toArray, List.getElem_cons_zero, List.getElem_cons_succ, List.setIfInBounds_toArray, List.set_cons_zero, List.set_cons_succ]
    refine wpAnyH_take (i := 10) (v := ?_) rfl (by kernel_rfl) (by kernel_rfl) (by kernel_rfl) (fun _ _ _ h => h) (Or.inl ⟨by rfl, ?_⟩) hHeld1 ?_
    rotate_left
    · (intro w hSw; (try dsimp only at hSw); go_simp <;> (try with_reducible rfl))
    simp only [Act.put, List.getElem_toArray, List.getElem_cons_zero, List.getElem_cons_succ, List.setIfInBounds_toArray, List.set_cons_zero, List.set_cons_succ]
    refine wpAnyH_take (i := 11) (v := ?_) rfl (by kernel_rfl) (by kernel_rfl) (by kernel_rfl) (fun _ _ _ h => h) (Or.inl ⟨by rfl, ?_⟩) hHeld1 ?_
    rotate_left
    · (intro w hSw; (try dsimp only at hSw); go_simp <;> (try with_reducible rfl))
    simp only [Act.put, List.getElem_toArray, List.getElem_cons_zero, List.getElem_cons_succ, List.setIfInBounds_toArray, List.set_cons_zero, List.set_cons_succ]
    refine wpAnyH_take (i := 12) (v := ?_) rfl (by kernel_rfl) (by kernel_rfl) (by kernel_rfl) (fun _ _ _ h => h) (Or.inl ⟨by rfl, ?_⟩) hHeld1 ?_
    rotate_left
    · (intro w hSw; (try dsimp only at hSw); go_simp <;> (try with_reducible rfl))
    simp only [Act.put, List.getElem_toArray, List.getElem_cons_zero, List.getElem_cons_succ, List.setIfInBounds_toArray, List.set_cons_zero, List.set_cons_succ]
    refine wpAnyH_take (i := 13) (v := ?_) rfl (by kernel_rfl) (by kernel_rfl) (by kernel_rfl) (fun _ _ _ h => h) (Or.inl ⟨by rfl, ?_⟩) hHeld1 ?_
    rotate_left
    · (intro w hSw; (try dsimp only at hSw); go_simp <;> (try with_reducible rfl))
    simp only [Act.put, List.getElem_toArray, List.getElem_cons_zero, List.getElem_cons_succ, List.setIfInBounds_toArray, List.set_cons_zero, List.set_cons_succ]
    refine wpAnyH_done (by kernel_rfl) ?_ _
    go_wp2
    go_ret
    exact ⟨rfl, hHeld1.2.2.2⟩
end Go.Proofs.YtdeddnlagbeanaaDoor
