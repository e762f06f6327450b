/- The document's KeySigned; numbers held against themselves. -/
import Derived.Test.YtdeddnlagbeanaaDoorRKey4
namespace Go.Proofs.YtdeddnlagbeanaaDoor
open Go.RowKit
set_option linter.unusedVariables false
set_option linter.unusedSimpArgs false

theorem rc_below {w1 W W' : World} {g : Nat} {L : List Value} {a : Addr} {v : Value} (h : W.rangeAt g 0 L ∧ W.cell? a = some v ∧ Below w1.heap.size w1 W) (hb : Below W.heap.size W W') : W'.rangeAt g 0 L ∧ W'.cell? a = some v ∧ Below w1.heap.size w1 W' :=
  ⟨range_below h.1 hb, cell_below h.2.1 hb, h.2.2.trans (hb.mono h.2.2.size)⟩
theorem rc_store {w1 W : World} {g : Nat} {L : List Value} {a : Addr} {v : Value} (h : W.rangeAt g 0 L ∧ W.cell? a = some v ∧ Below w1.heap.size w1 W) {q : Nat} (h1 : g ≠ q) (h2 : a.block ≠ q) (hq : w1.heap.size ≤ q) (vs : List Value) :
    (W.setCells q 0 vs).rangeAt g 0 L ∧ (W.setCells q 0 vs).cell? a = some v ∧ Below w1.heap.size w1 (W.setCells q 0 vs) :=
  ⟨World.rangeAt_setCells_apart h.1 _ _ _ (.inl h1), cell_setCells h.2.1 h2 _ _, setCells_below hq _ _ _ h.2.2⟩

set_option maxRecDepth 100000 in
set_option maxHeartbeats 8000000 in
theorem rkeysigned_any (seed m : List Int) (w : World) (hs : seed.length = 32) (hsb : Sz.Byt seed) (hm : m.length = 32) (hmb : Sz.Byt m) :
    Calls Tryd.prog 12 #[.agg (vals seed).toArray, .agg (vals m).toArray] w fun e w' => ∃ v, e = .returned v ∧ Own w' w.heap.size v (Ky.sign seed m) ∧ Below w.heap.size w w' := by
  have hdl := Ky.digits_length m
  have HG : Hid (∀ W, Calls Tryd.prog 9 #[.agg (vals m).toArray] W fun e w' => ∃ v, e = .returned v ∧ OwnN w' (W.heap.size + 1) v (Ky.digits m) ∧ Below W.heap.size W w') := fun W => rnibbles_any m W hm hmb
  obtain ⟨T, hT⟩ : ∃ T : Nat → List Int, T = Ky.signed seed m := ⟨_, rfl⟩
  have HTL : Hid (∀ i, (T i).length = 32) := fun i => by rw [hT]; exact Ky.signed_length seed m i
  obtain ⟨g, hg⟩ : ∃ g : Nat → List Int, g = Ky.secret seed := ⟨_, rfl⟩
  obtain ⟨q, hq⟩ : ∃ q : Nat → Nat, q = Ky.dig m := ⟨_, rfl⟩
  have HQ : Hid (∀ k, q k ≤ 15) := fun k => by rw [hq]; exact Ky.digits_le m hmb k
  have HQG : Hid (∀ k, (Ky.digits m).getD k 0 = q k) := fun k => by rw [hq]; rfl
  have HDA : Hid (∀ W (k : Nat), k < 67 → Calls Tryd.prog 21 #[.agg (vals seed).toArray, .int .i64 (k : Nat)] W fun e w' => e = .returned (.agg (vals (g k)).toArray) ∧ Below W.heap.size W w') := fun W k hk => by
    rw [hg]; exact rsecret_any seed k W hs hsb hk
  have HWK : Hid (∀ W (k : Nat), Calls Tryd.prog 16 #[.agg (vals (g k)).toArray, .int .i64 (q k : Int)] W fun e w' => e = .returned (.agg (vals (T k)).toArray) ∧ Below W.heap.size W w') := fun W k => by
    have h15 : q k ≤ 15 := HQ.out k
    have := rwalked_any (g k) (q k : Int) W (by rw [hg]; exact Ky.secret_length _ _) (by rw [hg]; exact Ky.secret_byt _ _) (by omega)
    rw [Int.toNat_natCast] at this
    rw [hT]
    rw [hg, hq] at this ⊢
    exact this
  have HSG : Hid (Ky.rowsOf T 67 = Ky.sign seed m) := by show _ = _; rw [hT]; rfl
  generalize Ky.sign seed m = R at *
  generalize Ky.digits m = G at *
  have hzd := zero_dig
  obtain ⟨Z, hZ⟩ : ∃ Z, Z = vals (List.replicate 32 0) := ⟨_, rfl⟩
  rw [← hZ] at hzd
  have hZl : Z.length = 32 := by rw [hZ]; simp [vals]
  have hZp : ¬ Z = [] := by intro h; rw [h] at hZl; cases hZl
  have HZL := hide hZl
  have HSL := hide hs
  have HML := hide hm
  have HGL := hide hdl
  have hszs : (Tryd.prog.info? 23).map (·.size) = some (vals seed).length := by rw [vals_length, hs]; exact size_dig
  have HI0 := hide ((Is.new w (vals seed) 23).alloc (.cells (vals m).toArray 23))
  have HJ0 : Hid (Is ((w.alloc (.cells (vals seed).toArray 23)).alloc (.cells (vals m).toArray 23)) (w.heap.size + 1) (vals m) 23) := Is.new' _ 23 (by simp)
  have HB0 := hide (below_alloc2 w (.cells (vals seed).toArray 23) (.cells (vals m).toArray 23))
  clear hm hmb hs hsb hdl hT hg hq hZ hZl
  go_enter Tryd.func12, Tryd.ntmps12
  go_wp2_with (first
    | (refine wpList_load_arr2 23 (vals m) (w.heap.size + 1) rfl (.tmp 3) rfl rfl HJ0.out Tryd.underlying23 size_dig (by rw [vals_length]; exact HML.out) ?_)
    | (go_at_call 9; refine (HG.out _).mono ?_; rintro e w1 ⟨v5, rfl, ho5, hb1⟩))
  have hb1' := HB0.out.trans (hb1.mono HB0.out.size)
  have hI1 := HI0.out.below hb1 HI0.out.lt
  unfold OwnN at ho5
  rw [HGL.out] at ho5
  obtain ⟨gd, cd, rfl, hgd, hgdl, hcd, hcdm, hrgd⟩ := owns_some ho5 (by omega)
  have HCD : Hid (∀ k, k < 67 → w1.cell? ⟨gd, k, none⟩ = some (.int .i64 (q k : Int))) := fun k hk => by
    have := hrgd k _ (ivals_get G k (by rw [HGL.out]; exact hk))
    rw [Nat.zero_add, HQG.out] at this
    exact this
  have HB1 := hide hb1'
  have HI1 := hide hI1
  have hil := hI1.lt
  clear ho5 hrgd hb1 hb1' hI1 HI0 HJ0 HB0 HG hgd hcdm
  go_loopw [6, 7] (fun v i wr => ∃ k : Nat, k ≤ 67 ∧ i = .int .i64 k ∧ Own wr w1.heap.size v (Ky.rowsOf T k) ∧ Below w1.heap.size w1 wr) (fun _ i _ => 67 - (intOf i).toNat)
  case atStart => exact ⟨0, by omega, rfl, Own.nil _ _, Below.refl _ _⟩
  case round =>
    obtain ⟨k, hk, rfl, ho, hb⟩ := hrel
    obtain ⟨oa, oc, rfl, hoc1, hoc2⟩ := ho.form
    clear hoc1 hoc2
    have hXl := Ky.rowsOf_length T HTL.out k
    by_cases hkl : k < 67
    · have hki : (k : Int) < 67 := by omega
      have hnx : Ky.rowsOf T (k + 1) = Ky.rowsOf T k ++ T k := Ky.rowsOf_succ T k
      have htl := HTL.out k
      have hqk := HQ.out k
      have HDk : Hid (∀ W, Calls Tryd.prog 21 #[.agg (vals seed).toArray, .int .i64 (k : Nat)] W fun e w' => e = .returned (.agg (vals (g k)).toArray) ∧ Below W.heap.size W w') := fun W => HDA.out W k hkl
      have HTk : Hid (∀ W, Calls Tryd.prog 16 #[.agg (vals (g k)).toArray, .int .i64 (q k : Int)] W fun e w' => e = .returned (.agg (vals (T k)).toArray) ∧ Below W.heap.size W w') := fun W => HWK.out W k
      have hck : wr.cell? ⟨gd, k, none⟩ = some (.int .i64 (q k : Int)) := by rw [hb.cell (p := ⟨gd, k, none⟩) hgdl]; exact HCD.out k hkl
      generalize T k = D at *
      generalize g k = E at *
      generalize q k = d at *
      generalize Ky.rowsOf T k = X at *
      have HNX := hide hnx
      have HDL := hide htl
      have HXL := hide hXl
      have HO := hide ho
      have hS0 : wr.rangeAt w.heap.size 0 (vals seed) ∧ wr.cell? ⟨gd, k, none⟩ = some (.int .i64 (d : Int)) ∧ Below wr.heap.size wr wr := ⟨(HI1.out.below hb HI1.out.lt).range, hck, Below.refl _ _⟩
      have HS0 := hide hS0
      have HB := hide hb
      have HVD : Hid ((vals D).toArray.size = 32) := by show _ = _; rw [List.size_toArray, vals_length, htl]
      have hsz1 := hb.size
      have hg1 : w.heap.size < wr.heap.size := by omega
      have hg2 : gd < wr.heap.size := by omega
      have hszd : (Tryd.prog.info? 23).map (·.size) = some (vals D).length := by rw [vals_length, htl]; exact size_dig
      clear hnx htl ho hck HDA HWK HCD HTL HQ HQG hb hS0 hXl HSG hsz1
      obtain ⟨wA, hwA⟩ : ∃ wA, wA = wr := ⟨_, rfl⟩
      subst hwA
      go_wp2
      refine wp_region_held_drew (S := fun W : World => W.rangeAt w.heap.size 0 (vals seed) ∧ W.cell? ⟨gd, k, none⟩ = some (.int .i64 (d : Int)) ∧ Below wA.heap.size wA W) (by kernel_rfl) ?_ (fun hHeld0 => ?_)
      · exact rc_below HS0.out ((Below.refl _ _).drew)
      refine wpAnyH_take (i := 0) (v := .agg (vals seed).toArray) rfl (by kernel_rfl) (by kernel_rfl) (by kernel_rfl) (fun _ _ _ h => h) (yieldsIf_load_mid (by rfl) _ _ rfl _ _ rfl (vals seed) _ (fun w hSw => hSw.1) Tryd.underlying23 rfl hszs) hHeld0 ?_
      simp only [Act.put, List.getElem_toArray, List.getElem_cons_zero, List.getElem_cons_succ, List.setIfInBounds_toArray, List.set_cons_zero, List.set_cons_succ]
      refine wpAnyH_take (i := 1) (v := ?_) rfl (by kernel_rfl) (by kernel_rfl) (by kernel_rfl) (fun _ _ _ h => h) (Or.inl ⟨by rfl, ?_⟩) hHeld0 ?_
      rotate_left
      · (intro w hSw; (try dsimp only at hSw); go_simp <;> (try with_reducible rfl))
      simp only [Act.put, List.getElem_toArray, List.getElem_cons_zero, List.getElem_cons_succ, List.setIfInBounds_toArray, List.set_cons_zero, List.set_cons_succ]
      refine wpAnyH_take (i := 3) (v := ?_) rfl (by kernel_rfl) (by kernel_rfl) (by kernel_rfl) (fun _ _ _ h => h) (Or.inl ⟨by rfl, ?_⟩) hHeld0 ?_
      rotate_left
      · (intro w hSw; (try dsimp only at hSw); go_simp <;> (try with_reducible rfl))
      simp only [Act.put, List.getElem_toArray, List.getElem_cons_zero, List.getElem_cons_succ, List.setIfInBounds_toArray, List.set_cons_zero, List.set_cons_succ]
      refine wpAnyH_take (i := 4) (v := ?_) rfl (by kernel_rfl) (by kernel_rfl) (by kernel_rfl) (fun _ _ _ h => h) (Or.inl ⟨by rfl, ?_⟩) hHeld0 ?_
      rotate_left
      · (intro w hSw; (try dsimp only at hSw); go_simp <;> (try with_reducible rfl))
      simp only [Act.put, List.getElem_toArray, List.getElem_cons_zero, List.getElem_cons_succ, List.setIfInBounds_toArray, List.set_cons_zero, List.set_cons_succ]
      refine wpAnyH_take (i := 5) (v := ?_) rfl (by kernel_rfl) (by kernel_rfl) (by kernel_rfl) (fun _ _ _ h => h) (Or.inl ⟨by rfl, ?_⟩) hHeld0 ?_
      rotate_left
      · (intro w hSw; (try dsimp only at hSw); go_simp <;> (try with_reducible rfl))
      simp only [Act.put, List.getElem_toArray, List.getElem_cons_zero, List.getElem_cons_succ, List.setIfInBounds_toArray, List.set_cons_zero, List.set_cons_succ]
      refine wpAnyH_take (i := 6) (v := ?_) rfl (by kernel_rfl) (by kernel_rfl) (by kernel_rfl) (fun _ _ _ h => h) (Or.inl ⟨by rfl, ?_⟩) hHeld0 ?_
      rotate_left
      · (intro w hSw; (try dsimp only at hSw); go_simp <;> (try with_reducible rfl))
      simp only [Act.put, List.getElem_toArray, List.getElem_cons_zero, List.getElem_cons_succ, List.setIfInBounds_toArray, List.set_cons_zero, List.set_cons_succ]
      refine wpAnyH_ready (rs := [2, 8]) (by kernel_rfl) (by simp) ?_
      refine AllReadyH.cons rfl (fun K hK => ?_) ?_
      ·
        go_simp
        go_wp2_with ((go_at_call 21; refine (HDk.out _).mono ?_; rintro e wq1 ⟨rfl, hbq1⟩))
        refine hK.out _ _ (by exact rc_below hHeld0 hbq1) (fun hHeld1 => ?_)
        clear hK K hHeld0
        try simp only [Act.put, List.getElem_toArray, List.getElem_cons_zero, List.getElem_cons_succ, List.setIfInBounds_toArray, List.set_cons_zero, List.set_cons_succ]
        refine wpAnyH_ready (rs := [7, 8]) (by kernel_rfl) (by simp) ?_
        refine AllReadyH.cons rfl (fun K hK => ?_) ?_
        ·
          go_simp
          go_wp2_with ((go_at_call 16; refine (HTk.out _).mono ?_; rintro e wq2 ⟨rfl, hbq2⟩))
          refine hK.out _ _ (by exact rc_below hHeld1 hbq2) (fun hHeld2 => ?_)
          clear hK K hHeld1
          try simp only [Act.put, List.getElem_toArray, List.getElem_cons_zero, List.getElem_cons_succ, List.setIfInBounds_toArray, List.set_cons_zero, List.set_cons_succ]
          refine wpAnyH_ready (rs := [8]) (by kernel_rfl) (by simp) ?_
          refine AllReadyH.cons rfl (fun K hK => ?_) AllReadyH.nil
          go_simp
          have hsz9 : wA.heap.size ≤ wq2.heap.size := hHeld2.2.2.size
          have hal := (Is.new wq2 Z 23).there (n := 32) HZL.out
          obtain ⟨b8, hb8⟩ : ∃ b, b = (wq2.heap.size) := ⟨_, rfl⟩
          have hn1 : w.heap.size ≠ b8 := by omega
          have hn2 : gd ≠ b8 := by omega
          have hn4 : wA.heap.size ≤ b8 := by omega
          clear hsz9
          rw [← hb8]
          replace hal : ((wq2).alloc (.cells Z.toArray 23)).there b8 0 32 := by rw [hb8]; exact hal
          clear hb8
          refine hK.out _ _ (by exact rc_below hHeld2 (below_alloc _ _)) (fun hHeld3 => ?_)
          clear hK K hHeld2
          try simp only [Act.put, List.getElem_toArray, List.getElem_cons_zero, List.getElem_cons_succ, List.setIfInBounds_toArray, List.set_cons_zero, List.set_cons_succ]
          refine wpAnyH_ready (rs := [9]) (by kernel_rfl) (by simp) ?_
          refine AllReadyH.cons rfl (fun K hK => ?_) AllReadyH.nil
          rw [if_pos (by rfl)]
          refine wp_store_mid _ _ _ rfl _ _ (vals D).toArray rfl rfl (by rw [HVD.out]; exact hal) (by rw [HVD.out]; exact size_dig) (all_oneCell_toArray (vals_one _)) ?_
          simp only [Act.put, List.toList_toArray]
          refine hK.out _ _ (by exact rc_store hHeld3 hn1 hn2 hn4 _) (fun hHeld4 => ?_)
          clear hK K hHeld3
          try simp only [Act.put, List.getElem_toArray, List.getElem_cons_zero, List.getElem_cons_succ, List.setIfInBounds_toArray, List.set_cons_zero, List.set_cons_succ]
          refine wpAnyH_done (by kernel_rfl) ?_ _
          have hi8 := World.rangeAt_setCells_same _ b8 0 (vals D) (by rw [vals_length, HDL.out]; exact hal)
          have h8 := hHeld4.2.2
          have hhas : Has _ (.slice (some ⟨b8, 0, none⟩) 32 32) D := .inr ⟨b8, 0, 32, by rw [HDL.out], by rw [HDL.out]; omega, by rw [HDL.out]; omega, by unfold maxLen; omega, fun j hj => by exact hi8 j _ (vals_get D j hj)⟩
          have ho8 := HO.out.below h8
          have hbb := HB.out.trans (h8.mono HB.out.size)
          clear hi8 hHeld4 hal HS0
          go_wp2_with (at_builtin; refine wpList_append_bytes _ rfl (.tmp 23) (.tmp 24) rfl w1.heap.size (.slice oa X.length oc) X rfl ho8 (.slice (some ⟨b8, 0, none⟩) 32 32) D rfl hhas (by rw [HDL.out, HXL.out]; omega) hbb.size ?_; intro v6 w6 ho6 hg6)
          go_roundw
          case rel => exact ⟨k + 1, by omega, by go_num, by rw [HNX.out]; exact ho6, hbb.grown hg6 hbb.size (fun r hr => (HO.out.block r hr).1)⟩
          case measure => simp [intOf]; omega
        refine AllReadyH.cons rfl (fun K hK => ?_) AllReadyH.nil
        go_simp
        have hsz9 : wA.heap.size ≤ wq1.heap.size := hHeld1.2.2.size
        have hal := (Is.new wq1 Z 23).there (n := 32) HZL.out
        obtain ⟨b8, hb8⟩ : ∃ b, b = (wq1.heap.size) := ⟨_, rfl⟩
        have hn1 : w.heap.size ≠ b8 := by omega
        have hn2 : gd ≠ b8 := by omega
        have hn4 : wA.heap.size ≤ b8 := by omega
        clear hsz9
        rw [← hb8]
        replace hal : ((wq1).alloc (.cells Z.toArray 23)).there b8 0 32 := by rw [hb8]; exact hal
        clear hb8
        refine hK.out _ _ (by exact rc_below hHeld1 (below_alloc _ _)) (fun hHeld2 => ?_)
        clear hK K hHeld1
        try simp only [Act.put, List.getElem_toArray, List.getElem_cons_zero, List.getElem_cons_succ, List.setIfInBounds_toArray, List.set_cons_zero, List.set_cons_succ]
        refine wpAnyH_ready (rs := [7]) (by kernel_rfl) (by simp) ?_
        refine AllReadyH.cons rfl (fun K hK => ?_) AllReadyH.nil
        go_simp
        go_wp2_with ((go_at_call 16; refine (HTk.out _).mono ?_; rintro e wq3 ⟨rfl, hbq3⟩))
        refine hK.out _ _ (by exact rc_below hHeld2 hbq3) (fun hHeld3 => ?_)
        clear hK K hHeld2
        try simp only [Act.put, List.getElem_toArray, List.getElem_cons_zero, List.getElem_cons_succ, List.setIfInBounds_toArray, List.set_cons_zero, List.set_cons_succ]
        have hal := there_below hal hbq3
        refine wpAnyH_ready (rs := [9]) (by kernel_rfl) (by simp) ?_
        refine AllReadyH.cons rfl (fun K hK => ?_) AllReadyH.nil
        rw [if_pos (by rfl)]
        refine wp_store_mid _ _ _ rfl _ _ (vals D).toArray rfl rfl (by rw [HVD.out]; exact hal) (by rw [HVD.out]; exact size_dig) (all_oneCell_toArray (vals_one _)) ?_
        simp only [Act.put, List.toList_toArray]
        refine hK.out _ _ (by exact rc_store hHeld3 hn1 hn2 hn4 _) (fun hHeld4 => ?_)
        clear hK K hHeld3
        try simp only [Act.put, List.getElem_toArray, List.getElem_cons_zero, List.getElem_cons_succ, List.setIfInBounds_toArray, List.set_cons_zero, List.set_cons_succ]
        refine wpAnyH_done (by kernel_rfl) ?_ _
        have hi8 := World.rangeAt_setCells_same _ b8 0 (vals D) (by rw [vals_length, HDL.out]; exact hal)
        have h8 := hHeld4.2.2
        have hhas : Has _ (.slice (some ⟨b8, 0, none⟩) 32 32) D := .inr ⟨b8, 0, 32, by rw [HDL.out], by rw [HDL.out]; omega, by rw [HDL.out]; omega, by unfold maxLen; omega, fun j hj => by exact hi8 j _ (vals_get D j hj)⟩
        have ho8 := HO.out.below h8
        have hbb := HB.out.trans (h8.mono HB.out.size)
        clear hi8 hHeld4 hal HS0
        go_wp2_with (at_builtin; refine wpList_append_bytes _ rfl (.tmp 23) (.tmp 24) rfl w1.heap.size (.slice oa X.length oc) X rfl ho8 (.slice (some ⟨b8, 0, none⟩) 32 32) D rfl hhas (by rw [HDL.out, HXL.out]; omega) hbb.size ?_; intro v6 w6 ho6 hg6)
        go_roundw
        case rel => exact ⟨k + 1, by omega, by go_num, by rw [HNX.out]; exact ho6, hbb.grown hg6 hbb.size (fun r hr => (HO.out.block r hr).1)⟩
        case measure => simp [intOf]; omega
      refine AllReadyH.cons rfl (fun K hK => ?_) AllReadyH.nil
      go_simp
      have hsz9 : wA.heap.size ≤ wA.heap.size := hHeld0.2.2.size
      have hal := (Is.new wA.drew Z 23).there (n := 32) HZL.out
      obtain ⟨b8, hb8⟩ : ∃ b, b = (wA.heap.size) := ⟨_, rfl⟩
      have hn1 : w.heap.size ≠ b8 := by omega
      have hn2 : gd ≠ b8 := by omega
      have hn4 : wA.heap.size ≤ b8 := by omega
      clear hsz9
      rw [← hb8]
      replace hal : ((wA.drew).alloc (.cells Z.toArray 23)).there b8 0 32 := by rw [hb8]; exact hal
      clear hb8
      refine hK.out _ _ (by exact rc_below hHeld0 (below_alloc _ _)) (fun hHeld1 => ?_)
      clear hK K hHeld0
      try simp only [Act.put, List.getElem_toArray, List.getElem_cons_zero, List.getElem_cons_succ, List.setIfInBounds_toArray, List.set_cons_zero, List.set_cons_succ]
      refine wpAnyH_ready (rs := [2]) (by kernel_rfl) (by simp) ?_
      refine AllReadyH.cons rfl (fun K hK => ?_) AllReadyH.nil
      go_simp
      go_wp2_with ((go_at_call 21; refine (HDk.out _).mono ?_; rintro e wq2 ⟨rfl, hbq2⟩))
      refine hK.out _ _ (by exact rc_below hHeld1 hbq2) (fun hHeld2 => ?_)
      clear hK K hHeld1
      try simp only [Act.put, List.getElem_toArray, List.getElem_cons_zero, List.getElem_cons_succ, List.setIfInBounds_toArray, List.set_cons_zero, List.set_cons_succ]
      have hal := there_below hal hbq2
      refine wpAnyH_ready (rs := [7]) (by kernel_rfl) (by simp) ?_
      refine AllReadyH.cons rfl (fun K hK => ?_) AllReadyH.nil
      go_simp
      go_wp2_with ((go_at_call 16; refine (HTk.out _).mono ?_; rintro e wq3 ⟨rfl, hbq3⟩))
      refine hK.out _ _ (by exact rc_below hHeld2 hbq3) (fun hHeld3 => ?_)
      clear hK K hHeld2
      try simp only [Act.put, List.getElem_toArray, List.getElem_cons_zero, List.getElem_cons_succ, List.setIfInBounds_toArray, List.set_cons_zero, List.set_cons_succ]
      have hal := there_below hal hbq3
      refine wpAnyH_ready (rs := [9]) (by kernel_rfl) (by simp) ?_
      refine AllReadyH.cons rfl (fun K hK => ?_) AllReadyH.nil
      rw [if_pos (by rfl)]
      refine wp_store_mid _ _ _ rfl _ _ (vals D).toArray rfl rfl (by rw [HVD.out]; exact hal) (by rw [HVD.out]; exact size_dig) (all_oneCell_toArray (vals_one _)) ?_
      simp only [Act.put, List.toList_toArray]
      refine hK.out _ _ (by exact rc_store hHeld3 hn1 hn2 hn4 _) (fun hHeld4 => ?_)
      clear hK K hHeld3
      try simp only [Act.put, List.getElem_toArray, List.getElem_cons_zero, List.getElem_cons_succ, List.setIfInBounds_toArray, List.set_cons_zero, List.set_cons_succ]
      refine wpAnyH_done (by kernel_rfl) ?_ _
      have hi8 := World.rangeAt_setCells_same _ b8 0 (vals D) (by rw [vals_length, HDL.out]; exact hal)
      have h8 := hHeld4.2.2
      have hhas : Has _ (.slice (some ⟨b8, 0, none⟩) 32 32) D := .inr ⟨b8, 0, 32, by rw [HDL.out], by rw [HDL.out]; omega, by rw [HDL.out]; omega, by unfold maxLen; omega, fun j hj => by exact hi8 j _ (vals_get D j hj)⟩
      have ho8 := HO.out.below h8
      have hbb := HB.out.trans (h8.mono HB.out.size)
      clear hi8 hHeld4 hal HS0
      go_wp2_with (at_builtin; refine wpList_append_bytes _ rfl (.tmp 23) (.tmp 24) rfl w1.heap.size (.slice oa X.length oc) X rfl ho8 (.slice (some ⟨b8, 0, none⟩) 32 32) D rfl hhas (by rw [HDL.out, HXL.out]; omega) hbb.size ?_; intro v6 w6 ho6 hg6)
      go_roundw
      case rel => exact ⟨k + 1, by omega, by go_num, by rw [HNX.out]; exact ho6, hbb.grown hg6 hbb.size (fun r hr => (HO.out.block r hr).1)⟩
      case measure => simp [intOf]; omega
    · have hki : ¬ (k : Int) < 67 := by omega
      have hke : k = 67 := by omega
      subst hke
      have HO : Hid (Own wr w1.heap.size (.slice oa (Ky.rowsOf T 67).length oc) R) := by have := ho; rw [HSG.out] at this ⊢; exact this
      have hsz := HB1.out.size
      generalize (Ky.rowsOf T 67).length = ol at *
      have hbw := HB1.out.trans (hb.mono HB1.out.size)
      clear ho hXl HDA HWK HCD HTL HQ HQG HSG HB1 HI1 hb
      go_wp2
      go_ret
      exact ⟨_, rfl, HO.out.mono hsz, hbw⟩

set_option maxHeartbeats 800000 in
/-- Two slices of the same numbers. -/
theorem ints_same (b1 o1 c1 b2 o2 c2 n : Nat) (l : List Nat) (w : World) (hl : l.length = n) (h1 : w.rangeAt b1 o1 (ivals l)) (h2 : w.rangeAt b2 o2 (ivals l)) (hlt1 : b1 < w.heap.size) (hlt2 : b2 < w.heap.size) (hn : n ≤ 140737488355328) :
    Calls Tryd.prog 7 #[.slice (some ⟨b1, o1, none⟩) n c1, .slice (some ⟨b2, o2, none⟩) n c2] w fun e w' => e = .returned (.bool true) ∧ Below w.heap.size w w' := by
  have hcell1 : ∀ j, j < n → w.cell? ⟨b1, o1 + j, none⟩ = some (.int .i64 ((l.getD j 0 : Nat) : Int)) := fun j hj => h1 j _ (ivals_get l j (by omega))
  have hcell2 : ∀ j, j < n → w.cell? ⟨b2, o2 + j, none⟩ = some (.int .i64 ((l.getD j 0 : Nat) : Int)) := fun j hj => h2 j _ (ivals_get l j (by omega))
  have HC1 := hide hcell1
  have HC2 := hide hcell2
  have hne : ((n : Int) != (n : Int)) = false := by simp
  clear hl h1 h2 hcell1 hcell2
  go_enter Tryd.func7, Tryd.ntmps7
  go_wp2
  go_loopw [5] (fun i wr => ∃ k : Nat, k ≤ n ∧ i = .int .i64 k ∧ Below w.heap.size w wr) (fun i _ => n - (intOf i).toNat)
  case atStart => exact ⟨0, Nat.zero_le _, rfl, Below.refl _ _⟩
  case round =>
    obtain ⟨k, hk, rfl, hbel⟩ := hrel
    by_cases hlt : k < n
    · have hck1 : wr.cell? ⟨b1, o1 + k, none⟩ = some (.int .i64 ((l.getD k 0 : Nat) : Int)) := by rw [hbel.cell (p := ⟨b1, o1 + k, none⟩) hlt1]; exact HC1.out k hlt
      have hck2 : wr.cell? ⟨b2, o2 + k, none⟩ = some (.int .i64 ((l.getD k 0 : Nat) : Int)) := by rw [hbel.cell (p := ⟨b2, o2 + k, none⟩) hlt2]; exact HC2.out k hlt
      have hki : (k : Int) < (n : Int) := by omega
      generalize l.getD k 0 = x at *
      have hnx : ((x : Int) != (x : Int)) = false := by simp
      clear HC1 HC2
      go_wp2
      go_quiet (fail)
      go_wp2
      go_roundw
      case rel => exact ⟨k + 1, by omega, by go_num, hbel.trans ((quietBelow _ _).mono hbel.size)⟩
      case measure => simp [intOf]; omega
    · have hki : ¬ (k : Int) < (n : Int) := by omega
      go_wp2
      go_ret
      exact ⟨rfl, hbel⟩
end Go.Proofs.YtdeddnlagbeanaaDoor
