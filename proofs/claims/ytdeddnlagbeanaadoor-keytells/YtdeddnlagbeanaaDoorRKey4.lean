/- The document's KeyOf and KeySigned. -/
import Derived.Test.YtdeddnlagbeanaaDoorRKey3
import Derived.Test.YtdeddnlagbeanaaDoorKeSig
namespace Go.Proofs.YtdeddnlagbeanaaDoor
open Go.RowKit
set_option linter.unusedVariables false
set_option linter.unusedSimpArgs false

theorem cb_below {w1 W W' : World} {a : Addr} {v : Value} (h : W.cell? a = some v ∧ Below w1.heap.size w1 W) (hb : Below W.heap.size W W') : W'.cell? a = some v ∧ Below w1.heap.size w1 W' :=
  ⟨cell_below h.1 hb, h.2.trans (hb.mono h.2.size)⟩
theorem cb_grown {w1 W W' : World} {a : Addr} {v : Value} {row : Option Nat} (h : W.cell? a = some v ∧ Below w1.heap.size w1 W) (hg : W.grownBy W' row) (ha : a.block < w1.heap.size) (hr : ∀ k, row = some k → w1.heap.size ≤ k) : W'.cell? a = some v ∧ Below w1.heap.size w1 W' :=
  ⟨hg.cell h.1 (fun e => by have := hr _ e.symm; omega), h.2.grown hg h.2.size hr⟩

set_option maxRecDepth 100000 in
set_option maxHeartbeats 4000000 in
theorem rkeyof_any (m sig : List Int) (b off cap : Nat) (w : World) (hm : m.length = 32) (hmb : Sz.Byt m) (hs : sig.length = 2144) (hsb : Sz.Byt sig) (hcap : 2144 ≤ cap) (hr : w.rangeAt b off (vals sig)) (hb0 : b < w.heap.size) :
    Calls Tryd.prog 17 #[.agg (vals m).toArray, .slice (some ⟨b, off, none⟩) 2144 cap] w fun e w' => e = .returned (.agg (vals (Ky.recov m sig)).toArray) ∧ Below w.heap.size w w' := by
  have hdl := Ky.digits_length m
  have HG : Hid (∀ W, Calls Tryd.prog 9 #[.agg (vals m).toArray] W fun e w' => ∃ v, e = .returned v ∧ OwnN w' (W.heap.size + 1) v (Ky.digits m) ∧ Below W.heap.size W w') := fun W => rnibbles_any m W hm hmb
  obtain ⟨T, hT⟩ : ∃ T : Nat → List Int, T = fun i => if i < 67 then Ky.top m sig i else List.replicate 32 0 := ⟨_, rfl⟩
  have hTT : ∀ i, i < 67 → T i = Ky.top m sig i := fun i hi => by rw [hT]; exact if_pos hi
  have HTL : Hid (∀ i, (T i).length = 32) := fun i => by
    rw [hT]
    show (if i < 67 then Ky.top m sig i else List.replicate 32 0).length = 32
    split
    · exact Ky.steps_length _ (Ky.sigAt_length _ _ (by omega)) _
    · simp
  have hRT : Ky.rowsOf T 67 = Ky.rowsOf (Ky.top m sig) 67 := Ky.rowsOf_congr _ _ 67 hTT
  have hRb : Sz.Byt (Ky.rowsOf (Ky.top m sig) 67) := Ky.rowsOf_byt _ (fun k => Ky.steps_byt _ (Ky.sigAt_byt _ _ hsb) _) 67
  obtain ⟨g, hg⟩ : ∃ g : Nat → List Int, g = Ky.sigAt sig := ⟨_, rfl⟩
  obtain ⟨q, hq⟩ : ∃ q : Nat → Nat, q = Ky.dig m := ⟨_, rfl⟩
  have HQ : Hid (∀ k, q k ≤ 15) := fun k => by rw [hq]; exact Ky.digits_le m hmb k
  have HQG : Hid (∀ k, (Ky.digits m).getD k 0 = q k) := fun k => by rw [hq]; rfl
  have HDA : Hid (∀ W (k : Nat), Below w.heap.size w W → k < 67 → Calls Tryd.prog 20 #[.slice (some ⟨b, off, none⟩) 2144 cap, .int .i64 (32 * (k : Int))] W fun e w' => e = .returned (.agg (vals (g k)).toArray) ∧ Below W.heap.size W w') := fun W k hW hk => by
    rw [hg]; exact rdigestAt_any b off cap sig k W hs hsb hcap hk (range_below0 hr hW hb0) (Nat.lt_of_lt_of_le hb0 hW.size)
  have HWK : Hid (∀ W (k : Nat), k < 67 → Calls Tryd.prog 16 #[.agg (vals (g k)).toArray, .int .i64 (15 - (q k : Int))] W fun e w' => e = .returned (.agg (vals (T k)).toArray) ∧ Below W.heap.size W w') := fun W k hk => by
    have h15 : q k ≤ 15 := HQ.out k
    have := rwalked_any (g k) (15 - (q k : Int)) W (by rw [hg]; exact Ky.sigAt_length _ _ (by omega)) (by rw [hg]; exact Ky.sigAt_byt _ _ hsb) (by omega)
    rw [show (15 - (q k : Int)).toNat = 15 - q k by omega] at this
    rw [hTT k hk]
    rw [hg, hq] at this ⊢
    exact this
  have HO7 : Hid (∀ W bb cc, W.rangeAt bb 0 (vals (Ky.rowsOf T 67)) → bb < W.heap.size → Calls Tryd.prog 23 #[.int .u8 7, .slice (some ⟨bb, 0, none⟩) 67 cc] W fun e w' => e = .returned (.agg (vals (Ky.recov m sig)).toArray) ∧ Below W.heap.size W w') := fun W bb cc hrr hbb => by
    have := rof_any 7 bb 0 67 cc (Ky.rowsOf T 67) W (by omega) (by omega) (Ky.rowsOf_length T HTL.out 67) hrr hbb (by rw [hRT]; exact hRb)
    rw [hRT] at this
    exact this
  have hPl : (Ky.recov m sig).length = 32 := Ky.recov_length m sig
  generalize Ky.recov m sig = P at *
  generalize Ky.digits m = G at *
  have HPL := hide hPl
  have HML := hide hm
  have HGL := hide hdl
  have HI0 := hide ((Is.new w (vals m) 23).alloc (.cells (vals (List.replicate 32 0)).toArray 23))
  have HJ0 : Hid (Is ((w.alloc (.cells (vals m).toArray 23)).alloc (.cells (vals (List.replicate 32 0)).toArray 23)) (w.heap.size + 1) (vals (List.replicate 32 0)) 23) := Is.new' _ 23 (by simp)
  have HB0 := hide (below_alloc2 w (.cells (vals m).toArray 23) (.cells (vals (List.replicate 32 0)).toArray 23))
  clear hPl hm hmb hs hsb hr hdl hT hTT hRT hRb hg hq hcap
  go_enter Tryd.func17, Tryd.ntmps17
  go_wp2_with (first
    | (refine wpList_load_arr2 23 (vals m) w.heap.size rfl (.tmp 2) rfl rfl HI0.out Tryd.underlying23 size_dig (by rw [vals_length]; exact HML.out) ?_)
    | (go_at_call 9; refine (HG.out _).mono ?_; rintro e w1 ⟨v5, rfl, ho5, hb1⟩))
  have hb1' := HB0.out.trans (hb1.mono HB0.out.size)
  have hJ1 := HJ0.out.below hb1 HJ0.out.lt
  unfold OwnN at ho5
  rw [HGL.out] at ho5
  obtain ⟨gd, cd, rfl, hgd, hgdl, hcd, hcdm, hrgd⟩ := owns_some ho5 (by omega)
  have HCD : Hid (∀ k, k < 67 → w1.cell? ⟨gd, k, none⟩ = some (.int .i64 (q k : Int))) := fun k hk => by
    have := hrgd k _ (ivals_get G k (by rw [HGL.out]; exact hk))
    rw [Nat.zero_add, HQG.out] at this
    exact this
  have HB1 := hide hb1'
  have HJ1 := hide hJ1
  clear ho5 hrgd hb1 hb1' hJ1 HI0 HJ0 HB0 HG hgd hcdm
  go_loopw [6, 7] (fun v i wr => ∃ k : Nat, k ≤ 67 ∧ i = .int .i64 k ∧ wr.ownsRow w1.heap.size 23 32 v k (vals (Ky.rowsOf T k)) ∧ Below w1.heap.size w1 wr) (fun _ i _ => 67 - (intOf i).toNat)
  case atStart => exact ⟨0, by omega, rfl, World.ownsRow_nil _ _ _ _, Below.refl _ _⟩
  case round =>
    obtain ⟨k, hk, rfl, ho, hb⟩ := hrel
    obtain ⟨oa, oc, rfl⟩ := owns_form ho
    by_cases hkl : k < 67
    · have hki : (k : Int) < 67 := by omega
      have hnx : vals (Ky.rowsOf T (k + 1)) = vals (Ky.rowsOf T k) ++ vals (T k) := by rw [Ky.rowsOf_succ, vals_append]
      have htl := HTL.out k
      have hqk := HQ.out k
      have hB1 := HB1.out
      have HDk : Hid (∀ W, Below w1.heap.size w1 W → Calls Tryd.prog 20 #[.slice (some ⟨b, off, none⟩) 2144 cap, .int .i64 (32 * (k : Int))] W fun e w' => e = .returned (.agg (vals (g k)).toArray) ∧ Below W.heap.size W w') := fun W hW => HDA.out W k (hB1.trans (hW.mono hB1.size)) hkl
      have HTk : Hid (∀ W, Calls Tryd.prog 16 #[.agg (vals (g k)).toArray, .int .i64 (15 - (q k : Int))] W fun e w' => e = .returned (.agg (vals (T k)).toArray) ∧ Below W.heap.size W w') := fun W => HWK.out W k hkl
      have hck : wr.cell? ⟨gd, k, none⟩ = some (.int .i64 (q k : Int)) := by rw [hb.cell (p := ⟨gd, k, none⟩) hgdl]; exact HCD.out k hkl
      generalize T k = D at *
      generalize g k = E at *
      generalize q k = d at *
      generalize vals (Ky.rowsOf T k) = X at *
      have HNX := hide hnx
      have HDL := hide htl
      have HO := hide ho
      have HS0 : Hid (wr.cell? ⟨gd, k, none⟩ = some (.int .i64 (d : Int)) ∧ Below w1.heap.size w1 wr) := ⟨hck, hb⟩
      have hrow : ∀ r, Value.ownBlock (.slice oa k oc) = some r → w1.heap.size ≤ r := fun r hr => (World.ownsRow.lt HO.out r hr).1
      have HROW := hide hrow
      have hwm : IntKind.i64.wrap (32 * (k : Int)) = 32 * (k : Int) := IntWalk.i64_in _ (by omega)
      have hwd : IntKind.i64.wrap (15 - (d : Int)) = 15 - (d : Int) := IntWalk.i64_in _ (by omega)
      have hwm2 : wrap64 (32 * (k : Int)) = 32 * (k : Int) := by rw [← IntWalk.i64_left]; exact hwm
      have hwd2 : wrap64 (15 - (d : Int)) = 15 - (d : Int) := by rw [← IntWalk.i64_left]; exact hwd
      clear hnx htl ho hB1 hck hrow HDA HWK HO7 HCD HTL HQ HQG hb
      obtain ⟨wA, hwA⟩ : ∃ wA, wA = wr := ⟨_, rfl⟩
      subst hwA
      go_wp2
      refine wp_region_held_drew (S := fun W : World => W.cell? ⟨gd, k, none⟩ = some (.int .i64 (d : Int)) ∧ Below w1.heap.size w1 W) (by kernel_rfl) ?_ (fun hHeld0 => ?_)
      · exact cb_below HS0.out ((Below.refl _ _).drew)
      refine wpAnyH_take (i := 0) (v := ?_) rfl (by kernel_rfl) (by kernel_rfl) (by kernel_rfl) (fun _ _ _ h => h) (Or.inl ⟨by rfl, ?_⟩) hHeld0 ?_
      rotate_left
      · (intro w hSw; (try dsimp only at hSw); go_simp <;> (try with_reducible rfl))
      simp only [Act.put, List.getElem_toArray, List.getElem_cons_zero, List.getElem_cons_succ, List.setIfInBounds_toArray, List.set_cons_zero, List.set_cons_succ]
      refine wpAnyH_take (i := 1) (v := ?_) rfl (by kernel_rfl) (by kernel_rfl) (by kernel_rfl) (fun _ _ _ h => h) (Or.inl ⟨by rfl, ?_⟩) hHeld0 ?_
      rotate_left
      · (intro w hSw; (try dsimp only at hSw); go_simp <;> (try with_reducible rfl))
      simp only [Act.put, List.getElem_toArray, List.getElem_cons_zero, List.getElem_cons_succ, List.setIfInBounds_toArray, List.set_cons_zero, List.set_cons_succ]
      refine wpAnyH_take (i := 2) (v := ?_) rfl (by kernel_rfl) (by kernel_rfl) (by kernel_rfl) (fun _ _ _ h => h) (Or.inl ⟨by rfl, ?_⟩) hHeld0 ?_
      rotate_left
      · (intro w hSw; (try dsimp only at hSw); go_simp <;> (try with_reducible rfl))
      simp only [Act.put, List.getElem_toArray, List.getElem_cons_zero, List.getElem_cons_succ, List.setIfInBounds_toArray, List.set_cons_zero, List.set_cons_succ]
      refine wpAnyH_take (i := 3) (v := ?_) rfl (by kernel_rfl) (by kernel_rfl) (by kernel_rfl) (fun _ _ _ h => h) (Or.inl ⟨by rfl, ?_⟩) hHeld0 ?_
      rotate_left
      · (intro w hSw; (try dsimp only at hSw); go_simp <;> (try with_reducible rfl))
      simp only [Act.put, List.getElem_toArray, List.getElem_cons_zero, List.getElem_cons_succ, List.setIfInBounds_toArray, List.set_cons_zero, List.set_cons_succ]
      refine wpAnyH_take (i := 5) (v := ?_) rfl (by kernel_rfl) (by kernel_rfl) (by kernel_rfl) (fun _ _ _ h => h) (Or.inl ⟨by rfl, ?_⟩) hHeld0 ?_
      rotate_left
      · (intro w hSw; (try dsimp only at hSw); go_simp <;> (try with_reducible rfl))
      simp only [Act.put, List.getElem_toArray, List.getElem_cons_zero, List.getElem_cons_succ, List.setIfInBounds_toArray, List.set_cons_zero, List.set_cons_succ]
      refine wpAnyH_take (i := 6) (v := ?_) rfl (by kernel_rfl) (by kernel_rfl) (by kernel_rfl) (fun _ _ _ h => h) (Or.inl ⟨by rfl, ?_⟩) hHeld0 ?_
      rotate_left
      · (intro w hSw; (try dsimp only at hSw); go_simp <;> (try with_reducible rfl))
      simp only [Act.put, List.getElem_toArray, List.getElem_cons_zero, List.getElem_cons_succ, List.setIfInBounds_toArray, List.set_cons_zero, List.set_cons_succ]
      refine wpAnyH_take (i := 7) (v := ?_) rfl (by kernel_rfl) (by kernel_rfl) (by kernel_rfl) (fun _ _ _ h => h) (Or.inl ⟨by rfl, ?_⟩) hHeld0 ?_
      rotate_left
      · (intro w hSw; (try dsimp only at hSw); go_simp <;> (try with_reducible rfl))
      simp only [Act.put, List.getElem_toArray, List.getElem_cons_zero, List.getElem_cons_succ, List.setIfInBounds_toArray, List.set_cons_zero, List.set_cons_succ]
      refine wpAnyH_take (i := 8) (v := ?_) rfl (by kernel_rfl) (by kernel_rfl) (by kernel_rfl) (fun _ _ _ h => h) (Or.inl ⟨by rfl, ?_⟩) hHeld0 ?_
      rotate_left
      · (intro w hSw; (try dsimp only at hSw); go_simp <;> (try with_reducible rfl))
      simp only [Act.put, List.getElem_toArray, List.getElem_cons_zero, List.getElem_cons_succ, List.setIfInBounds_toArray, List.set_cons_zero, List.set_cons_succ]
      refine wpAnyH_take (i := 9) (v := ?_) rfl (by kernel_rfl) (by kernel_rfl) (by kernel_rfl) (fun _ _ _ h => h) (Or.inl ⟨by rfl, ?_⟩) hHeld0 ?_
      rotate_left
      · (intro w hSw; (try dsimp only at hSw); go_simp <;> (try with_reducible rfl))
      simp only [Act.put, List.getElem_toArray, List.getElem_cons_zero, List.getElem_cons_succ, List.setIfInBounds_toArray, List.set_cons_zero, List.set_cons_succ]
      refine wpAnyH_ready (rs := [4]) (by kernel_rfl) (by simp) ?_
      refine AllReadyH.cons rfl (fun K hK => ?_) AllReadyH.nil
      go_simp
      go_wp2_with ((go_at_call 20; refine (HDk.out _ hHeld0.2).mono ?_; rintro e wq1 ⟨rfl, hbq1⟩))
      refine hK.out _ _ (by exact cb_below hHeld0 hbq1) (fun hHeld1 => ?_)
      clear hK K hHeld0
      try simp only [Act.put, List.getElem_toArray, List.getElem_cons_zero, List.getElem_cons_succ, List.setIfInBounds_toArray, List.set_cons_zero, List.set_cons_succ]
      have hO1 := owns_below (w := wA.drew) HO.out hbq1
      refine wpAnyH_ready (rs := [10]) (by kernel_rfl) (by simp) ?_
      refine AllReadyH.cons rfl (fun K hK => ?_) AllReadyH.nil
      go_simp
      go_wp2_with ((go_at_call 16; refine (HTk.out _).mono ?_; rintro e wq2 ⟨rfl, hbq2⟩))
      refine hK.out _ _ (by exact cb_below hHeld1 hbq2) (fun hHeld2 => ?_)
      clear hK K hHeld1
      try simp only [Act.put, List.getElem_toArray, List.getElem_cons_zero, List.getElem_cons_succ, List.setIfInBounds_toArray, List.set_cons_zero, List.set_cons_succ]
      have hO2 := owns_below hO1 hbq2
      refine wpAnyH_ready (rs := [11]) (by kernel_rfl) (by simp) ?_
      refine AllReadyH.cons rfl (fun K hK => ?_) AllReadyH.nil
      refine step_build_one 42 23 (vals D) rfl (.tmp 24) rfl rfl Tryd.underlying42 _ info_dig (by omega) (by omega) (by rw [vals_length]; exact HDL.out) ?_
      refine hK.out _ _ (by exact cb_below hHeld2 (below_alloc _ _)) (fun hHeld3 => ?_)
      clear hK K hHeld2
      try simp only [Act.put, List.getElem_toArray, List.getElem_cons_zero, List.getElem_cons_succ, List.setIfInBounds_toArray, List.set_cons_zero, List.set_cons_succ]
      refine wpAnyH_ready (rs := [12]) (by kernel_rfl) (by simp) ?_
      refine AllReadyH.cons rfl (fun K hK => ?_) AllReadyH.nil
      refine step_append_gen _ 42 23 32 rfl (.tmp 14) (.tmp 25) rfl w1.heap.size (.slice oa k oc) k X rfl wq2.heap.size 0 1 1 (vals D) rfl (owns_below hO2 (below_alloc wq2 _)) elem_dig (by omega) (by rw [vals_length, HDL.out]) (Is.new wq2 _ _).range (vals_one _) (by omega) hHeld3.2.size ?_
      intro v6 w6 h6 hg6 hw6
      refine hK.out _ _ (by exact cb_grown hHeld3 hg6 hgdl HROW.out) (fun hHeld4 => ?_)
      clear hK K hHeld3
      try simp only [Act.put, List.getElem_toArray, List.getElem_cons_zero, List.getElem_cons_succ, List.setIfInBounds_toArray, List.set_cons_zero, List.set_cons_succ]
      refine wpAnyH_take (i := 13) (v := ?_) rfl (by kernel_rfl) (by kernel_rfl) (by kernel_rfl) (fun _ _ _ h => h) (Or.inl ⟨by rfl, ?_⟩) hHeld4 ?_
      rotate_left
      · (intro w hSw; (try dsimp only at hSw); go_simp <;> (try with_reducible rfl))
      simp only [Act.put, List.getElem_toArray, List.getElem_cons_zero, List.getElem_cons_succ, List.setIfInBounds_toArray, List.set_cons_zero, List.set_cons_succ]
      refine wpAnyH_done (by kernel_rfl) ?_ _
      go_wp2
      go_roundw
      case rel => exact ⟨k + 1, by omega, by go_num, by rw [HNX.out]; exact h6, hHeld4.2⟩
      case measure => simp [intOf]; omega
    · have hki : ¬ (k : Int) < 67 := by omega
      have hke : k = 67 := by omega
      subst hke
      obtain ⟨gb, cc, hv, hgb, hgl, hcp, hcm, hrg⟩ := owns_some ho (by omega)
      injection hv with hv1 hv2 hv3
      subst hv1
      have HC := hide (HO7.out wr gb oc hrg hgl)
      have HJ := hide (HJ1.out.below hb HJ1.out.lt)
      have hbw := HB1.out.trans (hb.mono HB1.out.size)
      clear ho hrg HO7 HDA HWK HCD HTL HQ HQG hcm hcp hv3 hv2 HB1 HJ1 hb
      go_wp2_with (first
        | (go_at_call 23; refine HC.out.mono ?_; rintro e w5 ⟨rfl, hb5⟩)
        | (refine wpList_store_any2 23 (vals (List.replicate 32 0)) (vals P) (w.heap.size + 1) rfl (.tmp 4) (.tmp 28) rfl rfl rfl rfl (HJ.out.below hb5 HJ.out.lt) size_dig (by simp [vals]) (by rw [vals_length]; exact HPL.out) (vals_one _) ?_; intro w7 hi7 hb7 hk7 hz7))
      have hr := hi7.cellsOf Tryd.underlying23 (by rw [vals_length, HPL.out]; exact size_dig)
      exact bodyPost_ret (v := .agg (vals P).toArray) (results_cell1 Tryd.results17 rfl hr) rfl ⟨rfl, hb7 _ _ (hbw.trans (hb5.mono hbw.size)) (Nat.le_succ _)⟩
end Go.Proofs.YtdeddnlagbeanaaDoor
