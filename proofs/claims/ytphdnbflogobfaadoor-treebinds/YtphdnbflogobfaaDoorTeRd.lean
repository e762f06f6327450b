/- The contract of the document's Folded. -/
import Derived.Test.YtphdnbflogobfaaDoorTeRg
namespace Go.Proofs.YtphdnbflogobfaaDoor
open Go.RowKit
set_option linter.unusedVariables false
set_option linter.unusedSimpArgs false

theorem folded_last_left (l : List Int) (i n : Nat) (PS : List (List Int)) (h : 2 ≤ n) (hi : i < Te.half n) (hl : PS.length = Te.long i n) : Te.folded l i n PS = Te.nd (Te.folded l i (Te.half n) (PS.take (PS.length - 1))) (PS.getD (PS.length - 1) []) := by
  have hp := Te.long_pos i n h
  have he := Te.long_left i n h hi
  have hs := Te.last_split PS (fun e => by rw [e] at hl; simp at hl; omega)
  have := Te.folded_left l i n (PS.take (PS.length - 1)) (PS.getD (PS.length - 1) []) h hi (by rw [List.length_take]; omega)
  rw [← hs] at this
  exact this
theorem folded_last_right (l : List Int) (i n : Nat) (PS : List (List Int)) (h : 2 ≤ n) (hi : ¬ i < Te.half n) (hl : PS.length = Te.long i n) : Te.folded l i n PS = Te.nd (PS.getD (PS.length - 1) []) (Te.folded l (i - Te.half n) (n - Te.half n) (PS.take (PS.length - 1))) := by
  have hp := Te.long_pos i n h
  have he := Te.long_right i n h hi
  have hs := Te.last_split PS (fun e => by rw [e] at hl; simp at hl; omega)
  have := Te.folded_right l i n (PS.take (PS.length - 1)) (PS.getD (PS.length - 1) []) h hi (by rw [List.length_take]; omega)
  rw [← hs] at this
  exact this

/-- The boxes of Folded. -/
structure FoS (w : World) (L X : List Int) (pb : Nat) (W : World) : Prop where
  below : Below w.heap.size w W
  l : Is W w.heap.size (vals L) 26
  z : ∃ C, C.length = 32 ∧ Is W (w.heap.size + 1) C 26
  p : Is W pb (vals X) 26
  far : w.heap.size + 2 ≤ pb
theorem FoS.call {w W W' : World} {L X : List Int} {pb : Nat} (h : FoS w L X pb W) (hb : Below W.heap.size W W') : FoS w L X pb W' := by
  obtain ⟨C, h1, h2⟩ := h.z
  exact ⟨h.below.trans (hb.mono h.below.size), h.l.below hb h.l.lt, ⟨C, h1, h2.below hb h2.lt⟩, h.p.below hb h.p.lt, h.far⟩
theorem FoS.drew {w W : World} {L X : List Int} {pb : Nat} (h : FoS w L X pb W) : FoS w L X pb W.drew := by
  obtain ⟨C, h1, h2⟩ := h.z
  exact ⟨h.below.drew, h.l.drew, ⟨C, h1, h2.drew⟩, h.p.drew, h.far⟩

set_option maxRecDepth 100000 in
set_option maxHeartbeats 2000000 in
theorem rfolded_any (n : Nat) : ∀ (l : List Int) (i : Nat) (v : Value) (PS : List (List Int)) (w : World), l.length = 32 → Sz.Byt l → 1 ≤ n → n ≤ 256 → i < n → HasDigs w v PS → PS.length = Te.long i n →
    Calls Tryd.prog 18 #[.agg (vals l).toArray, .int .i64 (i : Int), .int .i64 (n : Int), v] w fun e w' => e = .returned (.agg (vals (Te.folded l i n PS)).toArray) ∧ Below w.heap.size w w' := by
  induction n using Nat.strongRecOn with
  | _ n ih =>
    intro l i v PS w hl1 hlb h1 h256 hin hd hpl
    have HL0 := hide ((Is.new w (vals l) 26).alloc (.cells (vals (List.replicate 32 0)).toArray 26))
    have HZ0 : Hid (Is ((w.alloc (.cells (vals l).toArray 26)).alloc (.cells (vals (List.replicate 32 0)).toArray 26)) (w.heap.size + 1) (vals (List.replicate 32 0)) 26) := Is.new' _ 26 (by simp)
    have HB := hide (below_alloc2 w (.cells (vals l).toArray 26) (.cells (vals (List.replicate 32 0)).toArray 26))
    have HL32 := hide hl1
    have hszl : (Tryd.prog.info? 26).map (·.size) = some (vals l).length := by rw [vals_length, hl1]; exact size_dig
    by_cases h2 : 2 ≤ n
    · have hp := Te.half_pos n
      have hl := Te.half_lt n h2
      have HH := hide (fun W => rhalf_any n W h2 h256)
      have hn1 : ¬ (n : Int) = 1 := by omega
      have hn2 : ((n : Int) == 1) = false := by simpa using hn1
      have hq0 : 0 < PS.length := by rw [hpl]; exact Te.long_pos i n h2
      have hq8 : PS.length ≤ 8 := by rw [hpl]; exact long_small i n h1 h256
      obtain ⟨gb, go, cap, rfl, hc, hm, hat⟩ := hd.at' hq0
      have hX := hat.1.get (PS.length - 1) (by omega)
      have hrg := hat.2.2 (PS.length - 1) (by omega)
      have hgb := hat.2.1
      by_cases hik : i < Te.half n
      · have hlg := Te.long_left i n h2 hik
        have hpl2 : (PS.take (PS.length - 1)).length = Te.long i (Te.half n) := by rw [List.length_take]; omega
        have hF : (Te.folded l i (Te.half n) (PS.take (PS.length - 1))).length = 32 ∧ Sz.Byt (Te.folded l i (Te.half n) (PS.take (PS.length - 1))) := up_ok _ _ _ hl1 hlb
        have HF : Hid (∀ W, Below w.heap.size w W → Calls Tryd.prog 18 #[.agg (vals l).toArray, .int .i64 (i : Int), .int .i64 (Te.half n : Int), .slice (some ⟨gb, go, none⟩) (PS.length - 1) cap] W fun e w' => e = .returned (.agg (vals (Te.folded l i (Te.half n) (PS.take (PS.length - 1)))).toArray) ∧ Below W.heap.size W w') := hide (fun W hW => by
          have := ih (Te.half n) (by omega) l i _ (PS.take (PS.length - 1)) W hl1 hlb (by omega) (by omega) (by omega) ((hd.below hW).take (PS.length - 1) cap (by omega) (by omega) hm) hpl2
          exact this)
        have HN := hide (fun W => rnode_any _ _ W hF.1 hX.1 hF.2 hX.2)
        rw [folded_last_left l i n PS h2 hik hpl]
        generalize Te.folded l i (Te.half n) (PS.take (PS.length - 1)) = F at *
        generalize PS.getD (PS.length - 1) [] = X at *
        have HR := hide (Te.nd_length F X)
        obtain ⟨R, hR⟩ : ∃ R, R = Te.nd F X := ⟨_, rfl⟩
        rw [← hR] at HR HN ⊢
        generalize Te.half n = k at *
        obtain ⟨q, hq⟩ : ∃ q, q = PS.length := ⟨_, rfl⟩
        rw [← hq] at hrg HF hq0 hq8 hc ⊢
        have HRG := hide hrg
        have HX := hide hX.1
        have hszx : (Tryd.prog.info? 26).map (·.size) = some (vals X).length := by rw [vals_length, hX.1]; exact size_dig
        have hmc2 : q - 1 ≤ cap := by omega
        have hmc3 : ¬ cap = q - 1 := by omega
        have hmq2 : q - 1 < q := by omega
        have hik2 : (i : Int) < (k : Int) := by omega
        clear ih hd hat hpl hpl2 hF hX hlg hrg hR hq
        go_enter Tryd.func18, Tryd.ntmps18
        go_wp2_with fail
        refine (HH.out _).mono ?_
        rintro e w1 ⟨rfl, hb1⟩
        have HB1 := hide (HB.out.trans (hb1.mono HB.out.size))
        have HL1 := hide (HL0.out.below hb1 HL0.out.lt)
        have HZ1 := hide (HZ0.out.below hb1 HZ0.out.lt)
        have HRG1 := hide (range_keep HRG.out HB1.out hgb)
        have HSZ : Hid (w.heap.size + 2 ≤ w1.heap.size) := by have := hb1.size; simp at this; exact this
        clear hb1
        go_wp2_with (first
          | (refine te_load X gb (go + (q - 1) * 32) rfl (.tmp 21) rfl rfl HRG1.out HX.out ?_)
          | (refine te_store (vals (List.replicate 32 0)) X w1.heap.size rfl (.tmp 10) (.tmp 22) rfl rfl rfl rfl (Is.new w1 _ _) (by simp [vals]) HX.out ?_; intro w4 hi4 hb4 hz4; have hb4' : Below w1.heap.size w1 w4 := (below_alloc w1 (.cells (vals (List.replicate 32 0)).toArray 26)).trans (hb4.under (below_alloc w1 _).size (Nat.le_refl _)); have HS4 : FoS w l X w1.heap.size w4 := ⟨HB1.out.trans (hb4'.mono HB1.out.size), HL1.out.below hb4' HL1.out.lt, ⟨_, by simp [vals], HZ1.out.below hb4' HZ1.out.lt⟩, hi4, HSZ.out⟩; clear hi4 hb4 hb4' hz4))
        refine wp_region_held_drew (S := fun W : World => FoS w l X w1.heap.size W) (by kernel_rfl) ?_ (fun hHeld0 => ?_)
        · exact HS4.drew
        refine wpAnyH_take (i := 0) (v := .agg (vals l).toArray) rfl (by kernel_rfl) (by kernel_rfl) (by kernel_rfl) (fun _ _ _ h => h) (yieldsIf_load_mid (by rfl) _ _ rfl _ _ rfl (vals l) _ (fun w hSw => hSw.l.range) Tryd.underlying26 rfl hszl) hHeld0 ?_
        simp only [Act.put, List.getElem_toArray, List.getElem_cons_zero, List.getElem_cons_succ, List.setIfInBounds_toArray, List.set_cons_zero, List.set_cons_succ]
        refine wpAnyH_take (i := 1) (v := ?_) rfl (by kernel_rfl) (by kernel_rfl) (by kernel_rfl) (fun _ _ _ h => h) (Or.inl ⟨by rfl, ?_⟩) hHeld0 ?_
        rotate_left
        · (intro w hSw; (try dsimp only at hSw); go_simp <;> (try with_reducible rfl))
        simp only [Act.put, List.getElem_toArray, List.getElem_cons_zero, List.getElem_cons_succ, List.setIfInBounds_toArray, List.set_cons_zero, List.set_cons_succ]
        refine wpAnyH_take (i := 2) (v := ?_) rfl (by kernel_rfl) (by kernel_rfl) (by kernel_rfl) (fun _ _ _ h => h) (Or.inl ⟨by rfl, ?_⟩) hHeld0 ?_
        rotate_left
        · (intro w hSw; (try dsimp only at hSw); go_simp <;> (try with_reducible rfl))
        simp only [Act.put, List.getElem_toArray, List.getElem_cons_zero, List.getElem_cons_succ, List.setIfInBounds_toArray, List.set_cons_zero, List.set_cons_succ]
        refine wpAnyH_take (i := 3) (v := ?_) rfl (by kernel_rfl) (by kernel_rfl) (by kernel_rfl) (fun _ _ _ h => h) (Or.inl ⟨by rfl, ?_⟩) hHeld0 ?_
        rotate_left
        · (intro w hSw; (try dsimp only at hSw); go_simp <;> (try with_reducible rfl))
        simp only [Act.put, List.getElem_toArray, List.getElem_cons_zero, List.getElem_cons_succ, List.setIfInBounds_toArray, List.set_cons_zero, List.set_cons_succ]
        refine wpAnyH_take (i := 5) (v := .agg (vals X).toArray) rfl (by kernel_rfl) (by kernel_rfl) (by kernel_rfl) (fun _ _ _ h => h) (yieldsIf_load_mid (by rfl) _ _ rfl _ _ rfl (vals X) _ (fun w hSw => hSw.p.range) Tryd.underlying26 rfl hszx) hHeld0 ?_
        simp only [Act.put, List.getElem_toArray, List.getElem_cons_zero, List.getElem_cons_succ, List.setIfInBounds_toArray, List.set_cons_zero, List.set_cons_succ]
        refine wpAnyH_ready (rs := [4]) (by kernel_rfl) (by simp) ?_
        refine AllReadyH.cons rfl (fun K hK => ?_) AllReadyH.nil
        go_simp
        go_wp2_with ((go_at_call 18; refine (HF.out _ hHeld0.below).mono ?_; rintro e wf ⟨rfl, hbf⟩))
        refine hK.out _ _ (by exact hHeld0.call hbf) (fun hHeld1 => ?_)
        clear hK K hHeld0
        try simp only [Act.put, List.getElem_toArray, List.getElem_cons_zero, List.getElem_cons_succ, List.setIfInBounds_toArray, List.set_cons_zero, List.set_cons_succ]
        refine wpAnyH_ready (rs := [6]) (by kernel_rfl) (by simp) ?_
        refine AllReadyH.cons rfl (fun K hK => ?_) AllReadyH.nil
        go_simp
        go_wp2_with ((go_at_call 21; refine (HN.out _).mono ?_; rintro e wn ⟨rfl, hbn⟩))
        refine hK.out _ _ (by exact hHeld1.call hbn) (fun hHeld2 => ?_)
        clear hK K hHeld1
        try simp only [Act.put, List.getElem_toArray, List.getElem_cons_zero, List.getElem_cons_succ, List.setIfInBounds_toArray, List.set_cons_zero, List.set_cons_succ]
        refine wpAnyH_ready (rs := [7]) (by kernel_rfl) (by simp) ?_
        refine AllReadyH.cons rfl (fun K hK => ?_) AllReadyH.nil
        obtain ⟨Z, hZl, hZi⟩ := hHeld2.z
        refine te_step_store Z R (w.heap.size + 1) rfl (.tmp 8) (.tmp 37) rfl rfl rfl hZi hZl HR.out ?_
        intro w7 hi7 hb7 hz7
        have hS7 : FoS w l X w1.heap.size w7 := ⟨hHeld2.below.trans (hb7.under hHeld2.below.size (Nat.le_succ _)), hHeld2.l.only hb7 hHeld2.l.lt (by omega), ⟨_, by rw [vals_length]; exact HR.out, hi7⟩, hHeld2.p.only hb7 hHeld2.p.lt (by have := hHeld2.far; omega), hHeld2.far⟩
        refine hK.out _ _ (by exact hS7) (fun hHeld3 => ?_)
        clear hK K hHeld2
        try simp only [Act.put, List.getElem_toArray, List.getElem_cons_zero, List.getElem_cons_succ, List.setIfInBounds_toArray, List.set_cons_zero, List.set_cons_succ]
        refine wpAnyH_done (by kernel_rfl) ?_ _
        go_wp2
        have hr := hi7.cellsOf Tryd.underlying26 (by rw [vals_length, HR.out]; exact size_dig)
        exact bodyPost_ret (v := .agg (vals R).toArray) (results_cell1 Tryd.results18 rfl hr) rfl ⟨rfl, hHeld3.below⟩
      · have hlg := Te.long_right i n h2 hik
        have hpl2 : (PS.take (PS.length - 1)).length = Te.long (i - Te.half n) (n - Te.half n) := by rw [List.length_take]; omega
        have hF : (Te.folded l (i - Te.half n) (n - Te.half n) (PS.take (PS.length - 1))).length = 32 ∧ Sz.Byt (Te.folded l (i - Te.half n) (n - Te.half n) (PS.take (PS.length - 1))) := up_ok _ _ _ hl1 hlb
        have HF : Hid (∀ W, Below w.heap.size w W → Calls Tryd.prog 18 #[.agg (vals l).toArray, .int .i64 ((i : Int) - (Te.half n : Int)), .int .i64 ((n : Int) - (Te.half n : Int)), .slice (some ⟨gb, go, none⟩) (PS.length - 1) cap] W fun e w' => e = .returned (.agg (vals (Te.folded l (i - Te.half n) (n - Te.half n) (PS.take (PS.length - 1)))).toArray) ∧ Below W.heap.size W w') := hide (fun W hW => by
          have := ih (n - Te.half n) (by omega) l (i - Te.half n) _ (PS.take (PS.length - 1)) W hl1 hlb (by omega) (by omega) (by omega) ((hd.below hW).take (PS.length - 1) cap (by omega) (by omega) hm) hpl2
          rwa [show (((i - Te.half n : Nat)) : Int) = (i : Int) - (Te.half n : Int) by omega, show (((n - Te.half n : Nat)) : Int) = (n : Int) - (Te.half n : Int) by omega] at this)
        have HN := hide (fun W => rnode_any _ _ W hX.1 hF.1 hX.2 hF.2)
        rw [folded_last_right l i n PS h2 hik hpl]
        generalize Te.folded l (i - Te.half n) (n - Te.half n) (PS.take (PS.length - 1)) = F at *
        generalize PS.getD (PS.length - 1) [] = X at *
        have HR := hide (Te.nd_length X F)
        obtain ⟨R, hR⟩ : ∃ R, R = Te.nd X F := ⟨_, rfl⟩
        rw [← hR] at HR HN ⊢
        generalize Te.half n = k at *
        obtain ⟨q, hq⟩ : ∃ q, q = PS.length := ⟨_, rfl⟩
        rw [← hq] at hrg HF hq0 hq8 hc ⊢
        have HRG := hide hrg
        have HX := hide hX.1
        have hszx : (Tryd.prog.info? 26).map (·.size) = some (vals X).length := by rw [vals_length, hX.1]; exact size_dig
        have hmc2 : q - 1 ≤ cap := by omega
        have hmc3 : ¬ cap = q - 1 := by omega
        have hmq2 : q - 1 < q := by omega
        have hik2 : ¬ (i : Int) < (k : Int) := by omega
        have hwr : wrap64 ((i : Int) - (k : Int)) = (i : Int) - (k : Int) := by simp [wrap64]; omega
        have hwr2 : wrap64 ((n : Int) - (k : Int)) = (n : Int) - (k : Int) := by simp [wrap64]; omega
        have hwk : IntKind.i64.wrap ((i : Int) - (k : Int)) = (i : Int) - (k : Int) := IntWalk.i64_in _ (by omega)
        have hwk2 : IntKind.i64.wrap ((n : Int) - (k : Int)) = (n : Int) - (k : Int) := IntWalk.i64_in _ (by omega)
        clear ih hd hat hpl hpl2 hF hX hlg hrg hR hq
        go_enter Tryd.func18, Tryd.ntmps18
        go_wp2_with fail
        refine (HH.out _).mono ?_
        rintro e w1 ⟨rfl, hb1⟩
        have HB1 := hide (HB.out.trans (hb1.mono HB.out.size))
        have HL1 := hide (HL0.out.below hb1 HL0.out.lt)
        have HZ1 := hide (HZ0.out.below hb1 HZ0.out.lt)
        have HRG1 := hide (range_keep HRG.out HB1.out hgb)
        have HSZ : Hid (w.heap.size + 2 ≤ w1.heap.size) := by have := hb1.size; simp at this; exact this
        clear hb1
        go_wp2_with (first
          | (refine te_load X gb (go + (q - 1) * 32) rfl (.tmp 21) rfl rfl HRG1.out HX.out ?_)
          | (refine te_store (vals (List.replicate 32 0)) X w1.heap.size rfl (.tmp 10) (.tmp 22) rfl rfl rfl rfl (Is.new w1 _ _) (by simp [vals]) HX.out ?_; intro w4 hi4 hb4 hz4; have hb4' : Below w1.heap.size w1 w4 := (below_alloc w1 (.cells (vals (List.replicate 32 0)).toArray 26)).trans (hb4.under (below_alloc w1 _).size (Nat.le_refl _)); have HS4 : FoS w l X w1.heap.size w4 := ⟨HB1.out.trans (hb4'.mono HB1.out.size), HL1.out.below hb4' HL1.out.lt, ⟨_, by simp [vals], HZ1.out.below hb4' HZ1.out.lt⟩, hi4, HSZ.out⟩; clear hi4 hb4 hb4' hz4))
        refine wp_region_held_drew (S := fun W : World => FoS w l X w1.heap.size W) (by kernel_rfl) ?_ (fun hHeld0 => ?_)
        · exact HS4.drew
        refine wpAnyH_take (i := 0) (v := .agg (vals X).toArray) rfl (by kernel_rfl) (by kernel_rfl) (by kernel_rfl) (fun _ _ _ h => h) (yieldsIf_load_mid (by rfl) _ _ rfl _ _ rfl (vals X) _ (fun w hSw => hSw.p.range) Tryd.underlying26 rfl hszx) hHeld0 ?_
        simp only [Act.put, List.getElem_toArray, List.getElem_cons_zero, List.getElem_cons_succ, List.setIfInBounds_toArray, List.set_cons_zero, List.set_cons_succ]
        refine wpAnyH_take (i := 1) (v := .agg (vals l).toArray) rfl (by kernel_rfl) (by kernel_rfl) (by kernel_rfl) (fun _ _ _ h => h) (yieldsIf_load_mid (by rfl) _ _ rfl _ _ rfl (vals l) _ (fun w hSw => hSw.l.range) Tryd.underlying26 rfl hszl) hHeld0 ?_
        simp only [Act.put, List.getElem_toArray, List.getElem_cons_zero, List.getElem_cons_succ, List.setIfInBounds_toArray, List.set_cons_zero, List.set_cons_succ]
        refine wpAnyH_take (i := 2) (v := ?_) rfl (by kernel_rfl) (by kernel_rfl) (by kernel_rfl) (fun _ _ _ h => h) (Or.inl ⟨by rfl, ?_⟩) hHeld0 ?_
        rotate_left
        · (intro w hSw; (try dsimp only at hSw); go_simp <;> (try with_reducible rfl))
        simp only [Act.put, List.getElem_toArray, List.getElem_cons_zero, List.getElem_cons_succ, List.setIfInBounds_toArray, List.set_cons_zero, List.set_cons_succ]
        refine wpAnyH_take (i := 3) (v := ?_) rfl (by kernel_rfl) (by kernel_rfl) (by kernel_rfl) (fun _ _ _ h => h) (Or.inl ⟨by rfl, ?_⟩) hHeld0 ?_
        rotate_left
        · (intro w hSw; (try dsimp only at hSw); go_simp <;> (try with_reducible rfl))
        simp only [Act.put, List.getElem_toArray, List.getElem_cons_zero, List.getElem_cons_succ, List.setIfInBounds_toArray, List.set_cons_zero, List.set_cons_succ]
        refine wpAnyH_take (i := 4) (v := ?_) rfl (by kernel_rfl) (by kernel_rfl) (by kernel_rfl) (fun _ _ _ h => h) (Or.inl ⟨by rfl, ?_⟩) hHeld0 ?_
        rotate_left
        · (intro w hSw; (try dsimp only at hSw); go_simp <;> (try with_reducible rfl))
        simp only [Act.put, List.getElem_toArray, List.getElem_cons_zero, List.getElem_cons_succ, List.setIfInBounds_toArray, List.set_cons_zero, List.set_cons_succ]
        refine wpAnyH_take (i := 5) (v := ?_) rfl (by kernel_rfl) (by kernel_rfl) (by kernel_rfl) (fun _ _ _ h => h) (Or.inl ⟨by rfl, ?_⟩) hHeld0 ?_
        rotate_left
        · (intro w hSw; (try dsimp only at hSw); go_simp <;> (try with_reducible rfl))
        simp only [Act.put, List.getElem_toArray, List.getElem_cons_zero, List.getElem_cons_succ, List.setIfInBounds_toArray, List.set_cons_zero, List.set_cons_succ]
        refine wpAnyH_take (i := 6) (v := ?_) rfl (by kernel_rfl) (by kernel_rfl) (by kernel_rfl) (fun _ _ _ h => h) (Or.inl ⟨by rfl, ?_⟩) hHeld0 ?_
        rotate_left
        · (intro w hSw; (try dsimp only at hSw); go_simp <;> (try with_reducible rfl))
        simp only [Act.put, List.getElem_toArray, List.getElem_cons_zero, List.getElem_cons_succ, List.setIfInBounds_toArray, List.set_cons_zero, List.set_cons_succ]
        refine wpAnyH_take (i := 7) (v := ?_) rfl (by kernel_rfl) (by kernel_rfl) (by kernel_rfl) (fun _ _ _ h => h) (Or.inl ⟨by rfl, ?_⟩) hHeld0 ?_
        rotate_left
        · (intro w hSw; (try dsimp only at hSw); go_simp <;> (try with_reducible rfl))
        simp only [Act.put, List.getElem_toArray, List.getElem_cons_zero, List.getElem_cons_succ, List.setIfInBounds_toArray, List.set_cons_zero, List.set_cons_succ]
        refine wpAnyH_take (i := 8) (v := ?_) rfl (by kernel_rfl) (by kernel_rfl) (by kernel_rfl) (fun _ _ _ h => h) (Or.inl ⟨by rfl, ?_⟩) hHeld0 ?_
        rotate_left
        · (intro w hSw; (try dsimp only at hSw); go_simp <;> (try with_reducible rfl))
        simp only [Act.put, List.getElem_toArray, List.getElem_cons_zero, List.getElem_cons_succ, List.setIfInBounds_toArray, List.set_cons_zero, List.set_cons_succ]
        refine wpAnyH_ready (rs := [9]) (by kernel_rfl) (by simp) ?_
        refine AllReadyH.cons rfl (fun K hK => ?_) AllReadyH.nil
        go_simp
        go_wp2_with ((go_at_call 18; (try rw [hwk, hwk2]); refine (HF.out _ hHeld0.below).mono ?_; rintro e wf ⟨rfl, hbf⟩))
        refine hK.out _ _ (by exact hHeld0.call hbf) (fun hHeld1 => ?_)
        clear hK K hHeld0
        try simp only [Act.put, List.getElem_toArray, List.getElem_cons_zero, List.getElem_cons_succ, List.setIfInBounds_toArray, List.set_cons_zero, List.set_cons_succ]
        refine wpAnyH_ready (rs := [10]) (by kernel_rfl) (by simp) ?_
        refine AllReadyH.cons rfl (fun K hK => ?_) AllReadyH.nil
        go_simp
        go_wp2_with ((go_at_call 21; refine (HN.out _).mono ?_; rintro e wn ⟨rfl, hbn⟩))
        refine hK.out _ _ (by exact hHeld1.call hbn) (fun hHeld2 => ?_)
        clear hK K hHeld1
        try simp only [Act.put, List.getElem_toArray, List.getElem_cons_zero, List.getElem_cons_succ, List.setIfInBounds_toArray, List.set_cons_zero, List.set_cons_succ]
        refine wpAnyH_ready (rs := [11]) (by kernel_rfl) (by simp) ?_
        refine AllReadyH.cons rfl (fun K hK => ?_) AllReadyH.nil
        obtain ⟨Z, hZl, hZi⟩ := hHeld2.z
        refine te_step_store Z R (w.heap.size + 1) rfl (.tmp 8) (.tmp 48) rfl rfl rfl hZi hZl HR.out ?_
        intro w7 hi7 hb7 hz7
        have hS7 : FoS w l X w1.heap.size w7 := ⟨hHeld2.below.trans (hb7.under hHeld2.below.size (Nat.le_succ _)), hHeld2.l.only hb7 hHeld2.l.lt (by omega), ⟨_, by rw [vals_length]; exact HR.out, hi7⟩, hHeld2.p.only hb7 hHeld2.p.lt (by have := hHeld2.far; omega), hHeld2.far⟩
        refine hK.out _ _ (by exact hS7) (fun hHeld3 => ?_)
        clear hK K hHeld2
        try simp only [Act.put, List.getElem_toArray, List.getElem_cons_zero, List.getElem_cons_succ, List.setIfInBounds_toArray, List.set_cons_zero, List.set_cons_succ]
        refine wpAnyH_done (by kernel_rfl) ?_ _
        go_wp2
        have hr := hi7.cellsOf Tryd.underlying26 (by rw [vals_length, HR.out]; exact size_dig)
        exact bodyPost_ret (v := .agg (vals R).toArray) (results_cell1 Tryd.results18 rfl hr) rfl ⟨rfl, hHeld3.below⟩
    · have hn1 : n = 1 := by omega
      subst hn1
      rw [Te.folded_one]
      obtain ⟨a, cap, rfl, _, _⟩ := hd.form
      generalize PS.length = q at *
      clear ih hd hpl
      go_enter Tryd.func18, Tryd.ntmps18
      go_wp2_with (first
        | (refine te_load l w.heap.size 0 rfl (.tmp 4) rfl rfl HL0.out.range HL32.out ?_)
        | (refine te_store (vals (List.replicate 32 0)) l (w.heap.size + 1) rfl (.tmp 8) (.tmp 14) rfl rfl rfl rfl HZ0.out (by simp [vals]) HL32.out ?_; intro w7 hi7 hb7 hz7))
      have hr := hi7.cellsOf Tryd.underlying26 (by rw [vals_length, HL32.out]; exact size_dig)
      exact bodyPost_ret (v := .agg (vals l).toArray) (results_cell1 Tryd.results18 rfl hr) rfl ⟨rfl, HB.out.trans (hb7.under HB.out.size (Nat.le_succ _))⟩
end Go.Proofs.YtphdnbflogobfaaDoor
