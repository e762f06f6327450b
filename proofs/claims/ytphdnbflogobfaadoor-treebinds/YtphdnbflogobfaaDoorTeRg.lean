/- The contracts of the document's Long and Path. -/
import Derived.Test.YtphdnbflogobfaaDoorTeRf
namespace Go.Proofs.YtphdnbflogobfaaDoor
open Go.RowKit
set_option linter.unusedVariables false
set_option linter.unusedSimpArgs false

set_option maxRecDepth 100000 in
set_option maxHeartbeats 400000 in
theorem rlong_any (n : Nat) : ∀ (i : Nat) (w : World), 1 ≤ n → n ≤ 256 → i < n →
    Calls Tryd.prog 17 #[.int .i64 (i : Int), .int .i64 (n : Int)] w fun e w' => e = .returned (.int .i64 (Te.long i n : Int)) ∧ Below w.heap.size w w' := by
  induction n using Nat.strongRecOn with
  | _ n ih =>
    intro i w h1 h256 hin
    by_cases h2 : 2 ≤ n
    · have hp := Te.half_pos n
      have hl := Te.half_lt n h2
      have HH := hide (fun W => rhalf_any n W h2 h256)
      have hn1 : ¬ (n : Int) = 1 := by omega
      have hn2 : ((n : Int) == 1) = false := by simpa using hn1
      have HB := hide (Below.refl w.heap.size w)
      by_cases hik : i < Te.half n
      · have HA : Hid (∀ W, Calls Tryd.prog 17 #[.int .i64 (i : Int), .int .i64 (Te.half n : Int)] W fun e w' => e = .returned (.int .i64 (Te.long i (Te.half n) : Int)) ∧ Below W.heap.size W w') := hide (fun W => by
          have := ih (Te.half n) (by omega) i W (by omega) (by omega) (by omega)
          exact this)
        have hps : Te.long i (Te.half n) ≤ 8 := long_small i (Te.half n) (by omega) (by omega)
        rw [Te.long_left i n h2 hik]
        generalize Te.long i (Te.half n) = P at *
        generalize Te.half n = k at *
        have hik2 : (i : Int) < (k : Int) := by omega
        have hwp : wrap64 (1 + (P : Int)) = 1 + (P : Int) := by simp [wrap64]; omega
        clear ih
        go_enter Tryd.func17, Tryd.ntmps17
        go_wp2_with fail
        refine (HH.out _).mono ?_
        rintro e w1 ⟨rfl, hb1⟩
        have HB1 := hide (HB.out.trans (hb1.mono HB.out.size))
        clear hb1
        go_wp2_with fail
        refine (HA.out _).mono ?_
        rintro e w2 ⟨rfl, hb2⟩
        have HB2 := hide (HB1.out.trans (hb2.mono HB1.out.size))
        clear hb2
        go_wp2_with fail
        exact bodyPost_ret (v := .int .i64 (((1 + P : Nat)) : Int)) (by simp [results, Tryd.results17]; try omega) rfl ⟨rfl, HB2.out⟩
      · have HA : Hid (∀ W, Calls Tryd.prog 17 #[.int .i64 ((i : Int) - (Te.half n : Int)), .int .i64 ((n : Int) - (Te.half n : Int))] W fun e w' => e = .returned (.int .i64 (Te.long (i - Te.half n) (n - Te.half n) : Int)) ∧ Below W.heap.size W w') := hide (fun W => by
          have := ih (n - Te.half n) (by omega) (i - Te.half n) W (by omega) (by omega) (by omega)
          rwa [show (((i - Te.half n : Nat)) : Int) = (i : Int) - (Te.half n : Int) by omega, show (((n - Te.half n : Nat)) : Int) = (n : Int) - (Te.half n : Int) by omega] at this)
        have hps : Te.long (i - Te.half n) (n - Te.half n) ≤ 8 := long_small (i - Te.half n) (n - Te.half n) (by omega) (by omega)
        rw [Te.long_right i n h2 hik]
        generalize Te.long (i - Te.half n) (n - Te.half n) = P at *
        generalize Te.half n = k at *
        have hik2 : ¬ (i : Int) < (k : Int) := by omega
        have hwp : wrap64 (1 + (P : Int)) = 1 + (P : Int) := by simp [wrap64]; omega
        have hwr : wrap64 ((i : Int) - (k : Int)) = (i : Int) - (k : Int) := by simp [wrap64]; omega
        have hwr2 : wrap64 ((n : Int) - (k : Int)) = (n : Int) - (k : Int) := by simp [wrap64]; omega
        clear ih
        go_enter Tryd.func17, Tryd.ntmps17
        go_wp2_with fail
        refine (HH.out _).mono ?_
        rintro e w1 ⟨rfl, hb1⟩
        have HB1 := hide (HB.out.trans (hb1.mono HB.out.size))
        clear hb1
        go_wp2_with fail
        refine (HA.out _).mono ?_
        rintro e w2 ⟨rfl, hb2⟩
        have HB2 := hide (HB1.out.trans (hb2.mono HB1.out.size))
        clear hb2
        go_wp2_with fail
        exact bodyPost_ret (v := .int .i64 (((1 + P : Nat)) : Int)) (by simp [results, Tryd.results17]; try omega) rfl ⟨rfl, HB2.out⟩
    · have hn1 : n = 1 := by omega
      subst hn1
      rw [Te.long_one i]
      clear ih
      go_enter Tryd.func17, Tryd.ntmps17
      go_wp2
      exact bodyPost_ret (v := .int .i64 0) (by simp [results, Tryd.results17]) rfl ⟨rfl, Below.refl _ _⟩

set_option maxRecDepth 100000 in
set_option maxHeartbeats 6000000 in
theorem rpath_any (n : Nat) : ∀ (DS : List (List Int)) (i b off cap : Nat) (w : World), DS.length = n → 1 ≤ n → n ≤ 256 → i < n → DigsAt w b off DS → n ≤ cap → cap ≤ maxLen →
    Calls Tryd.prog 14 #[.slice (some ⟨b, off, none⟩) n cap, .int .i64 (i : Int)] w fun e w' => ∃ v, e = .returned v ∧ OwnDigs w' w.heap.size v (Te.path DS i) ∧ Below w.heap.size w w' := by
  induction n using Nat.strongRecOn with
  | _ n ih =>
    intro DS i b off cap w hn h1 h256 hin hd hc hm
    by_cases h2 : 2 ≤ n
    · have hp := Te.half_pos n
      have hl := Te.half_lt n h2
      have HH := hide (fun W => rhalf_any n W h2 h256)
      have htl : (DS.take (Te.half n)).length = Te.half n := by rw [List.length_take]; omega
      have hdl : (DS.drop (Te.half n)).length = n - Te.half n := by rw [List.length_drop]; omega
      have hra := root_ok (Te.half n) (DS.take (Te.half n)) htl hp (hd.1.take _)
      have hrc := root_ok (n - Te.half n) (DS.drop (Te.half n)) hdl (by omega) (hd.1.drop _)
      have hn1 : ¬ (n : Int) = 1 := by omega
      have hn2 : ((n : Int) == 1) = false := by simpa using hn1
      have hk1 : Te.half n ≤ cap := by omega
      have hkc : ¬ cap = Te.half n := by omega
      have hi1 : (Te.half n : Int) ≤ (cap : Int) := by omega
      have hi2 : (0 : Int) ≤ (Te.half n : Int) := by omega
      have hi3 : (Te.half n : Int) ≤ (n : Int) := by omega
      by_cases hik : i < Te.half n
      · have hps := path_small (DS.take (Te.half n)) i (Te.half n) htl hp (by omega)
        have HA : Hid (∀ W, Below w.heap.size w W → Calls Tryd.prog 14 #[.slice (some ⟨b, off, none⟩) (Te.half n) cap, .int .i64 (i : Int)] W fun e w' => ∃ v, e = .returned v ∧ OwnDigs w' W.heap.size v (Te.path (DS.take (Te.half n)) i) ∧ Below W.heap.size W w') := hide (fun W hW =>
          ih (Te.half n) hl (DS.take (Te.half n)) i b off cap W htl hp (by omega) hik ((hd.below hW).take _) (by omega) hm)
        have HC : Hid (∀ W, Below w.heap.size w W → Calls Tryd.prog 9 #[.slice (some ⟨b, off + Te.half n * 32, none⟩) (n - Te.half n) (cap - Te.half n)] W fun e w' => e = .returned (.agg (vals (Te.root (DS.drop (Te.half n)))).toArray) ∧ Below W.heap.size W w') := hide (fun W hW =>
          rroot_any (n - Te.half n) (DS.drop (Te.half n)) b (off + Te.half n * 32) (cap - Te.half n) W hdl (by omega) (by omega) ((hd.below hW).drop _) (by omega) (by omega))
        have e : Te.path DS i = Te.path (DS.take (Te.half n)) i ++ [Te.root (DS.drop (Te.half n))] := by rw [← hn] at hik ⊢; exact Te.path_left DS i (by omega) hik
        rw [e]
        have HRC := hide hrc
        have HPS := hide hps
        generalize Te.path (DS.take (Te.half n)) i = P at *
        generalize Te.root (DS.drop (Te.half n)) = R at *
        generalize Te.half n = k at *
        have hik2 : (i : Int) < (k : Int) := by omega
        have HB := hide (Below.refl w.heap.size w)
        clear ih hd hra hrc hps e
        go_enter Tryd.func14, Tryd.ntmps14
        go_wp2_with fail
        refine (HH.out _).mono ?_
        rintro e w1 ⟨rfl, hb1⟩
        have HB1 := hide (HB.out.trans (hb1.mono HB.out.size))
        clear hb1
        go_wp2_with fail
        refine wp_region_held_drew (S := fun W : World => Below w.heap.size w W) (by kernel_rfl) ?_ (fun hHeld0 => ?_)
        · exact HB1.out.drew
        refine wpAnyH_take (i := 0) (v := ?_) rfl (by kernel_rfl) (by kernel_rfl) (by kernel_rfl) (fun _ _ _ h => h) (Or.inl ⟨by rfl, ?_⟩) hHeld0 ?_
        rotate_left
        · (intro w hSw; (try dsimp only at hSw); go_simp <;> (try with_reducible rfl))
        simp only [Act.put, List.getElem_toArray, List.getElem_cons_zero, List.getElem_cons_succ, List.setIfInBounds_toArray, List.set_cons_zero, List.set_cons_succ]
        refine wpAnyH_take (i := 1) (v := ?_) rfl (by kernel_rfl) (by kernel_rfl) (by kernel_rfl) (fun _ _ _ h => h) (Or.inl ⟨by rfl, ?_⟩) hHeld0 ?_
        rotate_left
        · (intro w hSw; (try dsimp only at hSw); go_simp <;> (try with_reducible rfl))
        simp only [Act.put, List.getElem_toArray, List.getElem_cons_zero, List.getElem_cons_succ, List.setIfInBounds_toArray, List.set_cons_zero, List.set_cons_succ]
        refine wpAnyH_take (i := 2) (v := ?_) rfl (by kernel_rfl) (by kernel_rfl) (by kernel_rfl) (fun _ _ _ h => h) (Or.inl ⟨by rfl, ?_⟩) hHeld0 ?_
        rotate_left
        · (intro w hSw; (try dsimp only at hSw); go_simp <;> (try with_reducible rfl))
        simp only [Act.put, List.getElem_toArray, List.getElem_cons_zero, List.getElem_cons_succ, List.setIfInBounds_toArray, List.set_cons_zero, List.set_cons_succ]
        refine wpAnyH_take (i := 3) (v := ?_) rfl (by kernel_rfl) (by kernel_rfl) (by kernel_rfl) (fun _ _ _ h => h) (Or.inl ⟨by rfl, ?_⟩) hHeld0 ?_
        rotate_left
        · (intro w hSw; (try dsimp only at hSw); go_simp <;> (try with_reducible rfl))
        simp only [Act.put, List.getElem_toArray, List.getElem_cons_zero, List.getElem_cons_succ, List.setIfInBounds_toArray, List.set_cons_zero, List.set_cons_succ]
        refine wpAnyH_take (i := 5) (v := ?_) rfl (by kernel_rfl) (by kernel_rfl) (by kernel_rfl) (fun _ _ _ h => h) (Or.inl ⟨by rfl, ?_⟩) hHeld0 ?_
        rotate_left
        · (intro w hSw; (try dsimp only at hSw); go_simp <;> (try with_reducible rfl))
        simp only [Act.put, List.getElem_toArray, List.getElem_cons_zero, List.getElem_cons_succ, List.setIfInBounds_toArray, List.set_cons_zero, List.set_cons_succ]
        refine wpAnyH_take (i := 6) (v := ?_) rfl (by kernel_rfl) (by kernel_rfl) (by kernel_rfl) (fun _ _ _ h => h) (Or.inl ⟨by rfl, ?_⟩) hHeld0 ?_
        rotate_left
        · (intro w hSw; (try dsimp only at hSw); go_simp <;> (try with_reducible rfl))
        simp only [Act.put, List.getElem_toArray, List.getElem_cons_zero, List.getElem_cons_succ, List.setIfInBounds_toArray, List.set_cons_zero, List.set_cons_succ]
        refine wpAnyH_take (i := 7) (v := ?_) rfl (by kernel_rfl) (by kernel_rfl) (by kernel_rfl) (fun _ _ _ h => h) (Or.inl ⟨by rfl, ?_⟩) hHeld0 ?_
        rotate_left
        · (intro w hSw; (try dsimp only at hSw); go_simp <;> (try with_reducible rfl))
        simp only [Act.put, List.getElem_toArray, List.getElem_cons_zero, List.getElem_cons_succ, List.setIfInBounds_toArray, List.set_cons_zero, List.set_cons_succ]
        refine wpAnyH_ready (rs := [4]) (by kernel_rfl) (by simp) ?_
        refine AllReadyH.cons rfl (fun K hK => ?_) AllReadyH.nil
        go_simp
        go_wp2_with ((go_at_call 14; refine (HA.out _ hHeld0).mono ?_; rintro e wp ⟨v4, rfl, hop', hbp⟩; have hop := hop'.low hHeld0.size; clear hop'; obtain ⟨pa, pc, rfl⟩ := hop.form))
        refine hK.out _ _ (by exact hHeld0.trans (hbp.mono hHeld0.size)) (fun hHeld1 => ?_)
        clear hK K hHeld0
        try simp only [Act.put, List.getElem_toArray, List.getElem_cons_zero, List.getElem_cons_succ, List.setIfInBounds_toArray, List.set_cons_zero, List.set_cons_succ]
        refine wpAnyH_ready (rs := [8]) (by kernel_rfl) (by simp) ?_
        refine AllReadyH.cons rfl (fun K hK => ?_) AllReadyH.nil
        go_simp
        go_wp2_with ((go_at_call 9; refine (HC.out _ hHeld1).mono ?_; rintro e wq ⟨rfl, hbq⟩))
        refine hK.out _ _ (by exact hHeld1.trans (hbq.mono hHeld1.size)) (fun hHeld2 => ?_)
        clear hK K hHeld1
        try simp only [Act.put, List.getElem_toArray, List.getElem_cons_zero, List.getElem_cons_succ, List.setIfInBounds_toArray, List.set_cons_zero, List.set_cons_succ]
        refine wpAnyH_ready (rs := [9]) (by kernel_rfl) (by simp) ?_
        refine AllReadyH.cons rfl (fun K hK => ?_) AllReadyH.nil
        refine step_build_one 22 26 (vals R) rfl (.tmp 23) rfl rfl Tryd.underlying22 _ info_dig (by omega) (by omega) (by rw [vals_length]; exact HRC.out.1) ?_
        refine hK.out _ _ (by exact hHeld2.alloc hHeld2.size _) (fun hHeld3 => ?_)
        clear hK K hHeld2
        try simp only [Act.put, List.getElem_toArray, List.getElem_cons_zero, List.getElem_cons_succ, List.setIfInBounds_toArray, List.set_cons_zero, List.set_cons_succ]
        refine wpAnyH_ready (rs := [10]) (by kernel_rfl) (by simp) ?_
        refine AllReadyH.cons rfl (fun K hK => ?_) AllReadyH.nil
        refine te_step_append _ rfl (.tmp 19) (.tmp 24) rfl w.heap.size _ P rfl R _ _ rfl (by first | exact (hop.below hbq).below (below_alloc _ _) | exact hop.below (below_alloc _ _) | exact hop) (by first | exact Is.new wq _ _ | exact Is.new wp _ _ | exact (Is.new wq _ _).below hbp (Is.new wq _ _).lt) HRC.out.1 HRC.out.2 (by have := HPS.out; omega) hHeld3.size ?_
        intro v6 w6 ho6 hg6
        refine hK.out _ _ (by exact hHeld3.grown hg6 hHeld3.size (fun r hr => (hop.block r hr).1)) (fun hHeld4 => ?_)
        clear hK K hHeld3
        try simp only [Act.put, List.getElem_toArray, List.getElem_cons_zero, List.getElem_cons_succ, List.setIfInBounds_toArray, List.set_cons_zero, List.set_cons_succ]
        refine wpAnyH_take (i := 11) (v := ?_) rfl (by kernel_rfl) (by kernel_rfl) (by kernel_rfl) (fun _ _ _ h => h) (Or.inl ⟨by rfl, ?_⟩) hHeld4 ?_
        rotate_left
        · (intro w hSw; (try dsimp only at hSw); go_simp <;> (try with_reducible rfl))
        simp only [Act.put, List.getElem_toArray, List.getElem_cons_zero, List.getElem_cons_succ, List.setIfInBounds_toArray, List.set_cons_zero, List.set_cons_succ]
        refine wpAnyH_done (by kernel_rfl) ?_ _
        go_wp2
        exact bodyPost_ret (v := v6) (by simp [results, Tryd.results14]) rfl ⟨v6, rfl, ho6, hHeld4⟩
      · have hps := path_small (DS.drop (Te.half n)) (i - Te.half n) (n - Te.half n) hdl (by omega) (by omega)
        have HA : Hid (∀ W, Below w.heap.size w W → Calls Tryd.prog 14 #[.slice (some ⟨b, off + Te.half n * 32, none⟩) (n - Te.half n) (cap - Te.half n), .int .i64 ((i : Int) - (Te.half n : Int))] W fun e w' => ∃ v, e = .returned v ∧ OwnDigs w' W.heap.size v (Te.path (DS.drop (Te.half n)) (i - Te.half n)) ∧ Below W.heap.size W w') := hide (fun W hW => by
          have := ih (n - Te.half n) (by omega) (DS.drop (Te.half n)) (i - Te.half n) b (off + Te.half n * 32) (cap - Te.half n) W hdl (by omega) (by omega) (by omega) ((hd.below hW).drop _) (by omega) (by omega)
          rwa [show (((i - Te.half n : Nat)) : Int) = (i : Int) - (Te.half n : Int) by omega] at this)
        have HC : Hid (∀ W, Below w.heap.size w W → Calls Tryd.prog 9 #[.slice (some ⟨b, off, none⟩) (Te.half n) cap] W fun e w' => e = .returned (.agg (vals (Te.root (DS.take (Te.half n)))).toArray) ∧ Below W.heap.size W w') := hide (fun W hW =>
          rroot_any (Te.half n) (DS.take (Te.half n)) b off cap W htl hp (by omega) ((hd.below hW).take _) (by omega) hm)
        have e : Te.path DS i = Te.path (DS.drop (Te.half n)) (i - Te.half n) ++ [Te.root (DS.take (Te.half n))] := by rw [← hn] at hik ⊢; exact Te.path_right DS i (by omega) hik
        rw [e]
        have HRC := hide hra
        have HPS := hide hps
        generalize Te.path (DS.drop (Te.half n)) (i - Te.half n) = P at *
        generalize Te.root (DS.take (Te.half n)) = R at *
        generalize Te.half n = k at *
        have hik2 : ¬ (i : Int) < (k : Int) := by omega
        have hwr : wrap64 ((i : Int) - (k : Int)) = (i : Int) - (k : Int) := by simp [wrap64]; omega
        have hwk : IntKind.i64.wrap ((i : Int) - (k : Int)) = (i : Int) - (k : Int) := IntWalk.i64_in _ (by omega)
        have HB := hide (Below.refl w.heap.size w)
        clear ih hd hra hrc hps e
        go_enter Tryd.func14, Tryd.ntmps14
        go_wp2_with fail
        refine (HH.out _).mono ?_
        rintro e w1 ⟨rfl, hb1⟩
        have HB1 := hide (HB.out.trans (hb1.mono HB.out.size))
        clear hb1
        go_wp2_with fail
        refine wp_region_held_drew (S := fun W : World => Below w.heap.size w W) (by kernel_rfl) ?_ (fun hHeld0 => ?_)
        · exact HB1.out.drew
        refine wpAnyH_take (i := 0) (v := ?_) rfl (by kernel_rfl) (by kernel_rfl) (by kernel_rfl) (fun _ _ _ h => h) (Or.inl ⟨by rfl, ?_⟩) hHeld0 ?_
        rotate_left
        · (intro w hSw; (try dsimp only at hSw); go_simp <;> (try with_reducible rfl))
        simp only [Act.put, List.getElem_toArray, List.getElem_cons_zero, List.getElem_cons_succ, List.setIfInBounds_toArray, List.set_cons_zero, List.set_cons_succ]
        refine wpAnyH_take (i := 1) (v := ?_) rfl (by kernel_rfl) (by kernel_rfl) (by kernel_rfl) (fun _ _ _ h => h) (Or.inl ⟨by rfl, ?_⟩) hHeld0 ?_
        rotate_left
        · (intro w hSw; (try dsimp only at hSw); go_simp <;> (try with_reducible rfl))
        simp only [Act.put, List.getElem_toArray, List.getElem_cons_zero, List.getElem_cons_succ, List.setIfInBounds_toArray, List.set_cons_zero, List.set_cons_succ]
        refine wpAnyH_take (i := 2) (v := ?_) rfl (by kernel_rfl) (by kernel_rfl) (by kernel_rfl) (fun _ _ _ h => h) (Or.inl ⟨by rfl, ?_⟩) hHeld0 ?_
        rotate_left
        · (intro w hSw; (try dsimp only at hSw); go_simp <;> (try with_reducible rfl))
        simp only [Act.put, List.getElem_toArray, List.getElem_cons_zero, List.getElem_cons_succ, List.setIfInBounds_toArray, List.set_cons_zero, List.set_cons_succ]
        refine wpAnyH_take (i := 3) (v := ?_) rfl (by kernel_rfl) (by kernel_rfl) (by kernel_rfl) (fun _ _ _ h => h) (Or.inl ⟨by rfl, ?_⟩) hHeld0 ?_
        rotate_left
        · (intro w hSw; (try dsimp only at hSw); go_simp <;> (try with_reducible rfl))
        simp only [Act.put, List.getElem_toArray, List.getElem_cons_zero, List.getElem_cons_succ, List.setIfInBounds_toArray, List.set_cons_zero, List.set_cons_succ]
        refine wpAnyH_take (i := 4) (v := ?_) rfl (by kernel_rfl) (by kernel_rfl) (by kernel_rfl) (fun _ _ _ h => h) (Or.inl ⟨by rfl, ?_⟩) hHeld0 ?_
        rotate_left
        · (intro w hSw; (try dsimp only at hSw); go_simp <;> (try with_reducible rfl))
        simp only [Act.put, List.getElem_toArray, List.getElem_cons_zero, List.getElem_cons_succ, List.setIfInBounds_toArray, List.set_cons_zero, List.set_cons_succ]
        refine wpAnyH_take (i := 5) (v := ?_) rfl (by kernel_rfl) (by kernel_rfl) (by kernel_rfl) (fun _ _ _ h => h) (Or.inl ⟨by rfl, ?_⟩) hHeld0 ?_
        rotate_left
        · (intro w hSw; (try dsimp only at hSw); go_simp <;> (try with_reducible rfl))
        simp only [Act.put, List.getElem_toArray, List.getElem_cons_zero, List.getElem_cons_succ, List.setIfInBounds_toArray, List.set_cons_zero, List.set_cons_succ]
        refine wpAnyH_take (i := 7) (v := ?_) rfl (by kernel_rfl) (by kernel_rfl) (by kernel_rfl) (fun _ _ _ h => h) (Or.inl ⟨by rfl, ?_⟩) hHeld0 ?_
        rotate_left
        · (intro w hSw; (try dsimp only at hSw); go_simp <;> (try with_reducible rfl))
        simp only [Act.put, List.getElem_toArray, List.getElem_cons_zero, List.getElem_cons_succ, List.setIfInBounds_toArray, List.set_cons_zero, List.set_cons_succ]
        refine wpAnyH_take (i := 8) (v := ?_) rfl (by kernel_rfl) (by kernel_rfl) (by kernel_rfl) (fun _ _ _ h => h) (Or.inl ⟨by rfl, ?_⟩) hHeld0 ?_
        rotate_left
        · (intro w hSw; (try dsimp only at hSw); go_simp <;> (try with_reducible rfl))
        simp only [Act.put, List.getElem_toArray, List.getElem_cons_zero, List.getElem_cons_succ, List.setIfInBounds_toArray, List.set_cons_zero, List.set_cons_succ]
        refine wpAnyH_take (i := 9) (v := ?_) rfl (by kernel_rfl) (by kernel_rfl) (by kernel_rfl) (fun _ _ _ h => h) (Or.inl ⟨by rfl, ?_⟩) hHeld0 ?_
        rotate_left
        · (intro w hSw; (try dsimp only at hSw); go_simp <;> (try with_reducible rfl))
        simp only [Act.put, List.getElem_toArray, List.getElem_cons_zero, List.getElem_cons_succ, List.setIfInBounds_toArray, List.set_cons_zero, List.set_cons_succ]
        refine wpAnyH_ready (rs := [6]) (by kernel_rfl) (by simp) ?_
        refine AllReadyH.cons rfl (fun K hK => ?_) AllReadyH.nil
        go_simp
        go_wp2_with ((go_at_call 14; (try rw [hwk]); refine (HA.out _ hHeld0).mono ?_; rintro e wp ⟨v4, rfl, hop', hbp⟩; have hop := hop'.low hHeld0.size; clear hop'; obtain ⟨pa, pc, rfl⟩ := hop.form))
        refine hK.out _ _ (by exact hHeld0.trans (hbp.mono hHeld0.size)) (fun hHeld1 => ?_)
        clear hK K hHeld0
        try simp only [Act.put, List.getElem_toArray, List.getElem_cons_zero, List.getElem_cons_succ, List.setIfInBounds_toArray, List.set_cons_zero, List.set_cons_succ]
        refine wpAnyH_ready (rs := [10]) (by kernel_rfl) (by simp) ?_
        refine AllReadyH.cons rfl (fun K hK => ?_) AllReadyH.nil
        go_simp
        go_wp2_with ((go_at_call 9; refine (HC.out _ hHeld1).mono ?_; rintro e wq ⟨rfl, hbq⟩))
        refine hK.out _ _ (by exact hHeld1.trans (hbq.mono hHeld1.size)) (fun hHeld2 => ?_)
        clear hK K hHeld1
        try simp only [Act.put, List.getElem_toArray, List.getElem_cons_zero, List.getElem_cons_succ, List.setIfInBounds_toArray, List.set_cons_zero, List.set_cons_succ]
        refine wpAnyH_ready (rs := [11]) (by kernel_rfl) (by simp) ?_
        refine AllReadyH.cons rfl (fun K hK => ?_) AllReadyH.nil
        refine step_build_one 22 26 (vals R) rfl (.tmp 36) rfl rfl Tryd.underlying22 _ info_dig (by omega) (by omega) (by rw [vals_length]; exact HRC.out.1) ?_
        refine hK.out _ _ (by exact hHeld2.alloc hHeld2.size _) (fun hHeld3 => ?_)
        clear hK K hHeld2
        try simp only [Act.put, List.getElem_toArray, List.getElem_cons_zero, List.getElem_cons_succ, List.setIfInBounds_toArray, List.set_cons_zero, List.set_cons_succ]
        refine wpAnyH_ready (rs := [12]) (by kernel_rfl) (by simp) ?_
        refine AllReadyH.cons rfl (fun K hK => ?_) AllReadyH.nil
        refine te_step_append _ rfl (.tmp 32) (.tmp 37) rfl w.heap.size _ P rfl R _ _ rfl (by first | exact (hop.below hbq).below (below_alloc _ _) | exact hop.below (below_alloc _ _) | exact hop) (by first | exact Is.new wq _ _ | exact Is.new wp _ _ | exact (Is.new wq _ _).below hbp (Is.new wq _ _).lt) HRC.out.1 HRC.out.2 (by have := HPS.out; omega) hHeld3.size ?_
        intro v6 w6 ho6 hg6
        refine hK.out _ _ (by exact hHeld3.grown hg6 hHeld3.size (fun r hr => (hop.block r hr).1)) (fun hHeld4 => ?_)
        clear hK K hHeld3
        try simp only [Act.put, List.getElem_toArray, List.getElem_cons_zero, List.getElem_cons_succ, List.setIfInBounds_toArray, List.set_cons_zero, List.set_cons_succ]
        refine wpAnyH_take (i := 13) (v := ?_) rfl (by kernel_rfl) (by kernel_rfl) (by kernel_rfl) (fun _ _ _ h => h) (Or.inl ⟨by rfl, ?_⟩) hHeld4 ?_
        rotate_left
        · (intro w hSw; (try dsimp only at hSw); go_simp <;> (try with_reducible rfl))
        simp only [Act.put, List.getElem_toArray, List.getElem_cons_zero, List.getElem_cons_succ, List.setIfInBounds_toArray, List.set_cons_zero, List.set_cons_succ]
        refine wpAnyH_done (by kernel_rfl) ?_ _
        go_wp2
        exact bodyPost_ret (v := v6) (by simp [results, Tryd.results14]) rfl ⟨v6, rfl, ho6, hHeld4⟩
    · have hn1 : n = 1 := by omega
      subst hn1
      rw [Te.path_one DS i hn]
      clear ih hd
      go_enter Tryd.func14, Tryd.ntmps14
      go_wp2
      exact bodyPost_ret (v := .slice none 0 0) (by simp [results, Tryd.results14]) rfl ⟨_, rfl, OwnDigs.nil _ _, Below.refl _ _⟩
end Go.Proofs.YtphdnbflogobfaaDoor
