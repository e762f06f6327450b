/- The walk of TreeHalves: a tree is two. -/
import Derived.Test.YtphdnbflogobfaaDoorTeSo
namespace Go.Proofs.YtphdnbflogobfaaDoor
open Go.RowKit
set_option linter.unusedVariables false
set_option linter.unusedSimpArgs false

theorem HasDigs.drop {w : World} {b off n cap : Nat} {DS : List (List Int)} (h : HasDigs w (.slice (some ⟨b, off, none⟩) n cap) DS) (h0 : 0 < DS.length) (k : Nat) (hk : k ≤ DS.length) : HasDigs w (.slice (some ⟨b, off + k * 32, none⟩) (DS.length - k) (cap - k)) (DS.drop k) := by
  obtain ⟨b2, off2, cap2, hv, h1, h2, hat⟩ := h.at' h0
  injection hv with e1 e2 e3
  injection e1 with e1
  injection e1 with e4 e5 e6
  subst e4 e5 e3
  have := (hat.drop k).has (cap := cap - k) (by rw [List.length_drop]; omega) (by omega)
  rwa [List.length_drop] at this

set_option maxRecDepth 100000 in
set_option maxHeartbeats 8000000 in
theorem treeHalves_walk (v : Value) (DS : List (List Int)) (w : World) (hd : HasDigs w v DS) (ht : Tab w) (hw : 1 < w.heap.size) :
    Calls Tryd.prog 8 #[v] w fun e w' => e = .returned (.bool true) ∧ Below w.heap.size w w' := by
  have HRO := hide (fun W (hW : Below w.heap.size w W) => rooted_any W (ht.below hW hw) (Nat.lt_of_lt_of_le hw hW.size))
  have HTR := hide (fun W (hW : Below w.heap.size w W) => root_any v DS W (hd.below hW) (ht.below hW hw) (Nat.lt_of_lt_of_le hw hW.size))
  have hR := (rootD_ok DS hd.2).1
  have hgd := guard_dig
  by_cases h1 : DS.length = 1
  · obtain ⟨b, off, cap, rfl, hc, hm, hat⟩ := hd.at' (by omega)
    have e1 : rootD DS = DS.getD 0 [] := by unfold rootD; rw [if_neg (by omega), if_neg (by omega), Te.root, dif_pos (by omega)]
    have HRG := hat.2.2 0 (by omega)
    rw [Nat.zero_mul, Nat.add_zero, ← e1] at HRG
    have HRG := hide HRG
    have hbl := hat.2.1
    rw [show errV (rootE DS.length) = .nilIface by rw [h1]; rfl] at HTR
    have hqr := fun w' => dig_eq (rootD DS) (rootD DS) hR hR w'
    rw [decide_eq_true rfl] at hqr
    rw [h1] at HTR ⊢
    generalize rootD DS = R at *
    have HR := hide hR
    have hszr : (Tryd.prog.info? 26).map (·.size) = some (vals R).length := by rw [vals_length, hR]; exact size_dig
    clear hd ht hR e1 hat
    go_enter Tryd.func8, Tryd.ntmps8
    go_wp2_with fail
    refine (HRO.out w (Below.refl _ _)).mono ?_
    rintro e w1 ⟨rfl, hb1⟩
    have HSw1 : Hid (BoxS w [] w1) := ⟨hb1, fun p hp => by cases hp⟩
    clear hb1
    go_wp2_with (first
      | (go_at_call 10; refine (HTR.out _ HSw1.out.below).mono ?_; rintro e w2 ⟨rfl, hbw2⟩; have HSw2 := hide (HSw1.out.call hbw2); clear hbw2)
      | (refine te_store (vals (List.replicate 32 0)) R w2.heap.size rfl (.tmp 4) (.tmp 27) rfl rfl rfl rfl (Is.new w2 _ _) (by simp [vals]) HR.out ?_; intro w3 hiw3 hbw3 hzw3; have hbw3' : Below w2.heap.size w2 w3 := (below_alloc w2 (.cells (vals (List.replicate 32 0)).toArray 26)).trans (hbw3.under (below_alloc w2 _).size (Nat.le_refl _)); have HSw3 := hide (HSw2.out.new hbw3' hiw3); clear hiw3 hbw3 hbw3' hzw3))
    refine wp_region_held_drew (S := fun W : World => BoxS w [(w2.heap.size, R)] W ∧ W.rangeAt b off (vals R)) (by kernel_rfl) ?_ (fun hHeld0 => ?_)
    · exact ⟨HSw3.out.drew, range_keep HRG.out HSw3.out.below.drew hbl⟩
    refine wpAnyH_take (i := 0) (v := ?_) rfl (by kernel_rfl) (by kernel_rfl) (by kernel_rfl) (fun _ _ _ h => h) (Or.inl ⟨by rfl, ?_⟩) hHeld0 ?_
    rotate_left
    · (intro w hSw; (try dsimp only at hSw); go_simp <;> (try with_reducible rfl))
    simp only [Act.put, List.getElem_toArray, List.getElem_cons_zero, List.getElem_cons_succ, List.setIfInBounds_toArray, List.set_cons_zero, List.set_cons_succ]
    refine wpAnyH_take (i := 1) (v := ?_) rfl (by kernel_rfl) (by kernel_rfl) (by kernel_rfl) (fun _ _ _ h => h) (Or.inl ⟨by rfl, ?_⟩) hHeld0 ?_
    rotate_left
    · (intro w hSw; (try dsimp only at hSw); go_simp <;> (try with_reducible rfl))
    simp only [Act.put, List.getElem_toArray, List.getElem_cons_zero, List.getElem_cons_succ, List.setIfInBounds_toArray, List.set_cons_zero, List.set_cons_succ]
    refine wpAnyH_take (i := 2) (v := ?_) rfl (by kernel_rfl) (by kernel_rfl) (by kernel_rfl) (fun _ _ _ h => h) (Or.inl ⟨by rfl, ?_⟩) hHeld0 ?_
    rotate_left
    · (intro w hSw; (try dsimp only at hSw); go_simp <;> (try with_reducible rfl))
    simp only [Act.put, List.getElem_toArray, List.getElem_cons_zero, List.getElem_cons_succ, List.setIfInBounds_toArray, List.set_cons_zero, List.set_cons_succ]
    refine wpAnyH_take (i := 3) (v := ?_) rfl (by kernel_rfl) (by kernel_rfl) (by kernel_rfl) (fun _ _ _ h => h) (Or.inl ⟨by rfl, ?_⟩) hHeld0 ?_
    rotate_left
    · (intro w hSw; (try dsimp only at hSw); go_simp <;> (try with_reducible rfl))
    simp only [Act.put, List.getElem_toArray, List.getElem_cons_zero, List.getElem_cons_succ, List.setIfInBounds_toArray, List.set_cons_zero, List.set_cons_succ]
    refine wpAnyH_take (i := 4) (v := ?_) rfl (by kernel_rfl) (by kernel_rfl) (by kernel_rfl) (fun _ _ _ h => h) (Or.inl ⟨by rfl, ?_⟩) hHeld0 ?_
    rotate_left
    · (intro w hSw; (try dsimp only at hSw); go_simp <;> (try with_reducible rfl))
    simp only [Act.put, List.getElem_toArray, List.getElem_cons_zero, List.getElem_cons_succ, List.setIfInBounds_toArray, List.set_cons_zero, List.set_cons_succ]
    refine wpAnyH_take (i := 5) (v := ?_) rfl (by kernel_rfl) (by kernel_rfl) (by kernel_rfl) (fun _ _ _ h => h) (Or.inl ⟨by rfl, ?_⟩) hHeld0 ?_
    rotate_left
    · (intro w hSw; (try dsimp only at hSw); go_simp <;> (try with_reducible rfl))
    simp only [Act.put, List.getElem_toArray, List.getElem_cons_zero, List.getElem_cons_succ, List.setIfInBounds_toArray, List.set_cons_zero, List.set_cons_succ]
    refine wpAnyH_take (i := 6) (v := ?_) rfl (by kernel_rfl) (by kernel_rfl) (by kernel_rfl) (fun _ _ _ h => h) (Or.inl ⟨by rfl, ?_⟩) hHeld0 ?_
    rotate_left
    · (intro w hSw; (try dsimp only at hSw); go_simp <;> (try with_reducible rfl))
    simp only [Act.put, List.getElem_toArray, List.getElem_cons_zero, List.getElem_cons_succ, List.setIfInBounds_toArray, List.set_cons_zero, List.set_cons_succ]
    refine wpAnyH_take (i := 7) (v := .agg (vals R).toArray) rfl (by kernel_rfl) (by kernel_rfl) (by kernel_rfl) (fun _ _ _ h => h) (yieldsIf_load_mid (by rfl) _ _ rfl _ _ rfl (vals R) _ (fun w hSw => (hSw.1.get w2.heap.size R (by simp)).range) Tryd.underlying26 rfl hszr) hHeld0 ?_
    simp only [Act.put, List.getElem_toArray, List.getElem_cons_zero, List.getElem_cons_succ, List.setIfInBounds_toArray, List.set_cons_zero, List.set_cons_succ]
    refine wpAnyH_take (i := 8) (v := ?_) rfl (by kernel_rfl) (by kernel_rfl) (by kernel_rfl) (fun _ _ _ h => h) (Or.inl ⟨by rfl, ?_⟩) hHeld0 ?_
    rotate_left
    · (intro w hSw; (try dsimp only at hSw); go_simp <;> (try with_reducible rfl))
    simp only [Act.put, List.getElem_toArray, List.getElem_cons_zero, List.getElem_cons_succ, List.setIfInBounds_toArray, List.set_cons_zero, List.set_cons_succ]
    refine wpAnyH_take (i := 9) (v := ?_) rfl (by kernel_rfl) (by kernel_rfl) (by kernel_rfl) (fun _ _ _ h => h) (Or.inl ⟨by rfl, ?_⟩) hHeld0 ?_
    rotate_left
    · (intro w hSw; (try dsimp only at hSw); go_simp <;> (try with_reducible rfl))
    simp only [Act.put, List.getElem_toArray, List.getElem_cons_zero, List.getElem_cons_succ, List.setIfInBounds_toArray, List.set_cons_zero, List.set_cons_succ]
    refine wpAnyH_take (i := 10) (v := .agg (vals R).toArray) rfl (by kernel_rfl) (by kernel_rfl) (by kernel_rfl) (fun _ _ _ h => h) (yieldsIf_load_mid (by rfl) _ _ rfl _ _ rfl (vals R) _ (fun w hSw => hSw.2) Tryd.underlying26 rfl hszr) hHeld0 ?_
    simp only [Act.put, List.getElem_toArray, List.getElem_cons_zero, List.getElem_cons_succ, List.setIfInBounds_toArray, List.set_cons_zero, List.set_cons_succ]
    refine wpAnyH_take (i := 11) (v := ?_) rfl (by kernel_rfl) (by kernel_rfl) (by kernel_rfl) (fun _ _ _ h => h) (Or.inl ⟨by rfl, ?_⟩) hHeld0 ?_
    rotate_left
    · (intro w hSw; (try dsimp only at hSw); go_simp <;> (try with_reducible rfl))
    simp only [Act.put, List.getElem_toArray, List.getElem_cons_zero, List.getElem_cons_succ, List.setIfInBounds_toArray, List.set_cons_zero, List.set_cons_succ]
    refine wpAnyH_take (i := 12) (v := ?_) rfl (by kernel_rfl) (by kernel_rfl) (by kernel_rfl) (fun _ _ _ h => h) (Or.inl ⟨by rfl, ?_⟩) hHeld0 ?_
    rotate_left
    · (intro w hSw; (try dsimp only at hSw); go_simp <;> (try with_reducible rfl))
    simp only [Act.put, List.getElem_toArray, List.getElem_cons_zero, List.getElem_cons_succ, List.setIfInBounds_toArray, List.set_cons_zero, List.set_cons_succ]
    refine wpAnyH_take (i := 13) (v := ?_) rfl (by kernel_rfl) (by kernel_rfl) (by kernel_rfl) (fun _ _ _ h => h) (Or.inl ⟨by rfl, ?_⟩) hHeld0 ?_
    rotate_left
    · (intro w hSw; (try dsimp only at hSw); go_simp <;> (try with_reducible rfl))
    simp only [Act.put, List.getElem_toArray, List.getElem_cons_zero, List.getElem_cons_succ, List.setIfInBounds_toArray, List.set_cons_zero, List.set_cons_succ]
    refine wpAnyH_take (i := 14) (v := ?_) rfl (by kernel_rfl) (by kernel_rfl) (by kernel_rfl) (fun _ _ _ h => h) (Or.inl ⟨by rfl, ?_⟩) hHeld0 ?_
    rotate_left
    · (intro w hSw; (try dsimp only at hSw); go_simp <;> (try with_reducible rfl))
    simp only [Act.put, List.getElem_toArray, List.getElem_cons_zero, List.getElem_cons_succ, List.setIfInBounds_toArray, List.set_cons_zero, List.set_cons_succ]
    refine wpAnyH_done (by kernel_rfl) ?_ _
    go_wp2
    exact bodyPost_ret (v := .bool true) (by simp [results, Tryd.results8]) rfl ⟨rfl, hHeld0.1.below⟩
  · obtain ⟨a, cap, rfl, hc, hm⟩ := hd.form
    by_cases hs : DS.length < 2 ∨ 256 < DS.length
    · generalize errV (rootE DS.length) = ev at *
      generalize rootD DS = R at *
      have HR := hide hR
      generalize DS.length = n at *
      have hn1 : ¬ (n : Int) = 1 := by omega
      have hn2 : ((n : Int) == 1) = false := by simpa using hn1
      have hn3 : ((n : Int) != 1) = true := by simp [bne, hn2]
      clear hd ht hR
      by_cases h2 : n < 2
      · have hg : (n : Int) < 2 := by omega
        clear hs
        go_enter Tryd.func8, Tryd.ntmps8
        go_wp2_with fail
        refine (HRO.out w (Below.refl _ _)).mono ?_
        rintro e w1 ⟨rfl, hb1⟩
        have HSw1 : Hid (BoxS w [] w1) := ⟨hb1, fun p hp => by cases hp⟩
        clear hb1
        go_wp2_with (first
          | (go_at_call 10; refine (HTR.out _ HSw1.out.below).mono ?_; rintro e w2 ⟨rfl, hbw2⟩; have HSw2 := hide (HSw1.out.call hbw2); clear hbw2)
          | (refine te_store (vals (List.replicate 32 0)) R w2.heap.size rfl (.tmp 4) (.tmp 27) rfl rfl rfl rfl (Is.new w2 _ _) (by simp [vals]) HR.out ?_; intro w3 hiw3 hbw3 hzw3; have hbw3' : Below w2.heap.size w2 w3 := (below_alloc w2 (.cells (vals (List.replicate 32 0)).toArray 26)).trans (hbw3.under (below_alloc w2 _).size (Nat.le_refl _)); have HSw3 := hide (HSw2.out.new hbw3' hiw3); clear hiw3 hbw3 hbw3' hzw3))
        refine wp_region_held_drew (S := fun W : World => BoxS w [(w2.heap.size, R)] W) (by kernel_rfl) ?_ (fun hHeld0 => ?_)
        · exact HSw3.out.drew
        refine wpAnyH_take (i := 0) (v := ?_) rfl (by kernel_rfl) (by kernel_rfl) (by kernel_rfl) (fun _ _ _ h => h) (Or.inl ⟨by rfl, ?_⟩) hHeld0 ?_
        rotate_left
        · (intro w hSw; (try dsimp only at hSw); go_simp <;> (try with_reducible rfl))
        simp only [Act.put, List.getElem_toArray, List.getElem_cons_zero, List.getElem_cons_succ, List.setIfInBounds_toArray, List.set_cons_zero, List.set_cons_succ]
        refine wpAnyH_take (i := 1) (v := ?_) rfl (by kernel_rfl) (by kernel_rfl) (by kernel_rfl) (fun _ _ _ h => h) (Or.inl ⟨by rfl, ?_⟩) hHeld0 ?_
        rotate_left
        · (intro w hSw; (try dsimp only at hSw); go_simp <;> (try with_reducible rfl))
        simp only [Act.put, List.getElem_toArray, List.getElem_cons_zero, List.getElem_cons_succ, List.setIfInBounds_toArray, List.set_cons_zero, List.set_cons_succ]
        refine wpAnyH_take (i := 2) (v := ?_) rfl (by kernel_rfl) (by kernel_rfl) (by kernel_rfl) (fun _ _ _ h => h) (Or.inl ⟨by rfl, ?_⟩) hHeld0 ?_
        rotate_left
        · (intro w hSw; (try dsimp only at hSw); go_simp <;> (try with_reducible rfl))
        simp only [Act.put, List.getElem_toArray, List.getElem_cons_zero, List.getElem_cons_succ, List.setIfInBounds_toArray, List.set_cons_zero, List.set_cons_succ]
        refine wpAnyH_take (i := 3) (v := ?_) rfl (by kernel_rfl) (by kernel_rfl) (by kernel_rfl) (fun _ _ _ h => h) (Or.inl ⟨by rfl, ?_⟩) hHeld0 ?_
        rotate_left
        · (intro w hSw; (try dsimp only at hSw); go_simp <;> (try with_reducible rfl))
        simp only [Act.put, List.getElem_toArray, List.getElem_cons_zero, List.getElem_cons_succ, List.setIfInBounds_toArray, List.set_cons_zero, List.set_cons_succ]
        refine wpAnyH_take (i := 4) (v := undef) rfl (by kernel_rfl) (by kernel_rfl) (by kernel_rfl) (fun _ _ _ h => h) (Or.inr ⟨by rfl, rfl⟩) hHeld0 ?_
        simp only [Act.put, List.getElem_toArray, List.getElem_cons_zero, List.getElem_cons_succ, List.setIfInBounds_toArray, List.set_cons_zero, List.set_cons_succ]
        refine wpAnyH_take (i := 5) (v := undef) rfl (by kernel_rfl) (by kernel_rfl) (by kernel_rfl) (fun _ _ _ h => h) (Or.inr ⟨by rfl, rfl⟩) hHeld0 ?_
        simp only [Act.put, List.getElem_toArray, List.getElem_cons_zero, List.getElem_cons_succ, List.setIfInBounds_toArray, List.set_cons_zero, List.set_cons_succ]
        refine wpAnyH_take (i := 6) (v := undef) rfl (by kernel_rfl) (by kernel_rfl) (by kernel_rfl) (fun _ _ _ h => h) (Or.inr ⟨by rfl, rfl⟩) hHeld0 ?_
        simp only [Act.put, List.getElem_toArray, List.getElem_cons_zero, List.getElem_cons_succ, List.setIfInBounds_toArray, List.set_cons_zero, List.set_cons_succ]
        refine wpAnyH_take (i := 7) (v := undef) rfl (by kernel_rfl) (by kernel_rfl) (by kernel_rfl) (fun _ _ _ h => h) (Or.inr ⟨by rfl, rfl⟩) hHeld0 ?_
        simp only [Act.put, List.getElem_toArray, List.getElem_cons_zero, List.getElem_cons_succ, List.setIfInBounds_toArray, List.set_cons_zero, List.set_cons_succ]
        refine wpAnyH_take (i := 8) (v := undef) rfl (by kernel_rfl) (by kernel_rfl) (by kernel_rfl) (fun _ _ _ h => h) (Or.inr ⟨by rfl, rfl⟩) hHeld0 ?_
        simp only [Act.put, List.getElem_toArray, List.getElem_cons_zero, List.getElem_cons_succ, List.setIfInBounds_toArray, List.set_cons_zero, List.set_cons_succ]
        refine wpAnyH_take (i := 9) (v := undef) rfl (by kernel_rfl) (by kernel_rfl) (by kernel_rfl) (fun _ _ _ h => h) (Or.inr ⟨by rfl, rfl⟩) hHeld0 ?_
        simp only [Act.put, List.getElem_toArray, List.getElem_cons_zero, List.getElem_cons_succ, List.setIfInBounds_toArray, List.set_cons_zero, List.set_cons_succ]
        refine wpAnyH_take (i := 10) (v := undef) rfl (by kernel_rfl) (by kernel_rfl) (by kernel_rfl) (fun _ _ _ h => h) (Or.inr ⟨by rfl, rfl⟩) hHeld0 ?_
        simp only [Act.put, List.getElem_toArray, List.getElem_cons_zero, List.getElem_cons_succ, List.setIfInBounds_toArray, List.set_cons_zero, List.set_cons_succ]
        refine wpAnyH_take (i := 11) (v := undef) rfl (by kernel_rfl) (by kernel_rfl) (by kernel_rfl) (fun _ _ _ h => h) (Or.inr ⟨by rfl, rfl⟩) hHeld0 ?_
        simp only [Act.put, List.getElem_toArray, List.getElem_cons_zero, List.getElem_cons_succ, List.setIfInBounds_toArray, List.set_cons_zero, List.set_cons_succ]
        refine wpAnyH_take (i := 12) (v := undef) rfl (by kernel_rfl) (by kernel_rfl) (by kernel_rfl) (fun _ _ _ h => h) (Or.inr ⟨by rfl, rfl⟩) hHeld0 ?_
        simp only [Act.put, List.getElem_toArray, List.getElem_cons_zero, List.getElem_cons_succ, List.setIfInBounds_toArray, List.set_cons_zero, List.set_cons_succ]
        refine wpAnyH_take (i := 13) (v := ?_) rfl (by kernel_rfl) (by kernel_rfl) (by kernel_rfl) (fun _ _ _ h => h) (Or.inl ⟨by rfl, ?_⟩) hHeld0 ?_
        rotate_left
        · (intro w hSw; (try dsimp only at hSw); go_simp <;> (try with_reducible rfl))
        simp only [Act.put, List.getElem_toArray, List.getElem_cons_zero, List.getElem_cons_succ, List.setIfInBounds_toArray, List.set_cons_zero, List.set_cons_succ]
        refine wpAnyH_take (i := 14) (v := ?_) rfl (by kernel_rfl) (by kernel_rfl) (by kernel_rfl) (fun _ _ _ h => h) (Or.inl ⟨by rfl, ?_⟩) hHeld0 ?_
        rotate_left
        · (intro w hSw; (try dsimp only at hSw); go_simp <;> (try with_reducible rfl))
        simp only [Act.put, List.getElem_toArray, List.getElem_cons_zero, List.getElem_cons_succ, List.setIfInBounds_toArray, List.set_cons_zero, List.set_cons_succ]
        refine wpAnyH_done (by kernel_rfl) ?_ _
        go_wp2
        exact bodyPost_ret (v := .bool true) (by simp [results, Tryd.results8]) rfl ⟨rfl, hHeld0.below⟩
      · have hg : ¬ (n : Int) < 2 := by omega
        have hg2 : (256 : Int) < (n : Int) := by omega
        clear hs
        go_enter Tryd.func8, Tryd.ntmps8
        go_wp2_with fail
        refine (HRO.out w (Below.refl _ _)).mono ?_
        rintro e w1 ⟨rfl, hb1⟩
        have HSw1 : Hid (BoxS w [] w1) := ⟨hb1, fun p hp => by cases hp⟩
        clear hb1
        go_wp2_with (first
          | (go_at_call 10; refine (HTR.out _ HSw1.out.below).mono ?_; rintro e w2 ⟨rfl, hbw2⟩; have HSw2 := hide (HSw1.out.call hbw2); clear hbw2)
          | (refine te_store (vals (List.replicate 32 0)) R w2.heap.size rfl (.tmp 4) (.tmp 27) rfl rfl rfl rfl (Is.new w2 _ _) (by simp [vals]) HR.out ?_; intro w3 hiw3 hbw3 hzw3; have hbw3' : Below w2.heap.size w2 w3 := (below_alloc w2 (.cells (vals (List.replicate 32 0)).toArray 26)).trans (hbw3.under (below_alloc w2 _).size (Nat.le_refl _)); have HSw3 := hide (HSw2.out.new hbw3' hiw3); clear hiw3 hbw3 hbw3' hzw3))
        refine wp_region_held_drew (S := fun W : World => BoxS w [(w2.heap.size, R)] W) (by kernel_rfl) ?_ (fun hHeld0 => ?_)
        · exact HSw3.out.drew
        refine wpAnyH_take (i := 0) (v := ?_) rfl (by kernel_rfl) (by kernel_rfl) (by kernel_rfl) (fun _ _ _ h => h) (Or.inl ⟨by rfl, ?_⟩) hHeld0 ?_
        rotate_left
        · (intro w hSw; (try dsimp only at hSw); go_simp <;> (try with_reducible rfl))
        simp only [Act.put, List.getElem_toArray, List.getElem_cons_zero, List.getElem_cons_succ, List.setIfInBounds_toArray, List.set_cons_zero, List.set_cons_succ]
        refine wpAnyH_take (i := 1) (v := ?_) rfl (by kernel_rfl) (by kernel_rfl) (by kernel_rfl) (fun _ _ _ h => h) (Or.inl ⟨by rfl, ?_⟩) hHeld0 ?_
        rotate_left
        · (intro w hSw; (try dsimp only at hSw); go_simp <;> (try with_reducible rfl))
        simp only [Act.put, List.getElem_toArray, List.getElem_cons_zero, List.getElem_cons_succ, List.setIfInBounds_toArray, List.set_cons_zero, List.set_cons_succ]
        refine wpAnyH_take (i := 2) (v := ?_) rfl (by kernel_rfl) (by kernel_rfl) (by kernel_rfl) (fun _ _ _ h => h) (Or.inl ⟨by rfl, ?_⟩) hHeld0 ?_
        rotate_left
        · (intro w hSw; (try dsimp only at hSw); go_simp <;> (try with_reducible rfl))
        simp only [Act.put, List.getElem_toArray, List.getElem_cons_zero, List.getElem_cons_succ, List.setIfInBounds_toArray, List.set_cons_zero, List.set_cons_succ]
        refine wpAnyH_take (i := 3) (v := ?_) rfl (by kernel_rfl) (by kernel_rfl) (by kernel_rfl) (fun _ _ _ h => h) (Or.inl ⟨by rfl, ?_⟩) hHeld0 ?_
        rotate_left
        · (intro w hSw; (try dsimp only at hSw); go_simp <;> (try with_reducible rfl))
        simp only [Act.put, List.getElem_toArray, List.getElem_cons_zero, List.getElem_cons_succ, List.setIfInBounds_toArray, List.set_cons_zero, List.set_cons_succ]
        refine wpAnyH_take (i := 4) (v := undef) rfl (by kernel_rfl) (by kernel_rfl) (by kernel_rfl) (fun _ _ _ h => h) (Or.inr ⟨by rfl, rfl⟩) hHeld0 ?_
        simp only [Act.put, List.getElem_toArray, List.getElem_cons_zero, List.getElem_cons_succ, List.setIfInBounds_toArray, List.set_cons_zero, List.set_cons_succ]
        refine wpAnyH_take (i := 5) (v := undef) rfl (by kernel_rfl) (by kernel_rfl) (by kernel_rfl) (fun _ _ _ h => h) (Or.inr ⟨by rfl, rfl⟩) hHeld0 ?_
        simp only [Act.put, List.getElem_toArray, List.getElem_cons_zero, List.getElem_cons_succ, List.setIfInBounds_toArray, List.set_cons_zero, List.set_cons_succ]
        refine wpAnyH_take (i := 6) (v := undef) rfl (by kernel_rfl) (by kernel_rfl) (by kernel_rfl) (fun _ _ _ h => h) (Or.inr ⟨by rfl, rfl⟩) hHeld0 ?_
        simp only [Act.put, List.getElem_toArray, List.getElem_cons_zero, List.getElem_cons_succ, List.setIfInBounds_toArray, List.set_cons_zero, List.set_cons_succ]
        refine wpAnyH_take (i := 7) (v := undef) rfl (by kernel_rfl) (by kernel_rfl) (by kernel_rfl) (fun _ _ _ h => h) (Or.inr ⟨by rfl, rfl⟩) hHeld0 ?_
        simp only [Act.put, List.getElem_toArray, List.getElem_cons_zero, List.getElem_cons_succ, List.setIfInBounds_toArray, List.set_cons_zero, List.set_cons_succ]
        refine wpAnyH_take (i := 8) (v := undef) rfl (by kernel_rfl) (by kernel_rfl) (by kernel_rfl) (fun _ _ _ h => h) (Or.inr ⟨by rfl, rfl⟩) hHeld0 ?_
        simp only [Act.put, List.getElem_toArray, List.getElem_cons_zero, List.getElem_cons_succ, List.setIfInBounds_toArray, List.set_cons_zero, List.set_cons_succ]
        refine wpAnyH_take (i := 9) (v := undef) rfl (by kernel_rfl) (by kernel_rfl) (by kernel_rfl) (fun _ _ _ h => h) (Or.inr ⟨by rfl, rfl⟩) hHeld0 ?_
        simp only [Act.put, List.getElem_toArray, List.getElem_cons_zero, List.getElem_cons_succ, List.setIfInBounds_toArray, List.set_cons_zero, List.set_cons_succ]
        refine wpAnyH_take (i := 10) (v := undef) rfl (by kernel_rfl) (by kernel_rfl) (by kernel_rfl) (fun _ _ _ h => h) (Or.inr ⟨by rfl, rfl⟩) hHeld0 ?_
        simp only [Act.put, List.getElem_toArray, List.getElem_cons_zero, List.getElem_cons_succ, List.setIfInBounds_toArray, List.set_cons_zero, List.set_cons_succ]
        refine wpAnyH_take (i := 11) (v := undef) rfl (by kernel_rfl) (by kernel_rfl) (by kernel_rfl) (fun _ _ _ h => h) (Or.inr ⟨by rfl, rfl⟩) hHeld0 ?_
        simp only [Act.put, List.getElem_toArray, List.getElem_cons_zero, List.getElem_cons_succ, List.setIfInBounds_toArray, List.set_cons_zero, List.set_cons_succ]
        refine wpAnyH_take (i := 12) (v := undef) rfl (by kernel_rfl) (by kernel_rfl) (by kernel_rfl) (fun _ _ _ h => h) (Or.inr ⟨by rfl, rfl⟩) hHeld0 ?_
        simp only [Act.put, List.getElem_toArray, List.getElem_cons_zero, List.getElem_cons_succ, List.setIfInBounds_toArray, List.set_cons_zero, List.set_cons_succ]
        refine wpAnyH_take (i := 13) (v := ?_) rfl (by kernel_rfl) (by kernel_rfl) (by kernel_rfl) (fun _ _ _ h => h) (Or.inl ⟨by rfl, ?_⟩) hHeld0 ?_
        rotate_left
        · (intro w hSw; (try dsimp only at hSw); go_simp <;> (try with_reducible rfl))
        simp only [Act.put, List.getElem_toArray, List.getElem_cons_zero, List.getElem_cons_succ, List.setIfInBounds_toArray, List.set_cons_zero, List.set_cons_succ]
        refine wpAnyH_take (i := 14) (v := ?_) rfl (by kernel_rfl) (by kernel_rfl) (by kernel_rfl) (fun _ _ _ h => h) (Or.inl ⟨by rfl, ?_⟩) hHeld0 ?_
        rotate_left
        · (intro w hSw; (try dsimp only at hSw); go_simp <;> (try with_reducible rfl))
        simp only [Act.put, List.getElem_toArray, List.getElem_cons_zero, List.getElem_cons_succ, List.setIfInBounds_toArray, List.set_cons_zero, List.set_cons_succ]
        refine wpAnyH_done (by kernel_rfl) ?_ _
        go_wp2
        exact bodyPost_ret (v := .bool true) (by simp [results, Tryd.results8]) rfl ⟨rfl, hHeld0.below⟩
    · obtain ⟨b, off, cap2, hv, _, _, hat⟩ := hd.at' (by omega)
      injection hv with ea en ec
      subst ea ec
      clear en
      have hh1 := Te.half_pos DS.length
      have hh2 := Te.half_lt DS.length (by omega)
      have hE0 : ∀ m, m ≤ 256 → errV (rootE m) = .nilIface := fun m hm => by unfold rootE; rw [if_neg (by omega)]; rfl
      have HTA : Hid (∀ W, Below w.heap.size w W → Calls Tryd.prog 10 #[.slice (some ⟨b, off, none⟩) (Te.half DS.length) cap] W fun e w' => e = .returned (.tuple #[.agg (vals (rootD (DS.take (Te.half DS.length)))).toArray, .nilIface]) ∧ Below W.heap.size W w') := hide (fun W hW => by
        have := root_any _ (DS.take (Te.half DS.length)) W ((hd.below hW).take (Te.half DS.length) cap (by omega) (by omega) hm) (ht.below hW hw) (Nat.lt_of_lt_of_le hw hW.size)
        rwa [hE0 _ (by rw [List.length_take]; omega)] at this)
      have HTC : Hid (∀ W, Below w.heap.size w W → Calls Tryd.prog 10 #[.slice (some ⟨b, off + Te.half DS.length * 32, none⟩) (DS.length - Te.half DS.length) (cap - Te.half DS.length)] W fun e w' => e = .returned (.tuple #[.agg (vals (rootD (DS.drop (Te.half DS.length)))).toArray, .nilIface]) ∧ Below W.heap.size W w') := hide (fun W hW => by
        have := root_any _ (DS.drop (Te.half DS.length)) W ((hd.below hW).drop (by omega) (Te.half DS.length) (by omega)) (ht.below hW hw) (Nat.lt_of_lt_of_le hw hW.size)
        rwa [hE0 _ (by rw [List.length_drop]; omega)] at this)
      rw [hE0 _ (by omega)] at HTR
      have hda := rootD_ok (DS.take (Te.half DS.length)) (DigOk.take hd.2 _)
      have hdc := rootD_ok (DS.drop (Te.half DS.length)) (DigOk.drop hd.2 _)
      have e : rootD DS = Te.nd (rootD (DS.take (Te.half DS.length))) (rootD (DS.drop (Te.half DS.length))) := by
        have ea : rootD (DS.take (Te.half DS.length)) = Te.root (DS.take (Te.half DS.length)) := by unfold rootD; rw [if_neg (by rw [List.length_take]; omega), if_neg (by rw [List.length_take]; omega)]
        have ec : rootD (DS.drop (Te.half DS.length)) = Te.root (DS.drop (Te.half DS.length)) := by unfold rootD; rw [if_neg (by rw [List.length_drop]; omega), if_neg (by rw [List.length_drop]; omega)]
        rw [ea, ec, ← Te.root_more DS (by omega)]
        unfold rootD; rw [if_neg (by omega), if_neg (by omega)]
      have HN : Hid (∀ W, Below w.heap.size w W → Calls Tryd.prog 20 #[.agg (vals (rootD (DS.take (Te.half DS.length)))).toArray, .agg (vals (rootD (DS.drop (Te.half DS.length)))).toArray] W fun e w' => e = .returned (.agg (vals (rootD DS)).toArray) ∧ Below W.heap.size W w') := hide (fun W hW => by
        rw [e]; exact node_any _ _ W hda.1 hdc.1 hda.2 hdc.2 (ht.below hW hw) (Nat.lt_of_lt_of_le hw hW.size))
      have hq := fun w' => dig_eq (rootD DS) (rootD DS) hR hR w'
      rw [decide_eq_true rfl] at hq
      have HA := hide hda.1
      have HC := hide hdc.1
      have HR := hide hR
      have hszr : (Tryd.prog.info? 26).map (·.size) = some (vals (rootD DS)).length := by rw [vals_length, hR]; exact size_dig
      have hsza : (Tryd.prog.info? 26).map (·.size) = some (vals (rootD (DS.take (Te.half DS.length)))).length := by rw [vals_length, hda.1]; exact size_dig
      have hszc : (Tryd.prog.info? 26).map (·.size) = some (vals (rootD (DS.drop (Te.half DS.length)))).length := by rw [vals_length, hdc.1]; exact size_dig
      clear hd ht hda hdc e hat hE0 hR
      generalize rootD (DS.take (Te.half DS.length)) = A at *
      generalize rootD (DS.drop (Te.half DS.length)) = C at *
      generalize rootD DS = R at *
      generalize DS.length = n at *
      have hg : ¬ (n : Int) < 2 := by omega
      have hg2 : ¬ (256 : Int) < (n : Int) := by omega
      have hn256 : n ≤ 256 := by omega
      have hn2 : 2 ≤ n := by omega
      clear hs h1
      go_enter Tryd.func8, Tryd.ntmps8
      go_wp2_with fail
      refine (HRO.out w (Below.refl _ _)).mono ?_
      rintro e w1 ⟨rfl, hb1⟩
      have HSw1 : Hid (BoxS w [] w1) := ⟨hb1, fun p hp => by cases hp⟩
      clear hb1
      go_wp2_with fail
      go_loopw [6] (fun c wr => ∃ j : Nat, c = .int .i64 ((2 ^ j : Nat) : Int) ∧ 2 ^ j < n ∧ Below w.heap.size w wr) (fun c _ => n - (intOf c).toNat)
      case atStart => exact ⟨0, rfl, by omega, HSw1.out.below⟩
      case round =>
        obtain ⟨j, rfl, hj, hbr⟩ := hrel
        have hhalf := Te.half_is n j hj
        have hpw : 2 ^ (j + 1) = 2 * 2 ^ j := by rw [Nat.pow_succ]; omega
        have hp : 0 < 2 ^ j := Nat.two_pow_pos j
        obtain ⟨k, hk⟩ : ∃ k, k = 2 ^ j := ⟨_, rfl⟩
        rw [← hk] at hj hhalf hp hpw ⊢
        have HPW := hide hpw
        clear hk hpw
        have hwr : wrap64 (2 * (k : Int)) = 2 * (k : Int) := by simp [wrap64]; omega
        by_cases hc2 : 2 * k < n
        · have hci : 2 * (k : Int) < (n : Int) := by omega
          clear hhalf HTR HTA HTC HN HR HA HC hszr hsza hszc hq HSw1
          go_wp2
          go_roundw
          case rel => exact ⟨j + 1, by rw [HPW.out]; go_num, by rw [HPW.out]; exact hc2, hbr⟩
          case measure => simp [intOf, hwr]; omega
        · have hci : ¬ 2 * (k : Int) < (n : Int) := by omega
          have hh := hhalf (by omega)
          rw [hh] at HTA HTC
          have hk1 : k ≤ cap := by omega
          have hkc : ¬ cap = k := by omega
          have hi1 : (k : Int) ≤ (cap : Int) := by omega
          have hi2 : (0 : Int) ≤ (k : Int) := by omega
          have hi3 : (k : Int) ≤ (n : Int) := by omega
          have HSwr : Hid (BoxS w [] wr) := ⟨hbr, fun p hp => by cases hp⟩
          clear hhalf hh HSw1 hbr HPW
          go_wp2_with (first
            | (go_at_call 10; have hx_ := HSw5; clear hx_; refine (HTC.out _ HSw5.out.below).mono ?_; rintro e w6 ⟨rfl, hbw6⟩; have HSw6 := hide (HSw5.out.call hbw6); clear hbw6)
            | (refine te_store (vals (List.replicate 32 0)) C w6.heap.size rfl (.tmp 11) (.tmp 67) rfl rfl rfl rfl (Is.new w6 _ _) (by simp [vals]) HC.out ?_; intro w7 hiw7 hbw7 hzw7; have hbw7' : Below w6.heap.size w6 w7 := (below_alloc w6 (.cells (vals (List.replicate 32 0)).toArray 26)).trans (hbw7.under (below_alloc w6 _).size (Nat.le_refl _)); have HSw7 := hide (HSw6.out.new hbw7' hiw7); clear hiw7 hbw7 hbw7' hzw7)
            | (go_at_call 10; have hx_ := HSw3; clear hx_; refine (HTA.out _ HSw3.out.below).mono ?_; rintro e w4 ⟨rfl, hbw4⟩; have HSw4 := hide (HSw3.out.call hbw4); clear hbw4)
            | (refine te_store (vals (List.replicate 32 0)) A w4.heap.size rfl (.tmp 9) (.tmp 60) rfl rfl rfl rfl (Is.new w4 _ _) (by simp [vals]) HA.out ?_; intro w5 hiw5 hbw5 hzw5; have hbw5' : Below w4.heap.size w4 w5 := (below_alloc w4 (.cells (vals (List.replicate 32 0)).toArray 26)).trans (hbw5.under (below_alloc w4 _).size (Nat.le_refl _)); have HSw5 := hide (HSw4.out.new hbw5' hiw5); clear hiw5 hbw5 hbw5' hzw5)
            | (go_at_call 10; refine (HTR.out _ HSwr.out.below).mono ?_; rintro e w2 ⟨rfl, hbw2⟩; have HSw2 := hide (HSwr.out.call hbw2); clear hbw2)
            | (refine te_store (vals (List.replicate 32 0)) R w2.heap.size rfl (.tmp 7) (.tmp 53) rfl rfl rfl rfl (Is.new w2 _ _) (by simp [vals]) HR.out ?_; intro w3 hiw3 hbw3 hzw3; have hbw3' : Below w2.heap.size w2 w3 := (below_alloc w2 (.cells (vals (List.replicate 32 0)).toArray 26)).trans (hbw3.under (below_alloc w2 _).size (Nat.le_refl _)); have HSw3 := hide (HSw2.out.new hbw3' hiw3); clear hiw3 hbw3 hbw3' hzw3))
          refine wp_region_held_drew (S := fun W : World => BoxS w [(w6.heap.size, C), (w4.heap.size, A), (w2.heap.size, R)] W) (by kernel_rfl) ?_ (fun hHeld0 => ?_)
          · exact HSw7.out.drew
          refine wpAnyH_take (i := 0) (v := ?_) rfl (by kernel_rfl) (by kernel_rfl) (by kernel_rfl) (fun _ _ _ h => h) (Or.inl ⟨by rfl, ?_⟩) hHeld0 ?_
          rotate_left
          · (intro w hSw; (try dsimp only at hSw); go_simp <;> (try with_reducible rfl))
          simp only [Act.put, List.getElem_toArray, List.getElem_cons_zero, List.getElem_cons_succ, List.setIfInBounds_toArray, List.set_cons_zero, List.set_cons_succ]
          refine wpAnyH_take (i := 1) (v := ?_) rfl (by kernel_rfl) (by kernel_rfl) (by kernel_rfl) (fun _ _ _ h => h) (Or.inl ⟨by rfl, ?_⟩) hHeld0 ?_
          rotate_left
          · (intro w hSw; (try dsimp only at hSw); go_simp <;> (try with_reducible rfl))
          simp only [Act.put, List.getElem_toArray, List.getElem_cons_zero, List.getElem_cons_succ, List.setIfInBounds_toArray, List.set_cons_zero, List.set_cons_succ]
          refine wpAnyH_take (i := 2) (v := ?_) rfl (by kernel_rfl) (by kernel_rfl) (by kernel_rfl) (fun _ _ _ h => h) (Or.inl ⟨by rfl, ?_⟩) hHeld0 ?_
          rotate_left
          · (intro w hSw; (try dsimp only at hSw); go_simp <;> (try with_reducible rfl))
          simp only [Act.put, List.getElem_toArray, List.getElem_cons_zero, List.getElem_cons_succ, List.setIfInBounds_toArray, List.set_cons_zero, List.set_cons_succ]
          refine wpAnyH_take (i := 3) (v := ?_) rfl (by kernel_rfl) (by kernel_rfl) (by kernel_rfl) (fun _ _ _ h => h) (Or.inl ⟨by rfl, ?_⟩) hHeld0 ?_
          rotate_left
          · (intro w hSw; (try dsimp only at hSw); go_simp <;> (try with_reducible rfl))
          simp only [Act.put, List.getElem_toArray, List.getElem_cons_zero, List.getElem_cons_succ, List.setIfInBounds_toArray, List.set_cons_zero, List.set_cons_succ]
          refine wpAnyH_take (i := 4) (v := ?_) rfl (by kernel_rfl) (by kernel_rfl) (by kernel_rfl) (fun _ _ _ h => h) (Or.inl ⟨by rfl, ?_⟩) hHeld0 ?_
          rotate_left
          · (intro w hSw; (try dsimp only at hSw); go_simp <;> (try with_reducible rfl))
          simp only [Act.put, List.getElem_toArray, List.getElem_cons_zero, List.getElem_cons_succ, List.setIfInBounds_toArray, List.set_cons_zero, List.set_cons_succ]
          refine wpAnyH_take (i := 5) (v := ?_) rfl (by kernel_rfl) (by kernel_rfl) (by kernel_rfl) (fun _ _ _ h => h) (Or.inl ⟨by rfl, ?_⟩) hHeld0 ?_
          rotate_left
          · (intro w hSw; (try dsimp only at hSw); go_simp <;> (try with_reducible rfl))
          simp only [Act.put, List.getElem_toArray, List.getElem_cons_zero, List.getElem_cons_succ, List.setIfInBounds_toArray, List.set_cons_zero, List.set_cons_succ]
          refine wpAnyH_take (i := 6) (v := ?_) rfl (by kernel_rfl) (by kernel_rfl) (by kernel_rfl) (fun _ _ _ h => h) (Or.inl ⟨by rfl, ?_⟩) hHeld0 ?_
          rotate_left
          · (intro w hSw; (try dsimp only at hSw); go_simp <;> (try with_reducible rfl))
          simp only [Act.put, List.getElem_toArray, List.getElem_cons_zero, List.getElem_cons_succ, List.setIfInBounds_toArray, List.set_cons_zero, List.set_cons_succ]
          refine wpAnyH_take (i := 7) (v := ?_) rfl (by kernel_rfl) (by kernel_rfl) (by kernel_rfl) (fun _ _ _ h => h) (Or.inl ⟨by rfl, ?_⟩) hHeld0 ?_
          rotate_left
          · (intro w hSw; (try dsimp only at hSw); go_simp <;> (try with_reducible rfl))
          simp only [Act.put, List.getElem_toArray, List.getElem_cons_zero, List.getElem_cons_succ, List.setIfInBounds_toArray, List.set_cons_zero, List.set_cons_succ]
          refine wpAnyH_take (i := 8) (v := ?_) rfl (by kernel_rfl) (by kernel_rfl) (by kernel_rfl) (fun _ _ _ h => h) (Or.inl ⟨by rfl, ?_⟩) hHeld0 ?_
          rotate_left
          · (intro w hSw; (try dsimp only at hSw); go_simp <;> (try with_reducible rfl))
          simp only [Act.put, List.getElem_toArray, List.getElem_cons_zero, List.getElem_cons_succ, List.setIfInBounds_toArray, List.set_cons_zero, List.set_cons_succ]
          refine wpAnyH_take (i := 9) (v := ?_) rfl (by kernel_rfl) (by kernel_rfl) (by kernel_rfl) (fun _ _ _ h => h) (Or.inl ⟨by rfl, ?_⟩) hHeld0 ?_
          rotate_left
          · (intro w hSw; (try dsimp only at hSw); go_simp <;> (try with_reducible rfl))
          simp only [Act.put, List.getElem_toArray, List.getElem_cons_zero, List.getElem_cons_succ, List.setIfInBounds_toArray, List.set_cons_zero, List.set_cons_succ]
          refine wpAnyH_take (i := 10) (v := ?_) rfl (by kernel_rfl) (by kernel_rfl) (by kernel_rfl) (fun _ _ _ h => h) (Or.inl ⟨by rfl, ?_⟩) hHeld0 ?_
          rotate_left
          · (intro w hSw; (try dsimp only at hSw); go_simp <;> (try with_reducible rfl))
          simp only [Act.put, List.getElem_toArray, List.getElem_cons_zero, List.getElem_cons_succ, List.setIfInBounds_toArray, List.set_cons_zero, List.set_cons_succ]
          refine wpAnyH_take (i := 11) (v := .agg (vals R).toArray) rfl (by kernel_rfl) (by kernel_rfl) (by kernel_rfl) (fun _ _ _ h => h) (yieldsIf_load_mid (by rfl) _ _ rfl _ _ rfl (vals R) _ (fun w hSw => (hSw.get w2.heap.size R (by simp)).range) Tryd.underlying26 rfl hszr) hHeld0 ?_
          simp only [Act.put, List.getElem_toArray, List.getElem_cons_zero, List.getElem_cons_succ, List.setIfInBounds_toArray, List.set_cons_zero, List.set_cons_succ]
          refine wpAnyH_take (i := 12) (v := .agg (vals A).toArray) rfl (by kernel_rfl) (by kernel_rfl) (by kernel_rfl) (fun _ _ _ h => h) (yieldsIf_load_mid (by rfl) _ _ rfl _ _ rfl (vals A) _ (fun w hSw => (hSw.get w4.heap.size A (by simp)).range) Tryd.underlying26 rfl hsza) hHeld0 ?_
          simp only [Act.put, List.getElem_toArray, List.getElem_cons_zero, List.getElem_cons_succ, List.setIfInBounds_toArray, List.set_cons_zero, List.set_cons_succ]
          refine wpAnyH_take (i := 13) (v := .agg (vals C).toArray) rfl (by kernel_rfl) (by kernel_rfl) (by kernel_rfl) (fun _ _ _ h => h) (yieldsIf_load_mid (by rfl) _ _ rfl _ _ rfl (vals C) _ (fun w hSw => (hSw.get w6.heap.size C (by simp)).range) Tryd.underlying26 rfl hszc) hHeld0 ?_
          simp only [Act.put, List.getElem_toArray, List.getElem_cons_zero, List.getElem_cons_succ, List.setIfInBounds_toArray, List.set_cons_zero, List.set_cons_succ]
          refine wpAnyH_ready (rs := [14]) (by kernel_rfl) (by simp) ?_
          refine AllReadyH.cons rfl (fun K hK => ?_) AllReadyH.nil
          go_simp
          go_wp2_with ((go_at_call 20; refine (HN.out _ hHeld0.below).mono ?_; rintro e wn ⟨rfl, hbn⟩))
          refine hK.out _ _ (by exact hHeld0.call hbn) (fun hHeld1 => ?_)
          clear hK K hHeld0
          try simp only [Act.put, List.getElem_toArray, List.getElem_cons_zero, List.getElem_cons_succ, List.setIfInBounds_toArray, List.set_cons_zero, List.set_cons_succ]
          refine wpAnyH_take (i := 15) (v := ?_) rfl (by kernel_rfl) (by kernel_rfl) (by kernel_rfl) (fun _ _ _ h => h) (Or.inl ⟨by rfl, ?_⟩) hHeld1 ?_
          rotate_left
          · (intro w hSw; (try dsimp only at hSw); go_simp <;> (try with_reducible rfl))
          simp only [Act.put, List.getElem_toArray, List.getElem_cons_zero, List.getElem_cons_succ, List.setIfInBounds_toArray, List.set_cons_zero, List.set_cons_succ]
          refine wpAnyH_take (i := 16) (v := ?_) rfl (by kernel_rfl) (by kernel_rfl) (by kernel_rfl) (fun _ _ _ h => h) (Or.inl ⟨by rfl, ?_⟩) hHeld1 ?_
          rotate_left
          · (intro w hSw; (try dsimp only at hSw); go_simp <;> (try with_reducible rfl))
          simp only [Act.put, List.getElem_toArray, List.getElem_cons_zero, List.getElem_cons_succ, List.setIfInBounds_toArray, List.set_cons_zero, List.set_cons_succ]
          refine wpAnyH_take (i := 17) (v := ?_) rfl (by kernel_rfl) (by kernel_rfl) (by kernel_rfl) (fun _ _ _ h => h) (Or.inl ⟨by rfl, ?_⟩) hHeld1 ?_
          rotate_left
          · (intro w hSw; (try dsimp only at hSw); go_simp <;> (try with_reducible rfl))
          simp only [Act.put, List.getElem_toArray, List.getElem_cons_zero, List.getElem_cons_succ, List.setIfInBounds_toArray, List.set_cons_zero, List.set_cons_succ]
          refine wpAnyH_done (by kernel_rfl) ?_ _
          go_wp2
          exact bodyPost_ret (v := .bool true) (by simp [results, Tryd.results8]) rfl ⟨rfl, hHeld1.below⟩
end Go.Proofs.YtphdnbflogobfaaDoor
