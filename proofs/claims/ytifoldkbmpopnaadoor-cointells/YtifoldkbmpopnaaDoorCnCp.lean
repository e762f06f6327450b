/- Places compared. -/
import Derived.Test.YtifoldkbmpopnaaDoorCnCmp
import Derived.Deep.RegionHeld2
import Derived.Deep.QuietTactic
import Derived.BigQuiet
namespace Go.Proofs.YtifoldkbmpopnaaDoor
open Go.RowKit
set_option linter.unusedVariables false
set_option linter.unusedSimpArgs false

theorem cp_alloc {w W : World} {A B : List Int} {x y : Int} (h : Hid (W.rangeAt w.heap.size 0 (vals A) ∧ W.rangeAt (w.heap.size + 1) 0 (vals B) ∧ Below w.heap.size w W ∧ w.heap.size + 2 ≤ W.heap.size) ∧ W.cell? ⟨w.heap.size, 32, none⟩ = some (.int .i64 x) ∧ W.cell? ⟨w.heap.size + 1, 32, none⟩ = some (.int .i64 y)) (o : Obj) :
    Hid ((W.alloc o).rangeAt w.heap.size 0 (vals A) ∧ (W.alloc o).rangeAt (w.heap.size + 1) 0 (vals B) ∧ Below w.heap.size w (W.alloc o) ∧ w.heap.size + 2 ≤ (W.alloc o).heap.size) ∧ (W.alloc o).cell? ⟨w.heap.size, 32, none⟩ = some (.int .i64 x) ∧ (W.alloc o).cell? ⟨w.heap.size + 1, 32, none⟩ = some (.int .i64 y) := by
  obtain ⟨h1, h2, h3⟩ := h
  obtain ⟨a, b, c, d⟩ := h1.out
  have hb := below_alloc W o
  exact ⟨hide ⟨range_keep a hb (by omega), range_keep b hb (by omega), c.trans (hb.mono c.size), by have := hb.size; omega⟩, by rw [hb.cell (p := ⟨w.heap.size, 32, none⟩) (by show w.heap.size < _; omega)]; exact h2, by rw [hb.cell (p := ⟨w.heap.size + 1, 32, none⟩) (by show w.heap.size + 1 < _; omega)]; exact h3⟩
theorem is_newq {w : World} {b : Nat} (c : List Value) (t : TypeId) (h : b = w.heap.size) : Is (w.alloc (.cells c.toArray t)) b c t := Is.new' c t h
set_option maxRecDepth 100000 in
set_option maxHeartbeats 1000000 in
theorem compare_any (A B : List Int) (x y : Int) (w : World) (hA : A.length = 32) (hB : B.length = 32) (hAb : Sz.Byt A) (hBb : Sz.Byt B) :
    Calls Tryd.prog 4 #[.agg (vals A ++ [Value.int .i64 x]).toArray, .agg (vals B ++ [Value.int .i64 y]).toArray] w fun e w' => e = .returned (.int .i64 (Cn.pl (A, x) (B, y))) ∧ Below w.heap.size w w' := by
  obtain ⟨r, hr⟩ : ∃ r, r = Cn.pl (A, x) (B, y) := ⟨_, rfl⟩
  obtain ⟨c1, hc1⟩ : ∃ c, c = Cn.cmpB A B := ⟨_, rfl⟩
  obtain ⟨c2, hc2⟩ : ∃ c, c = Cn.cmpI x y := ⟨_, rfl⟩
  have HBC : Hid (∀ (W : World) (u : Unit), W.rangeAt w.heap.size 0 (vals A) → W.rangeAt (w.heap.size + 1) 0 (vals B) → Calls Tryd.prog 15 #[.slice (some ⟨w.heap.size, 0, none⟩) 32 32, .slice (some ⟨w.heap.size + 1, 0, none⟩) 32 32] W fun e w' => e = .returned (.int .i64 c1) ∧ W = w') := hide (fun W _ h1 h2 => by rw [hc1]; exact byCompare_any _ _ _ _ _ _ A B W h1 h2 hA hB hAb hBb)
  have HCC : Hid (∀ W : World, Calls Tryd.prog 16 #[.int .i64 x, .int .i64 y] W fun e w' => e = .returned (.int .i64 c2) ∧ W = w') := hide (fun W => by rw [hc2]; exact cmpCompare_any x y W)
  have HOR : Hid (∀ (b : Nat) (W : World), Is W b [.int .i64 c1, .int .i64 c2] 3 → Calls Tryd.prog 14 #[.slice (some ⟨b, 0, none⟩) 2 2] W fun e w' => e = .returned (.int .i64 r) ∧ W = w') := hide (fun b W h => by rw [hr]; have := cmpOr_two b c1 c2 W h; rw [hc1, hc2] at this; exact this)
  obtain ⟨P, hP⟩ : ∃ P, P = vals A ++ [Value.int .i64 x] := ⟨_, rfl⟩
  obtain ⟨Q, hQ⟩ : ∃ Q, Q = vals B ++ [Value.int .i64 y] := ⟨_, rfl⟩
  have HX0 := (Is.new w P 25).alloc (.cells Q.toArray 25)
  have HY0 : Is ((w.alloc (.cells P.toArray 25)).alloc (.cells Q.toArray 25)) (w.heap.size + 1) Q 25 := Is.new' Q 25 (by simp)
  have hcA : ((w.alloc (.cells P.toArray 25)).alloc (.cells Q.toArray 25)).drew.cell? ⟨w.heap.size, 32, none⟩ = some (.int .i64 x) := by
    rw [HX0.drew.cell 32, hP, List.getElem?_append_right (by rw [vals_length, hA]; omega), vals_length, hA]; rfl
  have hcB : ((w.alloc (.cells P.toArray 25)).alloc (.cells Q.toArray 25)).drew.cell? ⟨w.heap.size + 1, 32, none⟩ = some (.int .i64 y) := by
    rw [HY0.drew.cell 32, hQ, List.getElem?_append_right (by rw [vals_length, hB]; omega), vals_length, hB]; rfl
  have HRA : Hid (((w.alloc (.cells P.toArray 25)).alloc (.cells Q.toArray 25)).drew.rangeAt w.heap.size 0 (vals A)) := hide (by have h := is_range HX0.drew; rw [hP] at h; rw [hP]; exact (tx_range_part h).1)
  have HRB : Hid (((w.alloc (.cells P.toArray 25)).alloc (.cells Q.toArray 25)).drew.rangeAt (w.heap.size + 1) 0 (vals B)) := hide (by have h := is_range HY0.drew; rw [hQ] at h; rw [hQ]; exact (tx_range_part h).1)
  have HBL0 : Hid (Below w.heap.size w ((w.alloc (.cells P.toArray 25)).alloc (.cells Q.toArray 25)).drew) := hide (below_alloc2 w _ _).drew
  have HSZ : Hid (w.heap.size + 2 ≤ ((w.alloc (.cells P.toArray 25)).alloc (.cells Q.toArray 25)).drew.heap.size) := hide (by show _ ≤ ((w.alloc _).alloc _).heap.size; simp)
  have hPl : P.length = 33 := by rw [hP]; simp [vals_length, hA]
  have hQl : Q.length = 33 := by rw [hQ]; simp [vals_length, hB]
  have hsl := fun g o w => slice_dig g o w
  rw [← hr, ← hP, ← hQ]
  clear hr hc1 hc2 hP hQ HX0 HY0 hA hB hAb hBb
  go_enter Tryd.func4, Tryd.ntmps4
  go_wp2_with fail
  refine wp_region_held_drew (S := fun W : World => Hid (W.rangeAt w.heap.size 0 (vals A) ∧ W.rangeAt (w.heap.size + 1) 0 (vals B) ∧ Below w.heap.size w W ∧ w.heap.size + 2 ≤ W.heap.size) ∧ W.cell? ⟨w.heap.size, 32, none⟩ = some (.int .i64 x) ∧ W.cell? ⟨w.heap.size + 1, 32, none⟩ = some (.int .i64 y)) (by kernel_rfl) ?_ (fun hHeld0 => ?_)
  · exact ⟨hide ⟨HRA.out, HRB.out, HBL0.out, HSZ.out⟩, hcA, hcB⟩
  refine wpAnyH_take (i := 0) (v := ?_) rfl (by kernel_rfl) (by kernel_rfl) (by kernel_rfl) (fun _ _ _ h => h) (Or.inl ⟨by rfl, ?_⟩) hHeld0 ?_
  rotate_left
  · (intro w hSw; (try dsimp only at hSw); go_simp <;> (try with_reducible rfl))
  simp only [Act.put, List.getElem_toArray, List.getElem_cons_zero, List.getElem_cons_succ, List.setIfInBounds_toArray, List.set_cons_zero, List.set_cons_succ]
  refine wpAnyH_take (i := 1) (v := ?_) rfl (by kernel_rfl) (by kernel_rfl) (by kernel_rfl) (fun _ _ _ h => h) (Or.inl ⟨by rfl, ?_⟩) hHeld0 ?_
  rotate_left
  · (intro w hSw; (try dsimp only at hSw); go_simp <;> (try with_reducible rfl))
  simp only [Act.put, List.getElem_toArray, List.getElem_cons_zero, List.getElem_cons_succ, List.setIfInBounds_toArray, List.set_cons_zero, List.set_cons_succ]
  refine wpAnyH_take (i := 2) (v := ?_) rfl (by kernel_rfl) (by kernel_rfl) (by kernel_rfl) (fun _ _ _ h => h) (Or.inl ⟨by rfl, ?_⟩) hHeld0 ?_
  rotate_left
  · (intro w hSw; (try dsimp only at hSw); go_simp <;> (try with_reducible rfl))
  simp only [Act.put, List.getElem_toArray, List.getElem_cons_zero, List.getElem_cons_succ, List.setIfInBounds_toArray, List.set_cons_zero, List.set_cons_succ]
  refine wpAnyH_take (i := 3) (v := ?_) rfl (by kernel_rfl) (by kernel_rfl) (by kernel_rfl) (fun _ _ _ h => h) (Or.inl ⟨by rfl, ?_⟩) hHeld0 ?_
  rotate_left
  · (intro w hSw; (try dsimp only at hSw); go_simp <;> (try with_reducible rfl))
  simp only [Act.put, List.getElem_toArray, List.getElem_cons_zero, List.getElem_cons_succ, List.setIfInBounds_toArray, List.set_cons_zero, List.set_cons_succ]
  refine wpAnyH_take (i := 5) (v := ?_) rfl (by kernel_rfl) (by kernel_rfl) (by kernel_rfl) (fun _ _ _ h => h) (Or.inl ⟨by rfl, ?_⟩) hHeld0 ?_
  rotate_left
  · (intro w hSw; (try dsimp only at hSw); go_simp <;> (try with_reducible rfl))
  simp only [Act.put, List.getElem_toArray, List.getElem_cons_zero, List.getElem_cons_succ, List.setIfInBounds_toArray, List.set_cons_zero, List.set_cons_succ]
  refine wpAnyH_take (i := 6) (v := ?_) rfl (by kernel_rfl) (by kernel_rfl) (by kernel_rfl) (fun _ _ _ h => h) (Or.inl ⟨by rfl, ?_⟩) hHeld0 ?_
  rotate_left
  · (intro w hSw; (try dsimp only at hSw); go_simp <;> (try with_reducible rfl))
  simp only [Act.put, List.getElem_toArray, List.getElem_cons_zero, List.getElem_cons_succ, List.setIfInBounds_toArray, List.set_cons_zero, List.set_cons_succ]
  refine wpAnyH_take (i := 7) (v := ?_) rfl (by kernel_rfl) (by kernel_rfl) (by kernel_rfl) (fun _ _ _ h => h) (Or.inl ⟨by rfl, ?_⟩) hHeld0 ?_
  rotate_left
  · (intro w hSw; (try dsimp only at hSw); go_simp <;> (try with_reducible rfl))
  simp only [Act.put, List.getElem_toArray, List.getElem_cons_zero, List.getElem_cons_succ, List.setIfInBounds_toArray, List.set_cons_zero, List.set_cons_succ]
  refine wpAnyH_take (i := 8) (v := ?_) rfl (by kernel_rfl) (by kernel_rfl) (by kernel_rfl) (fun _ _ _ h => h) (Or.inl ⟨by rfl, ?_⟩) hHeld0 ?_
  rotate_left
  · (intro w hSw; (try dsimp only at hSw); go_simp <;> (try with_reducible rfl))
  simp only [Act.put, List.getElem_toArray, List.getElem_cons_zero, List.getElem_cons_succ, List.setIfInBounds_toArray, List.set_cons_zero, List.set_cons_succ]
  refine wpAnyH_ready (rs := [4]) (by kernel_rfl) (by simp) ?_
  refine AllReadyH.cons rfl (fun K hK => ?_) AllReadyH.nil
  go_simp
  go_wp2_with ((go_at_call 15; refine (HBC.out _ () hHeld0.1.out.1 hHeld0.1.out.2.1).mono ?_; rintro e W1 ⟨rfl, rfl⟩))
  refine hK.out _ _ (by exact hHeld0) (fun hHeld1 => ?_)
  clear hK K hHeld0
  try simp only [Act.put, List.getElem_toArray, List.getElem_cons_zero, List.getElem_cons_succ, List.setIfInBounds_toArray, List.set_cons_zero, List.set_cons_succ]
  refine wpAnyH_ready (rs := [9]) (by kernel_rfl) (by simp) ?_
  refine AllReadyH.cons rfl (fun K hK => ?_) AllReadyH.nil
  go_simp
  go_wp2_with ((go_at_call 16; refine (HCC.out _).mono ?_; rintro e W2 ⟨rfl, rfl⟩))
  refine hK.out _ _ (by exact hHeld1) (fun hHeld2 => ?_)
  clear hK K hHeld1
  try simp only [Act.put, List.getElem_toArray, List.getElem_cons_zero, List.getElem_cons_succ, List.setIfInBounds_toArray, List.set_cons_zero, List.set_cons_succ]
  refine wpAnyH_ready (rs := [10]) (by kernel_rfl) (by simp) ?_
  refine AllReadyH.cons rfl (fun K hK => ?_) AllReadyH.nil
  go_simp
  refine hK.out _ _ (by exact cp_alloc hHeld2 _) (fun hHeld3 => ?_)
  clear hK K hHeld2
  try simp only [Act.put, List.getElem_toArray, List.getElem_cons_zero, List.getElem_cons_succ, List.setIfInBounds_toArray, List.set_cons_zero, List.set_cons_succ]
  refine wpAnyH_ready (rs := [11]) (by kernel_rfl) (by simp) ?_
  refine AllReadyH.cons rfl (fun K hK => ?_) AllReadyH.nil
  go_simp
  go_wp2_with ((go_at_call 14; refine (HOR.out (w.heap.size + 1 + 1) _ (Is.drew (is_newq [.int .i64 c1, .int .i64 c2] 3 (by simp)))).mono ?_; rintro e W3 ⟨rfl, rfl⟩))
  refine hK.out _ _ (by exact hHeld3) (fun hHeld4 => ?_)
  clear hK K hHeld3
  try simp only [Act.put, List.getElem_toArray, List.getElem_cons_zero, List.getElem_cons_succ, List.setIfInBounds_toArray, List.set_cons_zero, List.set_cons_succ]
  refine wpAnyH_take (i := 12) (v := ?_) rfl (by kernel_rfl) (by kernel_rfl) (by kernel_rfl) (fun _ _ _ h => h) (Or.inl ⟨by rfl, ?_⟩) hHeld4 ?_
  rotate_left
  · (intro w hSw; (try dsimp only at hSw); go_simp <;> (try with_reducible rfl))
  simp only [Act.put, List.getElem_toArray, List.getElem_cons_zero, List.getElem_cons_succ, List.setIfInBounds_toArray, List.set_cons_zero, List.set_cons_succ]
  refine wpAnyH_done (by kernel_rfl) ?_ _
  go_wp2
  go_ret
  exact ⟨rfl, hHeld4.1.out.2.2.1⟩

end Go.Proofs.YtifoldkbmpopnaaDoor
