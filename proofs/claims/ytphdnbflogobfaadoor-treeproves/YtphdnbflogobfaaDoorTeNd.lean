/- The contracts of tree.Leaf and tree.Node. -/
import Derived.Test.YtphdnbflogobfaaDoorTeSb
import Derived.Test.YtphdnbflogobfaaDoorLoadG
import Derived.Deep.RegionHeld2
namespace Go.Proofs.YtphdnbflogobfaaDoor
open Go.RowKit
set_option linter.unusedVariables false
set_option linter.unusedSimpArgs false

set_option maxRecDepth 100000 in
set_option maxHeartbeats 4000000 in
theorem leaf_any (l : List Int) (v : Value) (w : World) (hv : Has w v l) (hb : Sz.Byt l) (hl : l.length < 500000000000000) (ht : Tab w) (hw : 1 < w.heap.size) :
    Calls Tryd.prog 12 #[v] w fun e w' => e = .returned (.agg (vals (Te.leaf l)).toArray) ∧ Below w.heap.size w w' := by
  obtain ⟨va, vc, rfl⟩ := hv.form
  have HW : Hid (∀ W K, Below w.heap.size w W → Is W K [.slice va l.length vc] 23 → Calls Tryd.prog 29 #[.int .u8 0, .slice (some ⟨K, 0, none⟩) 1 1] W fun e w'' => e = .returned (.agg (vals (Te.leaf l)).toArray) ∧ Below W.heap.size W w'') := fun W K hB hK => by
    have := shb_any 0 (some ⟨K, 0, none⟩) 1 [l] W (by omega) (rows_one hK (hv.below hB)) (fun x hx => by simp at hx; subst hx; exact hb) (by simp) (by simp; omega) (ht.below hB hw) (Nat.lt_of_lt_of_le hw hB.size)
    simpa [Te.leaf] using this
  have hD : (Te.leaf l).length = 32 := Mc.sum_length _
  generalize Te.leaf l = D at *
  have HD := hide hD
  have HI := hide (Is.new w (vals (List.replicate 32 0)) 26)
  have HB := hide (below_alloc w (.cells (vals (List.replicate 32 0)).toArray 26))
  generalize l.length = n at *
  clear hD hv ht hb
  go_enter Tryd.func12, Tryd.ntmps12
  go_wp2_with (first
    | (go_at_call 29; refine (HW.out _ _ (HB.out.alloc HB.out.size _) (Is.new' _ 23 (by simp))).mono ?_; rintro e w2 ⟨rfl, hb2⟩; have hI2 := (HI.out.alloc _).below hb2 (HI.out.alloc _).lt; have hb2' := (HB.out.alloc HB.out.size _).trans (hb2.mono (HB.out.alloc HB.out.size _).size))
    | (refine te_store (vals (List.replicate 32 0)) D w.heap.size rfl (.tmp 2) (.tmp 5) rfl rfl rfl rfl hI2 (by simp [vals]) HD.out ?_; intro w7 hi7 hb7 hz7))
  have hr := hi7.cellsOf Tryd.underlying26 (by rw [vals_length, HD.out]; exact size_dig)
  exact bodyPost_ret (v := .agg (vals D).toArray) (results_cell1 Tryd.results12 rfl hr) rfl ⟨rfl, hb2'.trans (hb7.under hb2'.size (Nat.le_refl _))⟩

/-- The boxes of Node. -/
structure NdS (w : World) (L R : List Int) (W : World) : Prop where
  below : Below w.heap.size w W
  l : Is W w.heap.size (vals L) 26
  r : Is W (w.heap.size + 1) (vals R) 26
  c : ∃ C, C.length = 32 ∧ Is W (w.heap.size + 2) C 26
  tab : Tab W
theorem NdS.call {w W W' : World} {L R : List Int} (h : NdS w L R W) (hw : 1 < w.heap.size) (hb : Below W.heap.size W W') : NdS w L R W' := by
  obtain ⟨C, h1, h2⟩ := h.c
  exact ⟨h.below.trans (hb.mono h.below.size), h.l.below hb h.l.lt, h.r.below hb h.r.lt, ⟨C, h1, h2.below hb h2.lt⟩, h.tab.below hb (by have := h.below.size; omega)⟩
theorem rows_two {W : World} {K b c : Nat} {L R : List Int} (hK : Is W K [.slice (some ⟨b, 0, none⟩) 32 32, .slice (some ⟨c, 0, none⟩) 32 32] 23) (h1 : Is W b (vals L) 26) (h2 : Is W c (vals R) 26) (l1 : L.length = 32) (l2 : R.length = 32) : HasRows W (some ⟨K, 0, none⟩) 2 [L, R] :=
  ⟨rfl, fun i hi => by
    match i, hi with
    | 0, _ => exact ⟨K, 0, _, 32, 32, rfl, by rw [hK.cell]; rfl, h1.has l1 (by omega)⟩
    | 1, _ => exact ⟨K, 0, _, 32, 32, rfl, by rw [hK.cell]; rfl, h2.has l2 (by omega)⟩⟩

set_option maxRecDepth 100000 in
set_option maxHeartbeats 4000000 in
theorem node_any (L R : List Int) (w : World) (hL : L.length = 32) (hR : R.length = 32) (hLb : Sz.Byt L) (hRb : Sz.Byt R) (ht : Tab w) (hw : 1 < w.heap.size) :
    Calls Tryd.prog 20 #[.agg (vals L).toArray, .agg (vals R).toArray] w fun e w' => e = .returned (.agg (vals (Te.nd L R)).toArray) ∧ Below w.heap.size w w' := by
  have HC : Hid (∀ W K, NdS w L R W → Is W K [.slice (some ⟨w.heap.size, 0, none⟩) 32 32, .slice (some ⟨w.heap.size + 1, 0, none⟩) 32 32] 23 → Calls Tryd.prog 29 #[.int .u8 1, .slice (some ⟨K, 0, none⟩) 2 2] W fun e w' => e = .returned (.agg (vals (Te.nd L R)).toArray) ∧ Below W.heap.size W w') := fun W K h hK => by
    have := shb_any 1 (some ⟨K, 0, none⟩) 2 [L, R] W (by omega) (rows_two hK h.l h.r hL hR) (fun x hx => by simp at hx; rcases hx with rfl | rfl <;> assumption) (by simp) (by simp [hL, hR]) h.tab (Nat.lt_of_lt_of_le hw h.below.size)
    simpa [Te.nd] using this
  have HD := hide (Te.nd_length L R)
  have HS0 : Hid (NdS w L R (((w.alloc (.cells (vals L).toArray 26)).alloc (.cells (vals R).toArray 26)).alloc (.cells (vals (List.replicate 32 0)).toArray 26)).drew) := hide
    ⟨(below_alloc3 w _ _ _).drew, (((Is.new w (vals L) 26).alloc _).alloc _).drew, ((Is.new' (vals R) 26 (by simp)).alloc _).drew, ⟨vals (List.replicate 32 0), by simp [vals], (Is.new' _ 26 (by simp)).drew⟩, ht.below (below_alloc3 w _ _ _).drew hw⟩
  have hul := Tryd.underlying26
  clear hLb hRb ht
  go_enter Tryd.func20, Tryd.ntmps20
  go_wp2
  refine wp_region_held_drew (S := fun W : World => NdS w L R W) (by kernel_rfl) ?_ (fun hHeld0 => ?_)
  · exact HS0.out
  refine wpAnyH_take (i := 0) (v := ?_) rfl (by kernel_rfl) (by kernel_rfl) (by kernel_rfl) (fun _ _ _ h => h) (Or.inl ⟨by rfl, ?_⟩) hHeld0 ?_
  rotate_left
  · (intro w hSw; (try dsimp only at hSw); go_simp <;> (try with_reducible rfl))
  simp only [Act.put, List.getElem_toArray, List.getElem_cons_zero, List.getElem_cons_succ, List.setIfInBounds_toArray, List.set_cons_zero, List.set_cons_succ]
  refine wpAnyH_take (i := 1) (v := ?_) rfl (by kernel_rfl) (by kernel_rfl) (by kernel_rfl) (fun _ _ _ h => h) (Or.inl ⟨by rfl, ?_⟩) hHeld0 ?_
  rotate_left
  · (intro w hSw; (try dsimp only at hSw); go_simp <;> (try with_reducible rfl))
  simp only [Act.put, List.getElem_toArray, List.getElem_cons_zero, List.getElem_cons_succ, List.setIfInBounds_toArray, List.set_cons_zero, List.set_cons_succ]
  refine wpAnyH_ready (rs := [2]) (by kernel_rfl) (by simp) ?_
  refine AllReadyH.cons rfl (fun K hK => ?_) AllReadyH.nil
  go_simp
  refine hK.out _ _ (by exact hHeld0.call hw (below_alloc _ _)) (fun hHeld1 => ?_)
  clear hK K hHeld0
  try simp only [Act.put, List.getElem_toArray, List.getElem_cons_zero, List.getElem_cons_succ, List.setIfInBounds_toArray, List.set_cons_zero, List.set_cons_succ]
  refine wpAnyH_ready (rs := [3]) (by kernel_rfl) (by simp) ?_
  refine AllReadyH.cons rfl (fun K hK => ?_) AllReadyH.nil
  go_simp
  go_wp2_with ((go_at_call 29; refine (HC.out _ _ hHeld1 (Is.new' _ _ (by first | (simp [World.drew]; done) | rfl))).mono ?_; rintro e w6 ⟨rfl, hb6⟩))
  refine hK.out _ _ (by exact hHeld1.call hw hb6) (fun hHeld2 => ?_)
  clear hK K hHeld1
  try simp only [Act.put, List.getElem_toArray, List.getElem_cons_zero, List.getElem_cons_succ, List.setIfInBounds_toArray, List.set_cons_zero, List.set_cons_succ]
  refine wpAnyH_ready (rs := [4]) (by kernel_rfl) (by simp) ?_
  refine AllReadyH.cons rfl (fun K hK => ?_) AllReadyH.nil
  obtain ⟨C, hCl, hCi⟩ := hHeld2.c
  refine te_step_store C (Te.nd L R) (w.heap.size + 2) rfl (.tmp 4) (.tmp 8) rfl rfl rfl hCi hCl HD.out ?_
  intro w7 hi7 hb7 hz7
  have hS7 : NdS w L R w7 := ⟨hHeld2.below.trans (hb7.under hHeld2.below.size (by omega)), hHeld2.l.only hb7 hHeld2.l.lt (by omega), hHeld2.r.only hb7 hHeld2.r.lt (by omega), ⟨_, by rw [vals_length]; exact HD.out, hi7⟩, hHeld2.tab.below (hb7.under hHeld2.below.size (by omega)) hw⟩
  refine hK.out _ _ (by exact hS7) (fun hHeld3 => ?_)
  clear hK K hHeld2
  try simp only [Act.put, List.getElem_toArray, List.getElem_cons_zero, List.getElem_cons_succ, List.setIfInBounds_toArray, List.set_cons_zero, List.set_cons_succ]
  refine wpAnyH_done (by kernel_rfl) ?_ _
  go_wp2
  have hr := hi7.cellsOf Tryd.underlying26 (by rw [vals_length, HD.out]; exact size_dig)
  exact bodyPost_ret (v := .agg (vals (Te.nd L R)).toArray) (results_cell1 Tryd.results20 rfl hr) rfl ⟨rfl, hHeld3.1⟩
end Go.Proofs.YtphdnbflogobfaaDoor
