/- The walk of KeySteps: so many steps and then so many are as many as both. -/
import Derived.Test.YtdeddnlagbeanaaDoorKeSum
import Derived.Deep.RegionHeld2
namespace Go.Proofs.YtdeddnlagbeanaaDoor
open Go.RowKit
set_option linter.unusedVariables false
set_option linter.unusedSimpArgs false

/-- What a region leaves where it comes to its end. -/
def Norm (J : Act → World → Prop) : Exit → Act → World → Prop
  | .normal, a, w => J a w
  | _, _, _ => False
/-- A cut behind a piece of code. -/
theorem wp_cut {P : Program} {c : Code} {Q : Exit → Act → World → Prop} {a : Act} {w : World} (J : Act → World → Prop) (h1 : c.wp P (Norm J) a w) (h2 : ∀ a w, J a w → Q .normal a w) : c.wp P Q a w :=
  Code.wp_mono (fun e a w h => by cases e <;> first | exact h2 a w h | exact (h : False).elim) h1

/-- Two ranges and what was there stand behind a call that makes memory alone. -/
theorem two_below {w W W' : World} {a b : Nat} {x y : List Value} (h : W.rangeAt a 0 x ∧ W.rangeAt b 0 y ∧ Below w.heap.size w W) (hb : Below W.heap.size W W') : W'.rangeAt a 0 x ∧ W'.rangeAt b 0 y ∧ Below w.heap.size w W' :=
  ⟨range_below h.1 hb, range_below h.2.1 hb, h.2.2.trans (hb.mono h.2.2.size)⟩

theorem dig_same (A B : List Int) (hB : B.length = 32) (h : A = B) (w : World) : (Op.equalIn 10000 23 (.agg (vals A).toArray) (.agg (vals B).toArray)).run Tryd.prog w = .ok true w := by
  subst h
  rw [dig_eq _ _ hB hB]; simp
theorem step_zero_ne : Ky.steps (List.replicate 32 0) 1 ≠ List.replicate 32 0 := fun h => Ky.step_zero (by
  have e : Ky.step (List.replicate 32 0) = List.replicate 32 0 := h
  rw [e]; rfl)

set_option maxRecDepth 100000 in
set_option maxHeartbeats 4000000 in
theorem ksteps_main (d : List Int) (m n : Int) (w : World) (hd : d.length = 32) (hb : Sz.Byt d) (ht : Tab w) (hw : 1 < w.heap.size) (hm0 : ¬ m < 0) (hn0 : ¬ n < 0) (hm1 : ¬ 200 < m) (hn1 : ¬ 200 < n) :
    Calls Tryd.prog 5 #[.agg (vals d).toArray, .int .i64 m, .int .i64 n] w fun e w' => e = .returned (.bool true) ∧ Below w.heap.size w w' := by
  obtain ⟨f, hf⟩ : ∃ f : List Int → Int → List Int, f = fun x z => Ky.steps x z.toNat := ⟨_, rfl⟩
  have HS : Hid (∀ W (x : List Int) (z : Int), Below w.heap.size w W → x.length = 32 → Sz.Byt x → z ≤ 1000 → Calls Tryd.prog 15 #[.agg (vals x).toArray, .int .i64 z] W fun e w' => e = .returned (.agg (vals (f x z)).toArray) ∧ Below W.heap.size W w') := fun W x z hW hx hxb hz => by
    rw [hf]; exact step_any x z W hx hxb (by omega) (ht.below hW hw) (Nat.lt_of_lt_of_le hw hW.size)
  have HFL : Hid (∀ x z, x.length = 32 → (f x z).length = 32) := fun x z hx => by rw [hf]; exact Ky.steps_length _ hx _
  have HFB : Hid (∀ x z, Sz.Byt x → Sz.Byt (f x z)) := fun x z hx => by rw [hf]; exact Ky.steps_byt _ hx _
  have heq1 : ∀ w', (Op.equalIn 10000 23 (.agg (vals (f (f d m) n)).toArray) (.agg (vals (f d (m + n))).toArray)).run Tryd.prog w' = .ok true w' := fun w' => by
    refine dig_same _ _ (HFL.out _ _ hd) ?_ w'
    rw [hf]
    show Ky.steps (Ky.steps d m.toNat) n.toNat = Ky.steps d (m + n).toNat
    rw [Ky.steps_add, show (m + n).toNat = m.toNat + n.toNat by omega]
  have heq2 : ∀ w', (Op.equalIn 10000 23 (.agg (vals (f d 0)).toArray) (.agg (vals d).toArray)).run Tryd.prog w' = .ok true w' := fun w' => by
    refine dig_same _ _ hd ?_ w'
    rw [hf]; rfl
  obtain ⟨Z, hZ⟩ : ∃ Z : List Int, Z = List.replicate 32 0 := ⟨_, rfl⟩
  have hzd := zero_dig
  have hZl : Z.length = 32 := by rw [hZ]; rfl
  have hZb : Sz.Byt Z := fun x hx => by rw [hZ] at hx; rw [List.eq_of_mem_replicate hx]; omega
  have heq3 : ∀ w', (Op.equalIn 10000 23 (.agg (vals (f Z 1)).toArray) (.agg (vals Z).toArray)).run Tryd.prog w' = .ok false w' := fun w' => by
    rw [dig_eq _ _ (HFL.out _ _ hZl) hZl, hf, hZ, decide_eq_false]; exact step_zero_ne
  rw [← hZ] at hzd
  have hgd := guard_dig
  have hvz : ¬ vals Z = [] := by intro h; have : (vals Z).length = 0 := by rw [h]; rfl
                                 rw [vals_length, hZl] at this; cases this
  have HZL := hide hZl
  have HZB := hide hZb
  have HDL := hide hd
  have HDB := hide hb
  have HI0 := hide (Is.new w (vals d) 23)
  have HB0 := hide (below_alloc w (.cells (vals d).toArray 23))
  have d1 : decide (m < 0) = false := decide_eq_false hm0
  have d2 : decide (n < 0) = false := decide_eq_false hn0
  have d3 : decide (200 < m) = false := decide_eq_false hm1
  have d4 : decide (200 < n) = false := decide_eq_false hn1
  clear hf hZ hZl hZb hd hb ht
  go_enter Tryd.func5, Tryd.ntmps5
  go_wp2_with (first
    | (go_at_call 15; refine (HS.out _ Z 1 HB0.out HZL.out HZB.out (by omega)).mono ?_; rintro e w1 ⟨rfl, hb1⟩; have hb1' := HB0.out.trans (hb1.mono HB0.out.size); have hI1 := HI0.out.below hb1 HI0.out.lt)
    | (refine wpList_store_any2 23 (vals Z) (vals (f Z 1)) w1.heap.size rfl (.tmp 7) (.tmp 23) rfl rfl rfl rfl (Is.new w1 _ _) size_dig (by rw [vals_length]; exact HZL.out) (by rw [vals_length]; exact HFL.out _ _ HZL.out) (vals_one _) ?_; intro w2 hi2 hb2 hk2 hz2))
  have hb2' := hb2 _ _ (hb1'.alloc hb1'.size _) hb1'.size
  have hS0 : w2.rangeAt w.heap.size 0 (vals d) ∧ w2.rangeAt w1.heap.size 0 (vals (f Z 1)) ∧ Below w.heap.size w w2 :=
    ⟨(hk2 _ _ _ (by have := hI1.lt; omega) (hI1.alloc _)).range, hi2.range, hb2'⟩
  obtain ⟨g, hg⟩ : ∃ g, g = w1.heap.size := ⟨_, rfl⟩
  rw [← hg] at hS0 ⊢
  have HS0 := hide hS0
  have hul2 := Tryd.underlying23
  have hsz1 : (Tryd.prog.info? 23).map (·.size) = some (vals d).length := by rw [vals_length, HDL.out]; exact size_dig
  have hsz2 : (Tryd.prog.info? 23).map (·.size) = some (vals (f Z 1)).length := by rw [vals_length, HFL.out _ _ HZL.out]; exact size_dig
  have hmn : m + n ≤ 1000 := by omega
  have hwr1 : IntKind.i64.wrap (m + n) = m + n := IntWalk.i64_in _ (by omega)
  have hwr2 : wrap64 (m + n) = m + n := by rw [← IntWalk.i64_left]; exact hwr1
  have hm3 : m ≤ 1000 := by omega
  have hn3 : n ≤ 1000 := by omega
  have HD1 := hide (HFL.out d m HDL.out)
  have HD2 := hide (HFB.out d m HDB.out)
  clear hS0 hg hb1 hb1' hI1 hi2 hb2 hk2 hz2 hb2' HI0 HB0
  refine wp_region_held_drew (S := fun W : World => W.rangeAt w.heap.size 0 (vals d) ∧ W.rangeAt g 0 (vals (f Z 1)) ∧ Below w.heap.size w W) (by kernel_rfl) ?_ (fun hHeld0 => ?_)
  · exact two_below HS0.out ((Below.refl _ _).drew)
  refine wpAnyH_take (i := 0) (v := .agg (vals d).toArray) rfl (by kernel_rfl) (by kernel_rfl) (by kernel_rfl) (fun _ _ _ h => h) (yieldsIf_load_mid (by rfl) _ _ rfl _ _ rfl (vals d) _ (fun w hSw => hSw.1) Tryd.underlying23 rfl hsz1) hHeld0 ?_
  simp only [Act.put, List.getElem_toArray, List.getElem_cons_zero, List.getElem_cons_succ, List.setIfInBounds_toArray, List.set_cons_zero, List.set_cons_succ]
  refine wpAnyH_take (i := 1) (v := ?_) rfl (by kernel_rfl) (by kernel_rfl) (by kernel_rfl) (fun _ _ _ h => h) (Or.inl ⟨by rfl, ?_⟩) hHeld0 ?_
  rotate_left
  · (intro w hSw; (try dsimp only at hSw); go_simp <;> (try with_reducible rfl))
  simp only [Act.put, List.getElem_toArray, List.getElem_cons_zero, List.getElem_cons_succ, List.setIfInBounds_toArray, List.set_cons_zero, List.set_cons_succ]
  refine wpAnyH_take (i := 3) (v := ?_) rfl (by kernel_rfl) (by kernel_rfl) (by kernel_rfl) (fun _ _ _ h => h) (Or.inl ⟨by rfl, ?_⟩) hHeld0 ?_
  rotate_left
  · (intro w hSw; (try dsimp only at hSw); go_simp <;> (try with_reducible rfl))
  simp only [Act.put, List.getElem_toArray, List.getElem_cons_zero, List.getElem_cons_succ, List.setIfInBounds_toArray, List.set_cons_zero, List.set_cons_succ]
  refine wpAnyH_take (i := 5) (v := .agg (vals d).toArray) rfl (by kernel_rfl) (by kernel_rfl) (by kernel_rfl) (fun _ _ _ h => h) (yieldsIf_load_mid (by rfl) _ _ rfl _ _ rfl (vals d) _ (fun w hSw => hSw.1) Tryd.underlying23 rfl hsz1) hHeld0 ?_
  simp only [Act.put, List.getElem_toArray, List.getElem_cons_zero, List.getElem_cons_succ, List.setIfInBounds_toArray, List.set_cons_zero, List.set_cons_succ]
  refine wpAnyH_take (i := 6) (v := ?_) rfl (by kernel_rfl) (by kernel_rfl) (by kernel_rfl) (fun _ _ _ h => h) (Or.inl ⟨by rfl, ?_⟩) hHeld0 ?_
  rotate_left
  · (intro w hSw; (try dsimp only at hSw); go_simp <;> (try with_reducible rfl))
  simp only [Act.put, List.getElem_toArray, List.getElem_cons_zero, List.getElem_cons_succ, List.setIfInBounds_toArray, List.set_cons_zero, List.set_cons_succ]
  refine wpAnyH_take (i := 7) (v := ?_) rfl (by kernel_rfl) (by kernel_rfl) (by kernel_rfl) (fun _ _ _ h => h) (Or.inl ⟨by rfl, ?_⟩) hHeld0 ?_
  rotate_left
  · (intro w hSw; (try dsimp only at hSw); go_simp <;> (try with_reducible rfl))
  simp only [Act.put, List.getElem_toArray, List.getElem_cons_zero, List.getElem_cons_succ, List.setIfInBounds_toArray, List.set_cons_zero, List.set_cons_succ]
  refine wpAnyH_take (i := 8) (v := ?_) rfl (by kernel_rfl) (by kernel_rfl) (by kernel_rfl) (fun _ _ _ h => h) (Or.inl ⟨by rfl, ?_⟩) hHeld0 ?_
  rotate_left
  · (intro w hSw; (try dsimp only at hSw); go_simp <;> (try with_reducible rfl))
  simp only [Act.put, List.getElem_toArray, List.getElem_cons_zero, List.getElem_cons_succ, List.setIfInBounds_toArray, List.set_cons_zero, List.set_cons_succ]
  refine wpAnyH_ready (rs := [2]) (by kernel_rfl) (by simp) ?_
  refine AllReadyH.cons rfl (fun K hK => ?_) AllReadyH.nil
  go_simp
  go_wp2_with ((go_at_call 15; refine (HS.out _ _ _ hHeld0.2.2 (by first | exact HDL.out | exact HD1.out) (by first | exact HDB.out | exact HD2.out) (by omega)).mono ?_; rintro e wq1 ⟨rfl, hbq1⟩))
  refine hK.out _ _ (by exact two_below hHeld0 hbq1) (fun hHeld1 => ?_)
  clear hK K hHeld0
  try simp only [Act.put, List.getElem_toArray, List.getElem_cons_zero, List.getElem_cons_succ, List.setIfInBounds_toArray, List.set_cons_zero, List.set_cons_succ]
  refine wpAnyH_ready (rs := [4]) (by kernel_rfl) (by simp) ?_
  refine AllReadyH.cons rfl (fun K hK => ?_) AllReadyH.nil
  go_simp
  go_wp2_with ((go_at_call 15; refine (HS.out _ _ _ hHeld1.2.2 (by first | exact HDL.out | exact HD1.out) (by first | exact HDB.out | exact HD2.out) (by omega)).mono ?_; rintro e wq2 ⟨rfl, hbq2⟩))
  refine hK.out _ _ (by exact two_below hHeld1 hbq2) (fun hHeld2 => ?_)
  clear hK K hHeld1
  try simp only [Act.put, List.getElem_toArray, List.getElem_cons_zero, List.getElem_cons_succ, List.setIfInBounds_toArray, List.set_cons_zero, List.set_cons_succ]
  refine wpAnyH_ready (rs := [9]) (by kernel_rfl) (by simp) ?_
  refine AllReadyH.cons rfl (fun K hK => ?_) AllReadyH.nil
  go_simp
  go_wp2_with ((go_at_call 15; refine (HS.out _ _ _ hHeld2.2.2 (by first | exact HDL.out | exact HD1.out) (by first | exact HDB.out | exact HD2.out) (by omega)).mono ?_; rintro e wq3 ⟨rfl, hbq3⟩))
  refine hK.out _ _ (by exact two_below hHeld2 hbq3) (fun hHeld3 => ?_)
  clear hK K hHeld2
  try simp only [Act.put, List.getElem_toArray, List.getElem_cons_zero, List.getElem_cons_succ, List.setIfInBounds_toArray, List.set_cons_zero, List.set_cons_succ]
  refine wpAnyH_take (i := 10) (v := ?_) rfl (by kernel_rfl) (by kernel_rfl) (by kernel_rfl) (fun _ _ _ h => h) (Or.inl ⟨by rfl, ?_⟩) hHeld3 ?_
  rotate_left
  · (intro w hSw; (try dsimp only at hSw); go_simp <;> (try with_reducible rfl))
  simp only [Act.put, List.getElem_toArray, List.getElem_cons_zero, List.getElem_cons_succ, List.setIfInBounds_toArray, List.set_cons_zero, List.set_cons_succ]
  refine wpAnyH_take (i := 11) (v := ?_) rfl (by kernel_rfl) (by kernel_rfl) (by kernel_rfl) (fun _ _ _ h => h) (Or.inl ⟨by rfl, ?_⟩) hHeld3 ?_
  rotate_left
  · (intro w hSw; (try dsimp only at hSw); go_simp <;> (try with_reducible rfl))
  simp only [Act.put, List.getElem_toArray, List.getElem_cons_zero, List.getElem_cons_succ, List.setIfInBounds_toArray, List.set_cons_zero, List.set_cons_succ]
  refine wpAnyH_take (i := 12) (v := .agg (vals d).toArray) rfl (by kernel_rfl) (by kernel_rfl) (by kernel_rfl) (fun _ _ _ h => h) (yieldsIf_load_mid (by rfl) _ _ rfl _ _ rfl (vals d) _ (fun w hSw => hSw.1) Tryd.underlying23 rfl hsz1) hHeld3 ?_
  simp only [Act.put, List.getElem_toArray, List.getElem_cons_zero, List.getElem_cons_succ, List.setIfInBounds_toArray, List.set_cons_zero, List.set_cons_succ]
  refine wpAnyH_take (i := 14) (v := .agg (vals d).toArray) rfl (by kernel_rfl) (by kernel_rfl) (by kernel_rfl) (fun _ _ _ h => h) (yieldsIf_load_mid (by rfl) _ _ rfl _ _ rfl (vals d) _ (fun w hSw => hSw.1) Tryd.underlying23 rfl hsz1) hHeld3 ?_
  simp only [Act.put, List.getElem_toArray, List.getElem_cons_zero, List.getElem_cons_succ, List.setIfInBounds_toArray, List.set_cons_zero, List.set_cons_succ]
  refine wpAnyH_ready (rs := [13]) (by kernel_rfl) (by simp) ?_
  refine AllReadyH.cons rfl (fun K hK => ?_) AllReadyH.nil
  go_simp
  go_wp2_with ((go_at_call 15; refine (HS.out _ _ _ hHeld3.2.2 (by first | exact HDL.out | exact HD1.out) (by first | exact HDB.out | exact HD2.out) (by omega)).mono ?_; rintro e wq4 ⟨rfl, hbq4⟩))
  refine hK.out _ _ (by exact two_below hHeld3 hbq4) (fun hHeld4 => ?_)
  clear hK K hHeld3
  try simp only [Act.put, List.getElem_toArray, List.getElem_cons_zero, List.getElem_cons_succ, List.setIfInBounds_toArray, List.set_cons_zero, List.set_cons_succ]
  refine wpAnyH_take (i := 15) (v := ?_) rfl (by kernel_rfl) (by kernel_rfl) (by kernel_rfl) (fun _ _ _ h => h) (Or.inl ⟨by rfl, ?_⟩) hHeld4 ?_
  rotate_left
  · (intro w hSw; (try dsimp only at hSw); go_simp <;> (try with_reducible rfl))
  simp only [Act.put, List.getElem_toArray, List.getElem_cons_zero, List.getElem_cons_succ, List.setIfInBounds_toArray, List.set_cons_zero, List.set_cons_succ]
  refine wpAnyH_take (i := 16) (v := ?_) rfl (by kernel_rfl) (by kernel_rfl) (by kernel_rfl) (fun _ _ _ h => h) (Or.inl ⟨by rfl, ?_⟩) hHeld4 ?_
  rotate_left
  · (intro w hSw; (try dsimp only at hSw); go_simp <;> (try with_reducible rfl))
  simp only [Act.put, List.getElem_toArray, List.getElem_cons_zero, List.getElem_cons_succ, List.setIfInBounds_toArray, List.set_cons_zero, List.set_cons_succ]
  refine wpAnyH_take (i := 17) (v := ?_) rfl (by kernel_rfl) (by kernel_rfl) (by kernel_rfl) (fun _ _ _ h => h) (Or.inl ⟨by rfl, ?_⟩) hHeld4 ?_
  rotate_left
  · (intro w hSw; (try dsimp only at hSw); go_simp <;> (try with_reducible rfl))
  simp only [Act.put, List.getElem_toArray, List.getElem_cons_zero, List.getElem_cons_succ, List.setIfInBounds_toArray, List.set_cons_zero, List.set_cons_succ]
  refine wpAnyH_take (i := 18) (v := .agg (vals (f Z 1)).toArray) rfl (by kernel_rfl) (by kernel_rfl) (by kernel_rfl) (fun _ _ _ h => h) (yieldsIf_load_mid (by rfl) _ _ rfl _ _ rfl (vals (f Z 1)) _ (fun w hSw => hSw.2.1) Tryd.underlying23 rfl hsz2) hHeld4 ?_
  simp only [Act.put, List.getElem_toArray, List.getElem_cons_zero, List.getElem_cons_succ, List.setIfInBounds_toArray, List.set_cons_zero, List.set_cons_succ]
  refine wpAnyH_take (i := 19) (v := ?_) rfl (by kernel_rfl) (by kernel_rfl) (by kernel_rfl) (fun _ _ _ h => h) (Or.inl ⟨by rfl, ?_⟩) hHeld4 ?_
  rotate_left
  · (intro w hSw; (try dsimp only at hSw); go_simp <;> (try with_reducible rfl))
  simp only [Act.put, List.getElem_toArray, List.getElem_cons_zero, List.getElem_cons_succ, List.setIfInBounds_toArray, List.set_cons_zero, List.set_cons_succ]
  refine wpAnyH_take (i := 20) (v := ?_) rfl (by kernel_rfl) (by kernel_rfl) (by kernel_rfl) (fun _ _ _ h => h) (Or.inl ⟨by rfl, ?_⟩) hHeld4 ?_
  rotate_left
  · (intro w hSw; (try dsimp only at hSw); go_simp <;> (try with_reducible rfl))
  simp only [Act.put, List.getElem_toArray, List.getElem_cons_zero, List.getElem_cons_succ, List.setIfInBounds_toArray, List.set_cons_zero, List.set_cons_succ]
  refine wpAnyH_take (i := 21) (v := ?_) rfl (by kernel_rfl) (by kernel_rfl) (by kernel_rfl) (fun _ _ _ h => h) (Or.inl ⟨by rfl, ?_⟩) hHeld4 ?_
  rotate_left
  · (intro w hSw; (try dsimp only at hSw); go_simp <;> (try with_reducible rfl))
  simp only [Act.put, List.getElem_toArray, List.getElem_cons_zero, List.getElem_cons_succ, List.setIfInBounds_toArray, List.set_cons_zero, List.set_cons_succ]
  refine wpAnyH_take (i := 22) (v := ?_) rfl (by kernel_rfl) (by kernel_rfl) (by kernel_rfl) (fun _ _ _ h => h) (Or.inl ⟨by rfl, ?_⟩) hHeld4 ?_
  rotate_left
  · (intro w hSw; (try dsimp only at hSw); go_simp <;> (try with_reducible rfl))
  simp only [Act.put, List.getElem_toArray, List.getElem_cons_zero, List.getElem_cons_succ, List.setIfInBounds_toArray, List.set_cons_zero, List.set_cons_succ]
  refine wpAnyH_done (by kernel_rfl) ?_ _
  go_wp2
  go_ret
  exact ⟨rfl, hHeld4.2.2⟩

set_option maxRecDepth 100000 in
/-- The walk, for any numbers. -/
theorem ksteps_walk (d : List Int) (m n : Int) (w : World) (hd : d.length = 32) (hb : Sz.Byt d) (ht : Tab w) (hw : 1 < w.heap.size) :
    Calls Tryd.prog 5 #[.agg (vals d).toArray, .int .i64 m, .int .i64 n] w fun e w' => e = .returned (.bool true) ∧ Below w.heap.size w w' := by
  by_cases h1 : m < 0
  · have d1 : decide (m < 0) = true := decide_eq_true h1
    go_enter Tryd.func5, Tryd.ntmps5
    go_wp2
    go_ret
    exact ⟨rfl, below_alloc _ _⟩
  · have d1 : decide (m < 0) = false := decide_eq_false h1
    by_cases h2 : n < 0
    · have d2 : decide (n < 0) = true := decide_eq_true h2
      go_enter Tryd.func5, Tryd.ntmps5
      go_wp2
      go_ret
      exact ⟨rfl, below_alloc _ _⟩
    · have d2 : decide (n < 0) = false := decide_eq_false h2
      by_cases h3 : 200 < m
      · have d3 : decide (200 < m) = true := decide_eq_true h3
        go_enter Tryd.func5, Tryd.ntmps5
        go_wp2
        go_ret
        exact ⟨rfl, below_alloc _ _⟩
      · have d3 : decide (200 < m) = false := decide_eq_false h3
        by_cases h4 : 200 < n
        · have d4 : decide (200 < n) = true := decide_eq_true h4
          go_enter Tryd.func5, Tryd.ntmps5
          go_wp2
          go_ret
          exact ⟨rfl, below_alloc _ _⟩
        · exact ksteps_main d m n w hd hb ht hw h1 h2 h3 h4
end Go.Proofs.YtdeddnlagbeanaaDoor
