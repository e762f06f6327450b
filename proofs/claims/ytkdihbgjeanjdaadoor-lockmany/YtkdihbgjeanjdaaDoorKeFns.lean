/- The contracts of key.secret, key.digestAt and of the functions that Sign, Public and Recover hand to endsBy. -/
import Derived.Test.YtkdihbgjeanjdaaDoorKeSum
import Derived.Deep.RegionHeld2
namespace Go.Proofs.YtkdihbgjeanjdaaDoor
open Go.RowKit
set_option linter.unusedVariables false
set_option linter.unusedSimpArgs false

set_option maxRecDepth 100000 in
set_option maxHeartbeats 4000000 in
theorem secret_any (seed : List Int) (k : Nat) (w : World) (hs : seed.length = 32) (hsb : Sz.Byt seed) (hk : k < 67) (ht : Tab w) (hw : 1 < w.heap.size) :
    Calls Tryd.prog 35 #[.agg (vals seed).toArray, .int .i64 (k : Nat)] w fun e w' => e = .returned (.agg (vals (Ky.secret seed k)).toArray) ∧ Below w.heap.size w w' := by
  have HM : Hid (∀ W b K, Below w.heap.size w W → Is W b (vals seed) 25 → Is W K [.int .u8 5, .int .u8 (k : Int)] 5 → Calls Tryd.prog 51 #[.slice (some ⟨b, 0, none⟩) 32 32, .slice (some ⟨K, 0, none⟩) 2 2] W fun e w' => e = .returned (.agg (vals (Ky.secret seed k)).toArray) ∧ Below W.heap.size W w') := fun W b K hW hI hK =>
    mac_any _ _ seed [5, (k : Int)] W (hI.has hs (by omega)) (Is.has (L := [5, (k : Int)]) hK rfl (by omega)) hsb (fun x hx => by simp at hx; omega) (ht.below hW hw) (Nat.lt_of_lt_of_le hw hW.size) (by omega) (by simp)
  have hDl : (Ky.secret seed k).length = 32 := Ky.secret_length _ _
  generalize Ky.secret seed k = D at *
  have HDL := hide hDl
  have HI0 := hide ((Is.new w (vals seed) 25).alloc (.cells (vals (List.replicate 32 0)).toArray 25))
  have HJ0 : Hid (Is ((w.alloc (.cells (vals seed).toArray 25)).alloc (.cells (vals (List.replicate 32 0)).toArray 25)) (w.heap.size + 1) (vals (List.replicate 32 0)) 25) := Is.new' _ 25 (by simp)
  have HB0 := hide (below_alloc2 w (.cells (vals seed).toArray 25) (.cells (vals (List.replicate 32 0)).toArray 25))
  have hk0 : (0 : Int) ≤ (k : Int) := by omega
  have hk1 : (k : Int) < 256 := by omega
  clear hDl hs hsb ht
  go_enter Tryd.func35, Tryd.ntmps35
  go_wp2_with (first
    | (go_at_call 51; refine (HM.out _ _ _ (HB0.out.alloc HB0.out.size _) (HI0.out.alloc _) (Is.new' _ _ (by simp))).mono ?_; rintro e w5 ⟨rfl, hb5⟩; have hJ5 := (HJ0.out.alloc (.cells #[.int .u8 5, .int .u8 (k : Int)] 5)).below hb5 (HJ0.out.alloc _).lt; have hb5' := (HB0.out.alloc HB0.out.size (.cells #[.int .u8 5, .int .u8 (k : Int)] 5)).trans (hb5.mono (HB0.out.alloc HB0.out.size _).size))
    | (refine wpList_store_any2 25 (vals (List.replicate 32 0)) (vals D) (w.heap.size + 1) rfl (.tmp 4) (.tmp 9) rfl rfl rfl rfl hJ5 size_dig (by simp [vals]) (by rw [vals_length]; exact HDL.out) (vals_one _) ?_; intro w7 hi7 hb7 hk7 hz7))
  have hr := hi7.cellsOf Tryd.underlying25 (by rw [vals_length, HDL.out]; exact size_dig)
  exact bodyPost_ret (v := .agg (vals D).toArray) (results_cell1 Tryd.results35 rfl hr) rfl ⟨rfl, hb7 _ _ hb5' (Nat.le_succ _)⟩
/-! digestAt -/
theorem range_below0 {w w' : World} {b off : Nat} {L : List Value} (h : w.rangeAt b off L) (hb : Below w.heap.size w w') (hlt : b < w.heap.size) : w'.rangeAt b off L := fun j v hv => by
  rw [hb.cell (p := ⟨b, off + j, none⟩) hlt]
  exact h j v hv
set_option maxRecDepth 100000 in
set_option maxHeartbeats 4000000 in
theorem digestAt_any (b off cap : Nat) (sig : List Int) (k : Nat) (w : World) (hs : sig.length = 2144) (hcap : 2144 ≤ cap) (hcm : cap ≤ maxLen) (hk : k < 67) (hr : w.rangeAt b off (vals sig)) (hb0 : b < w.heap.size) :
    Calls Tryd.prog 40 #[.slice (some ⟨b, off, none⟩) 2144 cap, .int .i64 (k : Nat)] w fun e w' => e = .returned (.agg (vals (Ky.sigAt sig k)).toArray) ∧ Below w.heap.size w w' := by
  unfold maxLen at hcm
  have hDl : (Ky.sigAt sig k).length = 32 := Ky.sigAt_length sig k (by omega)
  have hmid := sigAt_mid hr k (by omega)
  generalize Ky.sigAt sig k = D at *
  have HDL := hide hDl
  have HMID := hide hmid
  have hzd := zero_dig
  obtain ⟨Z, hZ⟩ : ∃ Z, Z = vals (List.replicate 32 0) := ⟨_, rfl⟩
  rw [← hZ] at hzd
  have hZl : Z.length = 32 := by rw [hZ]; simp [vals]
  have hZp : ¬ Z = [] := by intro h; rw [h] at hZl; cases hZl
  have HZL := hide hZl
  have HJ0 := hide ((Is.new w Z 25).alloc (.cells Z.toArray 25))
  have HI0 : Hid (Is ((w.alloc (.cells Z.toArray 25)).alloc (.cells Z.toArray 25)) (w.heap.size + 1) Z 25) := Is.new' _ 25 (by simp)
  have HB0 := hide (below_alloc2 w (.cells Z.toArray 25) (.cells Z.toArray 25))
  have hcne : ¬ cap = k * 32 := by omega
  have hk0 : (0 : Int) ≤ (k : Int) * 32 := by omega
  have hk1 : (k : Int) * 32 ≤ 2144 := by omega
  have hk2 : (k : Int) * 32 ≤ (cap : Int) := by omega
  have hkw : IntKind.i64.wrap ((k : Int) * 32) = (k : Int) * 32 := IntWalk.i64_in _ (by omega)
  have hkw2 : wrap64 ((k : Int) * 32) = (k : Int) * 32 := by rw [← IntWalk.i64_left]; exact hkw
  have hkt : ((k : Int) * 32).toNat = k * 32 := by omega
  clear hDl hmid hr hs hZ hZl
  go_enter Tryd.func40, Tryd.ntmps40
  go_wp2
  refine wp_region_held_drew (S := fun _ : World => True) (by kernel_rfl) ?_ (fun hHeld0 => ?_)
  · trivial
  refine wpAnyH_take (i := 0) (v := ?_) rfl (by kernel_rfl) (by kernel_rfl) (by kernel_rfl) (fun _ _ _ h => h) (Or.inl ⟨by rfl, ?_⟩) hHeld0 ?_
  rotate_left
  · (intro w hSw; (try dsimp only at hSw); go_simp <;> (try with_reducible rfl))
  simp only [Act.put, List.getElem_toArray, List.getElem_cons_zero, List.getElem_cons_succ, List.setIfInBounds_toArray, List.set_cons_zero, List.set_cons_succ]
  refine wpAnyH_take (i := 1) (v := ?_) rfl (by kernel_rfl) (by kernel_rfl) (by kernel_rfl) (fun _ _ _ h => h) (Or.inl ⟨by rfl, ?_⟩) hHeld0 ?_
  rotate_left
  · (intro w hSw; (try dsimp only at hSw); go_simp <;> (try with_reducible rfl))
  simp only [Act.put, List.getElem_toArray, List.getElem_cons_zero, List.getElem_cons_succ, List.setIfInBounds_toArray, List.set_cons_zero, List.set_cons_succ]
  refine wpAnyH_take (i := 2) (v := ?_) rfl (by kernel_rfl) (by kernel_rfl) (by kernel_rfl) (fun _ _ _ h => h) (Or.inl ⟨by rfl, ?_⟩) hHeld0 ?_
  rotate_left
  · (intro w hSw; (try dsimp only at hSw); go_simp <;> (try with_reducible rfl))
  simp only [Act.put, List.getElem_toArray, List.getElem_cons_zero, List.getElem_cons_succ, List.setIfInBounds_toArray, List.set_cons_zero, List.set_cons_succ]
  refine wpAnyH_take (i := 3) (v := ?_) rfl (by kernel_rfl) (by kernel_rfl) (by kernel_rfl) (fun _ _ _ h => h) (Or.inl ⟨by rfl, ?_⟩) hHeld0 ?_
  rotate_left
  · (intro w hSw; (try dsimp only at hSw); go_simp <;> (try with_reducible rfl))
  simp only [Act.put, List.getElem_toArray, List.getElem_cons_zero, List.getElem_cons_succ, List.setIfInBounds_toArray, List.set_cons_zero, List.set_cons_succ]
  refine wpAnyH_take (i := 4) (v := ?_) rfl (by kernel_rfl) (by kernel_rfl) (by kernel_rfl) (fun _ _ _ h => h) (Or.inl ⟨by rfl, ?_⟩) hHeld0 ?_
  rotate_left
  · (intro w hSw; (try dsimp only at hSw); go_simp <;> (try with_reducible rfl))
  simp only [Act.put, List.getElem_toArray, List.getElem_cons_zero, List.getElem_cons_succ, List.setIfInBounds_toArray, List.set_cons_zero, List.set_cons_succ]
  refine wpAnyH_ready (rs := [5]) (by kernel_rfl) (by simp) ?_
  refine AllReadyH.cons rfl (fun K hK => ?_) AllReadyH.nil
  refine step_copy_splice rfl (.tmp 6) (.tmp 10) 36 36 rfl 5 Tryd.underlying36 size_u8 _ _ 32 32 (2144 - k * 32) (cap - k * 32) rfl rfl (w.heap.size + 1) 0 Z 25 HI0.out.drew (vals D) (by rw [vals_length, HDL.out]; exact (Nat.min_eq_right (by omega)).symm) (fun _ => ⟨rfl, _, rfl, fun j v hv => ?_⟩) (by rw [vals_length, HDL.out, HZL.out]; omega) (vals_one _) (w.heap.size + 1) _ (Below.refl _ _) (Nat.le_refl _) ?_
  · rw [Addr.add_lit, Nat.mul_comm k 32]
    exact range_below0 HMID.out HB0.out.drew hb0 j v hv
  intro w6 hI6 hb6
  refine hK.out _ _ (by trivial) (fun hHeld1 => ?_)
  clear hK K hHeld0
  try simp only [Act.put, List.getElem_toArray, List.getElem_cons_zero, List.getElem_cons_succ, List.setIfInBounds_toArray, List.set_cons_zero, List.set_cons_succ]
  refine wpAnyH_done (by kernel_rfl) ?_ _
  have hI6 : Is w6 (w.heap.size + 1) (vals D) 25 := by have := hI6.out; rwa [splice, List.take_zero, List.nil_append, List.drop_eq_nil_of_le (by rw [HZL.out, vals_length, HDL.out]; omega), List.append_nil] at this
  have hj6 : Is w6 w.heap.size Z 25 := by unfold Is; rw [hb6.block w.heap.size (by simp)]; exact HJ0.out.drew
  have hb6' : Below w.heap.size w w6 := HB0.out.drew.trans (hb6.mono (by simp))
  have HI6 := hide hI6
  have HJ6 := hide hj6
  clear hI6 hj6 hb6
  go_wp2_with (first
    | (refine wpList_load_arr2 25 (vals D) (w.heap.size + 1) rfl (.tmp 5) rfl rfl HI6.out Tryd.underlying25 size_dig (by rw [vals_length]; exact HDL.out) ?_)
    | (refine wpList_store_any2 25 Z (vals D) w.heap.size rfl (.tmp 4) (.tmp 12) rfl rfl rfl rfl HJ6.out size_dig HZL.out (by rw [vals_length]; exact HDL.out) (vals_one _) ?_; intro w7 hi7 hb7 hk7 hz7))
  have hr := hi7.cellsOf Tryd.underlying25 (by rw [vals_length, HDL.out]; exact size_dig)
  exact bodyPost_ret (v := .agg (vals D).toArray) (results_cell1 Tryd.results40 rfl hr) rfl ⟨rfl, hb7 _ _ hb6' (Nat.le_refl _)⟩

set_option maxRecDepth 100000 in
set_option maxHeartbeats 4000000 in
theorem publicF_any (g : Nat) (seed : List Int) (k : Nat) (w : World) (hi : Is w g (vals seed) 25) (hs : seed.length = 32) (hsb : Sz.Byt seed) (hk : k < 67) (ht : Tab w) (hw : 1 < w.heap.size) :
    Calls Tryd.prog 33 #[.int .i64 (k : Nat), .pointer (some ⟨g, 0, none⟩)] w fun e w' => e = .returned (.agg (vals (Ky.steps (Ky.secret seed k) 15)).toArray) ∧ Below w.heap.size w w' := by
  have HS : Hid (∀ W, Below w.heap.size w W → Calls Tryd.prog 35 #[.agg (vals seed).toArray, .int .i64 (k : Nat)] W fun e w' => e = .returned (.agg (vals (Ky.secret seed k)).toArray) ∧ Below W.heap.size W w') := fun W hW => secret_any seed k W hs hsb hk (ht.below hW hw) (Nat.lt_of_lt_of_le hw hW.size)
  have HT : Hid (∀ W, Below w.heap.size w W → Calls Tryd.prog 34 #[.agg (vals (Ky.secret seed k)).toArray, .int .i64 15] W fun e w' => e = .returned (.agg (vals (Ky.steps (Ky.secret seed k) 15)).toArray) ∧ Below W.heap.size W w') := fun W hW => step_any _ 15 W (Ky.secret_length _ _) (Ky.secret_byt _ _) (by omega) (ht.below hW hw) (Nat.lt_of_lt_of_le hw hW.size)
  have hEl : (Ky.steps (Ky.secret seed k) 15).length = 32 := Ky.steps_length _ (Ky.secret_length _ _) _
  generalize Ky.steps (Ky.secret seed k) 15 = E at *
  generalize Ky.secret seed k = X at *
  have HEL := hide hEl
  have HSL := hide hs
  have HI := hide hi
  have HJ0 := hide (Is.new w (vals (List.replicate 32 0)) 25)
  have HB0 := hide (below_alloc w (.cells (vals (List.replicate 32 0)).toArray 25))
  clear hEl hs hi ht hsb
  go_enter Tryd.func33, Tryd.ntmps33
  go_wp2_with (first
    | (refine wpList_load_arr2 25 (vals seed) g rfl (.tmp 1) rfl rfl (HI.out.alloc _) Tryd.underlying25 size_dig (by rw [vals_length]; exact HSL.out) ?_)
    | (go_at_call 35; refine (HS.out _ HB0.out).mono ?_; rintro e w1 ⟨rfl, hb1⟩; have hb1' := HB0.out.trans (hb1.mono HB0.out.size))
    | (go_at_call 34; refine (HT.out _ hb1').mono ?_; rintro e w2 ⟨rfl, hb2⟩; have hb2' := hb1'.trans (hb2.mono hb1'.size); have hJ2 := (HJ0.out.below hb1 HJ0.out.lt).below hb2 (HJ0.out.below hb1 HJ0.out.lt).lt)
    | (refine wpList_store_any2 25 (vals (List.replicate 32 0)) (vals E) w.heap.size rfl (.tmp 3) (.tmp 7) rfl rfl rfl rfl hJ2 size_dig (by simp [vals]) (by rw [vals_length]; exact HEL.out) (vals_one _) ?_; intro w7 hi7 hb7 hk7 hz7))
  have hr := hi7.cellsOf Tryd.underlying25 (by rw [vals_length, HEL.out]; exact size_dig)
  exact bodyPost_ret (v := .agg (vals E).toArray) (results_cell1 Tryd.results33 rfl hr) rfl ⟨rfl, hb7 _ _ hb2' (Nat.le_refl _)⟩

theorem cell_below {w w' : World} {a : Addr} {v : Value} (h : w.cell? a = some v) (hb : Below w.heap.size w w') : w'.cell? a = some v := by
  rw [hb.cell (p := a) (World.block_lt_of_cell? w a h)]; exact h
theorem cell_setCells {w : World} {a : Addr} {v : Value} (h : w.cell? a = some v) {b : Nat} (hne : a.block ≠ b) (o : Nat) (vs : List Value) : (w.setCells b o vs).cell? a = some v := by
  rw [World.cell?_setCells_out b vs o w a (fun e => absurd e hne)]; exact h
/-- What stands while a function of endsBy runs. -/
theorem sf_below {w W W' : World} {gs gd k hs : Nat} {L : List Value} {v : Value} (h : W.rangeAt gs 0 L ∧ W.cell? ⟨gd, k, none⟩ = some v ∧ W.there hs 0 32 ∧ Below w.heap.size w W) (hb : Below W.heap.size W W') :
    W'.rangeAt gs 0 L ∧ W'.cell? ⟨gd, k, none⟩ = some v ∧ W'.there hs 0 32 ∧ Below w.heap.size w W' :=
  ⟨range_below h.1 hb, cell_below h.2.1 hb, there_below h.2.2.1 hb, h.2.2.2.trans (hb.mono h.2.2.2.size)⟩
theorem sf_store {w W : World} {gs gd k hs : Nat} {L : List Value} {v : Value} (h : W.rangeAt gs 0 L ∧ W.cell? ⟨gd, k, none⟩ = some v ∧ W.there hs 0 32 ∧ Below w.heap.size w W) (h1 : gs ≠ hs) (h2 : gd ≠ hs) (hB : w.heap.size ≤ hs) (vs : List Value) :
    (W.setCells hs 0 vs).rangeAt gs 0 L ∧ (W.setCells hs 0 vs).cell? ⟨gd, k, none⟩ = some v ∧ (W.setCells hs 0 vs).there hs 0 32 ∧ Below w.heap.size w (W.setCells hs 0 vs) :=
  ⟨World.rangeAt_setCells_apart h.1 _ _ _ (.inl h1), cell_setCells h.2.1 h2 _ _, World.there_setCells h.2.2.1 _ _ _, setCells_below hB _ _ _ h.2.2.2⟩
theorem rf_below {w W W' : World} {gs gd k hs : Nat} {u v : Value} (h : W.cell? ⟨gs, 0, none⟩ = some u ∧ W.cell? ⟨gd, k, none⟩ = some v ∧ W.there hs 0 32 ∧ Below w.heap.size w W) (hb : Below W.heap.size W W') :
    W'.cell? ⟨gs, 0, none⟩ = some u ∧ W'.cell? ⟨gd, k, none⟩ = some v ∧ W'.there hs 0 32 ∧ Below w.heap.size w W' :=
  ⟨cell_below h.1 hb, cell_below h.2.1 hb, there_below h.2.2.1 hb, h.2.2.2.trans (hb.mono h.2.2.2.size)⟩
theorem rf_store {w W : World} {gs gd k hs : Nat} {u v : Value} (h : W.cell? ⟨gs, 0, none⟩ = some u ∧ W.cell? ⟨gd, k, none⟩ = some v ∧ W.there hs 0 32 ∧ Below w.heap.size w W) (h1 : gs ≠ hs) (h2 : gd ≠ hs) (hB : w.heap.size ≤ hs) (vs : List Value) :
    (W.setCells hs 0 vs).cell? ⟨gs, 0, none⟩ = some u ∧ (W.setCells hs 0 vs).cell? ⟨gd, k, none⟩ = some v ∧ (W.setCells hs 0 vs).there hs 0 32 ∧ Below w.heap.size w (W.setCells hs 0 vs) :=
  ⟨cell_setCells h.1 h1 _ _, cell_setCells h.2.1 h2 _ _, World.there_setCells h.2.2.1 _ _ _, setCells_below hB _ _ _ h.2.2.2⟩

set_option maxRecDepth 100000 in
set_option maxHeartbeats 4000000 in
theorem signF_any (gs gd d : Nat) (seed : List Int) (k : Nat) (w : World) (h1 : Is w gs (vals seed) 25) (hs : seed.length = 32) (hsb : Sz.Byt seed) (h2 : w.cell? ⟨gd, k, none⟩ = some (.int .i64 (d : Int))) (hd : d ≤ 15) (hk : k < 67) (ht : Tab w) (hw : 1 < w.heap.size) :
    Calls Tryd.prog 38 #[.int .i64 (k : Nat), .pointer (some ⟨gs, 0, none⟩), .pointer (some ⟨gd, 0, none⟩)] w fun e w' => e = .returned (.agg (vals (Ky.steps (Ky.secret seed k) d)).toArray) ∧ Below w.heap.size w w' := by
  have HS : Hid (∀ W, Below w.heap.size w W → Calls Tryd.prog 35 #[.agg (vals seed).toArray, .int .i64 (k : Nat)] W fun e w' => e = .returned (.agg (vals (Ky.secret seed k)).toArray) ∧ Below W.heap.size W w') := fun W hW => secret_any seed k W hs hsb hk (ht.below hW hw) (Nat.lt_of_lt_of_le hw hW.size)
  have HT : Hid (∀ W, Below w.heap.size w W → Calls Tryd.prog 34 #[.agg (vals (Ky.secret seed k)).toArray, .int .i64 (d : Int)] W fun e w' => e = .returned (.agg (vals (Ky.steps (Ky.secret seed k) d)).toArray) ∧ Below W.heap.size W w') := fun W hW => by
    have := step_any (Ky.secret seed k) (d : Int) W (Ky.secret_length _ _) (Ky.secret_byt _ _) (by omega) (ht.below hW hw) (Nat.lt_of_lt_of_le hw hW.size)
    rwa [Int.toNat_natCast] at this
  have hEl : (Ky.steps (Ky.secret seed k) d).length = 32 := Ky.steps_length _ (Ky.secret_length _ _) _
  have hsz1 : (Tryd.prog.info? 25).map (·.size) = some (vals seed).length := by rw [vals_length, hs]; exact size_dig
  have hS0 : (fun W : World => W.rangeAt gs 0 (vals seed) ∧ W.cell? ⟨gd, k, none⟩ = some (.int .i64 (d : Int)) ∧ W.there w.heap.size 0 32 ∧ Below w.heap.size w W) (w.alloc (.cells (vals (List.replicate 32 0)).toArray 25)) := ⟨(h1.alloc _).range, cell_below h2 (below_alloc _ _), (Is.new w (vals (List.replicate 32 0)) 25).there (by simp [vals]), below_alloc _ _⟩
  have hg1 : gs ≠ w.heap.size := Nat.ne_of_lt h1.lt
  have hg2 : gd ≠ w.heap.size := Nat.ne_of_lt (World.block_lt_of_cell? w _ h2)
  generalize Ky.steps (Ky.secret seed k) d = E at *
  generalize Ky.secret seed k = X at *
  have hsz2 : (Tryd.prog.info? 25).map (·.size) = some (vals E).length := by rw [vals_length, hEl]; exact size_dig
  have hzd := zero_dig
  obtain ⟨Z, hZ⟩ : ∃ Z, Z = vals (List.replicate 32 0) := ⟨_, rfl⟩
  rw [← hZ] at hzd hS0
  have hZp : ¬ Z = [] := by intro h; rw [h] at hZ; cases hZ
  have HEL := hide hEl
  have HVE : Hid ((vals E).toArray.size = 32) := by show _ = _; rw [List.size_toArray, vals_length, hEl]
  have HS0 := hide hS0
  have hk0 : (0 : Int) ≤ (k : Int) := by omega
  have hk1 : (k : Int) < 67 := by omega
  have hd0 : (0 : Int) ≤ (d : Int) := by omega
  have hd1 : (d : Int) ≤ 15 := by omega
  clear hEl hS0 h1 h2 ht hZ hs hsb
  go_enter Tryd.func38, Tryd.ntmps38
  go_wp2
  refine wp_region_held_drew (S := fun W : World => W.rangeAt gs 0 (vals seed) ∧ W.cell? ⟨gd, k, none⟩ = some (.int .i64 (d : Int)) ∧ W.there w.heap.size 0 32 ∧ Below w.heap.size w W) (by kernel_rfl) ?_ (fun hHeld0 => ?_)
  · exact sf_below HS0.out ((Below.refl _ _).drew)
  refine wpAnyH_take (i := 0) (v := .agg (vals seed).toArray) rfl (by kernel_rfl) (by kernel_rfl) (by kernel_rfl) (fun _ _ _ h => h) (yieldsIf_load_mid (by rfl) _ _ rfl _ _ rfl (vals seed) _ (fun w hSw => hSw.1) Tryd.underlying25 rfl hsz1) hHeld0 ?_
  simp only [Act.put, List.getElem_toArray, List.getElem_cons_zero, List.getElem_cons_succ, List.setIfInBounds_toArray, List.set_cons_zero, List.set_cons_succ]
  refine wpAnyH_take (i := 1) (v := ?_) rfl (by kernel_rfl) (by kernel_rfl) (by kernel_rfl) (fun _ _ _ h => h) (Or.inl ⟨by rfl, ?_⟩) hHeld0 ?_
  rotate_left
  · (intro w hSw; (try dsimp only at hSw); go_simp <;> (try with_reducible rfl))
  simp only [Act.put, List.getElem_toArray, List.getElem_cons_zero, List.getElem_cons_succ, List.setIfInBounds_toArray, List.set_cons_zero, List.set_cons_succ]
  refine wpAnyH_take (i := 3) (v := ?_) rfl (by kernel_rfl) (by kernel_rfl) (by kernel_rfl) (fun _ _ _ h => h) (Or.inl ⟨by rfl, ?_⟩) hHeld0 ?_
  rotate_left
  · (intro w hSw; (try dsimp only at hSw); go_simp <;> (try with_reducible rfl))
  simp only [Act.put, List.getElem_toArray, List.getElem_cons_zero, List.getElem_cons_succ, List.setIfInBounds_toArray, List.set_cons_zero, List.set_cons_succ]
  refine wpAnyH_take (i := 4) (v := ?_) rfl (by kernel_rfl) (by kernel_rfl) (by kernel_rfl) (fun _ _ _ h => h) (Or.inl ⟨by rfl, ?_⟩) hHeld0 ?_
  rotate_left
  · (intro w hSw; (try dsimp only at hSw); go_simp <;> (try with_reducible rfl))
  simp only [Act.put, List.getElem_toArray, List.getElem_cons_zero, List.getElem_cons_succ, List.setIfInBounds_toArray, List.set_cons_zero, List.set_cons_succ]
  refine wpAnyH_take (i := 5) (v := ?_) rfl (by kernel_rfl) (by kernel_rfl) (by kernel_rfl) (fun _ _ _ h => h) (Or.inl ⟨by rfl, ?_⟩) hHeld0 ?_
  rotate_left
  · (intro w hSw; (try dsimp only at hSw); go_simp <;> (try with_reducible rfl))
  simp only [Act.put, List.getElem_toArray, List.getElem_cons_zero, List.getElem_cons_succ, List.setIfInBounds_toArray, List.set_cons_zero, List.set_cons_succ]
  refine wpAnyH_ready (rs := [2]) (by kernel_rfl) (by simp) ?_
  refine AllReadyH.cons rfl (fun K hK => ?_) AllReadyH.nil
  go_simp
  go_wp2_with ((go_at_call 35; refine (HS.out _ hHeld0.2.2.2).mono ?_; rintro e wq1 ⟨rfl, hbq1⟩))
  refine hK.out _ _ (by exact sf_below hHeld0 hbq1) (fun hHeld1 => ?_)
  clear hK K hHeld0
  try simp only [Act.put, List.getElem_toArray, List.getElem_cons_zero, List.getElem_cons_succ, List.setIfInBounds_toArray, List.set_cons_zero, List.set_cons_succ]
  refine wpAnyH_ready (rs := [6]) (by kernel_rfl) (by simp) ?_
  refine AllReadyH.cons rfl (fun K hK => ?_) AllReadyH.nil
  go_simp
  go_wp2_with ((go_at_call 34; refine (HT.out _ hHeld1.2.2.2).mono ?_; rintro e wq2 ⟨rfl, hbq2⟩))
  refine hK.out _ _ (by exact sf_below hHeld1 hbq2) (fun hHeld2 => ?_)
  clear hK K hHeld1
  try simp only [Act.put, List.getElem_toArray, List.getElem_cons_zero, List.getElem_cons_succ, List.setIfInBounds_toArray, List.set_cons_zero, List.set_cons_succ]
  refine wpAnyH_ready (rs := [7]) (by kernel_rfl) (by simp) ?_
  refine AllReadyH.cons rfl (fun K hK => ?_) AllReadyH.nil
  have hth := hHeld2.2.2.1
  rw [if_pos (by rfl)]
  refine wp_store_mid _ _ _ rfl _ _ (vals E).toArray rfl rfl (by rw [HVE.out]; exact hth) (by rw [HVE.out]; exact size_dig) (all_oneCell_toArray (vals_one _)) ?_
  simp only [Act.put, List.toList_toArray]
  refine hK.out _ _ (by exact sf_store hHeld2 hg1 hg2 (Nat.le_refl _) _) (fun hHeld3 => ?_)
  clear hK K hHeld2
  try simp only [Act.put, List.getElem_toArray, List.getElem_cons_zero, List.getElem_cons_succ, List.setIfInBounds_toArray, List.set_cons_zero, List.set_cons_succ]
  refine wpAnyH_done (by kernel_rfl) ?_ _
  have hl := run_loadVar_mid (P := Tryd.prog) _ w.heap.size 0 25 (vals E) _ (World.rangeAt_setCells_same wq2 w.heap.size 0 (vals E) (by rw [vals_length, HEL.out]; exact hth)) Tryd.underlying25 rfl hsz2
  have HL := hide hl
  have HS8 := hide hHeld3
  clear hl hHeld3 hth
  go_wp2
  exact bodyPost_ret (v := .agg (vals E).toArray) (results_cell1 Tryd.results38 rfl HL.out) rfl ⟨rfl, HS8.out.2.2.2⟩

set_option maxRecDepth 100000 in
set_option maxHeartbeats 4000000 in
theorem recoverF_any (gs gd b off cap d : Nat) (sig : List Int) (k : Nat) (w : World) (h1 : w.cell? ⟨gs, 0, none⟩ = some (.slice (some ⟨b, off, none⟩) 2144 cap)) (hs : sig.length = 2144) (hcap : 2144 ≤ cap) (hcm : cap ≤ maxLen) (hr : w.rangeAt b off (vals sig)) (hb0 : b < w.heap.size) (hsb : Sz.Byt sig) (h2 : w.cell? ⟨gd, k, none⟩ = some (.int .i64 (d : Int))) (hd : d ≤ 15) (hk : k < 67) (ht : Tab w) (hw : 1 < w.heap.size) :
    Calls Tryd.prog 39 #[.int .i64 (k : Nat), .pointer (some ⟨gs, 0, none⟩), .pointer (some ⟨gd, 0, none⟩)] w fun e w' => e = .returned (.agg (vals (Ky.steps (Ky.sigAt sig k) (15 - d))).toArray) ∧ Below w.heap.size w w' := by
  have HS : Hid (∀ W, Below w.heap.size w W → Calls Tryd.prog 40 #[.slice (some ⟨b, off, none⟩) 2144 cap, .int .i64 (k : Nat)] W fun e w' => e = .returned (.agg (vals (Ky.sigAt sig k)).toArray) ∧ Below W.heap.size W w') := fun W hW => digestAt_any b off cap sig k W hs hcap hcm hk (range_below0 hr hW hb0) (Nat.lt_of_lt_of_le hb0 hW.size)
  have HT : Hid (∀ W, Below w.heap.size w W → Calls Tryd.prog 34 #[.agg (vals (Ky.sigAt sig k)).toArray, .int .i64 (15 - (d : Int))] W fun e w' => e = .returned (.agg (vals (Ky.steps (Ky.sigAt sig k) (15 - d))).toArray) ∧ Below W.heap.size W w') := fun W hW => by
    have := step_any (Ky.sigAt sig k) (15 - (d : Int)) W (Ky.sigAt_length _ _ (by omega)) (Ky.sigAt_byt _ _ hsb) (by omega) (ht.below hW hw) (Nat.lt_of_lt_of_le hw hW.size)
    rwa [show (15 - (d : Int)).toNat = 15 - d by omega] at this
  have hEl : (Ky.steps (Ky.sigAt sig k) (15 - d)).length = 32 := Ky.steps_length _ (Ky.sigAt_length _ _ (by omega)) _
  have hwd : IntKind.i64.wrap (15 - (d : Int)) = 15 - (d : Int) := IntWalk.i64_in _ (by omega)
  have hwd2 : wrap64 (15 - (d : Int)) = 15 - (d : Int) := by rw [← IntWalk.i64_left]; exact hwd
  have hS0 : (fun W : World => W.cell? ⟨gs, 0, none⟩ = some (.slice (some ⟨b, off, none⟩) 2144 cap) ∧ W.cell? ⟨gd, k, none⟩ = some (.int .i64 (d : Int)) ∧ W.there w.heap.size 0 32 ∧ Below w.heap.size w W) (w.alloc (.cells (vals (List.replicate 32 0)).toArray 25)) := ⟨cell_below h1 (below_alloc _ _), cell_below h2 (below_alloc _ _), (Is.new w (vals (List.replicate 32 0)) 25).there (by simp [vals]), below_alloc _ _⟩
  have hg1 : gs ≠ w.heap.size := Nat.ne_of_lt (World.block_lt_of_cell? w _ h1)
  have hg2 : gd ≠ w.heap.size := Nat.ne_of_lt (World.block_lt_of_cell? w _ h2)
  generalize Ky.steps (Ky.sigAt sig k) (15 - d) = E at *
  generalize Ky.sigAt sig k = X at *
  have hsz2 : (Tryd.prog.info? 25).map (·.size) = some (vals E).length := by rw [vals_length, hEl]; exact size_dig
  have hzd := zero_dig
  obtain ⟨Z, hZ⟩ : ∃ Z, Z = vals (List.replicate 32 0) := ⟨_, rfl⟩
  rw [← hZ] at hzd hS0
  have hZp : ¬ Z = [] := by intro h; rw [h] at hZ; cases hZ
  have HEL := hide hEl
  have HVE : Hid ((vals E).toArray.size = 32) := by show _ = _; rw [List.size_toArray, vals_length, hEl]
  have HS0 := hide hS0
  have hk0 : (0 : Int) ≤ (k : Int) := by omega
  have hk1 : (k : Int) < 67 := by omega
  have hd0 : (0 : Int) ≤ (d : Int) := by omega
  have hd1 : (d : Int) ≤ 15 := by omega
  clear hEl hS0 h1 h2 ht hZ hs hr hsb hcm
  go_enter Tryd.func39, Tryd.ntmps39
  go_wp2
  refine wp_region_held_drew (S := fun W : World => W.cell? ⟨gs, 0, none⟩ = some (.slice (some ⟨b, off, none⟩) 2144 cap) ∧ W.cell? ⟨gd, k, none⟩ = some (.int .i64 (d : Int)) ∧ W.there w.heap.size 0 32 ∧ Below w.heap.size w W) (by kernel_rfl) ?_ (fun hHeld0 => ?_)
  · exact rf_below HS0.out ((Below.refl _ _).drew)
  refine wpAnyH_take (i := 0) (v := ?_) rfl (by kernel_rfl) (by kernel_rfl) (by kernel_rfl) (fun _ _ _ h => h) (Or.inl ⟨by rfl, ?_⟩) hHeld0 ?_
  rotate_left
  · (intro w hSw; (try dsimp only at hSw); go_simp <;> (try with_reducible rfl))
  simp only [Act.put, List.getElem_toArray, List.getElem_cons_zero, List.getElem_cons_succ, List.setIfInBounds_toArray, List.set_cons_zero, List.set_cons_succ]
  refine wpAnyH_take (i := 1) (v := ?_) rfl (by kernel_rfl) (by kernel_rfl) (by kernel_rfl) (fun _ _ _ h => h) (Or.inl ⟨by rfl, ?_⟩) hHeld0 ?_
  rotate_left
  · (intro w hSw; (try dsimp only at hSw); go_simp <;> (try with_reducible rfl))
  simp only [Act.put, List.getElem_toArray, List.getElem_cons_zero, List.getElem_cons_succ, List.setIfInBounds_toArray, List.set_cons_zero, List.set_cons_succ]
  refine wpAnyH_take (i := 3) (v := ?_) rfl (by kernel_rfl) (by kernel_rfl) (by kernel_rfl) (fun _ _ _ h => h) (Or.inl ⟨by rfl, ?_⟩) hHeld0 ?_
  rotate_left
  · (intro w hSw; (try dsimp only at hSw); go_simp <;> (try with_reducible rfl))
  simp only [Act.put, List.getElem_toArray, List.getElem_cons_zero, List.getElem_cons_succ, List.setIfInBounds_toArray, List.set_cons_zero, List.set_cons_succ]
  refine wpAnyH_take (i := 4) (v := ?_) rfl (by kernel_rfl) (by kernel_rfl) (by kernel_rfl) (fun _ _ _ h => h) (Or.inl ⟨by rfl, ?_⟩) hHeld0 ?_
  rotate_left
  · (intro w hSw; (try dsimp only at hSw); go_simp <;> (try with_reducible rfl))
  simp only [Act.put, List.getElem_toArray, List.getElem_cons_zero, List.getElem_cons_succ, List.setIfInBounds_toArray, List.set_cons_zero, List.set_cons_succ]
  refine wpAnyH_take (i := 5) (v := ?_) rfl (by kernel_rfl) (by kernel_rfl) (by kernel_rfl) (fun _ _ _ h => h) (Or.inl ⟨by rfl, ?_⟩) hHeld0 ?_
  rotate_left
  · (intro w hSw; (try dsimp only at hSw); go_simp <;> (try with_reducible rfl))
  simp only [Act.put, List.getElem_toArray, List.getElem_cons_zero, List.getElem_cons_succ, List.setIfInBounds_toArray, List.set_cons_zero, List.set_cons_succ]
  refine wpAnyH_take (i := 6) (v := ?_) rfl (by kernel_rfl) (by kernel_rfl) (by kernel_rfl) (fun _ _ _ h => h) (Or.inl ⟨by rfl, ?_⟩) hHeld0 ?_
  rotate_left
  · (intro w hSw; (try dsimp only at hSw); go_simp <;> (try with_reducible rfl))
  simp only [Act.put, List.getElem_toArray, List.getElem_cons_zero, List.getElem_cons_succ, List.setIfInBounds_toArray, List.set_cons_zero, List.set_cons_succ]
  refine wpAnyH_ready (rs := [2]) (by kernel_rfl) (by simp) ?_
  refine AllReadyH.cons rfl (fun K hK => ?_) AllReadyH.nil
  go_simp
  go_wp2_with ((go_at_call 40; refine (HS.out _ hHeld0.2.2.2).mono ?_; rintro e wq1 ⟨rfl, hbq1⟩))
  refine hK.out _ _ (by exact rf_below hHeld0 hbq1) (fun hHeld1 => ?_)
  clear hK K hHeld0
  try simp only [Act.put, List.getElem_toArray, List.getElem_cons_zero, List.getElem_cons_succ, List.setIfInBounds_toArray, List.set_cons_zero, List.set_cons_succ]
  refine wpAnyH_ready (rs := [7]) (by kernel_rfl) (by simp) ?_
  refine AllReadyH.cons rfl (fun K hK => ?_) AllReadyH.nil
  go_simp
  go_wp2_with ((go_at_call 34; refine (HT.out _ hHeld1.2.2.2).mono ?_; rintro e wq2 ⟨rfl, hbq2⟩))
  refine hK.out _ _ (by exact rf_below hHeld1 hbq2) (fun hHeld2 => ?_)
  clear hK K hHeld1
  try simp only [Act.put, List.getElem_toArray, List.getElem_cons_zero, List.getElem_cons_succ, List.setIfInBounds_toArray, List.set_cons_zero, List.set_cons_succ]
  refine wpAnyH_ready (rs := [8]) (by kernel_rfl) (by simp) ?_
  refine AllReadyH.cons rfl (fun K hK => ?_) AllReadyH.nil
  have hth := hHeld2.2.2.1
  rw [if_pos (by rfl)]
  refine wp_store_mid _ _ _ rfl _ _ (vals E).toArray rfl rfl (by rw [HVE.out]; exact hth) (by rw [HVE.out]; exact size_dig) (all_oneCell_toArray (vals_one _)) ?_
  simp only [Act.put, List.toList_toArray]
  refine hK.out _ _ (by exact rf_store hHeld2 hg1 hg2 (Nat.le_refl _) _) (fun hHeld3 => ?_)
  clear hK K hHeld2
  try simp only [Act.put, List.getElem_toArray, List.getElem_cons_zero, List.getElem_cons_succ, List.setIfInBounds_toArray, List.set_cons_zero, List.set_cons_succ]
  refine wpAnyH_done (by kernel_rfl) ?_ _
  have hl := run_loadVar_mid (P := Tryd.prog) _ w.heap.size 0 25 (vals E) _ (World.rangeAt_setCells_same wq2 w.heap.size 0 (vals E) (by rw [vals_length, HEL.out]; exact hth)) Tryd.underlying25 rfl hsz2
  have HL := hide hl
  have HS8 := hide hHeld3
  clear hl hHeld3 hth
  go_wp2
  exact bodyPost_ret (v := .agg (vals E).toArray) (results_cell1 Tryd.results39 rfl HL.out) rfl ⟨rfl, HS8.out.2.2.2⟩
end Go.Proofs.YtkdihbgjeanjdaaDoor
