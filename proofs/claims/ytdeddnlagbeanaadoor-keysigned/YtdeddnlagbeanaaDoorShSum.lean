/- The contracts of the hasher's New, Write and Sum, and of sha.Sum. -/
import Derived.Test.YtdeddnlagbeanaaDoorShWrite
namespace Go.Proofs.YtdeddnlagbeanaaDoor
open Go.RowKit
set_option linter.unusedVariables false

theorem hwrite_nil (g cap : Nat) (a : Option Addr) (w : World) :
    Calls Tryd.prog 37 #[.pointer (some ⟨g, 0, none⟩), .slice a 0 cap] w fun e w' => e = .returned (.tuple #[]) ∧ w = w' := by
  go_enter Tryd.func37, Tryd.ntmps37
  go_wp2
  go_loop [1] (fun v => v = .slice a 0 cap) (fun _ => 0)
  case atStart => exact rfl
  case round =>
    obtain rfl := hrel
    go_wp2
    go_end0
    exact ⟨rfl, rfl⟩

/-- The hasher in block g has taken all. -/
def Hash (w : World) (g : Nat) (all : List Int) : Prop := ∃ st R, Abs st R all ∧ Is w g (hcells st R all.length) 75
theorem Hash.below {w w' : World} {g B : Nat} {all : List Int} (h : Hash w g all) (k : Below B w w') (hB : g < B) : Hash w' g all := by
  obtain ⟨st, R, h1, h2⟩ := h
  exact ⟨st, R, h1, h2.below k hB⟩
theorem Hash.lt {w : World} {g : Nat} {all : List Int} (h : Hash w g all) : g < w.heap.size := by
  obtain ⟨st, R, h1, h2⟩ := h
  exact h2.lt

theorem hwrite_any (g : Nat) (v : Value) (all l : List Int) (w : World) (hH : Hash w g all) (ht : Tab w) (hg : 1 < g) (h : Has w v l) (hne : ∀ b off n c, v = .slice (some ⟨b, off, none⟩) n c → 0 < n → b ≠ g) (hbt : Sz.Byt l) (hlen : all.length + l.length < 2305843009213693952) :
    Calls Tryd.prog 37 #[.pointer (some ⟨g, 0, none⟩), v] w fun e w' => e = .returned (.tuple #[]) ∧ Hash w' g (all ++ l) ∧ Only g w.heap.size w w' := by
  obtain ⟨st, R, hA, hS⟩ := hH
  rcases h with ⟨a, cap, rfl, rfl, hm, hn⟩ | ⟨b, off, cap, rfl, h0, h1, hm, hc⟩
  · refine (hwrite_nil g cap a w).mono fun e w' ⟨he, hw⟩ => ?_
    subst hw
    rw [List.append_nil]
    exact ⟨he, ⟨st, R, hA, hS⟩, Only.refl _ _ _⟩
  · refine (hwrite_some g b off cap all l st R w hA hS ht hg (hne b off _ _ rfl h0) hbt h0 h1 hm hc hlen).mono fun e w' ⟨he, ⟨st', R', h2, h3⟩, ho⟩ => ?_
    exact ⟨he, ⟨st', R', h2, h3⟩, ho⟩

theorem size_hash : Sized 75 73 := by unfold Sized; kernel_rfl
def zhash : List Value := hcells ⟨0, 0, 0, 0, 0, 0, 0, 0⟩ (List.replicate 64 0) 0
theorem zero_hash (w : World) : (zeroValue 75).run Tryd.prog w = .ok (.agg zhash.toArray) w := by
  have h : (Tryd.prog.info? 75).map (fun i => (i.zero, i.size)) = some (some (.agg zhash.toArray), 73) := by kernel_rfl
  exact (zero_of_info h).1 w

set_option maxRecDepth 100000 in
theorem new_any (w : World) :
    Calls Tryd.prog 36 #[] w fun e w' => e = .returned (.pointer (some ⟨w.heap.size, 0, none⟩)) ∧ Hash w' w.heap.size [] ∧ Below w.heap.size w w' := by
  have hz := zero_hash
  have hzl : ¬ zhash.length < 8 := by decide
  go_enter Tryd.func36, Tryd.ntmps36
  go_wp2
  go_ret
  refine ⟨rfl, ⟨Sh.init, List.replicate 64 0, Abs.zero _ (by simp) (fun x hx => ?_), Is.new w (hcells Sh.init (List.replicate 64 0) 0) 75⟩, below_alloc w _⟩
  rw [List.eq_of_mem_replicate hx]; omega

theorem hasher_desc : ∃ fs, Tryd.prog.underlying 75 = some (.struct fs) := ⟨_, Tryd.underlying75⟩
theorem hcells_one (st : Sh.St) (R : List Int) (n : Nat) : ∀ v ∈ hcells st R n, v.oneCell' = true := by
  intro v hv
  simp only [hcells, List.mem_append, List.mem_singleton] at hv
  rcases hv with hv | hv | rfl
  · exact wvals_one _ v hv
  · exact vals_one _ v hv
  · rfl
theorem slice_end (g n : Nat) (w : World) (h : n ≤ 72) : (Instr.sliceAt 77 (.pointer (some ⟨g, 0, none⟩)) none (some (.int .i64 (n : Int))) none).run Tryd.prog w = .ok (.slice (some ⟨g, 0, none⟩) n 72) w := by
  have hu := Tryd.underlying77
  have ha : Tryd.prog.arrayLen 77 = 72 := by simp [Program.arrayLen, hu]
  have he : Tryd.prog.elem 77 = 5 := by simp [Program.elem, hu]
  have := run_sliceAt_array_h (P := Tryd.prog) w 77 ⟨g, 0, none⟩ (by rw [ha, he]; exact hu) .i64 (n : Int) (by omega) (by rw [ha]; omega)
  rw [this, he, size_u8', ha]
  simp [slicedAt, Addr.add_lit]

set_option maxRecDepth 100000 in
set_option maxHeartbeats 400000 in
theorem hsum_any (g : Nat) (all : List Int) (w : World) (hH : Hash w g all) (ht : Tab w) (hg : 1 < g) (hlen : all.length < 1152921504606846976) :
    Calls Tryd.prog 38 #[.pointer (some ⟨g, 0, none⟩)] w fun e w' => e = .returned (.agg (vals (Sh.sum all)).toArray) ∧ Below w.heap.size w w' := by
  obtain ⟨st, R, hA, hS⟩ := hH
  have hA' := hide hA
  have hR := hA.len
  have hcl := hcells_length st R all.length hR
  have hct0 := hS.cell 72
  rw [hcells_taken _ _ _ hR] at hct0
  obtain ⟨n, hn⟩ : ∃ n, n = all.length := ⟨_, rfl⟩
  obtain ⟨H, hH⟩ : ∃ H, H = hcells st R all.length := ⟨_, rfl⟩
  obtain ⟨E, hE⟩ : ∃ E, E = pend n 8 := ⟨_, rfl⟩
  obtain ⟨q, hq⟩ : ∃ q, q = 9 + Sh.zeros n := ⟨_, rfl⟩
  obtain ⟨X, hX⟩ : ∃ X, X = Sh.ending n := ⟨_, rfl⟩
  have HEND : Hid (∀ w', Calls Tryd.prog 47 #[.int .u64 (n : Int)] w' fun e w'' => e = .returned (.tuple #[.agg (vals E).toArray, .int .i64 (q : Int)]) ∧ Below w'.heap.size w' w'') := fun w' => by rw [hE, hq]; exact ending_any n w' (by omega)
  have hEl : (vals E).length = 72 := by rw [vals_length, hE, pend_length]
  have hXE : E.take q = X := by rw [hE, hq, hX]; exact pend_all n
  have hXl : X.length = q := by rw [hX, hq]; exact ending_length n
  have hXb : Sz.Byt X := by rw [hX]; exact ending_byt n
  have hq72 : q ≤ 72 := by have := zeros_lt n; omega
  have hq0 : 0 < q := by omega
  have HSUM : Hid (∀ st', st' = Sh.comp (all ++ X) ((all ++ X).length / 64) → Sh.digest st' = Sh.sum all) := fun st' h => by rw [h, hX, hn]; rfl
  rw [← hn] at hct0
  have hH1 : ∀ v ∈ H, v.oneCell' = true := by rw [hH]; exact hcells_one _ _ _
  have hHash : Hid (∀ w' b, Is w' b H 75 → Hash w' b all) := fun w' b h => ⟨st, R, hA, by rw [hH] at h; exact h⟩
  rw [← hH] at hS hcl
  have hlt := hS.lt
  have HS := hide hS
  have HCL := hide hcl
  have HEL := hide hEl
  have HXE := hide hXE
  have HXL := hide hXl
  have HH1 := hide hH1
  have HT := hide ht
  have hnl : n < 1152921504606846976 := by omega
  have HNL : Hid (all.length + X.length < 2305843009213693952) := by show _ < _; omega
  have hzl : zhash.length = 73 := hcells_length _ _ _ (by simp)
  have hze : ∀ w, (zeroValue 77).run Tryd.prog w = .ok (.agg (vals (List.replicate 72 0)).toArray) w := zero_end
  obtain ⟨Y, hY⟩ : ∃ Y, Y = vals (List.replicate 72 0) := ⟨_, rfl⟩
  rw [← hY] at hze
  have hYl : Y.length = 72 := by rw [hY]; simp [vals]
  have hzh := zero_hash
  generalize zhash = Zh at *
  have HZL := hide hzl
  have HYL := hide hYl
  have HCT0 := hide hct0
  have hsl := fun w' b => slice_end b q w' hq72
  clear hE hq hX hH hn hA hS hcl hEl hXE hXl hH1 ht hY hYl hzl hct0
  go_enter Tryd.func38, Tryd.ntmps38
  go_wp2_with (first
    | (go_at_call 47; refine (HEND.out _).mono ?_; rintro e w3 ⟨rfl, hb3⟩)
    | (refine wpList_load_str 75 H g (HS.out.alloc _) Tryd.underlying75 size_hash HCL.out rfl (.tmp 7) rfl rfl ?_)
    | (refine wpList_store_any 75 Zh H (w.heap.size + 1) (Is.new' Zh 75 (by simp)) size_hash HZL.out HCL.out HH1.out rfl (.tmp 3) (.tmp 8) rfl rfl rfl rfl ?_; intro w2 hi2 hb2 hk2 hz2; have hb2' := hb2 _ _ (below_alloc2 w _ _) (Nat.le_succ _); have hct2 : w2.cell? ⟨g, 72, none⟩ = some (.int .u64 (n : Int)) := (by rw [hb2'.cell (p := ⟨g, 72, none⟩) hlt]; exact HCT0.out))
    | (refine wpList_store_any 77 Y (vals E) w3.heap.size (Is.new w3 Y 77) size_end HYL.out HEL.out (vals_one _) rfl (.tmp 4) (.tmp 15) rfl rfl rfl rfl ?_; intro w4 hi4 hb4 hk4 hz4))
  have hb3' : Below w.heap.size w w3 := hb2'.trans (hb3.mono hb2'.size)
  have hz2' : w2.heap.size = w.heap.size + 2 := by rw [hz2]; simp
  have hI3 : Is w3 (w.heap.size + 1) H 75 := hi2.below hb3 (by omega)
  have hI3d : Is w3 w.heap.size (vals (List.replicate 32 0)) 23 := (hk2 _ _ _ (by omega) ((Is.new w (vals (List.replicate 32 0)) 23).alloc _)).below hb3 (by omega)
  have hz3 : w.heap.size + 2 ≤ w3.heap.size := by have := hb3.size; omega
  have hb4' : Below w3.heap.size w3 w4 := hb4 _ _ (below_alloc w3 _) (Nat.le_refl _)
  have hI4 := hHash.out _ _ (hI3.below hb4' (by omega))
  have hI4d := hI3d.below hb4' (by omega)
  have hb4w : Below w.heap.size w w4 := hb3'.trans (hb4'.mono hb3'.size)
  have ht4 := HT.out.below hb4w (by omega)
  have hz4' : w3.heap.size ≤ w4.heap.size := hb4'.size
  have has4 : Has w4 (.slice (some ⟨w3.heap.size, 0, none⟩) q 72) X := .inr ⟨w3.heap.size, 0, 72, by rw [HXL.out], by rw [HXL.out]; exact hq0, by rw [HXL.out]; exact hq72, by unfold maxLen; omega, fun j hj => by
    rw [HXL.out] at hj
    have hEl : E.length = 72 := by have := HEL.out; rwa [vals_length] at this
    rw [hi4.cell, Nat.zero_add, vals_get _ _ (by omega), ← HXE.out]
    simp only [List.getD, List.getElem?_take]
    rw [if_pos hj]⟩
  have HNE : Hid (∀ b off n c, (Value.slice (some ⟨w3.heap.size, 0, none⟩) q 72) = .slice (some ⟨b, off, none⟩) n c → 0 < n → b ≠ w.heap.size + 1) := fun b off n c e _ => by
    injection e with e1 e2 e3
    injection e1 with e1
    injection e1 with e1 e2
    omega
  have HW := hide (hwrite_any (w.heap.size + 1) _ all X w4 hI4 ht4 (by omega) has4 HNE.out hXb HNL.out)
  clear hI4 ht4 has4 HNE hi4 hb4 hk4 hi2 hb2 hk2 hI3 hI3d
  refine HW.out.mono ?_
  rintro e w5 ⟨rfl, ⟨st5, R5, hA5, hS5⟩, ho5⟩
  have hI5d := hI4d.only ho5 (by omega) (by omega)
  have hb5 : Below w.heap.size w w5 := hb4w.trans (ho5.below (by omega) (by omega))
  have hz5 : w4.heap.size ≤ w5.heap.size := ho5.size
  have HD := hide (digest_any (w.heap.size + 1) st5 _ 75 w5 hS5 hA5.ok)
  have hdg : Hid (Sh.digest st5 = Sh.sum all) := HSUM.out st5 hA5.words
  have hdl : (Sh.digest st5).length = 32 := by simp [Sh.digest]
  generalize Sh.digest st5 = D at *
  have HI5 := hide hI5d
  have HDL := hide hdl
  clear hS5 hA5 HW hI4d hI5d hdl
  go_wp2_with (first
    | (go_at_call 48; refine HD.out.mono ?_; rintro e w6 ⟨rfl, hb6⟩)
    | (refine wpList_store_any 23 (vals (List.replicate 32 0)) (vals D) w.heap.size (HI5.out.below hb6 (by omega)) size_dig (by simp [vals]) (by rw [vals_length]; exact HDL.out) (vals_one _) rfl (.tmp 2) (.tmp 21) rfl rfl rfl rfl ?_; intro w7 hi7 hb7 hk7 hz7))
  have hr := hi7.cellsOf Tryd.underlying23 (by rw [vals_length, HDL.out]; exact size_dig)
  exact bodyPost_ret (v := .agg (vals D).toArray) (results_cell1 Tryd.results38 rfl hr) rfl ⟨by rw [hdg.out], hb7 _ _ (hb5.trans (hb6.mono hb5.size)) (Nat.le_refl _)⟩

theorem new_at (w : World) (k : Nat) (hk : k = w.heap.size) :
    Calls Tryd.prog 36 #[] w fun e w' => e = .returned (.pointer (some ⟨k, 0, none⟩)) ∧ Hash w' k [] ∧ Below w.heap.size w w' := by subst hk; exact new_any w
theorem Has.block_lt {w : World} {v : Value} {l : List Int} (h : Has w v l) {b off n c : Nat} (e : v = .slice (some ⟨b, off, none⟩) n c) (hn : 0 < n) : b < w.heap.size := by
  rcases h with ⟨a, cap, rfl, rfl, hm, hc⟩ | ⟨b', off', cap, rfl, h0, h1, hm, hc⟩
  · injection e with e1 e2 e3; omega
  · injection e with e1 e2 e3
    injection e1 with e1
    injection e1 with e1 e4
    subst e1
    exact World.block_lt_of_cell? w ⟨b', off' + 0, none⟩ (hc 0 h0)

set_option maxRecDepth 100000 in
set_option maxHeartbeats 400000 in
theorem sum_any (v : Value) (l : List Int) (w : World) (h : Has w v l) (hbt : Sz.Byt l) (ht : Tab w) (hw : 1 < w.heap.size) (hlen : l.length < 1152921504606846976) :
    Calls Tryd.prog 57 #[v] w fun e w' => e = .returned (.agg (vals (Sh.sum l)).toArray) ∧ Below w.heap.size w w' := by
  have hdl : (Sh.sum l).length = 32 := by simp [Sh.sum, Sh.digest]
  obtain ⟨D, hD⟩ : ∃ D, D = Sh.sum l := ⟨_, rfl⟩
  rw [← hD] at hdl ⊢
  have hHW : ∀ w1, Below w.heap.size w w1 → Hash w1 (w.heap.size + 1) [] → Calls Tryd.prog 37 #[.pointer (some ⟨w.heap.size + 1, 0, none⟩), v] w1 fun e w' => e = .returned (.tuple #[]) ∧ Hash w' (w.heap.size + 1) l ∧ Only (w.heap.size + 1) w1.heap.size w1 w' := fun w1 hb hh1 => by
    have := hwrite_any (w.heap.size + 1) v [] l w1 hh1 (ht.below hb hw) (by omega) (h.below hb) (fun b off n c e hn => by have := h.block_lt e hn; omega) hbt (by simp; omega)
    simpa using this
  have hHS : ∀ w1, Below w.heap.size w w1 → Hash w1 (w.heap.size + 1) l → Calls Tryd.prog 38 #[.pointer (some ⟨w.heap.size + 1, 0, none⟩)] w1 fun e w' => e = .returned (.agg (vals D).toArray) ∧ Below w1.heap.size w1 w' := fun w1 hb1 hh1 => by
    rw [hD]; exact hsum_any _ l w1 hh1 (ht.below hb1 hw) (by omega) hlen
  have HHW := hide hHW
  have HHS := hide hHS
  have HI := hide (Is.new w (vals (List.replicate 32 0)) 23)
  have HBA := hide (below_alloc w (.cells (vals (List.replicate 32 0)).toArray 23))
  have HDL := hide hdl
  clear hHW hHS hdl hD
  go_enter Tryd.func57, Tryd.ntmps57
  go_wp2_with (first
    | (go_at_call 36; refine (new_at _ (w.heap.size + 1) (by simp)).mono ?_; rintro e w1 ⟨rfl, hh1, hb1⟩; have hI1 := HI.out.below hb1 (by simp); have hb1' := HBA.out.trans (hb1.mono (by simp)))
    | (go_at_call 37; refine (HHW.out _ hb1' hh1).mono ?_; rintro e w2 ⟨rfl, hh2, ho2⟩; have hI2 := hI1.only ho2 hI1.lt (by omega); have hb2 := hb1'.trans (ho2.below hb1'.size (Nat.le_succ _)))
    | (go_at_call 38; refine (HHS.out _ hb2 hh2).mono ?_; rintro e w3 ⟨rfl, hb3⟩; have HI3 := hide (hI2.below hb3 hI2.lt); have HB3 := hide (hb2.trans (hb3.mono hb2.size)); clear hI1 hI2 hb1 hb1' hb2 hb3 hh1 hh2 ho2)
    | (refine wpList_store_any 23 (vals (List.replicate 32 0)) (vals D) w.heap.size HI3.out size_dig (by simp [vals]) (by rw [vals_length]; exact HDL.out) (vals_one _) rfl (.tmp 2) (.tmp 9) rfl rfl rfl rfl ?_; intro w7 hi7 hb7 hk7 hz7))
  have hr := hi7.cellsOf Tryd.underlying23 (by rw [vals_length, HDL.out]; exact size_dig)
  exact bodyPost_ret (v := .agg (vals D).toArray) (results_cell1 Tryd.results57 rfl hr) rfl ⟨rfl, hb7 _ _ HB3.out (Nat.le_refl _)⟩
end Go.Proofs.YtdeddnlagbeanaaDoor
