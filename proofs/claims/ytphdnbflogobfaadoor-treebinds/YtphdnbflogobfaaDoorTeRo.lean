/- The contract of rooted: the closed fact. -/
import Derived.Test.YtphdnbflogobfaaDoorTeRd
namespace Go.Proofs.YtphdnbflogobfaaDoor
open Go.RowKit
set_option linter.unusedVariables false
set_option linter.unusedSimpArgs false

def dA : List Int := 1 :: List.replicate 31 0
def dB : List Int := 2 :: List.replicate 31 0
theorem dA_ok : dA.length = 32 ∧ Sz.Byt dA := ⟨rfl, fun x hx => by
  rcases List.mem_cons.1 hx with rfl | hx
  · omega
  · rw [List.eq_of_mem_replicate hx]; omega⟩
theorem dB_ok : dB.length = 32 ∧ Sz.Byt dB := ⟨rfl, fun x hx => by
  rcases List.mem_cons.1 hx with rfl | hx
  · omega
  · rw [List.eq_of_mem_replicate hx]; omega⟩
theorem nd_dAB : Te.nd dA dB ≠ List.replicate 32 0 := by decide +kernel
theorem dA_lit : (.agg (vals dA).toArray : Value) = .agg #[.int .u8 1, .int .u8 0, .int .u8 0, .int .u8 0, .int .u8 0, .int .u8 0, .int .u8 0, .int .u8 0, .int .u8 0, .int .u8 0, .int .u8 0, .int .u8 0, .int .u8 0, .int .u8 0, .int .u8 0, .int .u8 0, .int .u8 0, .int .u8 0, .int .u8 0, .int .u8 0, .int .u8 0, .int .u8 0, .int .u8 0, .int .u8 0, .int .u8 0, .int .u8 0, .int .u8 0, .int .u8 0, .int .u8 0, .int .u8 0, .int .u8 0, .int .u8 0] := rfl
theorem dB_lit : (.agg (vals dB).toArray : Value) = .agg #[.int .u8 2, .int .u8 0, .int .u8 0, .int .u8 0, .int .u8 0, .int .u8 0, .int .u8 0, .int .u8 0, .int .u8 0, .int .u8 0, .int .u8 0, .int .u8 0, .int .u8 0, .int .u8 0, .int .u8 0, .int .u8 0, .int .u8 0, .int .u8 0, .int .u8 0, .int .u8 0, .int .u8 0, .int .u8 0, .int .u8 0, .int .u8 0, .int .u8 0, .int .u8 0, .int .u8 0, .int .u8 0, .int .u8 0, .int .u8 0, .int .u8 0, .int .u8 0] := rfl
theorem dZ_lit : (.agg (vals (List.replicate 32 0)).toArray : Value) = .agg #[.int .u8 0, .int .u8 0, .int .u8 0, .int .u8 0, .int .u8 0, .int .u8 0, .int .u8 0, .int .u8 0, .int .u8 0, .int .u8 0, .int .u8 0, .int .u8 0, .int .u8 0, .int .u8 0, .int .u8 0, .int .u8 0, .int .u8 0, .int .u8 0, .int .u8 0, .int .u8 0, .int .u8 0, .int .u8 0, .int .u8 0, .int .u8 0, .int .u8 0, .int .u8 0, .int .u8 0, .int .u8 0, .int .u8 0, .int .u8 0, .int .u8 0, .int .u8 0] := rfl
theorem root_dAB : rootD [dA, dB] = Te.nd dA dB ∧ errV (rootE 2) = .nilIface := by
  refine ⟨?_, rfl⟩
  have e : rootD [dA, dB] = Te.root [dA, dB] := by unfold rootD; rw [if_neg (by simp), if_neg (by simp)]
  have h : Te.half [dA, dB].length = 1 := by decide
  rw [e, Te.root_more _ (by simp), h]
  show Te.nd (Te.root [dA]) (Te.root [dB]) = _
  rw [Te.root_one, Te.root_one]
theorem built_1 : Tryd.prog.built 26 [(0, .int .u8 1)] = some (vals (1 :: List.replicate 31 0)).toArray := by kernel_rfl
theorem built_2 : Tryd.prog.built 26 [(0, .int .u8 2)] = some (vals (2 :: List.replicate 31 0)).toArray := by kernel_rfl
theorem te_build_cell (x : Int) (hx : Tryd.prog.built 26 [(0, .int .u8 x)] = some (vals (x :: List.replicate 31 0)).toArray) {w : World} {ops : Array Oper} {rest : List Oper} {o : Oper} {a : Act} {Q : Exit → Act → World → Prop} (hgd : o.guard = none) (ho : o.op = .build 26 #[(0, .const (.int .u8 x))])
    (hw : wpList Tryd.prog ops Q rest (a.put o.dst (.agg (vals (x :: List.replicate 31 0)).toArray)) w) : wpList Tryd.prog ops Q (o :: rest) a w := by
  have e : Tryd.prog.built 26 ((#[(0, .const (.int .u8 x))] : Array (Nat × Operand)).map fun (i, x) => (i, a.eval x)).toList = some (vals (x :: List.replicate 31 0)).toArray := by
    simp only [List.map_toArray, List.map_cons, List.map_nil]
    exact hx
  refine wpList_build hgd 26 #[(0, .const (.int .u8 x))] ho (by rw [e]; rfl) ?_
  rw [e]
  exact hw

/-- The box that rooted tells its root in. -/
structure RoS (w : World) (R : List Int) (rb : Nat) (W : World) : Prop where
  below : Below w.heap.size w W
  r : Is W rb (vals R) 26
theorem RoS.call {w W W' : World} {R : List Int} {rb : Nat} (h : RoS w R rb W) (hb : Below W.heap.size W W') : RoS w R rb W' := ⟨h.below.trans (hb.mono h.below.size), h.r.below hb h.r.lt⟩
theorem RoS.drew {w W : World} {R : List Int} {rb : Nat} (h : RoS w R rb W) : RoS w R rb W.drew := ⟨h.below.drew, h.r.drew⟩

set_option maxRecDepth 100000 in
set_option maxHeartbeats 2000000 in
theorem rooted_any (w : World) (ht : Tab w) (hw : 1 < w.heap.size) :
    Calls Tryd.prog 22 #[] w fun e w' => e = .returned (.bool true) ∧ Below w.heap.size w w' := by
  have HR0 : Hid (∀ W K, Below w.heap.size w W → Is W K (vals (dA ++ dB)) 26 → Calls Tryd.prog 10 #[.slice (some ⟨K, 0, none⟩) 2 2] W fun e w' => e = .returned (.tuple #[.agg (vals (Te.nd dA dB)).toArray, .nilIface]) ∧ Below W.heap.size W w') := hide (fun W K hB hK => by
    have hdo : DigOk [dA, dB] := fun d hd => by
      rcases List.mem_cons.1 hd with rfl | hd
      · exact dA_ok
      · rw [List.mem_singleton.1 hd]; exact dB_ok
    have hat : DigsAt W K 0 [dA, dB] := .of_range hdo hK.lt (by
      rw [show digCells [dA, dB] = vals (dA ++ dB) by simp [digCells, vals]]; exact hK.range)
    have := root_any _ [dA, dB] W (hat.has (cap := 2) (by simp) (by unfold maxLen; omega)) (ht.below hB hw) (Nat.lt_of_lt_of_le hw hB.size)
    rwa [root_dAB.1, show ([dA, dB] : List (List Int)).length = 2 from rfl, root_dAB.2] at this)
  have HN : Hid (∀ W, Below w.heap.size w W → Calls Tryd.prog 20 #[.agg #[.int .u8 1, .int .u8 0, .int .u8 0, .int .u8 0, .int .u8 0, .int .u8 0, .int .u8 0, .int .u8 0, .int .u8 0, .int .u8 0, .int .u8 0, .int .u8 0, .int .u8 0, .int .u8 0, .int .u8 0, .int .u8 0, .int .u8 0, .int .u8 0, .int .u8 0, .int .u8 0, .int .u8 0, .int .u8 0, .int .u8 0, .int .u8 0, .int .u8 0, .int .u8 0, .int .u8 0, .int .u8 0, .int .u8 0, .int .u8 0, .int .u8 0, .int .u8 0], .agg #[.int .u8 2, .int .u8 0, .int .u8 0, .int .u8 0, .int .u8 0, .int .u8 0, .int .u8 0, .int .u8 0, .int .u8 0, .int .u8 0, .int .u8 0, .int .u8 0, .int .u8 0, .int .u8 0, .int .u8 0, .int .u8 0, .int .u8 0, .int .u8 0, .int .u8 0, .int .u8 0, .int .u8 0, .int .u8 0, .int .u8 0, .int .u8 0, .int .u8 0, .int .u8 0, .int .u8 0, .int .u8 0, .int .u8 0, .int .u8 0, .int .u8 0, .int .u8 0]] W fun e w' => e = .returned (.agg (vals (Te.nd dA dB)).toArray) ∧ Below W.heap.size W w') := hide (fun W hB => by
    have := node_any dA dB W dA_ok.1 dB_ok.1 dA_ok.2 dB_ok.2 (ht.below hB hw) (Nat.lt_of_lt_of_le hw hB.size)
    rwa [dA_lit, dB_lit] at this)
  have hRl := Te.nd_length dA dB
  have hne := nd_dAB
  generalize Te.nd dA dB = R at *
  have hq : ∀ w', (Op.equalIn 10000 26 (.agg (vals R).toArray) (.agg (vals R).toArray)).run Tryd.prog w' = .ok true w' := fun w' => by rw [dig_eq _ _ hRl hRl, decide_eq_true rfl]
  have hq2 : ∀ w', (Op.equalIn 10000 26 (.agg (vals R).toArray) (.agg #[.int .u8 0, .int .u8 0, .int .u8 0, .int .u8 0, .int .u8 0, .int .u8 0, .int .u8 0, .int .u8 0, .int .u8 0, .int .u8 0, .int .u8 0, .int .u8 0, .int .u8 0, .int .u8 0, .int .u8 0, .int .u8 0, .int .u8 0, .int .u8 0, .int .u8 0, .int .u8 0, .int .u8 0, .int .u8 0, .int .u8 0, .int .u8 0, .int .u8 0, .int .u8 0, .int .u8 0, .int .u8 0, .int .u8 0, .int .u8 0, .int .u8 0, .int .u8 0])).run Tryd.prog w' = .ok false w' := fun w' => by rw [← dZ_lit, dig_eq _ _ hRl (by simp), decide_eq_false hne]
  have hgd := guard_dig
  have hszr : (Tryd.prog.info? 26).map (·.size) = some (vals R).length := by rw [vals_length, hRl]; exact size_dig
  have HRL := hide hRl
  have hdA : vals (1 :: List.replicate 31 0) = vals dA := rfl
  have hdB : vals (2 :: List.replicate 31 0) = vals dB := rfl
  clear ht hRl hne
  go_enter Tryd.func22, Tryd.ntmps22
  go_wp2_with (first
    | (refine te_build_cell 1 built_1 rfl rfl ?_; rw [hdA])
    | (refine te_build_cell 2 built_2 rfl rfl ?_; rw [hdB])
    | (refine te_build2 dA dB rfl (.tmp 4) (.tmp 5) rfl rfl rfl dA_ok.1 dB_ok.1 ?_)
    | (go_at_call 10; refine (HR0.out _ _ (below_alloc _ _) (Is.new _ _ _)).mono ?_; rintro e w1 ⟨rfl, hb1⟩; have hb1' := (below_alloc w (.cells (vals (dA ++ dB)).toArray 26)).trans (hb1.mono (below_alloc w _).size))
    | (refine te_store (vals (List.replicate 32 0)) R w1.heap.size rfl (.tmp 1) (.tmp 8) rfl rfl rfl rfl (Is.new w1 _ _) (by simp [vals]) HRL.out ?_; intro w4 hi4 hb4 hz4; have hb4' : Below w1.heap.size w1 w4 := (below_alloc w1 (.cells (vals (List.replicate 32 0)).toArray 26)).trans (hb4.under (below_alloc w1 _).size (Nat.le_refl _)); have HS1 : RoS w R w1.heap.size w4 := ⟨hb1'.trans (hb4'.mono hb1'.size), hi4⟩; clear hi4 hb4 hb4' hz4))
  obtain ⟨rb, hrb⟩ : ∃ rb, rb = w1.heap.size := ⟨_, rfl⟩
  rw [← hrb] at HS1 ⊢
  clear hrb
  refine wp_region_held_drew (S := fun W : World => RoS w R rb W) (by kernel_rfl) ?_ (fun hHeld0 => ?_)
  · exact HS1.drew
  refine wpAnyH_take (i := 0) (v := ?_) rfl (by kernel_rfl) (by kernel_rfl) (by kernel_rfl) (fun _ _ _ h => h) (Or.inl ⟨by rfl, ?_⟩) hHeld0 ?_
  rotate_left
  · (intro w hSw; (try dsimp only at hSw); go_simp <;> (try with_reducible rfl))
  simp only [Act.put, List.getElem_toArray, List.getElem_cons_zero, List.getElem_cons_succ, List.setIfInBounds_toArray, List.set_cons_zero, List.set_cons_succ]
  refine wpAnyH_take (i := 1) (v := ?_) rfl (by kernel_rfl) (by kernel_rfl) (by kernel_rfl) (fun _ _ _ h => h) (Or.inl ⟨by rfl, ?_⟩) hHeld0 ?_
  rotate_left
  · (intro w hSw; (try dsimp only at hSw); go_simp <;> (try with_reducible rfl))
  simp only [Act.put, List.getElem_toArray, List.getElem_cons_zero, List.getElem_cons_succ, List.setIfInBounds_toArray, List.set_cons_zero, List.set_cons_succ]
  refine wpAnyH_take (i := 2) (v := ?_) rfl (by kernel_rfl) (by kernel_rfl) (by kernel_rfl) (fun _ _ _ h => h) (Or.inl ⟨by rfl, ?_⟩) hHeld0 ?_
  rotate_left
  · (intro w hSw; (try dsimp only at hSw); go_simp <;> (try with_reducible rfl))
  simp only [Act.put, List.getElem_toArray, List.getElem_cons_zero, List.getElem_cons_succ, List.setIfInBounds_toArray, List.set_cons_zero, List.set_cons_succ]
  refine wpAnyH_take (i := 3) (v := .agg (vals R).toArray) rfl (by kernel_rfl) (by kernel_rfl) (by kernel_rfl) (fun _ _ _ h => h) (yieldsIf_load_mid (by rfl) _ _ rfl _ _ rfl (vals R) _ (fun w hSw => hSw.r.range) Tryd.underlying26 rfl hszr) hHeld0 ?_
  simp only [Act.put, List.getElem_toArray, List.getElem_cons_zero, List.getElem_cons_succ, List.setIfInBounds_toArray, List.set_cons_zero, List.set_cons_succ]
  refine wpAnyH_take (i := 4) (v := ?_) rfl (by kernel_rfl) (by kernel_rfl) (by kernel_rfl) (fun _ _ _ h => h) (Or.inl ⟨by rfl, ?_⟩) hHeld0 ?_
  rotate_left
  · (intro w hSw; (try dsimp only at hSw); go_simp <;> (try with_reducible rfl))
  simp only [Act.put, List.getElem_toArray, List.getElem_cons_zero, List.getElem_cons_succ, List.setIfInBounds_toArray, List.set_cons_zero, List.set_cons_succ]
  refine wpAnyH_take (i := 5) (v := ?_) rfl (by kernel_rfl) (by kernel_rfl) (by kernel_rfl) (fun _ _ _ h => h) (Or.inl ⟨by rfl, ?_⟩) hHeld0 ?_
  rotate_left
  · (intro w hSw; (try dsimp only at hSw); go_simp <;> (try with_reducible rfl))
  simp only [Act.put, List.getElem_toArray, List.getElem_cons_zero, List.getElem_cons_succ, List.setIfInBounds_toArray, List.set_cons_zero, List.set_cons_succ]
  refine wpAnyH_ready (rs := [6]) (by kernel_rfl) (by simp) ?_
  refine AllReadyH.cons rfl (fun K hK => ?_) AllReadyH.nil
  go_simp
  go_wp2_with ((go_at_call 20; refine (HN.out _ hHeld0.below).mono ?_; rintro e w6 ⟨rfl, hb6⟩))
  refine hK.out _ _ (by exact hHeld0.call hb6) (fun hHeld1 => ?_)
  clear hK K hHeld0
  try simp only [Act.put, List.getElem_toArray, List.getElem_cons_zero, List.getElem_cons_succ, List.setIfInBounds_toArray, List.set_cons_zero, List.set_cons_succ]
  refine wpAnyH_take (i := 7) (v := ?_) rfl (by kernel_rfl) (by kernel_rfl) (by kernel_rfl) (fun _ _ _ h => h) (Or.inl ⟨by rfl, ?_⟩) hHeld1 ?_
  rotate_left
  · (intro w hSw; (try dsimp only at hSw); go_simp <;> (try with_reducible rfl))
  simp only [Act.put, List.getElem_toArray, List.getElem_cons_zero, List.getElem_cons_succ, List.setIfInBounds_toArray, List.set_cons_zero, List.set_cons_succ]
  refine wpAnyH_take (i := 8) (v := ?_) rfl (by kernel_rfl) (by kernel_rfl) (by kernel_rfl) (fun _ _ _ h => h) (Or.inl ⟨by rfl, ?_⟩) hHeld1 ?_
  rotate_left
  · (intro w hSw; (try dsimp only at hSw); go_simp <;> (try with_reducible rfl))
  simp only [Act.put, List.getElem_toArray, List.getElem_cons_zero, List.getElem_cons_succ, List.setIfInBounds_toArray, List.set_cons_zero, List.set_cons_succ]
  refine wpAnyH_take (i := 9) (v := ?_) rfl (by kernel_rfl) (by kernel_rfl) (by kernel_rfl) (fun _ _ _ h => h) (Or.inl ⟨by rfl, ?_⟩) hHeld1 ?_
  rotate_left
  · (intro w hSw; (try dsimp only at hSw); go_simp <;> (try with_reducible rfl))
  simp only [Act.put, List.getElem_toArray, List.getElem_cons_zero, List.getElem_cons_succ, List.setIfInBounds_toArray, List.set_cons_zero, List.set_cons_succ]
  refine wpAnyH_take (i := 10) (v := .agg (vals R).toArray) rfl (by kernel_rfl) (by kernel_rfl) (by kernel_rfl) (fun _ _ _ h => h) (yieldsIf_load_mid (by rfl) _ _ rfl _ _ rfl (vals R) _ (fun w hSw => hSw.r.range) Tryd.underlying26 rfl hszr) hHeld1 ?_
  simp only [Act.put, List.getElem_toArray, List.getElem_cons_zero, List.getElem_cons_succ, List.setIfInBounds_toArray, List.set_cons_zero, List.set_cons_succ]
  refine wpAnyH_take (i := 11) (v := ?_) rfl (by kernel_rfl) (by kernel_rfl) (by kernel_rfl) (fun _ _ _ h => h) (Or.inl ⟨by rfl, ?_⟩) hHeld1 ?_
  rotate_left
  · (intro w hSw; (try dsimp only at hSw); go_simp <;> (try with_reducible rfl))
  simp only [Act.put, List.getElem_toArray, List.getElem_cons_zero, List.getElem_cons_succ, List.setIfInBounds_toArray, List.set_cons_zero, List.set_cons_succ]
  refine wpAnyH_take (i := 12) (v := ?_) rfl (by kernel_rfl) (by kernel_rfl) (by kernel_rfl) (fun _ _ _ h => h) (Or.inl ⟨by rfl, ?_⟩) hHeld1 ?_
  rotate_left
  · (intro w hSw; (try dsimp only at hSw); go_simp <;> (try with_reducible rfl))
  simp only [Act.put, List.getElem_toArray, List.getElem_cons_zero, List.getElem_cons_succ, List.setIfInBounds_toArray, List.set_cons_zero, List.set_cons_succ]
  refine wpAnyH_take (i := 13) (v := ?_) rfl (by kernel_rfl) (by kernel_rfl) (by kernel_rfl) (fun _ _ _ h => h) (Or.inl ⟨by rfl, ?_⟩) hHeld1 ?_
  rotate_left
  · (intro w hSw; (try dsimp only at hSw); go_simp <;> (try with_reducible rfl))
  simp only [Act.put, List.getElem_toArray, List.getElem_cons_zero, List.getElem_cons_succ, List.setIfInBounds_toArray, List.set_cons_zero, List.set_cons_succ]
  refine wpAnyH_take (i := 14) (v := ?_) rfl (by kernel_rfl) (by kernel_rfl) (by kernel_rfl) (fun _ _ _ h => h) (Or.inl ⟨by rfl, ?_⟩) hHeld1 ?_
  rotate_left
  · (intro w hSw; (try dsimp only at hSw); go_simp <;> (try with_reducible rfl))
  simp only [Act.put, List.getElem_toArray, List.getElem_cons_zero, List.getElem_cons_succ, List.setIfInBounds_toArray, List.set_cons_zero, List.set_cons_succ]
  refine wpAnyH_done (by kernel_rfl) ?_ _
  go_wp2
  exact bodyPost_ret (v := .bool true) (by simp [results, Tryd.results22]) rfl ⟨rfl, hHeld1.below⟩
end Go.Proofs.YtphdnbflogobfaaDoor
