/- The contract of moneyersame.Digests: a list is itself. -/
import Derived.Test.YtphdnbflogobfaaDoorTeM
import Derived.Test.YtphdnbflogobfaaDoorShEq
import Derived.Deep.RegionHeld2
namespace Go.Proofs.YtphdnbflogobfaaDoor
open Go.RowKit
set_option linter.unusedVariables false
set_option linter.unusedSimpArgs false

set_option maxRecDepth 100000 in
set_option maxHeartbeats 4000000 in
theorem digests_same (v u : Value) (DS : List (List Int)) (w : World) (hn : DS.length ≤ 1000) (h1 : HasDigs w v DS) (h2 : HasDigs w u DS) :
    Calls Tryd.prog 16 #[v, u] w fun e w' => e = .returned (.bool true) ∧ Below w.heap.size w w' := by
  obtain ⟨a1, c1, rfl, _, _⟩ := h1.form
  obtain ⟨a2, c2, rfl, _, _⟩ := h2.form
  have HD1 := hide h1
  have HD2 := hide h2
  obtain ⟨n, hnn⟩ : ∃ n, n = DS.length := ⟨_, rfl⟩
  rw [← hnn] at hn HD1 HD2 ⊢
  have HNN := hide hnn
  have hne : ((n : Int) != (n : Int)) = false := by simp
  have hgd := guard_dig
  clear h1 h2 hnn
  go_enter Tryd.func16, Tryd.ntmps16
  go_wp2
  go_loopw [5] (fun i wr => ∃ k : Nat, k ≤ n ∧ i = .int .i64 k ∧ Below w.heap.size w wr) (fun i _ => n - (intOf i).toNat)
  case atStart => exact ⟨0, Nat.zero_le _, rfl, Below.refl _ _⟩
  case round =>
    obtain ⟨k, hk, rfl, hb⟩ := hrel
    by_cases hkl : k < n
    · have hki : (k : Int) < (n : Int) := by omega
      obtain ⟨b1, off1, x1, hv, _, _, hat1⟩ := HD1.out.at' (by rw [← HNN.out]; omega)
      injection hv with f1 f2 f3
      subst f1 f3
      clear f2
      obtain ⟨b2, off2, x2, hv2, _, _, hat2⟩ := HD2.out.at' (by rw [← HNN.out]; omega)
      injection hv2 with g1 g2 g3
      subst g1 g3
      clear g2
      have hX := (hat1.1.get k (by rw [← HNN.out]; exact hkl)).1
      have hS0 : wr.rangeAt b1 (off1 + k * 32) (vals (DS.getD k [])) ∧ wr.rangeAt b2 (off2 + k * 32) (vals (DS.getD k [])) ∧ Below w.heap.size w wr := ⟨(hat1.below hb).2.2 k (by rw [← HNN.out]; exact hkl), (hat2.below hb).2.2 k (by rw [← HNN.out]; exact hkl), hb⟩
      have hk0 : (0 : Int) ≤ (k : Int) := by omega
      generalize DS.getD k [] = X at *
      have hq : ∀ w', (Op.equalIn 10000 26 (.agg (vals X).toArray) (.agg (vals X).toArray)).run Tryd.prog w' = .ok true w' := fun w' => by rw [dig_eq _ _ hX hX, decide_eq_true rfl]
      have hszx : (Tryd.prog.info? 26).map (·.size) = some (vals X).length := by rw [vals_length, hX]; exact size_dig
      have HS0 := hide hS0
      clear hX hS0 hat1 hat2 hb
      go_wp2
      refine wp_region_held_drew (S := fun W : World => W.rangeAt b1 (off1 + k * 32) (vals X) ∧ W.rangeAt b2 (off2 + k * 32) (vals X) ∧ Below w.heap.size w W) (by kernel_rfl) ?_ (fun hHeld0 => ?_)
      · exact ⟨HS0.out.1, HS0.out.2.1, HS0.out.2.2.drew⟩
      refine wpAnyH_take (i := 0) (v := ?_) rfl (by kernel_rfl) (by kernel_rfl) (by kernel_rfl) (fun _ _ _ h => h) (Or.inl ⟨by rfl, ?_⟩) hHeld0 ?_
      rotate_left
      · (intro w hSw; (try dsimp only at hSw); go_simp <;> (try with_reducible rfl))
      simp only [Act.put, List.getElem_toArray, List.getElem_cons_zero, List.getElem_cons_succ, List.setIfInBounds_toArray, List.set_cons_zero, List.set_cons_succ]
      refine wpAnyH_take (i := 1) (v := ?_) rfl (by kernel_rfl) (by kernel_rfl) (by kernel_rfl) (fun _ _ _ h => h) (Or.inl ⟨by rfl, ?_⟩) hHeld0 ?_
      rotate_left
      · (intro w hSw; (try dsimp only at hSw); go_simp <;> (try with_reducible rfl))
      simp only [Act.put, List.getElem_toArray, List.getElem_cons_zero, List.getElem_cons_succ, List.setIfInBounds_toArray, List.set_cons_zero, List.set_cons_succ]
      refine wpAnyH_take (i := 2) (v := ?_) rfl (by kernel_rfl) (by kernel_rfl) (by kernel_rfl) (fun _ _ _ h => h) (Or.inl ⟨by rfl, ?_⟩) hHeld0 ?_
      rotate_left
      · (intro w hSw; (try dsimp only at hSw); go_simp <;> (try with_reducible rfl))
      simp only [Act.put, List.getElem_toArray, List.getElem_cons_zero, List.getElem_cons_succ, List.setIfInBounds_toArray, List.set_cons_zero, List.set_cons_succ]
      refine wpAnyH_take (i := 3) (v := .agg (vals X).toArray) rfl (by kernel_rfl) (by kernel_rfl) (by kernel_rfl) (fun _ _ _ h => h) (yieldsIf_load_mid (by rfl) _ _ rfl _ _ rfl (vals X) _ (fun w hSw => hSw.1) Tryd.underlying26 rfl hszx) hHeld0 ?_
      simp only [Act.put, List.getElem_toArray, List.getElem_cons_zero, List.getElem_cons_succ, List.setIfInBounds_toArray, List.set_cons_zero, List.set_cons_succ]
      refine wpAnyH_take (i := 4) (v := ?_) rfl (by kernel_rfl) (by kernel_rfl) (by kernel_rfl) (fun _ _ _ h => h) (Or.inl ⟨by rfl, ?_⟩) hHeld0 ?_
      rotate_left
      · (intro w hSw; (try dsimp only at hSw); go_simp <;> (try with_reducible rfl))
      simp only [Act.put, List.getElem_toArray, List.getElem_cons_zero, List.getElem_cons_succ, List.setIfInBounds_toArray, List.set_cons_zero, List.set_cons_succ]
      refine wpAnyH_take (i := 5) (v := ?_) rfl (by kernel_rfl) (by kernel_rfl) (by kernel_rfl) (fun _ _ _ h => h) (Or.inl ⟨by rfl, ?_⟩) hHeld0 ?_
      rotate_left
      · (intro w hSw; (try dsimp only at hSw); go_simp <;> (try with_reducible rfl))
      simp only [Act.put, List.getElem_toArray, List.getElem_cons_zero, List.getElem_cons_succ, List.setIfInBounds_toArray, List.set_cons_zero, List.set_cons_succ]
      refine wpAnyH_take (i := 6) (v := ?_) rfl (by kernel_rfl) (by kernel_rfl) (by kernel_rfl) (fun _ _ _ h => h) (Or.inl ⟨by rfl, ?_⟩) hHeld0 ?_
      rotate_left
      · (intro w hSw; (try dsimp only at hSw); go_simp <;> (try with_reducible rfl))
      simp only [Act.put, List.getElem_toArray, List.getElem_cons_zero, List.getElem_cons_succ, List.setIfInBounds_toArray, List.set_cons_zero, List.set_cons_succ]
      refine wpAnyH_take (i := 7) (v := .agg (vals X).toArray) rfl (by kernel_rfl) (by kernel_rfl) (by kernel_rfl) (fun _ _ _ h => h) (yieldsIf_load_mid (by rfl) _ _ rfl _ _ rfl (vals X) _ (fun w hSw => hSw.2.1) Tryd.underlying26 rfl hszx) hHeld0 ?_
      simp only [Act.put, List.getElem_toArray, List.getElem_cons_zero, List.getElem_cons_succ, List.setIfInBounds_toArray, List.set_cons_zero, List.set_cons_succ]
      refine wpAnyH_take (i := 8) (v := ?_) rfl (by kernel_rfl) (by kernel_rfl) (by kernel_rfl) (fun _ _ _ h => h) (Or.inl ⟨by rfl, ?_⟩) hHeld0 ?_
      rotate_left
      · (intro w hSw; (try dsimp only at hSw); go_simp <;> (try with_reducible rfl))
      simp only [Act.put, List.getElem_toArray, List.getElem_cons_zero, List.getElem_cons_succ, List.setIfInBounds_toArray, List.set_cons_zero, List.set_cons_succ]
      refine wpAnyH_done (by kernel_rfl) ?_ _
      go_wp2
      go_roundw
      case rel => exact ⟨k + 1, by omega, by go_num, hHeld0.2.2⟩
      case measure => simp [intOf]; omega
    · have hki : ¬ (k : Int) < (n : Int) := by omega
      go_wp2
      go_ret
      exact ⟨rfl, hb⟩
end Go.Proofs.YtphdnbflogobfaaDoor
