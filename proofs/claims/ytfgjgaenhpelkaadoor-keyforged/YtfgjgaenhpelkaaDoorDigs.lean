/- The contract of moneyersame.Digests: whether two lists of digests are the same. -/
import Derived.Test.YtfgjgaenhpelkaaDoorKeSteps
import Derived.Test.YtfgjgaenhpelkaaDoorOwn3
namespace Go.Proofs.YtfgjgaenhpelkaaDoor
open Go.RowKit
set_option linter.unusedVariables false
set_option linter.unusedSimpArgs false

theorem rows_eq_of (L1 L2 : List Int) (n : Nat) (h1 : L1.length = 32 * n) (h2 : L2.length = 32 * n) (h : ∀ j, j < n → Ky.sigAt L1 j = Ky.sigAt L2 j) : L1 = L2 := by
  have : ∀ k, k ≤ n → L1.take (32 * k) = L2.take (32 * k) := fun k => by
    induction k with
    | zero => intro _; simp
    | succ k ih => intro hk; rw [take_row, take_row, ih (by omega), h k (by omega)]
  have h3 := this n (Nat.le_refl _)
  rwa [List.take_of_length_le (by omega), List.take_of_length_le (by omega)] at h3

set_option maxRecDepth 100000 in
set_option maxHeartbeats 4000000 in
theorem digests_any (b1 c1 b2 c2 n : Nat) (L1 L2 : List Int) (w : World) (hn : n ≤ 1000) (hl1 : L1.length = 32 * n) (hl2 : L2.length = 32 * n) (h1 : w.rangeAt b1 0 (vals L1)) (h2 : w.rangeAt b2 0 (vals L2)) (hlt1 : b1 < w.heap.size) (hlt2 : b2 < w.heap.size) :
    Calls Tryd.prog 11 #[.slice (some ⟨b1, 0, none⟩) n c1, .slice (some ⟨b2, 0, none⟩) n c2] w fun e w' => e = .returned (.bool (decide (L1 = L2))) ∧ Below w.heap.size w w' := by
  have HR1 := hide h1
  have HR2 := hide h2
  have HL1 := hide hl1
  have HL2 := hide hl2
  have hne : ((n : Int) != (n : Int)) = false := by simp
  have hgd := guard_dig
  clear h1 h2 hl1 hl2
  go_enter Tryd.func11, Tryd.ntmps11
  go_wp2
  go_loopw [5] (fun i wr => ∃ k : Nat, k ≤ n ∧ i = .int .i64 k ∧ (∀ j, j < k → Ky.sigAt L1 j = Ky.sigAt L2 j) ∧ Below w.heap.size w wr) (fun i _ => n - (intOf i).toNat)
  case atStart => exact ⟨0, Nat.zero_le _, rfl, fun j hj => by omega, Below.refl _ _⟩
  case round =>
    obtain ⟨k, hk, rfl, heq, hb⟩ := hrel
    by_cases hkl : k < n
    · have hki : (k : Int) < (n : Int) := by omega
      have hx1 := sigAt_mid HR1.out k (by rw [HL1.out]; omega)
      have hx2 := sigAt_mid HR2.out k (by rw [HL2.out]; omega)
      rw [Nat.zero_add] at hx1 hx2
      have hXl := Ky.sigAt_length L1 k (by rw [HL1.out]; omega)
      have hYl := Ky.sigAt_length L2 k (by rw [HL2.out]; omega)
      have hS0 : wr.rangeAt b1 (k * 32) (vals (Ky.sigAt L1 k)) ∧ wr.rangeAt b2 (k * 32) (vals (Ky.sigAt L2 k)) ∧ Below w.heap.size w wr := by
        rw [Nat.mul_comm k 32]
        exact ⟨fun j v hv => by rw [hb.cell (p := ⟨b1, 32 * k + j, none⟩) hlt1]; exact hx1 j v hv, fun j v hv => by rw [hb.cell (p := ⟨b2, 32 * k + j, none⟩) hlt2]; exact hx2 j v hv, hb⟩
      have HE := hide heq
      have hk0 : (0 : Int) ≤ (k : Int) := by omega
      by_cases hxy : Ky.sigAt L1 k = Ky.sigAt L2 k
      · have HXY := hide hxy
        have hq : ∀ w', (Op.equalIn 10000 23 (.agg (vals (Ky.sigAt L1 k)).toArray) (.agg (vals (Ky.sigAt L2 k)).toArray)).run Tryd.prog w' = .ok true w' := fun w' => dig_same _ _ hYl hxy w'
        obtain ⟨X, hX⟩ : ∃ X, X = Ky.sigAt L1 k := ⟨_, rfl⟩
        obtain ⟨Y, hY⟩ : ∃ Y, Y = Ky.sigAt L2 k := ⟨_, rfl⟩
        rw [← hX, ← hY] at hS0 hq
        rw [← hX] at hXl
        rw [← hY] at hYl
        have hszx : (Tryd.prog.info? 23).map (·.size) = some (vals X).length := by rw [vals_length, hXl]; exact size_dig
        have hszy : (Tryd.prog.info? 23).map (·.size) = some (vals Y).length := by rw [vals_length, hYl]; exact size_dig
        have HS0 := hide hS0
        clear hX hY hXl hYl hx1 hx2 hS0 hxy heq HR1 HR2 HL1 HL2 hb
        go_wp2
        refine wp_region_held_drew (S := fun W : World => W.rangeAt b1 (k * 32) (vals X) ∧ W.rangeAt b2 (k * 32) (vals Y) ∧ Below w.heap.size w W) (by kernel_rfl) ?_ (fun hHeld0 => ?_)
        · exact ⟨HS0.out.1, HS0.out.2.1, HS0.out.2.2.drew⟩
        refine wpAnyH_take (i := 0) (v := ?_) rfl (by kernel_rfl) (by kernel_rfl) (by kernel_rfl) (fun _ _ _ h => h) (Or.inl ⟨by rfl, ?_⟩) hHeld0 ?_
        rotate_left
        · (intro w hSw; (try dsimp only at hSw); go_simp <;> (try with_reducible rfl))
        simp only [Act.put, List.getElem_toArray, List.getElem_cons_zero, List.getElem_cons_succ, List.setIfInBounds_toArray, List.set_cons_zero, List.set_cons_succ]
        refine wpAnyH_take (i := 1) (v := ?_) rfl (by kernel_rfl) (by kernel_rfl) (by kernel_rfl) (fun _ _ _ h => h) (Or.inl ⟨by rfl, ?_⟩) hHeld0 ?_
        rotate_left
        · (intro w hSw; (try dsimp only at hSw); go_simp <;> (try with_reducible rfl))
        simp only [Act.put, List.getElem_toArray, List.getElem_cons_zero, List.getElem_cons_succ, List.setIfInBounds_toArray, List.set_cons_zero, List.set_cons_succ]
        refine wpAnyH_take (i := 2) (v := ?_) rfl (by kernel_rfl) (by kernel_rfl) (by kernel_rfl) (fun _ _ _ h => h) (Or.inl ⟨by rfl, ?_⟩) hHeld0 ?_
        rotate_left
        · (intro w hSw; (try dsimp only at hSw); go_simp <;> (try with_reducible rfl))
        simp only [Act.put, List.getElem_toArray, List.getElem_cons_zero, List.getElem_cons_succ, List.setIfInBounds_toArray, List.set_cons_zero, List.set_cons_succ]
        refine wpAnyH_take (i := 3) (v := .agg (vals X).toArray) rfl (by kernel_rfl) (by kernel_rfl) (by kernel_rfl) (fun _ _ _ h => h) (yieldsIf_load_mid (by rfl) _ _ rfl _ _ rfl (vals X) _ (fun w hSw => hSw.1) Tryd.underlying23 rfl hszx) hHeld0 ?_
        simp only [Act.put, List.getElem_toArray, List.getElem_cons_zero, List.getElem_cons_succ, List.setIfInBounds_toArray, List.set_cons_zero, List.set_cons_succ]
        refine wpAnyH_take (i := 4) (v := ?_) rfl (by kernel_rfl) (by kernel_rfl) (by kernel_rfl) (fun _ _ _ h => h) (Or.inl ⟨by rfl, ?_⟩) hHeld0 ?_
        rotate_left
        · (intro w hSw; (try dsimp only at hSw); go_simp <;> (try with_reducible rfl))
        simp only [Act.put, List.getElem_toArray, List.getElem_cons_zero, List.getElem_cons_succ, List.setIfInBounds_toArray, List.set_cons_zero, List.set_cons_succ]
        refine wpAnyH_take (i := 5) (v := ?_) rfl (by kernel_rfl) (by kernel_rfl) (by kernel_rfl) (fun _ _ _ h => h) (Or.inl ⟨by rfl, ?_⟩) hHeld0 ?_
        rotate_left
        · (intro w hSw; (try dsimp only at hSw); go_simp <;> (try with_reducible rfl))
        simp only [Act.put, List.getElem_toArray, List.getElem_cons_zero, List.getElem_cons_succ, List.setIfInBounds_toArray, List.set_cons_zero, List.set_cons_succ]
        refine wpAnyH_take (i := 6) (v := ?_) rfl (by kernel_rfl) (by kernel_rfl) (by kernel_rfl) (fun _ _ _ h => h) (Or.inl ⟨by rfl, ?_⟩) hHeld0 ?_
        rotate_left
        · (intro w hSw; (try dsimp only at hSw); go_simp <;> (try with_reducible rfl))
        simp only [Act.put, List.getElem_toArray, List.getElem_cons_zero, List.getElem_cons_succ, List.setIfInBounds_toArray, List.set_cons_zero, List.set_cons_succ]
        refine wpAnyH_take (i := 7) (v := .agg (vals Y).toArray) rfl (by kernel_rfl) (by kernel_rfl) (by kernel_rfl) (fun _ _ _ h => h) (yieldsIf_load_mid (by rfl) _ _ rfl _ _ rfl (vals Y) _ (fun w hSw => hSw.2.1) Tryd.underlying23 rfl hszy) hHeld0 ?_
        simp only [Act.put, List.getElem_toArray, List.getElem_cons_zero, List.getElem_cons_succ, List.setIfInBounds_toArray, List.set_cons_zero, List.set_cons_succ]
        refine wpAnyH_take (i := 8) (v := ?_) rfl (by kernel_rfl) (by kernel_rfl) (by kernel_rfl) (fun _ _ _ h => h) (Or.inl ⟨by rfl, ?_⟩) hHeld0 ?_
        rotate_left
        · (intro w hSw; (try dsimp only at hSw); go_simp <;> (try with_reducible rfl))
        simp only [Act.put, List.getElem_toArray, List.getElem_cons_zero, List.getElem_cons_succ, List.setIfInBounds_toArray, List.set_cons_zero, List.set_cons_succ]
        refine wpAnyH_done (by kernel_rfl) ?_ _
        go_wp2
        go_roundw
        case rel => exact ⟨k + 1, by omega, by go_num, fun j hj => by
            by_cases e : j = k
            · subst e; exact HXY.out
            · exact HE.out j (by omega), hHeld0.2.2⟩
        case measure => simp [intOf]; omega
      · have HNE : Hid (decide (L1 = L2) = false) := decide_eq_false (fun e => hxy (by rw [e]))
        have hq : ∀ w', (Op.equalIn 10000 23 (.agg (vals (Ky.sigAt L1 k)).toArray) (.agg (vals (Ky.sigAt L2 k)).toArray)).run Tryd.prog w' = .ok false w' := fun w' => by rw [dig_eq _ _ hXl hYl, decide_eq_false hxy]
        obtain ⟨X, hX⟩ : ∃ X, X = Ky.sigAt L1 k := ⟨_, rfl⟩
        obtain ⟨Y, hY⟩ : ∃ Y, Y = Ky.sigAt L2 k := ⟨_, rfl⟩
        rw [← hX, ← hY] at hS0 hq
        rw [← hX] at hXl
        rw [← hY] at hYl
        have hszx : (Tryd.prog.info? 23).map (·.size) = some (vals X).length := by rw [vals_length, hXl]; exact size_dig
        have hszy : (Tryd.prog.info? 23).map (·.size) = some (vals Y).length := by rw [vals_length, hYl]; exact size_dig
        have HS0 := hide hS0
        clear hX hY hXl hYl hx1 hx2 hS0 hxy heq HR1 HR2 HL1 HL2 hb
        go_wp2
        refine wp_region_held_drew (S := fun W : World => W.rangeAt b1 (k * 32) (vals X) ∧ W.rangeAt b2 (k * 32) (vals Y) ∧ Below w.heap.size w W) (by kernel_rfl) ?_ (fun hHeld0 => ?_)
        · exact ⟨HS0.out.1, HS0.out.2.1, HS0.out.2.2.drew⟩
        refine wpAnyH_take (i := 0) (v := ?_) rfl (by kernel_rfl) (by kernel_rfl) (by kernel_rfl) (fun _ _ _ h => h) (Or.inl ⟨by rfl, ?_⟩) hHeld0 ?_
        rotate_left
        · (intro w hSw; (try dsimp only at hSw); go_simp <;> (try with_reducible rfl))
        simp only [Act.put, List.getElem_toArray, List.getElem_cons_zero, List.getElem_cons_succ, List.setIfInBounds_toArray, List.set_cons_zero, List.set_cons_succ]
        refine wpAnyH_take (i := 1) (v := ?_) rfl (by kernel_rfl) (by kernel_rfl) (by kernel_rfl) (fun _ _ _ h => h) (Or.inl ⟨by rfl, ?_⟩) hHeld0 ?_
        rotate_left
        · (intro w hSw; (try dsimp only at hSw); go_simp <;> (try with_reducible rfl))
        simp only [Act.put, List.getElem_toArray, List.getElem_cons_zero, List.getElem_cons_succ, List.setIfInBounds_toArray, List.set_cons_zero, List.set_cons_succ]
        refine wpAnyH_take (i := 2) (v := ?_) rfl (by kernel_rfl) (by kernel_rfl) (by kernel_rfl) (fun _ _ _ h => h) (Or.inl ⟨by rfl, ?_⟩) hHeld0 ?_
        rotate_left
        · (intro w hSw; (try dsimp only at hSw); go_simp <;> (try with_reducible rfl))
        simp only [Act.put, List.getElem_toArray, List.getElem_cons_zero, List.getElem_cons_succ, List.setIfInBounds_toArray, List.set_cons_zero, List.set_cons_succ]
        refine wpAnyH_take (i := 3) (v := .agg (vals X).toArray) rfl (by kernel_rfl) (by kernel_rfl) (by kernel_rfl) (fun _ _ _ h => h) (yieldsIf_load_mid (by rfl) _ _ rfl _ _ rfl (vals X) _ (fun w hSw => hSw.1) Tryd.underlying23 rfl hszx) hHeld0 ?_
        simp only [Act.put, List.getElem_toArray, List.getElem_cons_zero, List.getElem_cons_succ, List.setIfInBounds_toArray, List.set_cons_zero, List.set_cons_succ]
        refine wpAnyH_take (i := 4) (v := ?_) rfl (by kernel_rfl) (by kernel_rfl) (by kernel_rfl) (fun _ _ _ h => h) (Or.inl ⟨by rfl, ?_⟩) hHeld0 ?_
        rotate_left
        · (intro w hSw; (try dsimp only at hSw); go_simp <;> (try with_reducible rfl))
        simp only [Act.put, List.getElem_toArray, List.getElem_cons_zero, List.getElem_cons_succ, List.setIfInBounds_toArray, List.set_cons_zero, List.set_cons_succ]
        refine wpAnyH_take (i := 5) (v := ?_) rfl (by kernel_rfl) (by kernel_rfl) (by kernel_rfl) (fun _ _ _ h => h) (Or.inl ⟨by rfl, ?_⟩) hHeld0 ?_
        rotate_left
        · (intro w hSw; (try dsimp only at hSw); go_simp <;> (try with_reducible rfl))
        simp only [Act.put, List.getElem_toArray, List.getElem_cons_zero, List.getElem_cons_succ, List.setIfInBounds_toArray, List.set_cons_zero, List.set_cons_succ]
        refine wpAnyH_take (i := 6) (v := ?_) rfl (by kernel_rfl) (by kernel_rfl) (by kernel_rfl) (fun _ _ _ h => h) (Or.inl ⟨by rfl, ?_⟩) hHeld0 ?_
        rotate_left
        · (intro w hSw; (try dsimp only at hSw); go_simp <;> (try with_reducible rfl))
        simp only [Act.put, List.getElem_toArray, List.getElem_cons_zero, List.getElem_cons_succ, List.setIfInBounds_toArray, List.set_cons_zero, List.set_cons_succ]
        refine wpAnyH_take (i := 7) (v := .agg (vals Y).toArray) rfl (by kernel_rfl) (by kernel_rfl) (by kernel_rfl) (fun _ _ _ h => h) (yieldsIf_load_mid (by rfl) _ _ rfl _ _ rfl (vals Y) _ (fun w hSw => hSw.2.1) Tryd.underlying23 rfl hszy) hHeld0 ?_
        simp only [Act.put, List.getElem_toArray, List.getElem_cons_zero, List.getElem_cons_succ, List.setIfInBounds_toArray, List.set_cons_zero, List.set_cons_succ]
        refine wpAnyH_take (i := 8) (v := ?_) rfl (by kernel_rfl) (by kernel_rfl) (by kernel_rfl) (fun _ _ _ h => h) (Or.inl ⟨by rfl, ?_⟩) hHeld0 ?_
        rotate_left
        · (intro w hSw; (try dsimp only at hSw); go_simp <;> (try with_reducible rfl))
        simp only [Act.put, List.getElem_toArray, List.getElem_cons_zero, List.getElem_cons_succ, List.setIfInBounds_toArray, List.set_cons_zero, List.set_cons_succ]
        refine wpAnyH_done (by kernel_rfl) ?_ _
        go_wp2
        go_ret
        exact ⟨by rw [HNE.out]; rfl, hHeld0.2.2⟩
    · have hki : ¬ (k : Int) < (n : Int) := by omega
      have HNE : Hid (decide (L1 = L2) = true) := decide_eq_true (rows_eq_of L1 L2 n HL1.out HL2.out (fun j hj => heq j (by omega)))
      clear heq HR1 HR2 HL1 HL2
      go_wp2
      go_ret
      exact ⟨by rw [HNE.out]; rfl, hb⟩
end Go.Proofs.YtfgjgaenhpelkaaDoor
