/- The document's places. -/
import Derived.Test.YtifoldkbmpopnaaDoorCnCp
import Derived.Test.YtifoldkbmpopnaaDoorBytes
namespace Go.Proofs.YtifoldkbmpopnaaDoor
open Go.RowKit
set_option linter.unusedVariables false
set_option linter.unusedSimpArgs false

theorem cmpB_at : ∀ (A B : List Int) (k : Nat), A.length = B.length → k < A.length → (∀ j, j < k → A.getD j 0 = B.getD j 0) → (A.getD k 0 < B.getD k 0 → Cn.cmpB A B = -1) ∧ (B.getD k 0 < A.getD k 0 → Cn.cmpB A B = 1)
  | [], [], k, _, hk, _ => absurd hk (by simp)
  | [], _ :: _, k, h, _, _ => by simp at h
  | _ :: _, [], k, h, _, _ => by simp at h
  | a :: l, b :: m, 0, _, _, _ => by
    refine ⟨fun h => ?_, fun h => ?_⟩
    · have h' : a < b := h
      unfold Cn.cmpB; rw [if_pos h']
    · have h' : b < a := h
      unfold Cn.cmpB; rw [if_neg (by omega), if_pos h']
  | a :: l, b :: m, k + 1, h, hk, hj => by
    have e : a = b := hj 0 (by omega)
    have ih := cmpB_at l m k (by simpa using h) (by simpa using hk) (fun j hj' => hj (j + 1) (by omega))
    refine ⟨fun h => ?_, fun h => ?_⟩
    · unfold Cn.cmpB; rw [if_neg (by omega), if_neg (by omega)]; exact ih.1 h
    · unfold Cn.cmpB; rw [if_neg (by omega), if_neg (by omega)]; exact ih.2 h
theorem getD_ext (A B : List Int) (h : A.length = B.length) (hj : ∀ j, j < A.length → A.getD j 0 = B.getD j 0) : A = B := by
  apply List.ext_getElem h
  intro i h1 h2
  have := hj i h1
  simpa [List.getD, List.getElem?_eq_getElem h1, List.getElem?_eq_getElem h2] using this
set_option maxRecDepth 100000 in
set_option maxHeartbeats 2000000 in
theorem rplaces_any (A B : List Int) (x y : Int) (w : World) (hA : A.length = 32) (hB : B.length = 32) :
    Calls Tryd.prog 5 #[.agg (vals A ++ [Value.int .i64 x]).toArray, .agg (vals B ++ [Value.int .i64 y]).toArray] w fun e w' => e = .returned (.int .i64 (Cn.pl (A, x) (B, y))) ∧ Below w.heap.size w w' := by
  obtain ⟨P, hP⟩ : ∃ P, P = vals A ++ [Value.int .i64 x] := ⟨_, rfl⟩
  obtain ⟨Q, hQ⟩ : ∃ Q, Q = vals B ++ [Value.int .i64 y] := ⟨_, rfl⟩
  obtain ⟨W0, hW0⟩ : ∃ W0, W0 = (w.alloc (.cells P.toArray 25)).alloc (.cells Q.toArray 25) := ⟨_, rfl⟩
  have HX0 : Hid (Is W0 w.heap.size P 25) := hide (by rw [hW0]; exact (Is.new w P 25).alloc (.cells Q.toArray 25))
  have HY0 : Hid (Is W0 (w.heap.size + 1) Q 25) := hide (by rw [hW0]; exact Is.new' Q 25 (by simp))
  have HB0 : Hid (Below w.heap.size w W0) := hide (by rw [hW0]; exact below_alloc2 w _ _)
  have HCA : Hid (∀ W, Is W w.heap.size P 25 → ∀ j, j < 32 → W.cell? ⟨w.heap.size, j, none⟩ = some (.int .u8 (A.getD j 0))) := hide (fun W h j hj => by rw [h.cell j, hP, List.getElem?_append_left (by rw [vals_length, hA]; exact hj)]; exact vals_get A j (by omega))
  have HCB : Hid (∀ W, Is W (w.heap.size + 1) Q 25 → ∀ j, j < 32 → W.cell? ⟨w.heap.size + 1, j, none⟩ = some (.int .u8 (B.getD j 0))) := hide (fun W h j hj => by rw [h.cell j, hQ, List.getElem?_append_left (by rw [vals_length, hB]; exact hj)]; exact vals_get B j (by omega))
  have HAX : Hid (∀ W, Is W w.heap.size P 25 → W.cell? ⟨w.heap.size, 32, none⟩ = some (.int .i64 x)) := hide (fun W h => by rw [h.cell 32, hP, List.getElem?_append_right (by rw [vals_length, hA]; omega), vals_length, hA]; rfl)
  have HBY : Hid (∀ W, Is W (w.heap.size + 1) Q 25 → W.cell? ⟨w.heap.size + 1, 32, none⟩ = some (.int .i64 y)) := hide (fun W h => by rw [h.cell 32, hQ, List.getElem?_append_right (by rw [vals_length, hB]; omega), vals_length, hB]; rfl)
  have HLE := hide (hA.trans hB.symm)
  have HLA := hide hA
  obtain ⟨r, hr⟩ : ∃ r, r = Cn.pl (A, x) (B, y) := ⟨_, rfl⟩
  have HR := hide hr
  rw [← hr, ← hP, ← hQ]
  clear hr hP hQ hA hB
  go_enter Tryd.func5, Tryd.ntmps5
  go_wp2
  rw [← hW0]
  clear hW0
  go_loopw [5] (fun i wr => ∃ k : Nat, k ≤ 32 ∧ i = .int .i64 k ∧ (∀ j, j < k → A.getD j 0 = B.getD j 0) ∧ Below W0.heap.size W0 wr) (fun i _ => 32 - (intOf i).toNat)
  case atStart => exact ⟨0, by omega, rfl, fun j hj => absurd hj (by omega), Below.refl _ _⟩
  case round =>
    obtain ⟨k, hk, rfl, heq, hbel⟩ := hrel
    have HBL := hide hbel
    have HEQ := hide heq
    have HX := hide (HX0.out.below hbel HX0.out.lt)
    have HY := hide (HY0.out.below hbel HY0.out.lt)
    clear heq hbel
    by_cases hlt : k < 32
    · have hki : (k : Int) < 32 := by omega
      have hc1 := HCA.out _ HX.out k hlt
      have hc2 := HCB.out _ HY.out k hlt
      have HAT := hide (cmpB_at A B k HLE.out (by rw [HLA.out]; exact hlt) HEQ.out)
      obtain ⟨a, ha⟩ : ∃ a, a = A.getD k 0 := ⟨_, rfl⟩
      obtain ⟨b, hb⟩ : ∃ b, b = B.getD k 0 := ⟨_, rfl⟩
      rw [← ha] at hc1
      rw [← hb] at hc2
      rw [← ha, ← hb] at HAT
      have HAE := hide ha
      have HBE := hide hb
      clear ha hb
      by_cases h1 : a < b
      · have hd : decide (a < b) = true := decide_eq_true h1
        have HRV : Hid (r = -1) := hide (by rw [HR.out]; have := HAT.out.1 h1; unfold Cn.pl; rw [this]; rfl)
        go_wp2
        go_quiet (fail)
        go_wp2
        go_ret
        exact ⟨by rw [HRV.out]; rfl, HB0.out.trans ((HBL.out.trans ((quietBelow _ _).mono HBL.out.size)).mono HB0.out.size)⟩
      · have hd : decide (a < b) = false := decide_eq_false h1
        by_cases h2 : b < a
        · have hd2 : decide (b < a) = true := decide_eq_true h2
          have HRV : Hid (r = 1) := hide (by rw [HR.out]; have := HAT.out.2 h2; unfold Cn.pl; rw [this]; rfl)
          go_wp2
          go_quiet (fail)
          go_wp2
          go_quiet (fail)
          go_wp2
          go_ret
          exact ⟨by rw [HRV.out]; rfl, HB0.out.trans (((HBL.out.trans ((quietBelow _ _).mono HBL.out.size)).trans ((quietBelow _ _).mono (Nat.le_trans HBL.out.size (quietBelow _ _).size))).mono HB0.out.size)⟩
        · have hd2 : decide (b < a) = false := decide_eq_false h2
          go_wp2
          go_quiet (fail)
          go_wp2
          go_quiet (fail)
          go_wp2
          go_roundw
          case rel =>
            refine ⟨k + 1, by omega, by go_num, fun j hj => ?_, HBL.out.trans ((quietBelow _ _).mono HBL.out.size)⟩
            by_cases e : j = k
            · subst e; rw [← HAE.out, ← HBE.out]; omega
            · exact HEQ.out j (by omega)
          case measure => simp [intOf]; omega
    · have hki : ¬ (k : Int) < 32 := by omega
      have HAB : Hid (A = B) := hide (getD_ext A B HLE.out (fun j hj => HEQ.out j (by rw [HLA.out] at hj; omega)))
      have hx := HAX.out _ HX.out
      have hy := HBY.out _ HY.out
      have HRV : Hid (r = Cn.cmpI x y) := hide (by rw [HR.out, HAB.out]; unfold Cn.pl; rw [Cn.cmpB_self]; rfl)
      by_cases h1 : x < y
      · have hd : decide (x < y) = true := decide_eq_true h1
        go_wp2
        go_ret
        exact ⟨by rw [HRV.out]; unfold Cn.cmpI; rw [if_pos (by omega)]; rfl, HB0.out.trans (HBL.out.mono HB0.out.size)⟩
      · have hd : decide (x < y) = false := decide_eq_false h1
        by_cases h2 : y < x
        · have hd2 : decide (y < x) = true := decide_eq_true h2
          go_wp2
          go_ret
          exact ⟨by rw [HRV.out]; unfold Cn.cmpI; rw [if_neg (by omega), if_pos (by omega)]; rfl, HB0.out.trans (HBL.out.mono HB0.out.size)⟩
        · have hd2 : decide (y < x) = false := decide_eq_false h2
          go_wp2
          go_ret
          exact ⟨by rw [HRV.out]; unfold Cn.cmpI; rw [if_neg (by omega), if_neg (by omega)]; rfl, HB0.out.trans (HBL.out.mono HB0.out.size)⟩
end Go.Proofs.YtifoldkbmpopnaaDoor
