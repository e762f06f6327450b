/- The document's DigestAt and Nibbles. -/
import Derived.Test.YtfgjgaenhpelkaaDoorRKey1
namespace Go.Proofs.YtfgjgaenhpelkaaDoor
open Go.RowKit
set_option linter.unusedVariables false
set_option linter.unusedSimpArgs false

/-- The first k bytes of D, and 0 behind them. -/
def pbytes (D : List Int) (k : Nat) : List Int := D.take k ++ List.replicate (32 - k) 0
theorem pbytes_length (D : List Int) (k : Nat) (hD : D.length = 32) (hk : k ≤ 32) : (pbytes D k).length = 32 := by simp [pbytes]; omega
theorem pbytes_set (D : List Int) (k : Nat) (hD : D.length = 32) (hk : k < 32) : (pbytes D k).set k (D.getD k 0) = pbytes D (k + 1) := by
  unfold pbytes
  have hl : (D.take k).length = k := by rw [List.length_take]; omega
  rw [List.set_append_right _ _ (by omega), hl, Nat.sub_self, take_snoc D k (by omega), List.append_assoc, show 32 - k = (32 - (k + 1)) + 1 by omega, List.replicate_succ, List.set_cons_zero]
  rfl

set_option maxRecDepth 100000 in
set_option maxHeartbeats 4000000 in
/-- The digest at a place of a signature. -/
theorem rdigestAt_any (b off cap : Nat) (sig : List Int) (k : Nat) (w : World) (hs : sig.length = 2144) (hsb : Sz.Byt sig) (hcap : 2144 ≤ cap) (hk : k < 67) (hr : w.rangeAt b off (vals sig)) (hb0 : b < w.heap.size) :
    Calls Tryd.prog 8 #[.slice (some ⟨b, off, none⟩) 2144 cap, .int .i64 (32 * (k : Int))] w fun e w' => e = .returned (.agg (vals (Ky.sigAt sig k)).toArray) ∧ Below w.heap.size w w' := by
  have hDl : (Ky.sigAt sig k).length = 32 := Ky.sigAt_length sig k (by omega)
  have hDg : ∀ j, j < 32 → (Ky.sigAt sig k).getD j 0 = sig.getD (32 * k + j) 0 := fun j hj => Ky.sigAt_getD sig k j hj
  have HRG : Hid (∀ j, j < 32 → w.cell? ⟨b, off + (32 * k + j), none⟩ = some (.int .u8 ((Ky.sigAt sig k).getD j 0))) := fun j hj => by
    rw [hDg j hj]
    exact hr (32 * k + j) _ (vals_get sig _ (by omega))
  generalize Ky.sigAt sig k = D at *
  have hzd := zero_dig
  obtain ⟨Z, hZ⟩ : ∃ Z, Z = vals (List.replicate 32 0) := ⟨_, rfl⟩
  rw [← hZ] at hzd
  have hZl : Z.length = 32 := by rw [hZ]; simp [vals]
  have hZp : ¬ Z = [] := by intro h; rw [h] at hZl; cases hZl
  have HZ0 : Hid (Z = vals (pbytes D 0)) := by show _ = _; rw [hZ]; rfl
  have HZL := hide hZl
  have HDL := hide hDl
  have HPS : Hid (∀ j, j < 32 → (pbytes D j).set j (D.getD j 0) = pbytes D (j + 1)) := fun j hj => pbytes_set D j hDl hj
  have HPL : Hid (∀ j, j ≤ 32 → (pbytes D j).length = 32) := fun j hj => pbytes_length D j hDl hj
  have HP32 : Hid (pbytes D 32 = D) := by show _ = _; unfold pbytes; rw [List.take_of_length_le (by omega), Nat.sub_self]; simp
  clear hZ hZl hDl hDg hr hs
  go_enter Tryd.func8, Tryd.ntmps8
  go_wp2
  go_loopw [6] (fun i wr => ∃ j : Nat, j ≤ 32 ∧ i = .int .i64 j ∧ Is wr (w.heap.size + 1) (vals (pbytes D j)) 23 ∧ Is wr w.heap.size Z 23 ∧ Below w.heap.size w wr) (fun i _ => 32 - (intOf i).toNat)
  case atStart => exact ⟨0, by omega, rfl, by rw [← HZ0.out]; exact Is.new' Z 23 (by simp), (Is.new w Z 23).alloc _, below_alloc2 _ _ _⟩
  case round =>
    obtain ⟨j, hj, rfl, hi, hz, hb⟩ := hrel
    by_cases hjl : j < 32
    · have hji : (j : Int) < 32 := by omega
      have hc1 : wr.cell? ⟨b, off + (32 * k + j), none⟩ = some (.int .u8 (D.getD j 0)) := by rw [hb.cell (p := ⟨b, off + (32 * k + j), none⟩) hb0]; exact HRG.out j hjl
      have hps := HPS.out j hjl
      have hpl := HPL.out j (by omega)
      have hc2 : wr.cell? ⟨w.heap.size + 1, j, none⟩ = some (.int .u8 ((pbytes D j).getD j 0)) := by rw [hi.cell, vals_get _ _ (by omega)]
      have hf2 := hi.frozen j
      obtain ⟨x, hx⟩ : ∃ x, x = D.getD j 0 := ⟨_, rfl⟩
      rw [← hx] at hc1 hps
      generalize (pbytes D j).getD j 0 = y at *
      have HX := hide hx
      have HI := hide hi
      have HZZ := hide hz
      have HPS1 := hide hps
      have hadd : IntKind.i64.wrap (32 * (k : Int) + (j : Int)) = 32 * (k : Int) + (j : Int) := IntWalk.i64_in _ (by omega)
      have hlt : 32 * (k : Int) + (j : Int) < 2144 := by omega
      have htn : (32 * (k : Int) + (j : Int)).toNat = 32 * k + j := by omega
      clear hi hz hps hx hpl HRG HPS HPL
      go_wp2
      refine ⟨⟨j + 1, by omega, by go_num, ?_, HZZ.out.other ⟨w.heap.size + 1, j, none⟩ _ (by simp), hb.setCell (p := ⟨w.heap.size + 1, j, none⟩) (Nat.le_succ _) _⟩, by simp [intOf]; omega⟩
      rw [← HPS1.out, ← vals_set]
      exact HI.out.set j _
    · have hji : ¬ (j : Int) < 32 := by omega
      have hje : j = 32 := by omega
      rw [hje, HP32.out] at hi
      have HI := hide hi
      have HZZ := hide hz
      clear hi hz HRG HPS HPL HP32 hje HZ0
      go_wp2_with (first
        | (refine wpList_load_arr2 23 (vals D) (w.heap.size + 1) rfl (.tmp 5) rfl rfl HI.out Tryd.underlying23 size_dig (by rw [vals_length]; exact HDL.out) ?_)
        | (refine wpList_store_any2 23 Z (vals D) w.heap.size rfl (.tmp 4) (.tmp 19) rfl rfl rfl rfl HZZ.out size_dig HZL.out (by rw [vals_length]; exact HDL.out) (vals_one _) ?_; intro w7 hi7 hb7 hk7 hz7))
      have hr := hi7.cellsOf Tryd.underlying23 (by rw [vals_length, HDL.out]; exact size_dig)
      exact bodyPost_ret (v := .agg (vals D).toArray) (results_cell1 Tryd.results8 rfl hr) rfl ⟨rfl, hb7 _ _ hb (Nat.le_refl _)⟩

/-- Numbers of the call's own. -/
def OwnN (w : World) (base : Nat) (v : Value) (l : List Nat) : Prop := w.ownsRow base 3 1 v l.length (ivals l)
theorem elem_int : Elem 31 3 1 := elem_of (.int .i64 0) 8 Tryd.underlying31 (by kernel_rfl) (by omega) rfl (by omega)
theorem ivals_append (a b : List Nat) : ivals (a ++ b) = ivals a ++ ivals b := by simp [ivals]
theorem nibs_succ (m : List Int) (k : Nat) : Ky.nibs m (k + 1) = Ky.nibs m k ++ [Ky.nib m k] := by simp [Ky.nibs, List.range_succ]
theorem nibs_length (m : List Int) (k : Nat) : (Ky.nibs m k).length = k := by simp [Ky.nibs]
theorem nib_even' (m : List Int) (k : Nat) (h : k % 2 = 0) : Ky.nib m k = (m.getD (k / 2) 0).toNat / 16 := by unfold Ky.nib; rw [if_pos h]
theorem nib_odd' (m : List Int) (k : Nat) (h : ¬ k % 2 = 0) : Ky.nib m k = (m.getD (k / 2) 0).toNat % 16 := by unfold Ky.nib; rw [if_neg h]

set_option maxRecDepth 100000 in
set_option maxHeartbeats 4000000 in
theorem rnibbles_any (m : List Int) (w : World) (hm : m.length = 32) (hmb : Sz.Byt m) :
    Calls Tryd.prog 7 #[.agg (vals m).toArray] w fun e w' => ∃ v, e = .returned v ∧ OwnN w' (w.heap.size + 1) v (Ky.digits m) ∧ Below w.heap.size w w' := by
  have HI0 := hide (Is.new w (vals m) 23)
  have HB0 := hide (below_alloc w (.cells (vals m).toArray 23))
  have HM := hide hm
  clear hm
  go_enter Tryd.func7, Tryd.ntmps7
  go_wp2
  go_loopw [3, 4, 5] (fun v s i wr => ∃ k : Nat, k ≤ 64 ∧ i = .int .i64 k ∧ s = .int .i64 (Ky.lack m k : Nat) ∧ wr.ownsRow (w.heap.size + 1) 3 1 v k (ivals (Ky.nibs m k)) ∧ Is wr w.heap.size (vals m) 23 ∧ Below w.heap.size w wr) (fun _ _ i _ => 64 - (intOf i).toNat)
  case atStart => exact ⟨0, by omega, rfl, rfl, World.ownsRow_nil _ _ _ _, HI0.out, HB0.out⟩
  case round =>
    obtain ⟨k, hk, rfl, rfl, ho, hi, hb⟩ := hrel
    clear HI0 HB0
    obtain ⟨oa, oc, rfl⟩ := owns_form ho
    have hll := Ky.lack_le m k
    by_cases hkl : k < 64
    · have hki : (k : Int) < 64 := by omega
      have hv := hi.cell (k / 2)
      rw [vals_get m _ (by rw [HM.out]; omega)] at hv
      have hbk := hmb.getD (k / 2)
      obtain ⟨x, hx⟩ := Int.eq_ofNat_of_zero_le hbk.1
      rw [hx] at hv
      have hx2 : x < 256 := by omega
      have hnx : Ky.nib m k = if k % 2 = 0 then x / 16 else x % 16 := by unfold Ky.nib; rw [hx, Int.toNat_natCast]
      have hns := nibs_succ m k
      have hls : Ky.lack m (k + 1) = Ky.lack m k + (15 - Ky.nib m k) := rfl
      generalize Ky.nib m k = y at *
      obtain ⟨L, hL⟩ : ∃ L, L = Ky.lack m k := ⟨_, rfl⟩
      rw [← hL] at hll hls ⊢
      have hq0 : 0 ≤ (k : Int) / 2 := by omega
      have hq1 : (k : Int) / 2 < 32 := by omega
      have hqn : ((k : Int) / 2).toNat = k / 2 := by omega
      have hil := hi.lt
      generalize hX : Ky.nibs m k = X at *
      have HNS := hide hns
      have HLS := hide hls
      have HO := hide ho
      have HI := hide hi
      clear hns hls ho hi hx hbk hL hX
      have hy15 : y ≤ 15 := by split at hnx <;> omega
      obtain ⟨wA, hwA⟩ : ∃ wA, wA = wr := ⟨_, rfl⟩
      subst hwA
      have FIN : Hid (∀ (Y : Int) v6 (w6 : World), Y = (y : Int) → w6.ownsRow (w.heap.size + 1) 3 1 v6 (k + 1) (ivals X ++ [.int .i64 Y]) → (wA.alloc (.cells #[.int .i64 Y] 3)).grownBy w6 (Value.ownBlock (.slice oa k oc)) →
          ∃ k' : Nat, k' ≤ 64 ∧ Value.int .i64 ((k : Int) + 1) = .int .i64 k' ∧ Value.int .i64 ((L : Int) + (15 - Y)) = .int .i64 (Ky.lack m k' : Nat) ∧ w6.ownsRow (w.heap.size + 1) 3 1 v6 k' (ivals (Ky.nibs m k')) ∧ Is w6 w.heap.size (vals m) 23 ∧ Below w.heap.size w w6) := fun Y v6 w6 hY h6 hg => by
        subst hY
        refine ⟨k + 1, by omega, by go_num, ?_, ?_, (HI.out.alloc _).grown hg (fun e => by have := (World.ownsRow.lt HO.out _ e).1; omega), (hb.alloc hb.size _).grown hg (hb.alloc hb.size _).size (fun r hr => by have := (World.ownsRow.lt HO.out r hr).1; omega)⟩
        · rw [HLS.out]; congr 1; omega
        · rw [HNS.out, ivals_append]; exact h6
      by_cases hpar : k % 2 = 0
      · rw [if_pos hpar] at hnx
        have hpi : (k : Int) % 2 = 0 := by omega
        have hyx : (x : Int) / 16 = (y : Int) := by omega
        have HYX := hide hyx
        have hxb : (x : Int) / 16 ≤ 15 := by omega
        have hxb0 : 0 ≤ (x : Int) / 16 := by omega
        clear hnx hyx
        go_wp2_with (at_builtin; refine wpList_append_gen _ 31 3 1 rfl (.tmp 26) (.tmp 28) rfl (w.heap.size + 1) (.slice oa k oc) k (ivals X) rfl wA.heap.size 0 1 1 [.int .i64 ((x : Int) / 16)] rfl (owns_below HO.out (below_alloc wA _)) elem_int (by omega) rfl (Is.new wA _ _).range (by simp [Value.oneCell']) (by omega) (Nat.le_trans hil (by simp)) ?_; intro v6 w6 h6 hg6 hw6)
        exact ⟨FIN.out _ v6 w6 HYX.out h6 hg6, by simp [intOf]; omega⟩
      · rw [if_neg hpar] at hnx
        have hpi : (k : Int) % 2 = 1 := by omega
        have hyx : (x : Int) % 16 = (y : Int) := by omega
        have HYX := hide hyx
        have hxb : (x : Int) % 16 ≤ 15 := by omega
        have hxb0 : 0 ≤ (x : Int) % 16 := by omega
        clear hnx hyx
        go_wp2_with (at_builtin; refine wpList_append_gen _ 31 3 1 rfl (.tmp 26) (.tmp 28) rfl (w.heap.size + 1) (.slice oa k oc) k (ivals X) rfl wA.heap.size 0 1 1 [.int .i64 ((x : Int) % 16)] rfl (owns_below HO.out (below_alloc wA _)) elem_int (by omega) rfl (Is.new wA _ _).range (by simp [Value.oneCell']) (by omega) (Nat.le_trans hil (by simp)) ?_; intro v6 w6 h6 hg6 hw6)
        exact ⟨FIN.out _ v6 w6 HYX.out h6 hg6, by simp [intOf]; omega⟩
    · have hki : ¬ (k : Int) < 64 := by omega
      have hke : k = 64 := by omega
      have hdg : Ky.digits m = Ky.nibs m k ++ [Ky.lack m k / 256, Ky.lack m k / 16 % 16, Ky.lack m k % 16] := by rw [hke]; rfl
      have hdl := Ky.digits_length m
      generalize Ky.lack m k = L at *
      generalize Ky.nibs m k = X at *
      have hil := hi.lt
      have HO := hide ho
      have HDG := hide hdg
      have HDL := hide hdl
      clear ho hi hdg hdl hkl hk HM
      obtain ⟨wA, hwA⟩ : ∃ wA, wA = wr := ⟨_, rfl⟩
      subst hwA
      go_wp2_with (at_builtin; refine wpList_append_gen _ 31 3 1 rfl (.tmp 34) (.tmp 42) rfl (w.heap.size + 1) (.slice oa k oc) k (ivals X) rfl wA.heap.size 0 3 3 [.int .i64 ((L : Int) / 256), .int .i64 ((L : Int) / 16 % 16), .int .i64 ((L : Int) % 16)] rfl (owns_below HO.out (below_alloc wA _)) elem_int (by omega) rfl (Is.new wA _ _).range (by simp [Value.oneCell']) (by omega) (Nat.le_trans hil (by simp)) ?_; intro v6 w6 h6 hg6 hw6)
      go_ret
      refine ⟨_, rfl, ?_, (hb.alloc hb.size _).grown hg6 (hb.alloc hb.size _).size (fun r hr => by have := (World.ownsRow.lt HO.out r hr).1; omega)⟩
      have e0 : (L : Int) / 256 = ((L / 256 : Nat) : Int) := by omega
      have e1 : (L : Int) / 16 % 16 = ((L / 16 % 16 : Nat) : Int) := by omega
      have e2 : (L : Int) % 16 = ((L % 16 : Nat) : Int) := by omega
      rw [e0, e1, e2] at h6
      unfold OwnN
      rw [HDL.out, HDG.out, ivals_append, show 67 = k + 3 by omega]
      exact h6
end Go.Proofs.YtfgjgaenhpelkaaDoor
