/- The contract of masked: each byte of a block unlike the mask, bit by bit. -/
import Derived.Test.YtdeddnlagbeanaaDoorShSum
import Derived.Test.YtdeddnlagbeanaaDoorShEq
import Derived.Test.YtdeddnlagbeanaaDoorMc
namespace Go.Proofs.YtdeddnlagbeanaaDoor
open Go.RowKit
set_option linter.unusedVariables false

/-- The first k bytes masked. -/
def pmask (m : Nat) (c : List Int) (k : Nat) : List Int := (Mc.mask m c).take k ++ c.drop k
theorem pmask_length (m : Nat) (c : List Int) (k : Nat) : (pmask m c k).length = c.length := by
  simp [pmask, Mc.mask]; omega
theorem pmask_zero (m : Nat) (c : List Int) : pmask m c 0 = c := by simp [pmask]
theorem pmask_all (m : Nat) (c : List Int) (k : Nat) (h : c.length = k) : pmask m c k = Mc.mask m c := by
  simp [pmask, ← h]
  rw [List.take_of_length_le (by simp [Mc.mask])]
theorem pmask_at (m : Nat) (c : List Int) (k : Nat) (h : k < c.length) : (pmask m c k).getD k 0 = c.getD k 0 := by
  simp only [pmask, List.getD]
  rw [List.getElem?_append_right (by simp [Mc.mask]; omega)]
  simp [Mc.mask, List.getElem?_drop]
  rw [Nat.min_eq_left (by omega)]
  simp
theorem pmask_step (m : Nat) (c : List Int) (k : Nat) (h : k < c.length) : (pmask m c k).set k (((c.getD k 0).toNat ^^^ m : Nat) : Int) = pmask m c (k + 1) := by
  apply List.ext_getElem
  · simp [pmask, Mc.mask]; omega
  · intro i h1 h2
    have hl : ((Mc.mask m c).take k).length = k := by simp [Mc.mask]; omega
    have hl1 : ((Mc.mask m c).take (k + 1)).length = k + 1 := by simp [Mc.mask]; omega
    have hi : i < c.length := by rw [List.length_set, pmask_length] at h1; exact h1
    rw [List.getElem_set]
    by_cases e : k = i
    · subst e
      rw [if_pos rfl]
      simp only [pmask]
      rw [List.getElem_append_left (by rw [hl1]; omega)]
      simp [Mc.mask, List.getD, List.getElem?_eq_getElem h]
    · rw [if_neg e]
      simp only [pmask]
      by_cases hlt : i < k
      · rw [List.getElem_append_left (by rw [hl]; exact hlt), List.getElem_append_left (by rw [hl1]; omega)]
        simp
      · rw [List.getElem_append_right (by rw [hl]; omega), List.getElem_append_right (by rw [hl1]; omega)]
        simp only [List.getElem_drop, hl, hl1]
        congr 1
        omega

theorem zero_rest (w : World) : (zeroValue 68).run Tryd.prog w = .ok (.agg (vals (List.replicate 64 0)).toArray) w := by
  have h : (Tryd.prog.info? 68).map (fun i => (i.zero, i.size)) = some (some (.agg (vals (List.replicate 64 0)).toArray), 64) := by kernel_rfl
  exact (zero_of_info h).1 w

set_option maxRecDepth 100000 in
set_option maxHeartbeats 400000 in
theorem masked_any (c : List Int) (m : Nat) (w : World) (hc : c.length = 64) (hb : Sz.Byt c) (hm : m < 256) :
    Calls Tryd.prog 56 #[.agg (vals c).toArray, .int .u8 (m : Int)] w fun e w' => e = .returned (.agg (vals (Mc.mask m c)).toArray) ∧ Below w.heap.size w w' := by
  obtain ⟨Z, hZ⟩ : ∃ Z, Z = vals (List.replicate 64 0) := ⟨_, rfl⟩
  have hz := zero_rest
  rw [← hZ] at hz
  have hZl : Z.length = 64 := by rw [hZ]; simp [vals]
  have hZp : ¬ Z = [] := by intro h; rw [h] at hZl; cases hZl
  have HC := hide hc
  have HZL := hide hZl
  clear hZ hZl hc
  go_enter Tryd.func56, Tryd.ntmps56
  go_wp2
  go_loopw [6] (fun i wr => ∃ k : Nat, k ≤ 64 ∧ i = .int .i64 k ∧ Below w.heap.size w wr ∧ Is wr (w.heap.size + 1) Z 68 ∧ Is wr w.heap.size (vals (pmask m c k)) 68) (fun i _ => 64 - (intOf i).toNat)
  case atStart => exact ⟨0, by omega, rfl, below_alloc2 _ _ _, Is.new' Z 68 (by simp), by rw [pmask_zero]; exact (Is.new w (vals c) 68).alloc _⟩
  case round =>
    obtain ⟨k, hk, rfl, hbel, h1, h2⟩ := hrel
    by_cases hk8 : k < 64
    · have hg := h2.cell k
      rw [vals_get _ _ (by rw [pmask_length, HC.out]; exact hk8), pmask_at _ _ _ (by rw [HC.out]; exact hk8)] at hg
      have hf := h2.frozen k
      have hst := hide (pmask_step m c k (by rw [HC.out]; exact hk8))
      have hbk := hb.getD k
      obtain ⟨x, hx⟩ := Int.eq_ofNat_of_zero_le hbk.1
      have hx2 : x < 256 := by omega
      rw [hx] at hg
      rw [hx, Int.toNat_natCast] at hst
      have H1 := hide h1
      have H2 := hide h2
      clear h1 h2 hx hbk
      go_wp2
      go_roundw
      case rel =>
        refine ⟨k + 1, by omega, by go_num, hbel.setCell (p := ⟨w.heap.size, k, none⟩) (Nat.le_refl _) _, H1.out.other ⟨w.heap.size, k, none⟩ _ (by show w.heap.size ≠ w.heap.size + 1; omega), ?_⟩
        rw [u8_xor_nat x m hx2 hm, ← hst.out, ← vals_set]
        exact H2.out.set _ _
      case measure => simp [intOf]; omega
    · have hk' : k = 64 := by omega
      have hkn : ¬ (k : Int) < 64 := by omega
      rw [hk', pmask_all _ _ _ HC.out] at h2
      have hml : (Mc.mask m c).length = 64 := by rw [Mc.mask_length]; exact HC.out
      generalize hM : Mc.mask m c = M at *
      have HM := hide hM
      have H1 := hide h1
      have H2 := hide h2
      have HML := hide hml
      clear h1 h2 hk' hk8 hk hM hml
      go_wp2_with (first
        | (refine wpList_load_arr 68 (vals M) w.heap.size H2.out Tryd.underlying68 size_rest (by rw [vals_length]; exact HML.out) rfl (.tmp 2) rfl rfl ?_)
        | (refine wpList_store_any 68 Z (vals M) (w.heap.size + 1) H1.out size_rest HZL.out (by rw [vals_length]; exact HML.out) (vals_one _) rfl (.tmp 4) (.tmp 16) rfl rfl rfl rfl ?_; intro w2 hi2 hb2 hk2 hz2))
      have hr := hi2.cellsOf Tryd.underlying68 (by rw [vals_length, HML.out]; exact size_rest)
      exact bodyPost_ret (v := .agg (vals M).toArray) (results_cell1 Tryd.results56 rfl hr) rfl ⟨by rw [HM.out], hb2 _ _ hbel (Nat.le_succ _)⟩
end Go.Proofs.YtdeddnlagbeanaaDoor
