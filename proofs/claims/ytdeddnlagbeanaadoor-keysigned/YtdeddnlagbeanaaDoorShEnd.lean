/- The contract of ending: what stands behind so many bytes. -/
import Derived.Test.YtdeddnlagbeanaaDoorShDig
namespace Go.Proofs.YtdeddnlagbeanaaDoor
open Go.RowKit
set_option linter.unusedVariables false

/-- What is laid into the 72 bytes by k rounds. -/
def pend (n k : Nat) : List Int := (List.range 72).map fun i => if i = 0 then 128 else if 1 + Sh.zeros n ≤ i ∧ i < 1 + Sh.zeros n + k then (((n * 8) >>> (56 - 8 * (i - 1 - Sh.zeros n)) % 256 : Nat) : Int) else 0
theorem pend_length (n k : Nat) : (pend n k).length = 72 := by simp [pend]
theorem zeros_lt (n : Nat) : Sh.zeros n < 64 := Nat.mod_lt _ (by omega)
theorem pend_zero (n : Nat) : pend n 0 = (128 : Int) :: List.replicate 71 0 := by
  have h : pend n 0 = (List.range 72).map fun i => if i = 0 then (128 : Int) else 0 := by
    unfold pend
    apply List.map_congr_left
    intro i _
    by_cases e : i = 0
    · rw [if_pos e, if_pos e]
    · rw [if_neg e, if_neg e, if_neg (by omega)]
  rw [h]; rfl
theorem pend_step (n k : Nat) (h : k < 8) : (pend n k).set (1 + Sh.zeros n + k) (((n * 8) >>> (56 - 8 * k) % 256 : Nat) : Int) = pend n (k + 1) := by
  have hz := zeros_lt n
  apply List.ext_getElem
  · simp [pend]
  · intro i h1 h2
    simp only [List.getElem_set, pend, List.getElem_map, List.getElem_range]
    by_cases e : 1 + Sh.zeros n + k = i
    · subst e
      rw [if_pos rfl, if_neg (by omega), if_pos (by omega), show 1 + Sh.zeros n + k - 1 - Sh.zeros n = k by omega]
    · rw [if_neg e]
      by_cases e0 : i = 0
      · rw [if_pos e0, if_pos e0]
      · rw [if_neg e0, if_neg e0]
        by_cases e1 : 1 + Sh.zeros n ≤ i ∧ i < 1 + Sh.zeros n + k
        · rw [if_pos e1, if_pos (by omega)]
        · rw [if_neg e1, if_neg (by omega)]
theorem ending_length (n : Nat) : (Sh.ending n).length = 9 + Sh.zeros n := by simp [Sh.ending, Sh.be8]; omega
theorem pend_all (n : Nat) : (pend n 8).take (9 + Sh.zeros n) = Sh.ending n := by
  have hz := zeros_lt n
  apply List.ext_getElem
  · simp [pend, ending_length]; omega
  · intro i h1 h2
    rw [ending_length] at h2
    simp only [List.getElem_take, pend, List.getElem_map, List.getElem_range]
    cases i with
    | zero => simp [Sh.ending]
    | succ i =>
      rw [if_neg (by omega)]
      simp only [Sh.ending, List.getElem_cons_succ]
      by_cases e1 : i < Sh.zeros n
      · rw [if_neg (by omega), List.getElem_append_left (by simpa using e1)]; simp
      · rw [if_pos (by omega), List.getElem_append_right (by simpa using e1)]
        simp only [Sh.be8, List.getElem_map, List.getElem_range, List.length_replicate]
        rw [show i + 1 - 1 - Sh.zeros n = i - Sh.zeros n by omega]
theorem ending_byt (n : Nat) : Sz.Byt (Sh.ending n) := by
  intro x hx
  simp only [Sh.ending, Sh.be8, List.mem_cons, List.mem_append, List.mem_replicate, List.mem_map] at hx
  rcases hx with rfl | ⟨_, rfl⟩ | ⟨i, _, rfl⟩
  · omega
  · omega
  · omega
theorem pend_byt (n k : Nat) : Sz.Byt (pend n k) := by
  intro x hx
  simp only [pend, List.mem_map] at hx
  obtain ⟨i, _, rfl⟩ := hx
  split
  · omega
  · split <;> omega
theorem size_end : Sized 77 72 := by unfold Sized; kernel_rfl
theorem zero_end (w : World) : (zeroValue 77).run Tryd.prog w = .ok (.agg (vals (List.replicate 72 0)).toArray) w := by
  have h : (Tryd.prog.info? 77).map (fun i => (i.zero, i.size)) = some (some (.agg (vals (List.replicate 72 0)).toArray), 72) := by kernel_rfl
  exact (zero_of_info h).1 w
theorem zeros_int (n : Nat) (h : n < 18446744073709551616) : ((55 - (n : Int)) % 18446744073709551616) % 64 = ((Sh.zeros n : Nat) : Int) := by
  unfold Sh.zeros; omega

set_option maxRecDepth 100000 in
set_option maxHeartbeats 400000 in
theorem ending_any (n : Nat) (w : World) (hn : n < 2305843009213693952) :
    Calls Tryd.prog 47 #[.int .u64 n] w fun e w' => e = .returned (.tuple #[.agg (vals (pend n 8)).toArray, .int .i64 ((9 + Sh.zeros n : Nat) : Int)]) ∧ Below w.heap.size w w' := by
  obtain ⟨Z, hZ⟩ : ∃ Z, Z = vals (List.replicate 72 0) := ⟨_, rfl⟩
  have hz := zero_end
  rw [← hZ] at hz
  have hZl : Z.length = 72 := by rw [hZ]; simp [vals]
  have hZ0 : Z.set 0 (.int .u8 128) = vals (pend n 0) := by rw [hZ, vals_set, pend_zero]; rfl
  have hZ1 : ∀ v ∈ Z.set 0 (.int .u8 128), v.oneCell' = true := by rw [hZ0]; exact vals_one _
  have hZ2 : (Z.set 0 (.int .u8 128)).length = 72 := by rw [List.length_set]; exact hZl
  have hI2 : Is ((w.alloc (.cells Z.toArray 77)).alloc (.cells Z.toArray 77)) (w.heap.size + 1) Z 77 := Is.new' Z 77 (by simp)
  have hI1 : Is ((w.alloc (.cells Z.toArray 77)).alloc (.cells Z.toArray 77)) w.heap.size Z 77 := (Is.new w Z 77).alloc _
  have HZ0 := hide hZ0
  have HZ1 := hide hZ1
  have HZ2 := hide hZ2
  have HI1 := hide hI1
  have HI2 := hide hI2
  have HZL := hide hZl
  have hzi := zeros_int n (by omega)
  have hzl := zeros_lt n
  have HST := hide (pend_step n)
  have HB := hide (below_alloc2 w (.cells Z.toArray 77) (.cells Z.toArray 77))
  have hZp : ¬ Z = [] := by intro h; rw [h] at hZl; cases hZl
  clear hZ hZ0 hZ1 hZ2 hI1 hI2 hZl
  obtain ⟨z, hzz⟩ : ∃ z, z = Sh.zeros n := ⟨_, rfl⟩
  rw [← hzz] at hzi hzl HST
  have hzw : (IntKind.u64.wrap (55 - (n : Int))).tmod 64 = (z : Int) := by
    have e : IntKind.u64.wrap (55 - (n : Int)) = (55 - (n : Int)) % 18446744073709551616 := by simp [IntKind.wrap, IntKind.bits, IntKind.signed]
    rw [e, Int.tmod_eq_emod_of_nonneg (Int.emod_nonneg _ (by decide)), hzi]
  clear hzi
  have HZZ := hide hzz
  clear hzz
  go_enter Tryd.func47, Tryd.ntmps47
  go_wp2_with (refine wpList_store_row 77 Z (Z.set 0 (.int .u8 128)) (w.heap.size + 1) HI2.out size_end HZL.out HZ2.out HZ1.out rfl (.tmp 4) (.tmp 8) rfl rfl rfl rfl ?_)
  go_loopw [15] (fun i wr => ∃ k : Nat, k ≤ 8 ∧ i = .int .i64 k ∧ Below w.heap.size w wr ∧ Is wr w.heap.size Z 77 ∧ Is wr (w.heap.size + 1) (vals (pend n k)) 77) (fun i _ => 8 - (intOf i).toNat)
  case atStart =>
    refine ⟨0, by omega, rfl, below_setRow HB.out (Nat.le_succ _) _, ?_, ?_⟩
    · unfold Is; rw [setRow_other _ _ _ _ (by omega)]; exact HI1.out
    · rw [← HZ0.out]; exact HI2.out.row _
  case round =>
    obtain ⟨k, hk, rfl, hbel, h1, h2⟩ := hrel
    clear HI1 HI2 HB
    have H1 := hide h1
    have H2 := hide h2
    by_cases hk8 : k < 8
    · have hc := h2.cell (1 + z + k)
      rw [vals_get _ _ (by rw [pend_length]; omega)] at hc
      have hf := h2.frozen (1 + z + k)
      have hst := hide (HST.out k hk8)
      have hm : (56 : Int) - 8 * (k : Int) = ((56 - 8 * k : Nat) : Int) := by omega
      have hm2 : 56 - 8 * k < 64 := by omega
      obtain ⟨m, hmm⟩ : ∃ m, m = 56 - 8 * k := ⟨_, rfl⟩
      rw [← hmm] at hm hm2 hst
      clear h1 h2 HST hmm
      go_wp2
      go_roundw
      case rel =>
        have e : (n : Int) * 8 / 2 ^ m % 256 = (((n * 8) >>> m % 256 : Nat) : Int) := by
          rw [Nat.shiftRight_eq_div_pow, Int.natCast_emod, Int.natCast_ediv, Int.natCast_mul, Int.natCast_pow]; rfl
        rw [e]
        refine ⟨k + 1, by omega, by go_num, hbel.setCell (p := ⟨w.heap.size + 1, 1 + z + k, none⟩) (Nat.le_succ _) _, H1.out.other ⟨w.heap.size + 1, 1 + z + k, none⟩ _ (by show w.heap.size + 1 ≠ w.heap.size; omega), ?_⟩
        rw [← hst.out, ← vals_set]
        exact H2.out.set _ _
      case measure => simp [intOf]; omega
    · have hk' : k = 8 := by omega
      rw [hk'] at h2
      clear H1 H2
      have hr := (h1.row (vals (pend n 8))).cellsOf Tryd.underlying77 (by rw [vals_length, pend_length]; exact size_end)
      have hel := pend_length n 8
      have hkn : ¬ (k : Int) < 8 := by omega
      generalize hE : pend n 8 = E at *
      have HE := hide hE
      have H1 := hide h1
      have H2 := hide h2
      have HR := hide hr
      have HEL := hide hel
      clear h1 h2 hr hk' hk8 hk hE hel HST
      go_wp2_with (first
        | (refine wpList_load_arr 77 (vals E) (w.heap.size + 1) H2.out Tryd.underlying77 size_end (by rw [vals_length]; exact HEL.out) rfl (.tmp 4) rfl rfl ?_)
        | (refine wpList_store_row 77 Z (vals E) w.heap.size H1.out size_end HZL.out (by rw [vals_length]; exact HEL.out) (vals_one _) rfl (.tmp 2) (.tmp 30) rfl rfl rfl rfl ?_))
      refine bodyPost_ret (results_cell2 Tryd.results47 rfl HR.out) rfl ⟨?_, below_setRow hbel (Nat.le_refl _) _⟩
      rw [HE.out, ← HZZ.out]
      have e9 : (1 : Int) + z + 8 = 9 + (z : Int) := by omega
      show Ending.returned (.tuple #[.agg (vals E).toArray, .int .i64 ((1 : Int) + z + 8)]) = _
      rw [e9]
end Go.Proofs.YtdeddnlagbeanaaDoor
