/- The texts ShDig, ShEnd, ShAbs, ShWrite, ShSum, one behind the other. -/
import Derived.Test.YtkdihbgjeanjdaaDoorShMix
import Derived.Deep.MidRow
import Derived.Laws.CopyOwn
import Derived.Deep.RegionHeld2
/- The contract of digest: the eight words as 32 bytes. -/
namespace Go.Proofs.YtkdihbgjeanjdaaDoor
open Go.RowKit
set_option linter.unusedVariables false

/-- The byte at a place of the digest. -/
def dby (s : Sh.St) (i : Nat) : Int := (((s.list.getD (i / 4) 0) >>> (24 - i % 4 * 8) % 256 : Nat) : Int)
/-- The bytes of the first k words, and 0 behind them. -/
def pdig (s : Sh.St) (k : Nat) : List Int := (List.range 32).map fun i => if i < 4 * k then dby s i else 0
theorem pdig_length (s : Sh.St) (k : Nat) : (pdig s k).length = 32 := by simp [pdig]
theorem pdig_zero (s : Sh.St) : pdig s 0 = List.replicate 32 0 := rfl
theorem pdig_all (s : Sh.St) : pdig s 8 = Sh.digest s := by
  unfold pdig Sh.digest
  apply List.map_congr_left
  intro i hi
  rw [if_pos (by simpa using hi)]
  rfl
theorem pdig_step (s : Sh.St) (k : Nat) (h : k < 8) :
    ((((pdig s k).set (4 * k) (dby s (4 * k))).set (4 * k + 1) (dby s (4 * k + 1))).set (4 * k + 2) (dby s (4 * k + 2))).set (4 * k + 3) (dby s (4 * k + 3)) = pdig s (k + 1) := by
  apply List.ext_getElem
  · simp [pdig]
  · intro i h1 h2
    simp only [List.getElem_set]
    by_cases e3 : 4 * k + 3 = i
    · subst e3; simp [pdig]; omega
    · rw [if_neg e3]
      by_cases e2 : 4 * k + 2 = i
      · subst e2; simp [pdig]; omega
      · rw [if_neg e2]
        by_cases e1 : 4 * k + 1 = i
        · subst e1; simp [pdig]; omega
        · rw [if_neg e1]
          by_cases e0 : 4 * k = i
          · subst e0; simp [pdig]
          · rw [if_neg e0]
            simp only [pdig, List.getElem_map, List.getElem_range]
            by_cases hi : i < 4 * k
            · rw [if_pos hi, if_pos (by omega)]
            · rw [if_neg hi, if_neg (by omega)]
theorem dby_at (s : Sh.St) (k j : Nat) (h : j < 4) : dby s (4 * k + j) = (((s.list.getD k 0) >>> (24 - j * 8) % 256 : Nat) : Int) := by
  unfold dby
  rw [show (4 * k + j) / 4 = k by omega, show (4 * k + j) % 4 = j by omega]

set_option maxRecDepth 100000 in
set_option maxHeartbeats 400000 in
theorem digest_any (g : Nat) (s : Sh.St) (tail : List Value) (ty : TypeId) (w : World) (hs : Is w g (wvals s.list ++ tail) ty) (hok : s.Ok) :
    Calls Tryd.prog 50 #[.pointer (some ⟨g, 0, none⟩)] w fun e w' => e = .returned (.agg (vals (Sh.digest s)).toArray) ∧ Below w.heap.size w w' := by
  have hlt := hs.lt
  have HS := hide hs
  clear hs
  go_enter Tryd.func50, Tryd.ntmps50
  go_wp2
  go_loopw [7] (fun i wr => ∃ k : Nat, k ≤ 8 ∧ i = .int .i64 k ∧ Below w.heap.size w wr ∧ (∃ c, c.length = 32 ∧ Is wr w.heap.size c 25) ∧ Is wr (w.heap.size + 1) (vals (pdig s k)) 25) (fun i _ => 8 - (intOf i).toNat)
  case atStart => exact ⟨0, by omega, rfl, below_alloc2 _ _ _, ⟨vals (pdig s 0), by rw [vals_length, pdig_length], (Is.new w (vals (pdig s 0)) 25).alloc _⟩, Is.new' (vals (pdig s 0)) 25 (by simp)⟩
  case round =>
    obtain ⟨k, hk, rfl, hbel, ⟨c, hcl, h1⟩, h2⟩ := hrel
    by_cases hk8 : k < 8
    · have hc := (HS.out.below hbel hlt).cell k
      rw [List.getElem?_append_left (by rw [wvals_length]; exact hk8), wvals_get _ _ hk8] at hc
      have hst : Hid _ := pdig_step s k hk8
      have hd0 : Hid (dby s (4 * k) = _) := dby_at s k 0 (by omega)
      have hd1 : Hid (dby s (4 * k + 1) = _) := dby_at s k 1 (by omega)
      have hd2 : Hid (dby s (4 * k + 2) = _) := dby_at s k 2 (by omega)
      have hd3 : Hid (dby s (4 * k + 3) = _) := dby_at s k 3 (by omega)
      have lx := Sh.getD_lt (Sh.list_lt s hok) (by omega) k
      generalize s.list.getD k 0 = x at *
      have hg : ∀ j, j < 32 → wr.cell? ⟨w.heap.size + 1, j, none⟩ = some (.int .u8 ((pdig s k).getD j 0)) := fun j hj => by rw [h2.cell, vals_get _ _ (by rw [pdig_length]; exact hj)]
      have g0 := hg (4 * k) (by omega)
      have g1 := hg (4 * k + 1) (by omega)
      have g2 := hg (4 * k + 2) (by omega)
      have g3 := hg (4 * k + 3) (by omega)
      have f0 := h2.frozen (4 * k)
      have f1 := h2.frozen (4 * k + 1)
      have f2 := h2.frozen (4 * k + 2)
      have f3 := h2.frozen (4 * k + 3)
      generalize (pdig s k).getD (4 * k) 0 = y0 at *
      generalize (pdig s k).getD (4 * k + 1) 0 = y1 at *
      generalize (pdig s k).getD (4 * k + 2) 0 = y2 at *
      generalize (pdig s k).getD (4 * k + 3) 0 = y3 at *
      have H1 := hide h1
      have H2 := hide h2
      clear h1 h2 hg
      go_wp2
      go_quiet (fail)
      go_wp2
      go_roundw
      case rel =>
        have sh : ∀ (n m : Nat), 2 ^ n = m → (x : Int) / (m : Nat) = ((x >>> n : Nat) : Int) := fun n m h => shr_cast x n m h
        have e0 : (x : Int) / 16777216 = dby s (4 * k) := by
          have := sh 24 16777216 rfl
          rw [show ((16777216 : Nat) : Int) = 16777216 from rfl] at this
          have h8 : x >>> 24 < 256 := by rw [Nat.shiftRight_eq_div_pow]; omega
          rw [hd0.out, this, Nat.zero_mul, Nat.sub_zero, Nat.mod_eq_of_lt h8]
        have e1 : (x : Int) / 65536 % 256 = dby s (4 * k + 1) := by
          have := sh 16 65536 rfl
          rw [show ((65536 : Nat) : Int) = 65536 from rfl] at this
          rw [hd1.out, this]; omega
        have e2 : (x : Int) / 256 % 256 = dby s (4 * k + 2) := by
          have := sh 8 256 rfl
          rw [show ((256 : Nat) : Int) = 256 from rfl] at this
          rw [hd2.out, this]; omega
        have e3 : (x : Int) % 256 = dby s (4 * k + 3) := by
          rw [hd3.out]; simp
        refine ⟨k + 1, by omega, by go_num, ?_, ⟨c, hcl, ?_⟩, ?_⟩
        · exact ((((below_drewN hbel _).setCell (p := ⟨w.heap.size + 1, 4 * k, none⟩) (Nat.le_succ _) _).setCell (p := ⟨w.heap.size + 1, 4 * k + 1, none⟩) (Nat.le_succ _) _).setCell (p := ⟨w.heap.size + 1, 4 * k + 2, none⟩) (Nat.le_succ _) _).setCell (p := ⟨w.heap.size + 1, 4 * k + 3, none⟩) (Nat.le_succ _) _
        · have hne : w.heap.size + 1 ≠ w.heap.size := by omega
          exact (((Is.other (w := wr.drewN _) H1.out ⟨w.heap.size + 1, 4 * k, none⟩ _ hne).other ⟨w.heap.size + 1, 4 * k + 1, none⟩ _ hne).other ⟨w.heap.size + 1, 4 * k + 2, none⟩ _ hne).other ⟨w.heap.size + 1, 4 * k + 3, none⟩ _ hne
        · rw [e0, e1, e2, e3, ← hst.out, ← vals_set, ← vals_set, ← vals_set, ← vals_set]
          exact (((Is.set (w := wr.drewN _) H2.out (4 * k) _).set (4 * k + 1) _).set (4 * k + 2) _).set (4 * k + 3) _
      case measure => simp [intOf]; omega
    · have hk' : k = 8 := by omega
      rw [hk', pdig_all] at h2
      have hkn : ¬ (k : Int) < 8 := by omega
      have hdl : (Sh.digest s).length = 32 := by simp [Sh.digest]
      have hr := (h1.row (vals (Sh.digest s))).cellsOf Tryd.underlying25 (by rw [vals_length, hdl]; exact size_dig)
      generalize hD : Sh.digest s = D at *
      have HD := hide hD
      clear hD
      have H1 := hide h1
      have H2 := hide h2
      have HR := hide hr
      clear h1 h2 hr hk' hk8 hk
      go_wp2_with (first
        | (refine wpList_load_arr 25 (vals D) (w.heap.size + 1) H2.out Tryd.underlying25 size_dig (by rw [vals_length]; exact hdl) rfl (.tmp 3) rfl rfl ?_)
        | (refine wpList_store_row 25 c (vals D) w.heap.size H1.out size_dig hcl (by rw [vals_length]; exact hdl) (vals_one _) rfl (.tmp 2) (.tmp 40) rfl rfl rfl rfl ?_))
      exact bodyPost_ret (v := .agg (vals D).toArray) (results_cell1 Tryd.results50 rfl HR.out) rfl ⟨by rw [HD.out], below_setRow hbel (Nat.le_refl _) _⟩
end Go.Proofs.YtkdihbgjeanjdaaDoor

/- The contract of ending: what stands behind so many bytes. -/
namespace Go.Proofs.YtkdihbgjeanjdaaDoor
open Go.RowKit
set_option linter.unusedVariables false

/-- What is laid into the 72 bytes by k rounds. -/
def pend (n k : Nat) : List Int := (List.range 72).map fun i => if i = 0 then 128 else if 1 + Sh.zeros n ≤ i ∧ i < 1 + Sh.zeros n + k then (((n * 8) >>> (56 - 8 * (i - 1 - Sh.zeros n)) % 256 : Nat) : Int) else 0
theorem pend_length (n k : Nat) : (pend n k).length = 72 := by simp [pend]
theorem zeros_lt (n : Nat) : Sh.zeros n < 64 := Nat.mod_lt _ (by omega)
theorem pend_zero (n : Nat) : pend n 0 = (128 : Int) :: List.replicate 71 0 := by
  have h : pend n 0 = (List.range 72).map fun i => if i = 0 then (128 : Int) else 0 := by
    unfold pend
    apply List.map_congr_left
    intro i _
    by_cases e : i = 0
    · rw [if_pos e, if_pos e]
    · rw [if_neg e, if_neg e, if_neg (by omega)]
  rw [h]; rfl
theorem pend_step (n k : Nat) (h : k < 8) : (pend n k).set (1 + Sh.zeros n + k) (((n * 8) >>> (56 - 8 * k) % 256 : Nat) : Int) = pend n (k + 1) := by
  have hz := zeros_lt n
  apply List.ext_getElem
  · simp [pend]
  · intro i h1 h2
    simp only [List.getElem_set, pend, List.getElem_map, List.getElem_range]
    by_cases e : 1 + Sh.zeros n + k = i
    · subst e
      rw [if_pos rfl, if_neg (by omega), if_pos (by omega), show 1 + Sh.zeros n + k - 1 - Sh.zeros n = k by omega]
    · rw [if_neg e]
      by_cases e0 : i = 0
      · rw [if_pos e0, if_pos e0]
      · rw [if_neg e0, if_neg e0]
        by_cases e1 : 1 + Sh.zeros n ≤ i ∧ i < 1 + Sh.zeros n + k
        · rw [if_pos e1, if_pos (by omega)]
        · rw [if_neg e1, if_neg (by omega)]
theorem ending_length (n : Nat) : (Sh.ending n).length = 9 + Sh.zeros n := by simp [Sh.ending, Sh.be8]; omega
theorem pend_all (n : Nat) : (pend n 8).take (9 + Sh.zeros n) = Sh.ending n := by
  have hz := zeros_lt n
  apply List.ext_getElem
  · simp [pend, ending_length]; omega
  · intro i h1 h2
    rw [ending_length] at h2
    simp only [List.getElem_take, pend, List.getElem_map, List.getElem_range]
    cases i with
    | zero => simp [Sh.ending]
    | succ i =>
      rw [if_neg (by omega)]
      simp only [Sh.ending, List.getElem_cons_succ]
      by_cases e1 : i < Sh.zeros n
      · rw [if_neg (by omega), List.getElem_append_left (by simpa using e1)]; simp
      · rw [if_pos (by omega), List.getElem_append_right (by simpa using e1)]
        simp only [Sh.be8, List.getElem_map, List.getElem_range, List.length_replicate]
        rw [show i + 1 - 1 - Sh.zeros n = i - Sh.zeros n by omega]
theorem ending_byt (n : Nat) : Sz.Byt (Sh.ending n) := by
  intro x hx
  simp only [Sh.ending, Sh.be8, List.mem_cons, List.mem_append, List.mem_replicate, List.mem_map] at hx
  rcases hx with rfl | ⟨_, rfl⟩ | ⟨i, _, rfl⟩
  · omega
  · omega
  · omega
theorem pend_byt (n k : Nat) : Sz.Byt (pend n k) := by
  intro x hx
  simp only [pend, List.mem_map] at hx
  obtain ⟨i, _, rfl⟩ := hx
  split
  · omega
  · split <;> omega
theorem size_end : Sized 93 72 := by unfold Sized; kernel_rfl
theorem zero_end (w : World) : (zeroValue 93).run Tryd.prog w = .ok (.agg (vals (List.replicate 72 0)).toArray) w := by
  have h : (Tryd.prog.info? 93).map (fun i => (i.zero, i.size)) = some (some (.agg (vals (List.replicate 72 0)).toArray), 72) := by kernel_rfl
  exact (zero_of_info h).1 w
theorem zeros_int (n : Nat) (h : n < 18446744073709551616) : ((55 - (n : Int)) % 18446744073709551616) % 64 = ((Sh.zeros n : Nat) : Int) := by
  unfold Sh.zeros; omega

set_option maxRecDepth 100000 in
set_option maxHeartbeats 400000 in
theorem ending_any (n : Nat) (w : World) (hn : n < 2305843009213693952) :
    Calls Tryd.prog 49 #[.int .u64 n] w fun e w' => e = .returned (.tuple #[.agg (vals (pend n 8)).toArray, .int .i64 ((9 + Sh.zeros n : Nat) : Int)]) ∧ Below w.heap.size w w' := by
  obtain ⟨Z, hZ⟩ : ∃ Z, Z = vals (List.replicate 72 0) := ⟨_, rfl⟩
  have hz := zero_end
  rw [← hZ] at hz
  have hZl : Z.length = 72 := by rw [hZ]; simp [vals]
  have hZ0 : Z.set 0 (.int .u8 128) = vals (pend n 0) := by rw [hZ, vals_set, pend_zero]; rfl
  have hZ1 : ∀ v ∈ Z.set 0 (.int .u8 128), v.oneCell' = true := by rw [hZ0]; exact vals_one _
  have hZ2 : (Z.set 0 (.int .u8 128)).length = 72 := by rw [List.length_set]; exact hZl
  have hI2 : Is ((w.alloc (.cells Z.toArray 93)).alloc (.cells Z.toArray 93)) (w.heap.size + 1) Z 93 := Is.new' Z 93 (by simp)
  have hI1 : Is ((w.alloc (.cells Z.toArray 93)).alloc (.cells Z.toArray 93)) w.heap.size Z 93 := (Is.new w Z 93).alloc _
  have HZ0 := hide hZ0
  have HZ1 := hide hZ1
  have HZ2 := hide hZ2
  have HI1 := hide hI1
  have HI2 := hide hI2
  have HZL := hide hZl
  have hzi := zeros_int n (by omega)
  have hzl := zeros_lt n
  have HST := hide (pend_step n)
  have HB := hide (below_alloc2 w (.cells Z.toArray 93) (.cells Z.toArray 93))
  have hZp : ¬ Z = [] := by intro h; rw [h] at hZl; cases hZl
  clear hZ hZ0 hZ1 hZ2 hI1 hI2 hZl
  obtain ⟨z, hzz⟩ : ∃ z, z = Sh.zeros n := ⟨_, rfl⟩
  rw [← hzz] at hzi hzl HST
  have hzw : (IntKind.u64.wrap (55 - (n : Int))).tmod 64 = (z : Int) := by
    have e : IntKind.u64.wrap (55 - (n : Int)) = (55 - (n : Int)) % 18446744073709551616 := by simp [IntKind.wrap, IntKind.bits, IntKind.signed]
    rw [e, Int.tmod_eq_emod_of_nonneg (Int.emod_nonneg _ (by decide)), hzi]
  clear hzi
  have HZZ := hide hzz
  clear hzz
  go_enter Tryd.func49, Tryd.ntmps49
  go_wp2_with (refine wpList_store_row 93 Z (Z.set 0 (.int .u8 128)) (w.heap.size + 1) HI2.out size_end HZL.out HZ2.out HZ1.out rfl (.tmp 4) (.tmp 8) rfl rfl rfl rfl ?_)
  go_loopw [15] (fun i wr => ∃ k : Nat, k ≤ 8 ∧ i = .int .i64 k ∧ Below w.heap.size w wr ∧ Is wr w.heap.size Z 93 ∧ Is wr (w.heap.size + 1) (vals (pend n k)) 93) (fun i _ => 8 - (intOf i).toNat)
  case atStart =>
    refine ⟨0, by omega, rfl, below_setRow HB.out (Nat.le_succ _) _, ?_, ?_⟩
    · unfold Is; rw [setRow_other _ _ _ _ (by omega)]; exact HI1.out
    · rw [← HZ0.out]; exact HI2.out.row _
  case round =>
    obtain ⟨k, hk, rfl, hbel, h1, h2⟩ := hrel
    clear HI1 HI2 HB
    have H1 := hide h1
    have H2 := hide h2
    by_cases hk8 : k < 8
    · have hc := h2.cell (1 + z + k)
      rw [vals_get _ _ (by rw [pend_length]; omega)] at hc
      have hf := h2.frozen (1 + z + k)
      have hst := hide (HST.out k hk8)
      have hm : (56 : Int) - 8 * (k : Int) = ((56 - 8 * k : Nat) : Int) := by omega
      have hm2 : 56 - 8 * k < 64 := by omega
      obtain ⟨m, hmm⟩ : ∃ m, m = 56 - 8 * k := ⟨_, rfl⟩
      rw [← hmm] at hm hm2 hst
      clear h1 h2 HST hmm
      go_wp2
      go_roundw
      case rel =>
        have e : (n : Int) * 8 / 2 ^ m % 256 = (((n * 8) >>> m % 256 : Nat) : Int) := by
          rw [Nat.shiftRight_eq_div_pow, Int.natCast_emod, Int.natCast_ediv, Int.natCast_mul, Int.natCast_pow]; rfl
        rw [e]
        refine ⟨k + 1, by omega, by go_num, hbel.setCell (p := ⟨w.heap.size + 1, 1 + z + k, none⟩) (Nat.le_succ _) _, H1.out.other ⟨w.heap.size + 1, 1 + z + k, none⟩ _ (by show w.heap.size + 1 ≠ w.heap.size; omega), ?_⟩
        rw [← hst.out, ← vals_set]
        exact H2.out.set _ _
      case measure => simp [intOf]; omega
    · have hk' : k = 8 := by omega
      rw [hk'] at h2
      clear H1 H2
      have hr := (h1.row (vals (pend n 8))).cellsOf Tryd.underlying93 (by rw [vals_length, pend_length]; exact size_end)
      have hel := pend_length n 8
      have hkn : ¬ (k : Int) < 8 := by omega
      generalize hE : pend n 8 = E at *
      have HE := hide hE
      have H1 := hide h1
      have H2 := hide h2
      have HR := hide hr
      have HEL := hide hel
      clear h1 h2 hr hk' hk8 hk hE hel HST
      go_wp2_with (first
        | (refine wpList_load_arr 93 (vals E) (w.heap.size + 1) H2.out Tryd.underlying93 size_end (by rw [vals_length]; exact HEL.out) rfl (.tmp 4) rfl rfl ?_)
        | (refine wpList_store_row 93 Z (vals E) w.heap.size H1.out size_end HZL.out (by rw [vals_length]; exact HEL.out) (vals_one _) rfl (.tmp 2) (.tmp 30) rfl rfl rfl rfl ?_))
      refine bodyPost_ret (results_cell2 Tryd.results49 rfl HR.out) rfl ⟨?_, below_setRow hbel (Nat.le_refl _) _⟩
      rw [HE.out, ← HZZ.out]
      have e9 : (1 : Int) + z + 8 = 9 + (z : Int) := by omega
      show Ending.returned (.tuple #[.agg (vals E).toArray, .int .i64 ((1 : Int) + z + 8)]) = _
      rw [e9]
end Go.Proofs.YtkdihbgjeanjdaaDoor

/- What a hasher holds of the bytes that were written into it: lists alone. -/
namespace Go.Proofs.YtkdihbgjeanjdaaDoor
open Go.RowKit
set_option linter.unusedVariables false

theorem comp_append (l m : List Int) (k : Nat) (h : 64 * k ≤ l.length) : Sh.comp (l ++ m) k = Sh.comp l k := by
  induction k with
  | zero => rfl
  | succ k ih =>
    rw [Sh.comp, Sh.comp, ih (by omega), List.drop_append_of_le_length (by omega), List.take_append_of_le_length (by rw [List.length_drop]; omega)]

/-- The words st and the bytes R that lie behind them, of all bytes. -/
structure Abs (st : Sh.St) (R all : List Int) : Prop where
  len : R.length = 64
  byt : Sz.Byt R
  tail : R.take (all.length % 64) = all.drop (64 * (all.length / 64))
  words : st = Sh.comp all (all.length / 64)

theorem Abs.ok {st : Sh.St} {R all : List Int} (h : Abs st R all) : st.Ok := by rw [h.words]; exact Sh.comp_ok _ _

theorem splice_len (R c : List Int) (f : Nat) (h : R.length = 64) (hf : f + c.length ≤ 64) : (splice R f c).length = 64 := by rw [length_splice _ _ _ (by omega), h]
theorem splice_byt {R c : List Int} (f : Nat) (h : Sz.Byt R) (hc : Sz.Byt c) : Sz.Byt (splice R f c) := (h.take _).append (hc.append (h.drop _))
theorem splice_take (R c : List Int) (f : Nat) (h : f ≤ R.length) : (splice R f c).take (f + c.length) = R.take f ++ c := by
  unfold splice
  have hf : (R.take f).length = f := by rw [List.length_take]; omega
  rw [List.take_append, hf, List.take_of_length_le (by omega), Nat.add_sub_cancel_left, List.take_append_of_le_length (Nat.le_refl _), List.take_length]

theorem Abs.part {st : Sh.St} {R all c : List Int} (h : Abs st R all) (hc : Sz.Byt c) (hl : all.length % 64 + c.length < 64) : Abs st (splice R (all.length % 64) c) (all ++ c) := by
  have e1 : (all ++ c).length % 64 = all.length % 64 + c.length := by rw [List.length_append]; omega
  have e2 : (all ++ c).length / 64 = all.length / 64 := by rw [List.length_append]; omega
  have hR := h.len
  refine ⟨splice_len R c _ hR (by omega), splice_byt _ h.byt hc, ?_, ?_⟩
  · rw [e1, e2, splice_take _ _ _ (by omega), h.tail, List.drop_append_of_le_length (by omega)]
  · rw [e2, comp_append _ _ _ (by omega)]; exact h.words

theorem Abs.full {st : Sh.St} {R all c : List Int} (h : Abs st R all) (hc : Sz.Byt c) (hl : all.length % 64 + c.length = 64) : Abs (Sh.mix st (splice R (all.length % 64) c)) (splice R (all.length % 64) c) (all ++ c) := by
  have e1 : (all ++ c).length % 64 = 0 := by rw [List.length_append]; omega
  have e2 : (all ++ c).length / 64 = all.length / 64 + 1 := by rw [List.length_append]; omega
  have hR := h.len
  have e3 : splice R (all.length % 64) c = (all ++ c).drop (64 * (all.length / 64)) := by
    have := splice_take R c (all.length % 64) (by omega)
    rw [hl, List.take_of_length_le (by rw [splice_len R c _ hR (by omega)]; omega), h.tail] at this
    rw [this, List.drop_append_of_le_length (by omega)]
  refine ⟨splice_len R c _ hR (by omega), splice_byt _ h.byt hc, ?_, ?_⟩
  · rw [e1, e2, List.take_zero, List.drop_eq_nil_of_le (by rw [List.length_append]; omega)]
  · rw [e2, Sh.comp, comp_append _ _ _ (by omega), ← h.words, ← e3, List.take_of_length_le (by rw [splice_len R c _ hR (by omega)]; omega)]

theorem Abs.zero (R : List Int) (h : R.length = 64) (hb : Sz.Byt R) : Abs Sh.init R [] := ⟨h, hb, rfl, rfl⟩

/-- The cells of a hasher. -/
def hcells (st : Sh.St) (R : List Int) (n : Nat) : List Value := wvals st.list ++ (vals R ++ [.int .u64 (n : Int)])
theorem hcells_length (st : Sh.St) (R : List Int) (n : Nat) (h : R.length = 64) : (hcells st R n).length = 73 := by simp [hcells, wvals_length, vals_length, h, Sh.St.list]
theorem hcells_taken (st : Sh.St) (R : List Int) (n : Nat) (h : R.length = 64) : (hcells st R n)[72]? = some (.int .u64 (n : Int)) := by
  have h8 : (wvals st.list).length = 8 := rfl
  have h64 : (vals R).length = 64 := by rw [vals_length, h]
  unfold hcells
  rw [List.getElem?_append_right (by omega), h8, List.getElem?_append_right (by omega), h64]
  rfl
theorem hcells_set (st : Sh.St) (R : List Int) (n m : Nat) (h : R.length = 64) : (hcells st R n).set 72 (.int .u64 (m : Int)) = hcells st R m := by
  have h8 : (wvals st.list).length = 8 := rfl
  have h64 : (vals R).length = 64 := by rw [vals_length, h]
  unfold hcells
  rw [List.set_append_right _ _ (by omega), h8, List.set_append_right _ _ (by omega), h64]
  rfl
theorem hcells_splice (st : Sh.St) (R c : List Int) (n f : Nat) (h : R.length = 64) (hf : f + c.length ≤ 64) :
    (hcells st R n).take (8 + f) ++ (vals c ++ (hcells st R n).drop (8 + f + (vals c).length)) = hcells st (splice R f c) n := by
  have h8 : (wvals st.list).length = 8 := rfl
  have h64 : (vals R).length = 64 := by rw [vals_length, h]
  unfold hcells splice
  rw [List.take_append, h8, List.take_of_length_le (by omega), Nat.add_sub_cancel_left, List.take_append_of_le_length (by omega), vals_length, List.drop_append, h8, List.drop_eq_nil_of_le (by omega), List.nil_append, show 8 + f + c.length - 8 = f + c.length by omega, List.drop_append_of_le_length (by omega)]
  simp only [vals, List.map_append, List.map_take, List.map_drop, List.append_assoc]
theorem hcells_range {w : World} {g : Nat} {st : Sh.St} {R : List Int} {n : Nat} {t : TypeId} (h : Is w g (hcells st R n) t) : w.rangeAt g 8 (vals R) := fun j v hv => by
  have hj : j < (vals R).length := (List.getElem?_eq_some_iff.1 hv).1
  rw [h.cell]
  unfold hcells
  rw [List.getElem?_append_right (by show 8 ≤ _; omega), show 8 + j - (wvals st.list).length = j by show 8 + j - 8 = j; omega, List.getElem?_append_left hj]
  exact hv
end Go.Proofs.YtkdihbgjeanjdaaDoor

/- The contract of the hasher's Write: it takes the bytes, and turns nothing that was there but the hasher. -/
namespace Go.Proofs.YtkdihbgjeanjdaaDoor
open Go.RowKit
set_option linter.unusedVariables false

/-- How long a slice is: for the loop's measure. -/
def lenOf : Value → Nat | .slice _ n _ => n | _ => 0

theorem size_u8 : (Tryd.prog.info? 5).map (·.size) = some 1 := by kernel_rfl

theorem size_u8' (w : World) : (sizeOf 5).run Tryd.prog w = .ok 1 w := by
  obtain ⟨i, hi, hz, hs, hby⟩ := info_u8
  simp [sizeOf, typeInfo, hi, hs]
theorem slice_rest (g o f : Nat) (w : World) (hf : f < 64) : (Instr.sliceAt 88 (.pointer (some ⟨g, o, none⟩)) (some (.int .i64 (f : Int))) none none).run Tryd.prog w = .ok (.slice (some ⟨g, o + f, none⟩) (64 - f) (64 - f)) w := by
  have hu := Tryd.underlying88
  have ha : Tryd.prog.arrayLen 88 = 64 := by simp [Program.arrayLen, hu]
  have he : Tryd.prog.elem 88 = 5 := by simp [Program.elem, hu]
  have := run_sliceAt_array_l (P := Tryd.prog) w 88 ⟨g, o, none⟩ (by rw [ha, he]; exact hu) .i64 (f : Int) (by omega) (by rw [ha]; omega)
  rw [this, he, size_u8', ha]
  simp [slicedAt, Addr.add_lit, show ¬ (64 : Nat) = f by omega]

theorem slice_from (a : Addr) (L C m : Nat) (w : World) (hm : m ≤ L) : (Instr.slice 36 (.slice (some a) L C) (some (.int .i64 (m : Int))) none none).run Tryd.prog w = .ok (.slice (if C = m then some a else some (a.add m)) (L - m) (C - m)) w := by
  have hu := Tryd.underlying36
  have hun : (underlying 36).run Tryd.prog w = .ok (.slice 5) w := by simp [underlying, hu]
  simp [Instr.slice, hun, Instr.sliceBounds, Instr.sliceBound, asIntOf, hm, Result.andThen]
theorem slice_from' (a : Addr) (L C m : Nat) (w : World) (hm : m ≤ L) : (Instr.sliceAt 36 (.slice (some a) L C) (some (.int .i64 (m : Int))) none none).run Tryd.prog w = .ok (.slice (if C = m then some a else some (a.add m)) (L - m) (C - m)) w := by
  have hu := Tryd.underlying36
  have he : Tryd.prog.elem 36 = 5 := by simp [Program.elem, hu]
  rw [run_sliceAt_slice (P := Tryd.prog) w _ _ _ _ _ (by rw [he]; exact hu), slice_from a L C m w hm]

/-- Bytes are copied into what a hasher has not mixed in yet. -/
theorem wpList_copy_hash {w : World} {ops : Array Oper} {rest : List Oper} {o : Oper} {a : Act} {Q : Exit → Act → World → Prop} (g : Nat) (st : Sh.St) (R : List Int) (n : Nat) (ty : TypeId) (hi : Is w g (hcells st R n) ty) (hgd : o.guard = none) (d s : Operand)
    (ho : o.op = .call { callee := .builtin .copy, args := #[d, s], argTypes := #[36, 36] }) (f L C : Nat) (ad : Addr) (hd : a.eval d = .slice (some ⟨g, 8 + f, none⟩) (64 - f) (64 - f)) (hs : a.eval s = .slice (some ad) L C)
    (hR : R.length = 64) (c : List Int) (m : Nat) (hcm : c.length = m) (hm : m = Nat.min L (64 - f)) (hf : f + m ≤ 64) (hsrc : ∀ j v, (vals c)[j]? = some v → w.cell? (ad.add j) = some v)
    (h : ∀ w2, Is w2 g (hcells st (splice R f c) n) ty → (∀ B w0, Only g B w0 w → Only g B w0 w2) → wpList Tryd.prog ops Q rest (a.put o.dst (.int .i64 (m : Int))) w2) : wpList Tryd.prog ops Q (o :: rest) a w := by
  have hl := hcells_length st R n hR
  refine wpList_copy_own hgd d s 36 36 ho 5 Tryd.underlying36 size_u8 g (8 + f) (64 - f) (64 - f) ad L C hd hs _ ty hi (vals c) (by rw [vals_length, hcm, hm]) hsrc (by rw [List.size_toArray, hl, vals_length]; omega) (vals_one _) ?_
  have e := hcells_splice st R c n f hR (by omega)
  have hg : goInt ((vals c).length : Nat) = .int .i64 (m : Int) := by rw [vals_length, hcm]; rfl
  rw [hg]
  refine h _ ?_ (fun B w0 h0 => h0.setRow (.inl rfl) _)
  rw [← e]
  exact Is.row hi _

set_option maxRecDepth 100000 in
set_option maxHeartbeats 800000 in
theorem hwrite_some (g b off cap : Nat) (all l : List Int) (st : Sh.St) (R : List Int) (w : World) (hA : Abs st R all) (hS : Is w g (hcells st R all.length) 91) (ht : Tab w) (hg : 1 < g)
    (hne : b ≠ g) (hbt : Sz.Byt l) (h0 : 0 < l.length) (hcap : l.length ≤ cap) (hm : cap ≤ maxLen) (hc : ∀ j, j < l.length → w.cell? ⟨b, off + j, none⟩ = some (.int .u8 (l.getD j 0))) (hlen : all.length + l.length < 2305843009213693952) :
    Calls Tryd.prog 30 #[.pointer (some ⟨g, 0, none⟩), .slice (some ⟨b, off, none⟩) l.length cap] w fun e w' => e = .returned (.tuple #[]) ∧
      (∃ st' R', Abs st' R' (all ++ l) ∧ Is w' g (hcells st' R' (all ++ l).length) 91) ∧ Only g w.heap.size w w' := by
  unfold maxLen at hm
  have hlt := hS.lt
  have hlb : b < w.heap.size := World.block_lt_of_cell? w ⟨b, off + 0, none⟩ (hc 0 h0)
  have HS := hide hS
  have HT := hide ht
  have HC := hide hc
  clear hS ht hc
  go_enter Tryd.func30, Tryd.ntmps30
  go_wp2
  go_loopw [1] (fun v wr => ∃ (k : Nat) (A : Option Addr) (st : Sh.St) (R : List Int) (n : Nat), k ≤ l.length ∧ v = .slice A (l.length - k) (cap - k) ∧ (k < l.length → A = some ⟨b, off + k, none⟩) ∧ n = all.length + k ∧ Abs st R (all ++ l.take k) ∧
      Is wr g (hcells st R n) 91 ∧ Only g w.heap.size w wr) (fun v _ => lenOf v)
  case atStart => exact ⟨0, _, st, R, all.length, by omega, rfl, fun _ => rfl, rfl, by simpa using hA, HS.out, Only.refl _ _ _⟩
  case round =>
    obtain ⟨k, A, st, R, n, hk, rfl, hAd, hn, hAb, hs1, ho1⟩ := hrel
    by_cases hkl : k < l.length
    · obtain rfl := hAd hkl
      have hnl : (all ++ l.take k).length = n := by rw [List.length_append, List.length_take]; omega
      have hR := hAb.len
      have hct := hs1.cell 72
      rw [hcells_taken _ _ _ hR] at hct
      have hft := hs1.frozen 72
      obtain ⟨L, hL⟩ : ∃ L, L = l.length - k := ⟨_, rfl⟩
      obtain ⟨C, hC⟩ : ∃ C, C = cap - k := ⟨_, rfl⟩
      rw [← hL, ← hC]
      have hL0 : 0 < L := by omega
      obtain ⟨f, hf⟩ : ∃ f, f = n % 64 := ⟨_, rfl⟩
      have hfi : (n : Int).tmod 64 = (f : Int) := by rw [Int.tmod_eq_emod_of_nonneg (by omega)]; omega
      have hf64 : f < 64 := by omega
      have hnb : n < 2305843009213693952 := by omega
      have hC47 : C ≤ 9223372036854775807 := by omega
      have hLC : L ≤ C := by omega
      have hsl := fun w => slice_rest g 8 f w hf64
      obtain ⟨m, hmm⟩ : ∃ m, m = Nat.min L (64 - f) := ⟨_, rfl⟩
      have hm1 : 0 < m := by rw [hmm]; exact Nat.lt_min.2 ⟨hL0, by omega⟩
      have hmL : m ≤ L := by rw [hmm]; exact Nat.min_le_left _ _
      have hmf : m ≤ 64 - f := by rw [hmm]; exact Nat.min_le_right _ _
      have hmf' : f + m ≤ 64 := by omega
      have hmC : m ≤ C := by omega
      have hmL' : (m : Int) ≤ (L : Int) := by omega
      have hnm : n + m < 2305843009213693952 := by omega
      obtain ⟨c, hcc⟩ : ∃ c, c = (l.drop k).take m := ⟨_, rfl⟩
      have hcl : c.length = m := by rw [hcc, List.length_take, List.length_drop]; omega
      have hcb : Sz.Byt c := by rw [hcc]; exact (hbt.drop _).take _
      have hsrc : ∀ j v, (vals c)[j]? = some v → wr.cell? ((⟨b, off + k, none⟩ : Addr).add j) = some v := fun j v hv => by
        have hj : j < c.length := by have := (List.getElem?_eq_some_iff.1 hv).1; rwa [vals_length] at this
        rw [Addr.add_lit, Nat.add_assoc, World.cell?_of_block (w := w) (ho1.block b hlb hne), HC.out (k + j) (by omega), ← hv, vals_get _ _ hj, hcc]
        simp only [List.getD, List.getElem?_take, List.getElem?_drop]
        rw [if_pos (by omega)]
      have hnx : all ++ l.take (k + m) = (all ++ l.take k) ++ c := by rw [hcc, List.append_assoc, ← List.take_add]
      have HL := hide hL
      have HCc := hide hC
      have HF := hide hf
      have HN := hide hn
      have HNL := hide hnl
      have HS1 := hide hs1
      have HM := hide hmm
      have HCL := hide hcl
      have HSRC := hide hsrc
      have HNX := hide hnx
      clear hL hC hf hn hnl hs1 HS hA hAd hmm hcl hsrc hcc hnx
      obtain ⟨A', hA'⟩ : ∃ A', A' = (if C = m then some (⟨b, off + k, none⟩ : Addr) else some ((⟨b, off + k, none⟩ : Addr).add m)) := ⟨_, rfl⟩
      have hsl2 := fun w => slice_from ⟨b, off + k, none⟩ L C m w hmL
      have hsl3 := fun w => slice_from' ⟨b, off + k, none⟩ L C m w hmL
      rw [← hA'] at hsl2 hsl3
      have HA' : Hid (m < L → A' = some ⟨b, off + (k + m), none⟩) := fun h => by rw [hA', if_neg (by omega), Addr.add_lit, Nat.add_assoc]
      clear hA'
      by_cases hfull : f + m = 64
      · have hfi2 : ((f : Int) + (m : Int) == 64) = true := by simp; omega
        go_wp2_with (refine wpList_copy_hash g st R n 91 HS1.out rfl (.tmp 19) (.tmp 20) rfl f L C ⟨b, off + k, none⟩ rfl rfl hR c m HCL.out HM.out hmf' HSRC.out ?_; intro w2 hs2 ho2; have hct2 := hs2.cell 72; rw [hcells_taken _ _ _ (splice_len R c f hR (by rw [HCL.out]; exact hmf'))] at hct2; have hft2 := hs2.frozen 72; have HS2 := hide hs2; have HO2 := hide ho2; clear hs2 ho2)
        have hs3 := HS2.out.set 72 (.int .u64 ((n : Int) + (m : Int)))
        rw [show (n : Int) + (m : Int) = ((n + m : Nat) : Int) by omega, hcells_set _ _ _ _ (splice_len R c f hR (by rw [HCL.out]; exact hmf'))] at hs3
        have ho3 := (HO2.out _ _ ho1).setCell (p := ⟨g, 72, none⟩) (.inl rfl) (.int .u64 ((n + m : Nat) : Int))
        have hE : Abs (Sh.mix st (splice R f c)) (splice R f c) (all ++ l.take (k + m)) := by
          rw [HNX.out]
          have := hAb.full hcb (by rw [HNL.out, HCL.out, ← HF.out]; exact hfull)
          rwa [HNL.out, ← HF.out] at this
        have ht3 := HT.out.only ho3 (by omega) hg
        have hR3 : (splice R f c).length = 64 := splice_len R c f hR (by rw [HCL.out]; exact hmf')
        have hB3 : Sz.Byt (splice R f c) := splice_byt f hAb.byt hcb
        have hok3 := hAb.ok
        rw [show (n : Int) + (m : Int) = ((n + m : Nat) : Int) by omega]
        generalize w2.setCell ⟨g, 72, none⟩ (.int .u64 ((n + m : Nat) : Int)) = w3 at *
        generalize splice R f c = R' at *
        have hrg := hcells_range hs3
        have hvl : (Tryd.prog.info? 88).map (·.size) = some (vals R').length := by rw [vals_length, hR3]; exact size_rest
        have hul := Tryd.underlying88
        have HS3 := hide hs3
        have HO3 := hide ho3
        have HT3 := hide ht3
        clear hs3 ho3 ht3 HS2 HO2 HT HC hct2 hft2 hct hft
        go_region_held2 (fun W : World => W.rangeAt g 8 (vals R')) ((first | exact hrg | (exact hcells_range (by assumption)))) ((go_at_call 48; refine (mix_any g st (vals R' ++ [.int .u64 ((n + m : Nat) : Int)]) 91 R' _ ?_ hok3 hR3 hB3 ?_ hg).mono ?_; exact HS3.out; exact HT3.out; rintro e w4 ⟨rfl, hs4, ho4⟩))
        go_wp2
        go_roundw
        case rel =>
          refine ⟨k + m, A', Sh.mix st R', R', n + m, by have := HL.out; omega, ?_, fun h => HA'.out (by have := HL.out; omega), by have := HN.out; omega, hE, hs4, HO3.out.drew.trans (ho4.mono (by exact HO3.out.size))⟩
          have h1 := HL.out
          have h2 := HCc.out
          rw [show L - m = l.length - (k + m) by omega, show C - m = cap - (k + m) by omega]
        case measure => simp [lenOf]; omega
      · have hfi2 : ((f : Int) + (m : Int) == 64) = false := by simp; omega
        go_wp2_with (refine wpList_copy_hash g st R n 91 HS1.out rfl (.tmp 19) (.tmp 20) rfl f L C ⟨b, off + k, none⟩ rfl rfl hR c m HCL.out HM.out hmf' HSRC.out ?_; intro w2 hs2 ho2; have hct2 := hs2.cell 72; rw [hcells_taken _ _ _ (splice_len R c f hR (by rw [HCL.out]; exact hmf'))] at hct2; have hft2 := hs2.frozen 72; have HS2 := hide hs2; have HO2 := hide ho2; clear hs2 ho2)
        have hs3 := HS2.out.set 72 (.int .u64 ((n : Int) + (m : Int)))
        rw [show (n : Int) + (m : Int) = ((n + m : Nat) : Int) by omega, hcells_set _ _ _ _ (splice_len R c f hR (by rw [HCL.out]; exact hmf'))] at hs3
        have ho3 := (HO2.out _ _ ho1).setCell (p := ⟨g, 72, none⟩) (.inl rfl) (.int .u64 ((n + m : Nat) : Int))
        have hE : Abs st (splice R f c) (all ++ l.take (k + m)) := by
          rw [HNX.out]
          have := hAb.part hcb (by rw [HNL.out, HCL.out, ← HF.out]; omega)
          rwa [HNL.out, ← HF.out] at this
        go_roundw
        case rel =>
          rw [show (n : Int) + (m : Int) = ((n + m : Nat) : Int) by omega]
          refine ⟨k + m, A', st, splice R f c, n + m, by have := HL.out; omega, ?_, fun h => HA'.out (by have := HL.out; omega), by have := HN.out; omega, hE, hs3, ho3⟩
          have h1 := HL.out
          have h2 := HCc.out
          rw [show L - m = l.length - (k + m) by omega, show C - m = cap - (k + m) by omega]
        case measure => simp [lenOf]; omega
    · have hk' : k = l.length := by omega
      have hL0 : l.length - k = 0 := by omega
      rw [hL0]
      have HE : Hid (Abs st R (all ++ l)) := by show Abs st R (all ++ l); rw [hk', List.take_length] at hAb; exact hAb
      have HNN : Hid (n = (all ++ l).length) := by show n = _; rw [List.length_append]; omega
      have HS1 := hide hs1
      clear hs1 hAb hn hk' hL0 hAd HS HT HC
      go_wp2
      go_end0
      refine ⟨rfl, ⟨st, R, HE.out, ?_⟩, ho1⟩
      rw [← HNN.out]
      exact HS1.out
end Go.Proofs.YtkdihbgjeanjdaaDoor

/- The contracts of the hasher's New, Write and Sum, and of sha.Sum. -/
namespace Go.Proofs.YtkdihbgjeanjdaaDoor
open Go.RowKit
set_option linter.unusedVariables false

theorem hwrite_nil (g cap : Nat) (a : Option Addr) (w : World) :
    Calls Tryd.prog 30 #[.pointer (some ⟨g, 0, none⟩), .slice a 0 cap] w fun e w' => e = .returned (.tuple #[]) ∧ w = w' := by
  go_enter Tryd.func30, Tryd.ntmps30
  go_wp2
  go_loop [1] (fun v => v = .slice a 0 cap) (fun _ => 0)
  case atStart => exact rfl
  case round =>
    obtain rfl := hrel
    go_wp2
    go_end0
    exact ⟨rfl, rfl⟩

/-- The hasher in block g has taken all. -/
def Hash (w : World) (g : Nat) (all : List Int) : Prop := ∃ st R, Abs st R all ∧ Is w g (hcells st R all.length) 91
theorem Hash.below {w w' : World} {g B : Nat} {all : List Int} (h : Hash w g all) (k : Below B w w') (hB : g < B) : Hash w' g all := by
  obtain ⟨st, R, h1, h2⟩ := h
  exact ⟨st, R, h1, h2.below k hB⟩
theorem Hash.lt {w : World} {g : Nat} {all : List Int} (h : Hash w g all) : g < w.heap.size := by
  obtain ⟨st, R, h1, h2⟩ := h
  exact h2.lt

theorem hwrite_any (g : Nat) (v : Value) (all l : List Int) (w : World) (hH : Hash w g all) (ht : Tab w) (hg : 1 < g) (h : Has w v l) (hne : ∀ b off n c, v = .slice (some ⟨b, off, none⟩) n c → 0 < n → b ≠ g) (hbt : Sz.Byt l) (hlen : all.length + l.length < 2305843009213693952) :
    Calls Tryd.prog 30 #[.pointer (some ⟨g, 0, none⟩), v] w fun e w' => e = .returned (.tuple #[]) ∧ Hash w' g (all ++ l) ∧ Only g w.heap.size w w' := by
  obtain ⟨st, R, hA, hS⟩ := hH
  rcases h with ⟨a, cap, rfl, rfl, hm, hn⟩ | ⟨b, off, cap, rfl, h0, h1, hm, hc⟩
  · refine (hwrite_nil g cap a w).mono fun e w' ⟨he, hw⟩ => ?_
    subst hw
    rw [List.append_nil]
    exact ⟨he, ⟨st, R, hA, hS⟩, Only.refl _ _ _⟩
  · refine (hwrite_some g b off cap all l st R w hA hS ht hg (hne b off _ _ rfl h0) hbt h0 h1 hm hc hlen).mono fun e w' ⟨he, ⟨st', R', h2, h3⟩, ho⟩ => ?_
    exact ⟨he, ⟨st', R', h2, h3⟩, ho⟩

theorem size_hash : Sized 91 73 := by unfold Sized; kernel_rfl
def zhash : List Value := hcells ⟨0, 0, 0, 0, 0, 0, 0, 0⟩ (List.replicate 64 0) 0
theorem zero_hash (w : World) : (zeroValue 91).run Tryd.prog w = .ok (.agg zhash.toArray) w := by
  have h : (Tryd.prog.info? 91).map (fun i => (i.zero, i.size)) = some (some (.agg zhash.toArray), 73) := by kernel_rfl
  exact (zero_of_info h).1 w

set_option maxRecDepth 100000 in
theorem new_any (w : World) :
    Calls Tryd.prog 29 #[] w fun e w' => e = .returned (.pointer (some ⟨w.heap.size, 0, none⟩)) ∧ Hash w' w.heap.size [] ∧ Below w.heap.size w w' := by
  have hz := zero_hash
  have hzl : ¬ zhash.length < 8 := by decide
  go_enter Tryd.func29, Tryd.ntmps29
  go_wp2
  go_ret
  refine ⟨rfl, ⟨Sh.init, List.replicate 64 0, Abs.zero _ (by simp) (fun x hx => ?_), Is.new w (hcells Sh.init (List.replicate 64 0) 0) 91⟩, below_alloc w _⟩
  rw [List.eq_of_mem_replicate hx]; omega

theorem hasher_desc : ∃ fs, Tryd.prog.underlying 91 = some (.struct fs) := ⟨_, Tryd.underlying91⟩
theorem hcells_one (st : Sh.St) (R : List Int) (n : Nat) : ∀ v ∈ hcells st R n, v.oneCell' = true := by
  intro v hv
  simp only [hcells, List.mem_append, List.mem_singleton] at hv
  rcases hv with hv | hv | rfl
  · exact wvals_one _ v hv
  · exact vals_one _ v hv
  · rfl
theorem slice_end (g n : Nat) (w : World) (h : n ≤ 72) : (Instr.sliceAt 93 (.pointer (some ⟨g, 0, none⟩)) none (some (.int .i64 (n : Int))) none).run Tryd.prog w = .ok (.slice (some ⟨g, 0, none⟩) n 72) w := by
  have hu := Tryd.underlying93
  have ha : Tryd.prog.arrayLen 93 = 72 := by simp [Program.arrayLen, hu]
  have he : Tryd.prog.elem 93 = 5 := by simp [Program.elem, hu]
  have := run_sliceAt_array_h (P := Tryd.prog) w 93 ⟨g, 0, none⟩ (by rw [ha, he]; exact hu) .i64 (n : Int) (by omega) (by rw [ha]; omega)
  rw [this, he, size_u8', ha]
  simp [slicedAt, Addr.add_lit]

set_option maxRecDepth 100000 in
set_option maxHeartbeats 400000 in
theorem hsum_any (g : Nat) (all : List Int) (w : World) (hH : Hash w g all) (ht : Tab w) (hg : 1 < g) (hlen : all.length < 1152921504606846976) :
    Calls Tryd.prog 31 #[.pointer (some ⟨g, 0, none⟩)] w fun e w' => e = .returned (.agg (vals (Sh.sum all)).toArray) ∧ Below w.heap.size w w' := by
  obtain ⟨st, R, hA, hS⟩ := hH
  have hA' := hide hA
  have hR := hA.len
  have hcl := hcells_length st R all.length hR
  have hct0 := hS.cell 72
  rw [hcells_taken _ _ _ hR] at hct0
  obtain ⟨n, hn⟩ : ∃ n, n = all.length := ⟨_, rfl⟩
  obtain ⟨H, hH⟩ : ∃ H, H = hcells st R all.length := ⟨_, rfl⟩
  obtain ⟨E, hE⟩ : ∃ E, E = pend n 8 := ⟨_, rfl⟩
  obtain ⟨q, hq⟩ : ∃ q, q = 9 + Sh.zeros n := ⟨_, rfl⟩
  obtain ⟨X, hX⟩ : ∃ X, X = Sh.ending n := ⟨_, rfl⟩
  have HEND : Hid (∀ w', Calls Tryd.prog 49 #[.int .u64 (n : Int)] w' fun e w'' => e = .returned (.tuple #[.agg (vals E).toArray, .int .i64 (q : Int)]) ∧ Below w'.heap.size w' w'') := fun w' => by rw [hE, hq]; exact ending_any n w' (by omega)
  have hEl : (vals E).length = 72 := by rw [vals_length, hE, pend_length]
  have hXE : E.take q = X := by rw [hE, hq, hX]; exact pend_all n
  have hXl : X.length = q := by rw [hX, hq]; exact ending_length n
  have hXb : Sz.Byt X := by rw [hX]; exact ending_byt n
  have hq72 : q ≤ 72 := by have := zeros_lt n; omega
  have hq0 : 0 < q := by omega
  have HSUM : Hid (∀ st', st' = Sh.comp (all ++ X) ((all ++ X).length / 64) → Sh.digest st' = Sh.sum all) := fun st' h => by rw [h, hX, hn]; rfl
  rw [← hn] at hct0
  have hH1 : ∀ v ∈ H, v.oneCell' = true := by rw [hH]; exact hcells_one _ _ _
  have hHash : Hid (∀ w' b, Is w' b H 91 → Hash w' b all) := fun w' b h => ⟨st, R, hA, by rw [hH] at h; exact h⟩
  rw [← hH] at hS hcl
  have hlt := hS.lt
  have HS := hide hS
  have HCL := hide hcl
  have HEL := hide hEl
  have HXE := hide hXE
  have HXL := hide hXl
  have HH1 := hide hH1
  have HT := hide ht
  have hnl : n < 1152921504606846976 := by omega
  have HNL : Hid (all.length + X.length < 2305843009213693952) := by show _ < _; omega
  have hzl : zhash.length = 73 := hcells_length _ _ _ (by simp)
  have hze : ∀ w, (zeroValue 93).run Tryd.prog w = .ok (.agg (vals (List.replicate 72 0)).toArray) w := zero_end
  obtain ⟨Y, hY⟩ : ∃ Y, Y = vals (List.replicate 72 0) := ⟨_, rfl⟩
  rw [← hY] at hze
  have hYl : Y.length = 72 := by rw [hY]; simp [vals]
  have hzh := zero_hash
  generalize zhash = Zh at *
  have HZL := hide hzl
  have HYL := hide hYl
  have HCT0 := hide hct0
  have hsl := fun w' b => slice_end b q w' hq72
  clear hE hq hX hH hn hA hS hcl hEl hXE hXl hH1 ht hY hYl hzl hct0
  go_enter Tryd.func31, Tryd.ntmps31
  go_wp2_with (first
    | (go_at_call 49; refine (HEND.out _).mono ?_; rintro e w3 ⟨rfl, hb3⟩)
    | (refine wpList_load_str 91 H g (HS.out.alloc _) Tryd.underlying91 size_hash HCL.out rfl (.tmp 7) rfl rfl ?_)
    | (refine wpList_store_any 91 Zh H (w.heap.size + 1) (Is.new' Zh 91 (by simp)) size_hash HZL.out HCL.out HH1.out rfl (.tmp 3) (.tmp 8) rfl rfl rfl rfl ?_; intro w2 hi2 hb2 hk2 hz2; have hb2' := hb2 _ _ (below_alloc2 w _ _) (Nat.le_succ _); have hct2 : w2.cell? ⟨g, 72, none⟩ = some (.int .u64 (n : Int)) := (by rw [hb2'.cell (p := ⟨g, 72, none⟩) hlt]; exact HCT0.out))
    | (refine wpList_store_any 93 Y (vals E) w3.heap.size (Is.new w3 Y 93) size_end HYL.out HEL.out (vals_one _) rfl (.tmp 4) (.tmp 15) rfl rfl rfl rfl ?_; intro w4 hi4 hb4 hk4 hz4))
  have hb3' : Below w.heap.size w w3 := hb2'.trans (hb3.mono hb2'.size)
  have hz2' : w2.heap.size = w.heap.size + 2 := by rw [hz2]; simp
  have hI3 : Is w3 (w.heap.size + 1) H 91 := hi2.below hb3 (by omega)
  have hI3d : Is w3 w.heap.size (vals (List.replicate 32 0)) 25 := (hk2 _ _ _ (by omega) ((Is.new w (vals (List.replicate 32 0)) 25).alloc _)).below hb3 (by omega)
  have hz3 : w.heap.size + 2 ≤ w3.heap.size := by have := hb3.size; omega
  have hb4' : Below w3.heap.size w3 w4 := hb4 _ _ (below_alloc w3 _) (Nat.le_refl _)
  have hI4 := hHash.out _ _ (hI3.below hb4' (by omega))
  have hI4d := hI3d.below hb4' (by omega)
  have hb4w : Below w.heap.size w w4 := hb3'.trans (hb4'.mono hb3'.size)
  have ht4 := HT.out.below hb4w (by omega)
  have hz4' : w3.heap.size ≤ w4.heap.size := hb4'.size
  have has4 : Has w4 (.slice (some ⟨w3.heap.size, 0, none⟩) q 72) X := .inr ⟨w3.heap.size, 0, 72, by rw [HXL.out], by rw [HXL.out]; exact hq0, by rw [HXL.out]; exact hq72, by unfold maxLen; omega, fun j hj => by
    rw [HXL.out] at hj
    have hEl : E.length = 72 := by have := HEL.out; rwa [vals_length] at this
    rw [hi4.cell, Nat.zero_add, vals_get _ _ (by omega), ← HXE.out]
    simp only [List.getD, List.getElem?_take]
    rw [if_pos hj]⟩
  have HNE : Hid (∀ b off n c, (Value.slice (some ⟨w3.heap.size, 0, none⟩) q 72) = .slice (some ⟨b, off, none⟩) n c → 0 < n → b ≠ w.heap.size + 1) := fun b off n c e _ => by
    injection e with e1 e2 e3
    injection e1 with e1
    injection e1 with e1 e2
    omega
  have HW := hide (hwrite_any (w.heap.size + 1) _ all X w4 hI4 ht4 (by omega) has4 HNE.out hXb HNL.out)
  clear hI4 ht4 has4 HNE hi4 hb4 hk4 hi2 hb2 hk2 hI3 hI3d
  refine HW.out.mono ?_
  rintro e w5 ⟨rfl, ⟨st5, R5, hA5, hS5⟩, ho5⟩
  have hI5d := hI4d.only ho5 (by omega) (by omega)
  have hb5 : Below w.heap.size w w5 := hb4w.trans (ho5.below (by omega) (by omega))
  have hz5 : w4.heap.size ≤ w5.heap.size := ho5.size
  have HD := hide (digest_any (w.heap.size + 1) st5 _ 91 w5 hS5 hA5.ok)
  have hdg : Hid (Sh.digest st5 = Sh.sum all) := HSUM.out st5 hA5.words
  have hdl : (Sh.digest st5).length = 32 := by simp [Sh.digest]
  generalize Sh.digest st5 = D at *
  have HI5 := hide hI5d
  have HDL := hide hdl
  clear hS5 hA5 HW hI4d hI5d hdl
  go_wp2_with (first
    | (go_at_call 50; refine HD.out.mono ?_; rintro e w6 ⟨rfl, hb6⟩)
    | (refine wpList_store_any 25 (vals (List.replicate 32 0)) (vals D) w.heap.size (HI5.out.below hb6 (by omega)) size_dig (by simp [vals]) (by rw [vals_length]; exact HDL.out) (vals_one _) rfl (.tmp 2) (.tmp 21) rfl rfl rfl rfl ?_; intro w7 hi7 hb7 hk7 hz7))
  have hr := hi7.cellsOf Tryd.underlying25 (by rw [vals_length, HDL.out]; exact size_dig)
  exact bodyPost_ret (v := .agg (vals D).toArray) (results_cell1 Tryd.results31 rfl hr) rfl ⟨by rw [hdg.out], hb7 _ _ (hb5.trans (hb6.mono hb5.size)) (Nat.le_refl _)⟩

theorem new_at (w : World) (k : Nat) (hk : k = w.heap.size) :
    Calls Tryd.prog 29 #[] w fun e w' => e = .returned (.pointer (some ⟨k, 0, none⟩)) ∧ Hash w' k [] ∧ Below w.heap.size w w' := by subst hk; exact new_any w
theorem Has.block_lt {w : World} {v : Value} {l : List Int} (h : Has w v l) {b off n c : Nat} (e : v = .slice (some ⟨b, off, none⟩) n c) (hn : 0 < n) : b < w.heap.size := by
  rcases h with ⟨a, cap, rfl, rfl, hm, hc⟩ | ⟨b', off', cap, rfl, h0, h1, hm, hc⟩
  · injection e with e1 e2 e3; omega
  · injection e with e1 e2 e3
    injection e1 with e1
    injection e1 with e1 e4
    subst e1
    exact World.block_lt_of_cell? w ⟨b', off' + 0, none⟩ (hc 0 h0)

set_option maxRecDepth 100000 in
set_option maxHeartbeats 400000 in
theorem sum_any (v : Value) (l : List Int) (w : World) (h : Has w v l) (hbt : Sz.Byt l) (ht : Tab w) (hw : 1 < w.heap.size) (hlen : l.length < 1152921504606846976) :
    Calls Tryd.prog 15 #[v] w fun e w' => e = .returned (.agg (vals (Sh.sum l)).toArray) ∧ Below w.heap.size w w' := by
  have hdl : (Sh.sum l).length = 32 := by simp [Sh.sum, Sh.digest]
  obtain ⟨D, hD⟩ : ∃ D, D = Sh.sum l := ⟨_, rfl⟩
  rw [← hD] at hdl ⊢
  have hHW : ∀ w1, Below w.heap.size w w1 → Hash w1 (w.heap.size + 1) [] → Calls Tryd.prog 30 #[.pointer (some ⟨w.heap.size + 1, 0, none⟩), v] w1 fun e w' => e = .returned (.tuple #[]) ∧ Hash w' (w.heap.size + 1) l ∧ Only (w.heap.size + 1) w1.heap.size w1 w' := fun w1 hb hh1 => by
    have := hwrite_any (w.heap.size + 1) v [] l w1 hh1 (ht.below hb hw) (by omega) (h.below hb) (fun b off n c e hn => by have := h.block_lt e hn; omega) hbt (by simp; omega)
    simpa using this
  have hHS : ∀ w1, Below w.heap.size w w1 → Hash w1 (w.heap.size + 1) l → Calls Tryd.prog 31 #[.pointer (some ⟨w.heap.size + 1, 0, none⟩)] w1 fun e w' => e = .returned (.agg (vals D).toArray) ∧ Below w1.heap.size w1 w' := fun w1 hb1 hh1 => by
    rw [hD]; exact hsum_any _ l w1 hh1 (ht.below hb1 hw) (by omega) hlen
  have HHW := hide hHW
  have HHS := hide hHS
  have HI := hide (Is.new w (vals (List.replicate 32 0)) 25)
  have HBA := hide (below_alloc w (.cells (vals (List.replicate 32 0)).toArray 25))
  have HDL := hide hdl
  clear hHW hHS hdl hD
  go_enter Tryd.func15, Tryd.ntmps15
  go_wp2_with (first
    | (go_at_call 29; refine (new_at _ (w.heap.size + 1) (by simp)).mono ?_; rintro e w1 ⟨rfl, hh1, hb1⟩; have hI1 := HI.out.below hb1 (by simp); have hb1' := HBA.out.trans (hb1.mono (by simp)))
    | (go_at_call 30; refine (HHW.out _ hb1' hh1).mono ?_; rintro e w2 ⟨rfl, hh2, ho2⟩; have hI2 := hI1.only ho2 hI1.lt (by omega); have hb2 := hb1'.trans (ho2.below hb1'.size (Nat.le_succ _)))
    | (go_at_call 31; refine (HHS.out _ hb2 hh2).mono ?_; rintro e w3 ⟨rfl, hb3⟩; have HI3 := hide (hI2.below hb3 hI2.lt); have HB3 := hide (hb2.trans (hb3.mono hb2.size)); clear hI1 hI2 hb1 hb1' hb2 hb3 hh1 hh2 ho2)
    | (refine wpList_store_any 25 (vals (List.replicate 32 0)) (vals D) w.heap.size HI3.out size_dig (by simp [vals]) (by rw [vals_length]; exact HDL.out) (vals_one _) rfl (.tmp 2) (.tmp 9) rfl rfl rfl rfl ?_; intro w7 hi7 hb7 hk7 hz7))
  have hr := hi7.cellsOf Tryd.underlying25 (by rw [vals_length, HDL.out]; exact size_dig)
  exact bodyPost_ret (v := .agg (vals D).toArray) (results_cell1 Tryd.results15 rfl hr) rfl ⟨rfl, hb7 _ _ HB3.out (Nat.le_refl _)⟩
end Go.Proofs.YtkdihbgjeanjdaaDoor
