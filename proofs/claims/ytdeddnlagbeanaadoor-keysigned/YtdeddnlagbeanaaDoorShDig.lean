/- The contract of digest: the eight words as 32 bytes. -/
import Derived.Test.YtdeddnlagbeanaaDoorShMix
namespace Go.Proofs.YtdeddnlagbeanaaDoor
open Go.RowKit
set_option linter.unusedVariables false

/-- The byte at a place of the digest. -/
def dby (s : Sh.St) (i : Nat) : Int := (((s.list.getD (i / 4) 0) >>> (24 - i % 4 * 8) % 256 : Nat) : Int)
/-- The bytes of the first k words, and 0 behind them. -/
def pdig (s : Sh.St) (k : Nat) : List Int := (List.range 32).map fun i => if i < 4 * k then dby s i else 0
theorem pdig_length (s : Sh.St) (k : Nat) : (pdig s k).length = 32 := by simp [pdig]
theorem pdig_zero (s : Sh.St) : pdig s 0 = List.replicate 32 0 := rfl
theorem pdig_all (s : Sh.St) : pdig s 8 = Sh.digest s := by
  unfold pdig Sh.digest
  apply List.map_congr_left
  intro i hi
  rw [if_pos (by simpa using hi)]
  rfl
theorem pdig_step (s : Sh.St) (k : Nat) (h : k < 8) :
    ((((pdig s k).set (4 * k) (dby s (4 * k))).set (4 * k + 1) (dby s (4 * k + 1))).set (4 * k + 2) (dby s (4 * k + 2))).set (4 * k + 3) (dby s (4 * k + 3)) = pdig s (k + 1) := by
  apply List.ext_getElem
  · simp [pdig]
  · intro i h1 h2
    simp only [List.getElem_set]
    by_cases e3 : 4 * k + 3 = i
    · subst e3; simp [pdig]; omega
    · rw [if_neg e3]
      by_cases e2 : 4 * k + 2 = i
      · subst e2; simp [pdig]; omega
      · rw [if_neg e2]
        by_cases e1 : 4 * k + 1 = i
        · subst e1; simp [pdig]; omega
        · rw [if_neg e1]
          by_cases e0 : 4 * k = i
          · subst e0; simp [pdig]
          · rw [if_neg e0]
            simp only [pdig, List.getElem_map, List.getElem_range]
            by_cases hi : i < 4 * k
            · rw [if_pos hi, if_pos (by omega)]
            · rw [if_neg hi, if_neg (by omega)]
theorem dby_at (s : Sh.St) (k j : Nat) (h : j < 4) : dby s (4 * k + j) = (((s.list.getD k 0) >>> (24 - j * 8) % 256 : Nat) : Int) := by
  unfold dby
  rw [show (4 * k + j) / 4 = k by omega, show (4 * k + j) % 4 = j by omega]

set_option maxRecDepth 100000 in
set_option maxHeartbeats 400000 in
theorem digest_any (g : Nat) (s : Sh.St) (tail : List Value) (ty : TypeId) (w : World) (hs : Is w g (wvals s.list ++ tail) ty) (hok : s.Ok) :
    Calls Tryd.prog 48 #[.pointer (some ⟨g, 0, none⟩)] w fun e w' => e = .returned (.agg (vals (Sh.digest s)).toArray) ∧ Below w.heap.size w w' := by
  have hlt := hs.lt
  have HS := hide hs
  clear hs
  go_enter Tryd.func48, Tryd.ntmps48
  go_wp2
  go_loopw [7] (fun i wr => ∃ k : Nat, k ≤ 8 ∧ i = .int .i64 k ∧ Below w.heap.size w wr ∧ (∃ c, c.length = 32 ∧ Is wr w.heap.size c 23) ∧ Is wr (w.heap.size + 1) (vals (pdig s k)) 23) (fun i _ => 8 - (intOf i).toNat)
  case atStart => exact ⟨0, by omega, rfl, below_alloc2 _ _ _, ⟨vals (pdig s 0), by rw [vals_length, pdig_length], (Is.new w (vals (pdig s 0)) 23).alloc _⟩, Is.new' (vals (pdig s 0)) 23 (by simp)⟩
  case round =>
    obtain ⟨k, hk, rfl, hbel, ⟨c, hcl, h1⟩, h2⟩ := hrel
    by_cases hk8 : k < 8
    · have hc := (HS.out.below hbel hlt).cell k
      rw [List.getElem?_append_left (by rw [wvals_length]; exact hk8), wvals_get _ _ hk8] at hc
      have hst : Hid _ := pdig_step s k hk8
      have hd0 : Hid (dby s (4 * k) = _) := dby_at s k 0 (by omega)
      have hd1 : Hid (dby s (4 * k + 1) = _) := dby_at s k 1 (by omega)
      have hd2 : Hid (dby s (4 * k + 2) = _) := dby_at s k 2 (by omega)
      have hd3 : Hid (dby s (4 * k + 3) = _) := dby_at s k 3 (by omega)
      have lx := Sh.getD_lt (Sh.list_lt s hok) (by omega) k
      generalize s.list.getD k 0 = x at *
      have hg : ∀ j, j < 32 → wr.cell? ⟨w.heap.size + 1, j, none⟩ = some (.int .u8 ((pdig s k).getD j 0)) := fun j hj => by rw [h2.cell, vals_get _ _ (by rw [pdig_length]; exact hj)]
      have g0 := hg (4 * k) (by omega)
      have g1 := hg (4 * k + 1) (by omega)
      have g2 := hg (4 * k + 2) (by omega)
      have g3 := hg (4 * k + 3) (by omega)
      have f0 := h2.frozen (4 * k)
      have f1 := h2.frozen (4 * k + 1)
      have f2 := h2.frozen (4 * k + 2)
      have f3 := h2.frozen (4 * k + 3)
      generalize (pdig s k).getD (4 * k) 0 = y0 at *
      generalize (pdig s k).getD (4 * k + 1) 0 = y1 at *
      generalize (pdig s k).getD (4 * k + 2) 0 = y2 at *
      generalize (pdig s k).getD (4 * k + 3) 0 = y3 at *
      have H1 := hide h1
      have H2 := hide h2
      clear h1 h2 hg
      go_wp2
      go_quiet (fail)
      go_wp2
      go_roundw
      case rel =>
        have sh : ∀ (n m : Nat), 2 ^ n = m → (x : Int) / (m : Nat) = ((x >>> n : Nat) : Int) := fun n m h => shr_cast x n m h
        have e0 : (x : Int) / 16777216 = dby s (4 * k) := by
          have := sh 24 16777216 rfl
          rw [show ((16777216 : Nat) : Int) = 16777216 from rfl] at this
          have h8 : x >>> 24 < 256 := by rw [Nat.shiftRight_eq_div_pow]; omega
          rw [hd0.out, this, Nat.zero_mul, Nat.sub_zero, Nat.mod_eq_of_lt h8]
        have e1 : (x : Int) / 65536 % 256 = dby s (4 * k + 1) := by
          have := sh 16 65536 rfl
          rw [show ((65536 : Nat) : Int) = 65536 from rfl] at this
          rw [hd1.out, this]; omega
        have e2 : (x : Int) / 256 % 256 = dby s (4 * k + 2) := by
          have := sh 8 256 rfl
          rw [show ((256 : Nat) : Int) = 256 from rfl] at this
          rw [hd2.out, this]; omega
        have e3 : (x : Int) % 256 = dby s (4 * k + 3) := by
          rw [hd3.out]; simp
        refine ⟨k + 1, by omega, by go_num, ?_, ⟨c, hcl, ?_⟩, ?_⟩
        · exact ((((below_drewN hbel _).setCell (p := ⟨w.heap.size + 1, 4 * k, none⟩) (Nat.le_succ _) _).setCell (p := ⟨w.heap.size + 1, 4 * k + 1, none⟩) (Nat.le_succ _) _).setCell (p := ⟨w.heap.size + 1, 4 * k + 2, none⟩) (Nat.le_succ _) _).setCell (p := ⟨w.heap.size + 1, 4 * k + 3, none⟩) (Nat.le_succ _) _
        · have hne : w.heap.size + 1 ≠ w.heap.size := by omega
          exact (((Is.other (w := wr.drewN _) H1.out ⟨w.heap.size + 1, 4 * k, none⟩ _ hne).other ⟨w.heap.size + 1, 4 * k + 1, none⟩ _ hne).other ⟨w.heap.size + 1, 4 * k + 2, none⟩ _ hne).other ⟨w.heap.size + 1, 4 * k + 3, none⟩ _ hne
        · rw [e0, e1, e2, e3, ← hst.out, ← vals_set, ← vals_set, ← vals_set, ← vals_set]
          exact (((Is.set (w := wr.drewN _) H2.out (4 * k) _).set (4 * k + 1) _).set (4 * k + 2) _).set (4 * k + 3) _
      case measure => simp [intOf]; omega
    · have hk' : k = 8 := by omega
      rw [hk', pdig_all] at h2
      have hkn : ¬ (k : Int) < 8 := by omega
      have hdl : (Sh.digest s).length = 32 := by simp [Sh.digest]
      have hr := (h1.row (vals (Sh.digest s))).cellsOf Tryd.underlying23 (by rw [vals_length, hdl]; exact size_dig)
      generalize hD : Sh.digest s = D at *
      have HD := hide hD
      clear hD
      have H1 := hide h1
      have H2 := hide h2
      have HR := hide hr
      clear h1 h2 hr hk' hk8 hk
      go_wp2_with (first
        | (refine wpList_load_arr 23 (vals D) (w.heap.size + 1) H2.out Tryd.underlying23 size_dig (by rw [vals_length]; exact hdl) rfl (.tmp 3) rfl rfl ?_)
        | (refine wpList_store_row 23 c (vals D) w.heap.size H1.out size_dig hcl (by rw [vals_length]; exact hdl) (vals_one _) rfl (.tmp 2) (.tmp 40) rfl rfl rfl rfl ?_))
      exact bodyPost_ret (v := .agg (vals D).toArray) (results_cell1 Tryd.results48 rfl HR.out) rfl ⟨by rw [HD.out], below_setRow hbel (Nat.le_refl _) _⟩
end Go.Proofs.YtdeddnlagbeanaaDoor
