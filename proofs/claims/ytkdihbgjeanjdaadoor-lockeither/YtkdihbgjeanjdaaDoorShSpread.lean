/- The contract of spread: a block's words and those that are made out of them. -/
import Derived.Test.YtkdihbgjeanjdaaDoorShTurn
import Derived.Test.YtkdihbgjeanjdaaDoorOwns
import Derived.Deep.QuietTactic
import Derived.BigQuiet
import Derived.BigRegion
import Derived.Deep.WholeRow
import Derived.Laws.CopyOwn
import Derived.WalkSmall
namespace Go.Proofs.YtkdihbgjeanjdaaDoor
open Go.RowKit
set_option linter.unusedVariables false

def wvals (l : List Nat) : List Value := l.map (fun x => Value.int .u32 (x : Nat))

theorem wvals_length (l : List Nat) : (wvals l).length = l.length := by simp [wvals]
theorem wvals_get (l : List Nat) (j : Nat) (h : j < l.length) : (wvals l)[j]? = some (.int .u32 (l.getD j 0 : Nat)) := by
  simp [wvals, List.getD, List.getElem?_eq_getElem h]

theorem wvals_one (l : List Nat) : ∀ u ∈ wvals l, u.oneCell' = true := by
  intro u hu
  obtain ⟨x, _, rfl⟩ := List.mem_map.1 hu
  rfl

/-- The words of the first k places, and 0 behind them. -/
def part1 (l : List Int) (k : Nat) : List Nat := (List.range k).map (Sh.word l) ++ List.replicate (64 - k) 0
theorem part1_length (l : List Int) (k : Nat) (h : k ≤ 64) : (part1 l k).length = 64 := by simp [part1]; omega
theorem part1_zero (l : List Int) : part1 l 0 = List.replicate 64 0 := rfl

theorem part1_step (l : List Int) (k : Nat) (h : k < 64) : (wvals (part1 l k)).set k (.int .u32 (Sh.word l k : Nat)) = wvals (part1 l (k + 1)) := by
  unfold wvals
  rw [← List.map_set]
  congr 1
  unfold part1
  rw [List.range_succ, List.map_append, List.append_assoc, List.set_append_right _ _ (by simp), show 64 - k = (64 - (k + 1)) + 1 by omega, List.replicate_succ]
  simp
/-- The words as far as they are made, and 0 behind them. -/
def part2 (l : List Int) (j : Nat) : List Nat := Sh.exts j (Sh.first l) ++ List.replicate (48 - j) 0
theorem part2_zero (l : List Int) : part2 l 0 = part1 l 16 := rfl
theorem part2_all (l : List Int) : part2 l 48 = Sh.sched l := by simp [part2, Sh.sched]
theorem part2_length (l : List Int) (j : Nat) (h : j ≤ 48) : (part2 l j).length = 64 := by simp [part2, Sh.exts_length, Sh.first_length]; omega
theorem part2_get (l : List Int) (j i : Nat) (h : i < 16 + j) : (part2 l j).getD i 0 = (Sh.exts j (Sh.first l)).getD i 0 := by
  simp only [List.getD, part2]
  rw [List.getElem?_append_left (by rw [Sh.exts_length, Sh.first_length]; exact h)]
theorem part2_step (l : List Int) (j : Nat) (h : j < 48) : (wvals (part2 l j)).set (16 + j) (.int .u32 (Sh.ext (Sh.exts j (Sh.first l)) : Nat)) = wvals (part2 l (j + 1)) := by
  unfold wvals
  rw [← List.map_set]
  congr 1
  unfold part2
  rw [Sh.exts, List.append_assoc, List.set_append_right _ _ (by rw [Sh.exts_length, Sh.first_length]; omega), show 48 - j = (48 - (j + 1)) + 1 by omega, List.replicate_succ]
  simp [Sh.exts_length, Sh.first_length]

set_option maxRecDepth 100000 in
set_option maxHeartbeats 800000 in
theorem spread_any (l : List Int) (w : World) (hl : l.length = 64) (hb : Sz.Byt l) :
    Calls Tryd.prog 68 #[.agg (vals l).toArray] w fun e w' => e = .returned (.agg (wvals (Sh.sched l)).toArray) ∧ Below w.heap.size w w' := by
  go_enter Tryd.func68, Tryd.ntmps68
  go_wp2
  go_loopw [11] (fun i wr => ∃ k : Nat, k ≤ 16 ∧ i = .int .i64 k ∧ Below w.heap.size w wr ∧ Is wr w.heap.size (vals l) 88 ∧ (∃ c, c.length = 64 ∧ Is wr (w.heap.size + 1) c 118) ∧
      Is wr (w.heap.size + 1 + 1) (wvals (part1 l k)) 118) (fun i _ => 16 - (intOf i).toNat)
  case atStart =>
    refine ⟨0, by omega, rfl, below_alloc3 _ _ _ _, ((Is.new w (vals l) _).alloc _).alloc _, ⟨wvals (part1 l 0), by rw [wvals_length, part1_length _ _ (by omega)], (Is.new' (wvals (part1 l 0)) 118 (by simp)).alloc _⟩, Is.new' (wvals (part1 l 0)) 118 (by simp)⟩
  case round =>
    obtain ⟨k, hk, rfl, hbel, h1, ⟨c, hcl, h2⟩, h3⟩ := hrel
    by_cases hlt : k < 16
    · have H3 := hide h3
      have H1 := hide h1
      have H2 := hide h2
      have hc0 : wr.cell? ⟨w.heap.size, 4 * k, none⟩ = some (.int .u8 (l.getD (4 * k) 0)) := by rw [h1.cell, vals_get l _ (by omega)]
      have hc1 : wr.cell? ⟨w.heap.size, 4 * k + 1, none⟩ = some (.int .u8 (l.getD (4 * k + 1) 0)) := by rw [h1.cell, vals_get l _ (by omega)]
      have hc2 : wr.cell? ⟨w.heap.size, 4 * k + 2, none⟩ = some (.int .u8 (l.getD (4 * k + 2) 0)) := by rw [h1.cell, vals_get l _ (by omega)]
      have hc3 : wr.cell? ⟨w.heap.size, 4 * k + 3, none⟩ = some (.int .u8 (l.getD (4 * k + 3) 0)) := by rw [h1.cell, vals_get l _ (by omega)]
      have hw := h3.cell k
      rw [wvals_get _ _ (by rw [part1_length _ _ (by omega)]; omega)] at hw
      have hf := h3.frozen k
      have b0 := hb.getD (4 * k)
      have b1 := hb.getD (4 * k + 1)
      have b2 := hb.getD (4 * k + 2)
      have b3 := hb.getD (4 * k + 3)
      have HW : Hid (_ = ((Sh.word l k : Nat) : Int)) := word_or _ _ _ _ b0 b1 b2 b3
      generalize l.getD (4 * k) 0 = x0 at *
      generalize l.getD (4 * k + 1) 0 = x1 at *
      generalize l.getD (4 * k + 2) 0 = x2 at *
      generalize l.getD (4 * k + 3) 0 = x3 at *
      clear h1 h2 h3
      go_wp2
      go_region
      go_wp2
      go_roundw
      case rel =>
        refine ⟨k + 1, by omega, by go_num, (hbel.setCell (p := ⟨w.heap.size + 1 + 1, k, none⟩) (by show w.heap.size ≤ w.heap.size + 1 + 1; omega) _).drew, (H1.out.other ⟨w.heap.size + 1 + 1, k, none⟩ _ (by show w.heap.size + 1 + 1 ≠ w.heap.size; omega)).drew, ⟨c, hcl, (H2.out.other ⟨w.heap.size + 1 + 1, k, none⟩ _ (by show w.heap.size + 1 + 1 ≠ w.heap.size + 1; omega)).drew⟩, ?_⟩
        rw [← part1_step l k (by omega), ← HW.out]
        exact (H3.out.set k _).drew
      case measure => simp [intOf]; omega
    · have hk16 : k = 16 := by omega
      rw [hk16, ← part2_zero] at h3
      have hkn : ¬ (k : Int) < 16 := by omega
      clear hk16 hk hlt
      obtain ⟨wA, rfl⟩ : ∃ wA, wA = wr := ⟨_, rfl⟩
      have HB := hide hbel
      have H2 := hide h2
      have H3 := hide h3
      clear h1 h2 h3 hbel
      go_wp2
      go_loopw [6] (fun i wr => ∃ j : Nat, j ≤ 48 ∧ i = .int .i64 ((16 : Int) + j) ∧ Below w.heap.size w wr ∧ (∃ c, c.length = 64 ∧ Is wr (w.heap.size + 1) c 118) ∧
        Is wr (w.heap.size + 1 + 1) (wvals (part2 l j)) 118) (fun i _ => 64 - (intOf i).toNat)
      case atStart => exact ⟨0, by omega, rfl, HB.out, ⟨c, hcl, H2.out⟩, H3.out⟩
      case round =>
        obtain ⟨j, hj, rfl, hbel, ⟨c', hcl', h2⟩, h3⟩ := hrel
        clear HB H2 H3
        have H3 := hide h3
        have H2 := hide h2
        by_cases hlt : j < 48
        · have gt : ∀ i, i < 16 + j → wr.cell? ⟨w.heap.size + 1 + 1, i, none⟩ = some (.int .u32 ((Sh.exts j (Sh.first l)).getD i 0 : Nat)) := fun i hi => by
            rw [h3.cell, wvals_get _ _ (by rw [part2_length _ _ hj]; omega), part2_get l j i hi]
          have hf := h3.frozen (16 + j)
          have hw := h3.cell (16 + j)
          rw [wvals_get _ _ (by rw [part2_length _ _ (by omega)]; omega)] at hw
          have lt := fun i => Sh.getD_lt (Sh.exts_lt j _ (Sh.first_lt l hb)) (by omega) i
          obtain ⟨t, ht⟩ : ∃ t : Nat, t = 16 + j := ⟨_, rfl⟩
          rw [show (16 : Int) + (j : Int) = (t : Int) by omega]
          rw [← ht] at hw hf
          have i0 : (t : Int) - 15 = ((1 + j : Nat) : Int) := by omega
          have i1 : (t : Int) - 2 = ((14 + j : Nat) : Int) := by omega
          have i2 : (t : Int) - 7 = ((9 + j : Nat) : Int) := by omega
          have i3 : (t : Int) - 16 = ((j : Nat) : Int) := by omega
          have t64 : t < 64 := by omega
          have c0 := gt (1 + j) (by omega)
          have c1 := gt (14 + j) (by omega)
          have c2 := gt (9 + j) (by omega)
          have c3 := gt j (by omega)
          have l0 := lt (1 + j)
          have l1 := lt (14 + j)
          have l2 := lt (9 + j)
          have l3 := lt j
          have HX : Hid (Sh.ext (Sh.exts j (Sh.first l)) = (Sh.s1 ((Sh.exts j (Sh.first l)).getD (14 + j) 0) + (Sh.exts j (Sh.first l)).getD (9 + j) 0 + Sh.s0 ((Sh.exts j (Sh.first l)).getD (1 + j) 0) + (Sh.exts j (Sh.first l)).getD j 0) % 4294967296) := by
            show _ = _
            unfold Sh.ext
            rw [Sh.exts_length, Sh.first_length, show 16 + j - 2 = 14 + j by omega, show 16 + j - 7 = 9 + j by omega, show 16 + j - 15 = 1 + j by omega, show 16 + j - 16 = j by omega]
          generalize (Sh.exts j (Sh.first l)).getD (1 + j) 0 = x at *
          generalize (Sh.exts j (Sh.first l)).getD (14 + j) 0 = y at *
          generalize (Sh.exts j (Sh.first l)).getD (9 + j) 0 = z at *
          generalize (Sh.exts j (Sh.first l)).getD j 0 = u at *
          obtain ⟨p0, hp0⟩ : ∃ p, p = 1 + j := ⟨_, rfl⟩
          obtain ⟨p1, hp1⟩ : ∃ p, p = 14 + j := ⟨_, rfl⟩
          obtain ⟨p2, hp2⟩ : ∃ p, p = 9 + j := ⟨_, rfl⟩
          rw [← hp0] at i0 c0
          rw [← hp1] at i1 c1
          rw [← hp2] at i2 c2
          have q0 : p0 < 64 := by omega
          have q1 : p1 < 64 := by omega
          have q2 : p2 < 64 := by omega
          have q3 : j < 64 := by omega
          have HT := hide ht
          clear h2 h3 gt lt hp0 hp1 hp2 ht
          go_wp2
          go_quiet (fail)
          go_wp2_with (go_at_call 69; refine (turn_int _ _ _ (by decide) (by decide) (by assumption)).mono ?_; rintro e w' ⟨rfl, rfl⟩)
          go_region
          go_wp2
          go_roundw
          case rel =>
            have e : (bits .xor .u32 (bits .xor .u32 (Sh.rotr 17 y : Nat) (Sh.rotr 19 y : Nat)) ((y : Int) / 1024) + (z : Int) + bits .xor .u32 (bits .xor .u32 (Sh.rotr 7 x : Nat) (Sh.rotr 18 x : Nat)) ((x : Int) / 8) + (u : Int)) % 4294967296 = ((Sh.ext (Sh.exts j (Sh.first l)) : Nat) : Int) := by
              rw [HX.out, s1_bits y l1, s0_bits x l0]; omega
            have ht := HT.out
            subst ht
            refine ⟨j + 1, by omega, by go_num, (below_drewN hbel _).setCell (p := ⟨w.heap.size + 1 + 1, 16 + j, none⟩) (by show w.heap.size ≤ w.heap.size + 1 + 1; omega) _, ⟨c', hcl', Is.other (w := wr.drewN _) H2.out ⟨w.heap.size + 1 + 1, 16 + j, none⟩ _ (by show w.heap.size + 1 + 1 ≠ w.heap.size + 1; omega)⟩, ?_⟩
            rw [← part2_step l j (by omega), ← e]
            exact Is.set (w := wr.drewN _) H3.out (16 + j) _
          case measure => simp [intOf]; omega
        · obtain rfl : j = 48 := by omega
          rw [part2_all] at h3
          clear H3
          have hld := hide (h3.load Tryd.underlying118 (by rw [wvals_length, Sh.sched_length]; kernel_rfl))
          have hst := hide (h2.store (c' := wvals (Sh.sched l)) (by rw [wvals_length, Sh.sched_length]; kernel_rfl) (by rw [wvals_length, Sh.sched_length, hcl']) (wvals_one _))
          have hrd := (h2.row (wvals (Sh.sched l))).cellsOf Tryd.underlying118 (by rw [wvals_length, Sh.sched_length]; kernel_rfl)
          have HR := hide hrd
          clear h2 h3 hrd
          go_wp2_with (first
            | (refine wpList_load_is 118 (.agg (wvals (Sh.sched l)).toArray) (w.heap.size + 1 + 1) rfl (.tmp 3) rfl rfl hld.out ?_)
            | (refine wpList_store_is 118 (.agg (wvals (Sh.sched l)).toArray) (w.heap.size + 1) rfl (.tmp 2) (.tmp 87) rfl rfl rfl hst.out ?_))
          exact bodyPost_ret (v := .agg (wvals (Sh.sched l)).toArray) (results_cell1 Tryd.results68 rfl HR.out) rfl ⟨rfl, below_setRow hbel (by omega) _⟩
end Go.Proofs.YtkdihbgjeanjdaaDoor
