/- The contracts of package money. -/
import Derived.Test.YtlcajpfalggheaaDoorAs
import Derived.Test.YtlcajpfalggheaaDoorMo
import Derived.Laws.Shifts
namespace Go.Proofs.YtlcajpfalggheaaDoor
open Go.RowKit
set_option linter.unusedVariables false

theorem errV_nil : errV 0 = .nilIface := rfl
theorem errV_two : errV 2 = .iface 23 (.int .i64 2) := rfl
theorem errV_four : errV 4 = .iface 23 (.int .i64 4) := rfl

theorem mcheck_any (n : Int) (w : World) :
    Calls Tryd.prog 6 #[.int .i64 n] w fun e w' => e = .returned (errV (Mo.chk n)) ∧ w = w' := by
  by_cases a : n < 0
  · have e : Mo.chk n = 2 := Mo.chk_bad n (fun h => by have := h.1; have := h.2; omega)
    rw [e]; clear e
    go_enter Tryd.func6, Tryd.ntmps6
    go_wp2
    go_ret
    exact ⟨rfl, rfl⟩
  · by_cases b : 1125899906842624 < n
    · have e : Mo.chk n = 2 := Mo.chk_bad n (fun h => by have := h.1; have := h.2; omega)
      rw [e]; clear e
      go_enter Tryd.func6, Tryd.ntmps6
      go_wp2
      go_ret
      exact ⟨rfl, rfl⟩
    · have e : Mo.chk n = 0 := Mo.chk_good n ⟨by omega, by omega⟩
      rw [e]; clear e
      go_enter Tryd.func6, Tryd.ntmps6
      go_wp2
      go_ret
      exact ⟨rfl, rfl⟩

theorem checkHeight_any (n : Int) (w : World) :
    Calls Tryd.prog 14 #[.int .i64 n] w fun e w' => e = .returned (errV (if 0 ≤ n ∧ n ≤ 1073741824 then 0 else 2)) ∧ w = w' := by
  by_cases a : n < 0
  · rw [if_neg (by omega)]
    go_enter Tryd.func14, Tryd.ntmps14
    go_wp2
    go_ret
    exact ⟨rfl, rfl⟩
  · by_cases b : 1073741824 < n
    · rw [if_neg (by omega)]
      go_enter Tryd.func14, Tryd.ntmps14
      go_wp2
      go_ret
      exact ⟨rfl, rfl⟩
    · rw [if_pos (by omega)]
      go_enter Tryd.func14, Tryd.ntmps14
      go_wp2
      go_ret
      exact ⟨rfl, rfl⟩

theorem madd_any (a b : Int) (w : World) :
    Calls Tryd.prog 8 #[.int .i64 a, .int .i64 b] w fun e w' => e = .returned (.tuple #[.int .i64 (Mo.add a b).1, errV (Mo.add a b).2]) ∧ w = w' := by
  by_cases ha : Mo.ok a
  · have ca : Mo.chk a = 0 := by unfold Mo.chk; rw [if_pos ha]
    by_cases hb : Mo.ok b
    · have cb : Mo.chk b = 0 := by unfold Mo.chk; rw [if_pos hb]
      by_cases hs : a + b ≤ 1125899906842624
      · have e : Mo.add a b = (a + b, 0) := by unfold Mo.add; rw [if_pos ⟨ha, hb⟩, if_pos hs]
        unfold Mo.ok at ha hb
        rw [e]; clear e
        go_enter Tryd.func8, Tryd.ntmps8
        go_wp2_with fail
        refine (mcheck_any a _).mono ?_
        rintro e w1 ⟨rfl, rfl⟩
        rw [ca, errV_nil]
        go_wp2_with fail
        refine (mcheck_any b _).mono ?_
        rintro e w1 ⟨rfl, rfl⟩
        rw [cb, errV_nil]
        go_wp2
        go_ret2
        exact ⟨rfl, rfl⟩
      · have e : Mo.add a b = (0, 4) := by unfold Mo.add; rw [if_pos ⟨ha, hb⟩, if_neg hs]
        unfold Mo.ok at ha hb
        rw [e]; clear e
        go_enter Tryd.func8, Tryd.ntmps8
        go_wp2_with fail
        refine (mcheck_any a _).mono ?_
        rintro e w1 ⟨rfl, rfl⟩
        rw [ca, errV_nil]
        go_wp2_with fail
        refine (mcheck_any b _).mono ?_
        rintro e w1 ⟨rfl, rfl⟩
        rw [cb, errV_nil]
        go_wp2
        go_ret2
        exact ⟨rfl, rfl⟩
    · have cb : Mo.chk b = 2 := by unfold Mo.chk; rw [if_neg hb]
      have e : Mo.add a b = (0, 2) := by unfold Mo.add; rw [if_neg (fun h => hb h.2)]
      rw [e]; clear e
      go_enter Tryd.func8, Tryd.ntmps8
      go_wp2_with fail
      refine (mcheck_any a _).mono ?_
      rintro e w1 ⟨rfl, rfl⟩
      rw [ca, errV_nil]
      go_wp2_with fail
      refine (mcheck_any b _).mono ?_
      rintro e w1 ⟨rfl, rfl⟩
      rw [cb, errV_two]
      go_wp2
      go_ret2
      exact ⟨rfl, rfl⟩
  · have ca : Mo.chk a = 2 := by unfold Mo.chk; rw [if_neg ha]
    have e : Mo.add a b = (0, 2) := by unfold Mo.add; rw [if_neg (fun h => ha h.1)]
    rw [e]; clear e
    go_enter Tryd.func8, Tryd.ntmps8
    go_wp2_with fail
    refine (mcheck_any a _).mono ?_
    rintro e w1 ⟨rfl, rfl⟩
    rw [ca, errV_two]
    go_wp2
    go_ret2
    exact ⟨rfl, rfl⟩

theorem made_bad (h : Int) (w : World) (hh : ¬ (0 ≤ h ∧ h ≤ 1073741824)) :
    Calls Tryd.prog 11 #[.int .i64 h] w fun e w' => e = .returned (.tuple #[.int .i64 0, errV 2]) ∧ w = w' := by
  go_enter Tryd.func11, Tryd.ntmps11
  go_wp2_with fail
  refine (checkHeight_any h _).mono ?_
  rintro e w1 ⟨rfl, rfl⟩
  rw [if_neg hh, errV_two]
  go_wp2
  go_ret2
  exact ⟨rfl, rfl⟩

theorem made_shift (h : Nat) : Op.shift .shr .i64 1073741824 .i64 ((h : Int) / 1000) = pure (.int .i64 (Mo.made (h / 1000) : Nat)) := by
  have e : (h : Int) / 1000 = ((h / 1000 : Nat) : Int) := by omega
  rw [e, shift_shr_any _ _ _ _ (by omega), Int.toNat_natCast]
  generalize h / 1000 = k
  have e2 : (1073741824 : Int) / 2 ^ min k IntKind.i64.bits = (Mo.made k : Nat) := by
    have hb : IntKind.i64.bits = 64 := rfl
    rw [hb]
    have e3 : (1073741824 : Int) / 2 ^ min k 64 = (Mo.made (min k 64) : Nat) := by unfold Mo.made; simp
    rw [e3]
    by_cases hk : k ≤ 64
    · rw [Nat.min_eq_left hk]
    · rw [Nat.min_eq_right (by omega)]
      obtain ⟨i, rfl⟩ := Nat.exists_eq_add_of_le (show 31 ≤ k by omega)
      rw [Mo.made_31, show (64 : Nat) = 31 + 33 from rfl, Mo.made_31]
  rw [e2]

theorem made_good (h : Nat) (w : World) (hh : h ≤ 1073741824) :
    Calls Tryd.prog 11 #[.int .i64 (h : Nat)] w fun e w' => e = .returned (.tuple #[.int .i64 (Mo.made (h / 1000) : Nat), errV 0]) ∧ w = w' := by
  have hs := made_shift h
  go_enter Tryd.func11, Tryd.ntmps11
  go_wp2_with fail
  refine (checkHeight_any h _).mono ?_
  rintro e w1 ⟨rfl, rfl⟩
  rw [if_pos (by omega), errV_nil]
  go_wp2
  go_ret2
  exact ⟨rfl, rfl⟩

theorem supply_bad (h : Int) (w : World) (hh : ¬ (0 ≤ h ∧ h ≤ 1073741824)) :
    Calls Tryd.prog 12 #[.int .i64 h] w fun e w' => e = .returned (.tuple #[.int .i64 0, errV 2]) ∧ w = w' := by
  go_enter Tryd.func12, Tryd.ntmps12
  go_wp2_with fail
  refine (checkHeight_any h _).mono ?_
  rintro e w1 ⟨rfl, rfl⟩
  rw [if_neg hh, errV_two]
  go_wp2
  go_ret2
  exact ⟨rfl, rfl⟩

set_option maxHeartbeats 400000 in
theorem supply_good (h : Nat) (w : World) (hh : h ≤ 1073741824) :
    Calls Tryd.prog 12 #[.int .i64 (h : Nat)] w fun e w' => e = .returned (.tuple #[.int .i64 (Mo.T (h + 1) : Nat), errV 0]) ∧ w = w' := by
  go_enter Tryd.func12, Tryd.ntmps12
  go_wp2_with fail
  refine (checkHeight_any h _).mono ?_
  rintro e w1 ⟨rfl, rfl⟩
  rw [if_pos (by omega), errV_nil]
  go_wp2
  go_loop [5, 6, 7] (fun s l m => ∃ j t r g : Nat, s = .int .i64 (t : Nat) ∧ l = .int .i64 (r : Nat) ∧ m = .int .i64 (g : Nat) ∧ g = Mo.made j ∧ ((r = 0 ∧ t = Mo.T (h + 1)) ∨ (1000 * j + r = h + 1 ∧ t = Mo.T (1000 * j)))) (fun _ _ m => (intOf m).toNat)
  case atStart => exact ⟨0, 0, h + 1, 1073741824, rfl, rfl, rfl, rfl, .inr ⟨by omega, rfl⟩⟩
  case round =>
    obtain ⟨j, t, r, g, rfl, rfl, rfl, hg, hr⟩ := hrel
    by_cases h1 : 0 < g
    · by_cases h2 : 0 < r
      · obtain ⟨hr1, hr2⟩ : 1000 * j + r = h + 1 ∧ t = Mo.T (1000 * j) := by
          rcases hr with hr | hr
          · omega
          · exact hr
        have hb1 := Mo.made_bd j
        have hb2 := Mo.T_bd j
        rw [← hg] at hb1 hb2
        rw [← hr2] at hb2
        have hrb : r ≤ 1073741825 := by omega
        by_cases h3 : r ≤ 1000
        · have hnext : r * g + t = Mo.T (h + 1) := by rw [← hr1, Mo.T_run j r h3, hr2, hg, Nat.add_comm]
          have HG := hide hg
          have hbd : r * g ≤ 1000 * g := Nat.mul_le_mul_right g h3
          have hmul : ∃ p : Nat, p = r * g := ⟨_, rfl⟩
          obtain ⟨p, hp⟩ := hmul
          have hmi : (r : Int) * (g : Int) = (p : Int) := by rw [hp]; simp
          rw [← hp] at hbd hnext
          have HN := hide hnext
          clear hp hr hr1 hr2 hg hnext hb1
          go_wp2
          go_round
          case rel => exact ⟨j + 1, t + p, 0, g / 2, by go_num, by go_num, by go_num, by rw [Mo.made_succ, ← HG.out], .inl ⟨rfl, by have := HN.out; omega⟩⟩
          case measure => simp [intOf]; omega
        · have hnext : t + 1000 * g = Mo.T (1000 * (j + 1)) := by rw [Mo.T_thousand, hr2, hg]
          have HN := hide hnext
          have HG := hide hg
          have HR := hide hr1
          clear hr hr1 hr2 hg hnext hb1
          go_wp2
          go_round
          case rel => exact ⟨j + 1, t + 1000 * g, r - 1000, g / 2, by go_num, by go_num, by go_num, by rw [Mo.made_succ, ← HG.out], .inr ⟨by have := HR.out; omega, HN.out⟩⟩
          case measure => simp [intOf]; omega
      · obtain rfl : r = 0 := by omega
        have hfin : t = Mo.T (h + 1) := by
          rcases hr with hr | hr
          · exact hr.2
          · rw [hr.2]; congr 1; omega
        have HF := hide hfin
        clear hr hg hfin
        go_wp2
        go_ret2
        exact ⟨by rw [← HF.out]; rfl, rfl⟩
    · obtain rfl : g = 0 := by omega
      have hfin : t = Mo.T (h + 1) := by
        rcases hr with hr | hr
        · exact hr.2
        · rw [hr.2]; exact (Mo.T_none j (h + 1) hg.symm (by omega)).symm
      have HF := hide hfin
      clear hr hg hfin
      go_wp2
      go_ret2
      exact ⟨by rw [← HF.out]; rfl, rfl⟩
end Go.Proofs.YtlcajpfalggheaaDoor
