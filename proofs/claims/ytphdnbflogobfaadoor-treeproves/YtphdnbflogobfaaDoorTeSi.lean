/- The contract of tree.sides. -/
import Derived.Test.YtphdnbflogobfaaDoorTePa
namespace Go.Proofs.YtphdnbflogobfaaDoor
open Go.RowKit
set_option linter.unusedVariables false
set_option linter.unusedSimpArgs false

set_option maxRecDepth 100000 in
set_option maxHeartbeats 400000 in
theorem sides_any (n : Nat) : ∀ (i : Nat) (w : World), 1 ≤ n → n ≤ 256 → i < n →
    Calls Tryd.prog 31 #[.int .i64 (i : Int), .int .i64 (n : Int)] w fun e w' => ∃ v, e = .returned v ∧ OwnBools w' w.heap.size v (Te.sides i n) ∧ Below w.heap.size w w' := by
  induction n using Nat.strongRecOn with
  | _ n ih =>
    intro i w h1 h256 hin
    by_cases h2 : 2 ≤ n
    · have hp := Te.half_pos n
      have hl := Te.half_lt n h2
      have HH := hide (fun W => half_any n W h2 h256)
      have hn1 : ¬ (n : Int) = 1 := by omega
      have hn2 : ((n : Int) == 1) = false := by simpa using hn1
      have HB := hide (Below.refl w.heap.size w)
      by_cases hik : i < Te.half n
      · have HA : Hid (∀ W, Calls Tryd.prog 31 #[.int .i64 (i : Int), .int .i64 (Te.half n : Int)] W fun e w' => ∃ v, e = .returned v ∧ OwnBools w' W.heap.size v (Te.sides i (Te.half n)) ∧ Below W.heap.size W w') := hide (fun W => by
          have := ih (Te.half n) (by omega) i W (by omega) (by omega) (by omega)
          exact this)
        have hps : (Te.sides i (Te.half n)).length ≤ 8 := long_small i (Te.half n) (by omega) (by omega)
        rw [Te.sides_left i n h2 hik]
        have HPS := hide hps
        generalize Te.sides i (Te.half n) = P at *
        generalize Te.half n = k at *
        have hik2 : (i : Int) < (k : Int) := by omega
        clear ih hps
        go_enter Tryd.func31, Tryd.ntmps31
        go_wp2_with fail
        refine (HH.out _).mono ?_
        rintro e w1 ⟨rfl, hb1⟩
        have HB1 := hide (HB.out.trans (hb1.mono HB.out.size))
        clear hb1
        go_wp2_with fail
        refine (HA.out _).mono ?_
        rintro e w2 ⟨v2, rfl, ho2, hb2⟩
        have HB2 := hide (HB1.out.trans (hb2.mono HB1.out.size))
        have HO2 := hide (ho2.low HB1.out.size)
        obtain ⟨a2, c2, rfl⟩ := ho2.form
        clear hb2 ho2
        go_wp2_with (at_builtin; refine te_appendB _ rfl (.tmp 15) (.tmp 16) rfl w.heap.size _ P rfl false w2.heap.size 1 rfl (HO2.out.below (below_alloc _ _)) (Is.new _ [.bool false] _) (by have := HPS.out; omega) (Nat.le_trans HB2.out.size (below_alloc w2 _).size) ?_; intro v6 w6 ho6 hg6 hv6)
        exact bodyPost_ret (v := v6) (by simp [results, Tryd.results31]) rfl ⟨v6, rfl, ho6, (HB2.out.alloc HB2.out.size _).grown hg6 (Nat.le_trans HB2.out.size (below_alloc w2 (.cells #[.bool false] 4)).size) (fun r hr => (HO2.out.block r hr).1)⟩
      · have HA : Hid (∀ W, Calls Tryd.prog 31 #[.int .i64 ((i : Int) - (Te.half n : Int)), .int .i64 ((n : Int) - (Te.half n : Int))] W fun e w' => ∃ v, e = .returned v ∧ OwnBools w' W.heap.size v (Te.sides (i - Te.half n) (n - Te.half n)) ∧ Below W.heap.size W w') := hide (fun W => by
          have := ih (n - Te.half n) (by omega) (i - Te.half n) W (by omega) (by omega) (by omega)
          rwa [show (((i - Te.half n : Nat)) : Int) = (i : Int) - (Te.half n : Int) by omega, show (((n - Te.half n : Nat)) : Int) = (n : Int) - (Te.half n : Int) by omega] at this)
        have hps : (Te.sides (i - Te.half n) (n - Te.half n)).length ≤ 8 := long_small (i - Te.half n) (n - Te.half n) (by omega) (by omega)
        rw [Te.sides_right i n h2 hik]
        have HPS := hide hps
        generalize Te.sides (i - Te.half n) (n - Te.half n) = P at *
        generalize Te.half n = k at *
        have hik2 : ¬ (i : Int) < (k : Int) := by omega
        have hwr : wrap64 ((i : Int) - (k : Int)) = (i : Int) - (k : Int) := by simp [wrap64]; omega
        have hwr2 : wrap64 ((n : Int) - (k : Int)) = (n : Int) - (k : Int) := by simp [wrap64]; omega
        clear ih hps
        go_enter Tryd.func31, Tryd.ntmps31
        go_wp2_with fail
        refine (HH.out _).mono ?_
        rintro e w1 ⟨rfl, hb1⟩
        have HB1 := hide (HB.out.trans (hb1.mono HB.out.size))
        clear hb1
        go_wp2_with fail
        refine (HA.out _).mono ?_
        rintro e w2 ⟨v2, rfl, ho2, hb2⟩
        have HB2 := hide (HB1.out.trans (hb2.mono HB1.out.size))
        have HO2 := hide (ho2.low HB1.out.size)
        obtain ⟨a2, c2, rfl⟩ := ho2.form
        clear hb2 ho2
        go_wp2_with (at_builtin; refine te_appendB _ rfl (.tmp 24) (.tmp 25) rfl w.heap.size _ P rfl true w2.heap.size 1 rfl (HO2.out.below (below_alloc _ _)) (Is.new _ [.bool true] _) (by have := HPS.out; omega) (Nat.le_trans HB2.out.size (below_alloc w2 _).size) ?_; intro v6 w6 ho6 hg6 hv6)
        exact bodyPost_ret (v := v6) (by simp [results, Tryd.results31]) rfl ⟨v6, rfl, ho6, (HB2.out.alloc HB2.out.size _).grown hg6 (Nat.le_trans HB2.out.size (below_alloc w2 (.cells #[.bool true] 4)).size) (fun r hr => (HO2.out.block r hr).1)⟩
    · have hn1 : n = 1 := by omega
      subst hn1
      rw [Te.sides_one i]
      clear ih
      go_enter Tryd.func31, Tryd.ntmps31
      go_wp2
      exact bodyPost_ret (v := .slice none 0 0) (by simp [results, Tryd.results31]) rfl ⟨_, rfl, OwnBools.nil _ _, Below.refl _ _⟩
end Go.Proofs.YtphdnbflogobfaaDoor
