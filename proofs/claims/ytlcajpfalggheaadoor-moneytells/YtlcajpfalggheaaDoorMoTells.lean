/- The walk of MoneyTells. -/
import Derived.Test.YtlcajpfalggheaaDoorMoRef
namespace Go.Proofs.YtlcajpfalggheaaDoor
open Go.RowKit
set_option linter.unusedVariables false

theorem made_goodI (h : Int) (k : Nat) (w : World) (e : h = (k : Nat)) (hh : k ≤ 1073741824) :
    Calls Tryd.prog 11 #[.int .i64 h] w fun e w' => e = .returned (.tuple #[.int .i64 (Mo.made (k / 1000) : Nat), errV 0]) ∧ w = w' := by
  subst e; exact made_good k w hh
theorem supply_goodI (h : Int) (k : Nat) (w : World) (e : h = (k : Nat)) (hh : k ≤ 1073741824) :
    Calls Tryd.prog 12 #[.int .i64 h] w fun e w' => e = .returned (.tuple #[.int .i64 (Mo.T (k + 1) : Nat), errV 0]) ∧ w = w' := by
  subst e; exact supply_good k w hh

set_option maxRecDepth 20000 in
set_option maxHeartbeats 8000000 in
theorem moneyTells_glo (v : Value) (l : List Int) (a b h : Int) (w : World) (hl : HasI w v l) (he : ErrVar w) (ha : Mo.ok a) (h1 : h < 0) :
    Calls Tryd.prog 3 #[v, .int .i64 a, .int .i64 b, .int .i64 h] w fun e w' => e = .returned (.bool true) ∧ Below w.heap.size w w' := by
  have D1 := hide (rmoney_good a w ha)
  have d2 := mcheck_any a w
  rw [Mo.chk_good a ha] at d2
  have D2 := hide d2
  have HS : Hid (∀ c k W, c = k → Below w.heap.size w W → Calls Tryd.prog 5 #[errV c, .int .i64 k] W fun e w' => e = .returned (.bool true) ∧ Below W.heap.size W w') := fun c k W e hW => error_hit c k W (he.below hW) e
  have D3 : Hid (∀ W, Below w.heap.size w W → Calls Tryd.prog 5 #[errV 0, .int .i64 0] W fun e w' => e = .returned (.bool true) ∧ Below W.heap.size W w') := fun W => HS.out _ _ W rfl
  have D4 : Hid (∀ W : World, Calls Tryd.prog 7 #[.slice (some ⟨W.heap.size, 0, none⟩) 2 2] (W.alloc (.cells #[.int .i64 a, .int .i64 b] 3)) fun e w' => e = .returned (.tuple #[.int .i64 (Mo.tot 0 [a, b]).1, .int .i64 (Mo.tot 0 [a, b]).2]) ∧ (W.alloc (.cells #[.int .i64 a, .int .i64 b] 3)) = w') := fun W => rtotal_any _ [a, b] _ (OwnI.two W W.heap.size a b (Nat.le_refl _)).has
  have D5 : Hid (∀ W, Calls Tryd.prog 8 #[.int .i64 a, .int .i64 b] W fun e w' => e = .returned (.tuple #[.int .i64 (Mo.add a b).1, errV (Mo.add a b).2]) ∧ W = w') := fun W => madd_any a b W
  have D6 : Hid (∀ W, Below w.heap.size w W → Calls Tryd.prog 5 #[errV (Mo.add a b).2, .int .i64 (Mo.tot 0 [a, b]).2] W fun e w' => e = .returned (.bool true) ∧ Below W.heap.size W w') := fun W => HS.out _ _ W (by rw [Mo.tot_two])
  have j6 : ((Mo.add a b).1 != (Mo.tot 0 [a, b]).1) = false := by rw [Mo.tot_two]; simp
  have D7 : Hid (∀ W, Below w.heap.size w W → Calls Tryd.prog 7 #[v] W fun e w' => e = .returned (.tuple #[.int .i64 (Mo.tot 0 l).1, .int .i64 (Mo.tot 0 l).2]) ∧ W = w') := fun W hW => rtotal_any v l W (hl.below hW)
  obtain ⟨q, hq⟩ : ∃ q, q = Mo.tot 0 l := ⟨_, rfl⟩
  have D8 : Hid (∀ W, Below w.heap.size w W → Calls Tryd.prog 9 #[v] W fun e w' => e = .returned (.tuple #[.int .i64 q.1, errV q.2]) ∧ W = w') := fun W hW => by rw [hq]; exact msum_any v l W (hl.below hW)
  have D9 : Hid (∀ W, Below w.heap.size w W → Calls Tryd.prog 5 #[errV q.2, .int .i64 (Mo.tot 0 l).2] W fun e w' => e = .returned (.bool true) ∧ Below W.heap.size W w') := fun W => HS.out _ _ W (by rw [hq])
  have j9 : (q.1 != (Mo.tot 0 l).1) = false := by rw [hq]; simp
  have DB : Hid (∀ W, Calls Tryd.prog 11 #[.int .i64 h] W fun e w' => e = .returned (.tuple #[.int .i64 0, errV 2]) ∧ W = w') := fun W => made_bad h W (by omega)
  have DC : Hid (∀ W, Below w.heap.size w W → Calls Tryd.prog 5 #[errV 2, .int .i64 2] W fun e w' => e = .returned (.bool true) ∧ Below W.heap.size W w') := fun W => HS.out _ _ W rfl
  have DD : Hid (∀ W, Calls Tryd.prog 12 #[.int .i64 h] W fun e w' => e = .returned (.tuple #[.int .i64 0, errV 2]) ∧ W = w') := fun W => supply_bad h W (by omega)
  clear HS d2 ha hl he hq
  generalize (Mo.tot 0 [a, b]).1 = x1 at *
  generalize (Mo.tot 0 [a, b]).2 = x2 at *
  generalize (Mo.add a b).1 = y1 at *
  generalize errV (Mo.add a b).2 = y2 at *
  generalize (Mo.tot 0 l).1 = x3 at *
  generalize (Mo.tot 0 l).2 = x4 at *
  generalize q.1 = y3 at *
  generalize errV q.2 = y4 at *
  generalize errV 0 = z0 at *
  generalize errV 2 = z2 at *
  have hb0 : Below w.heap.size w w := Below.refl _ _
  go_enter Tryd.func3, Tryd.ntmps3
  go_wp2_with fail
  refine D1.out.mono ?_
  rintro e w1 ⟨rfl, rfl⟩
  go_wp2_with fail
  refine D2.out.mono ?_
  rintro e w1 ⟨rfl, rfl⟩
  go_wp2_with fail
  refine (D3.out _ hb0).mono ?_
  rintro e w1 ⟨rfl, hc1⟩
  have hb1 := hb0.trans (hc1.mono hb0.size)
  clear hc1
  have hb2 := hb1.alloc hb1.size (.cells #[.int .i64 a, .int .i64 b] 3)
  go_wp2_with fail
  refine (D4.out w1).mono ?_
  rintro e wz ⟨rfl, rfl⟩
  go_wp2_with fail
  refine (D5.out _).mono ?_
  rintro e wz ⟨rfl, rfl⟩
  go_wp2_with fail
  refine (D6.out _ hb2).mono ?_
  rintro e w3 ⟨rfl, hc3⟩
  have hb3 := hb2.trans (hc3.mono hb2.size)
  clear hc3
  go_wp2_with fail
  refine (D7.out _ hb3).mono ?_
  rintro e wz ⟨rfl, rfl⟩
  go_wp2_with fail
  refine (D8.out _ hb3).mono ?_
  rintro e wz ⟨rfl, rfl⟩
  go_wp2_with fail
  refine (D9.out _ hb3).mono ?_
  rintro e w4 ⟨rfl, hc4⟩
  have hb4 := hb3.trans (hc4.mono hb3.size)
  clear hc4
  go_wp2_with fail
  refine (DB.out _).mono ?_
  rintro e wz ⟨rfl, rfl⟩
  go_wp2_with fail
  refine (DC.out _ hb4).mono ?_
  rintro e w5 ⟨rfl, hc5⟩
  have hb5 := hb4.trans (hc5.mono hb4.size)
  clear hc5
  go_wp2
  refine wp_loop_rounds 1 ?_
  rw [rounds_succ]
  go_wp2_with fail
  refine (DD.out _).mono ?_
  rintro e wz ⟨rfl, rfl⟩
  go_wp2_with fail
  refine (DC.out _ hb5).mono ?_
  rintro e w6 ⟨rfl, hc6⟩
  go_wp2
  go_ret
  exact ⟨rfl, hb5.trans (hc6.mono hb5.size)⟩

set_option maxRecDepth 20000 in
set_option maxHeartbeats 8000000 in
theorem moneyTells_ghi (v : Value) (l : List Int) (a b h : Int) (w : World) (hl : HasI w v l) (he : ErrVar w) (ha : Mo.ok a) (h1 : 1073741824 < h) :
    Calls Tryd.prog 3 #[v, .int .i64 a, .int .i64 b, .int .i64 h] w fun e w' => e = .returned (.bool true) ∧ Below w.heap.size w w' := by
  have D1 := hide (rmoney_good a w ha)
  have d2 := mcheck_any a w
  rw [Mo.chk_good a ha] at d2
  have D2 := hide d2
  have HS : Hid (∀ c k W, c = k → Below w.heap.size w W → Calls Tryd.prog 5 #[errV c, .int .i64 k] W fun e w' => e = .returned (.bool true) ∧ Below W.heap.size W w') := fun c k W e hW => error_hit c k W (he.below hW) e
  have D3 : Hid (∀ W, Below w.heap.size w W → Calls Tryd.prog 5 #[errV 0, .int .i64 0] W fun e w' => e = .returned (.bool true) ∧ Below W.heap.size W w') := fun W => HS.out _ _ W rfl
  have D4 : Hid (∀ W : World, Calls Tryd.prog 7 #[.slice (some ⟨W.heap.size, 0, none⟩) 2 2] (W.alloc (.cells #[.int .i64 a, .int .i64 b] 3)) fun e w' => e = .returned (.tuple #[.int .i64 (Mo.tot 0 [a, b]).1, .int .i64 (Mo.tot 0 [a, b]).2]) ∧ (W.alloc (.cells #[.int .i64 a, .int .i64 b] 3)) = w') := fun W => rtotal_any _ [a, b] _ (OwnI.two W W.heap.size a b (Nat.le_refl _)).has
  have D5 : Hid (∀ W, Calls Tryd.prog 8 #[.int .i64 a, .int .i64 b] W fun e w' => e = .returned (.tuple #[.int .i64 (Mo.add a b).1, errV (Mo.add a b).2]) ∧ W = w') := fun W => madd_any a b W
  have D6 : Hid (∀ W, Below w.heap.size w W → Calls Tryd.prog 5 #[errV (Mo.add a b).2, .int .i64 (Mo.tot 0 [a, b]).2] W fun e w' => e = .returned (.bool true) ∧ Below W.heap.size W w') := fun W => HS.out _ _ W (by rw [Mo.tot_two])
  have j6 : ((Mo.add a b).1 != (Mo.tot 0 [a, b]).1) = false := by rw [Mo.tot_two]; simp
  have D7 : Hid (∀ W, Below w.heap.size w W → Calls Tryd.prog 7 #[v] W fun e w' => e = .returned (.tuple #[.int .i64 (Mo.tot 0 l).1, .int .i64 (Mo.tot 0 l).2]) ∧ W = w') := fun W hW => rtotal_any v l W (hl.below hW)
  obtain ⟨q, hq⟩ : ∃ q, q = Mo.tot 0 l := ⟨_, rfl⟩
  have D8 : Hid (∀ W, Below w.heap.size w W → Calls Tryd.prog 9 #[v] W fun e w' => e = .returned (.tuple #[.int .i64 q.1, errV q.2]) ∧ W = w') := fun W hW => by rw [hq]; exact msum_any v l W (hl.below hW)
  have D9 : Hid (∀ W, Below w.heap.size w W → Calls Tryd.prog 5 #[errV q.2, .int .i64 (Mo.tot 0 l).2] W fun e w' => e = .returned (.bool true) ∧ Below W.heap.size W w') := fun W => HS.out _ _ W (by rw [hq])
  have j9 : (q.1 != (Mo.tot 0 l).1) = false := by rw [hq]; simp
  have DB : Hid (∀ W, Calls Tryd.prog 11 #[.int .i64 h] W fun e w' => e = .returned (.tuple #[.int .i64 0, errV 2]) ∧ W = w') := fun W => made_bad h W (by omega)
  have DC : Hid (∀ W, Below w.heap.size w W → Calls Tryd.prog 5 #[errV 2, .int .i64 2] W fun e w' => e = .returned (.bool true) ∧ Below W.heap.size W w') := fun W => HS.out _ _ W rfl
  have DD : Hid (∀ W, Calls Tryd.prog 12 #[.int .i64 h] W fun e w' => e = .returned (.tuple #[.int .i64 0, errV 2]) ∧ W = w') := fun W => supply_bad h W (by omega)
  clear HS d2 ha hl he hq
  generalize (Mo.tot 0 [a, b]).1 = x1 at *
  generalize (Mo.tot 0 [a, b]).2 = x2 at *
  generalize (Mo.add a b).1 = y1 at *
  generalize errV (Mo.add a b).2 = y2 at *
  generalize (Mo.tot 0 l).1 = x3 at *
  generalize (Mo.tot 0 l).2 = x4 at *
  generalize q.1 = y3 at *
  generalize errV q.2 = y4 at *
  generalize errV 0 = z0 at *
  generalize errV 2 = z2 at *
  have hb0 : Below w.heap.size w w := Below.refl _ _
  go_enter Tryd.func3, Tryd.ntmps3
  go_wp2_with fail
  refine D1.out.mono ?_
  rintro e w1 ⟨rfl, rfl⟩
  go_wp2_with fail
  refine D2.out.mono ?_
  rintro e w1 ⟨rfl, rfl⟩
  go_wp2_with fail
  refine (D3.out _ hb0).mono ?_
  rintro e w1 ⟨rfl, hc1⟩
  have hb1 := hb0.trans (hc1.mono hb0.size)
  clear hc1
  have hb2 := hb1.alloc hb1.size (.cells #[.int .i64 a, .int .i64 b] 3)
  go_wp2_with fail
  refine (D4.out w1).mono ?_
  rintro e wz ⟨rfl, rfl⟩
  go_wp2_with fail
  refine (D5.out _).mono ?_
  rintro e wz ⟨rfl, rfl⟩
  go_wp2_with fail
  refine (D6.out _ hb2).mono ?_
  rintro e w3 ⟨rfl, hc3⟩
  have hb3 := hb2.trans (hc3.mono hb2.size)
  clear hc3
  go_wp2_with fail
  refine (D7.out _ hb3).mono ?_
  rintro e wz ⟨rfl, rfl⟩
  go_wp2_with fail
  refine (D8.out _ hb3).mono ?_
  rintro e wz ⟨rfl, rfl⟩
  go_wp2_with fail
  refine (D9.out _ hb3).mono ?_
  rintro e w4 ⟨rfl, hc4⟩
  have hb4 := hb3.trans (hc4.mono hb3.size)
  clear hc4
  go_wp2_with fail
  refine (DB.out _).mono ?_
  rintro e wz ⟨rfl, rfl⟩
  go_wp2_with fail
  refine (DC.out _ hb4).mono ?_
  rintro e w5 ⟨rfl, hc5⟩
  have hb5 := hb4.trans (hc5.mono hb4.size)
  clear hc5
  go_wp2
  refine wp_loop_rounds 1 ?_
  rw [rounds_succ]
  go_wp2_with fail
  refine (DD.out _).mono ?_
  rintro e wz ⟨rfl, rfl⟩
  go_wp2_with fail
  refine (DC.out _ hb5).mono ?_
  rintro e w6 ⟨rfl, hc6⟩
  go_wp2
  go_ret
  exact ⟨rfl, hb5.trans (hc6.mono hb5.size)⟩

set_option maxRecDepth 20000 in
set_option maxHeartbeats 8000000 in
theorem moneyTells_gok (v : Value) (l : List Int) (a b h : Int) (w : World) (hl : HasI w v l) (he : ErrVar w) (ha : Mo.ok a) (K : Nat) (hK : h = (K : Nat)) (h1 : h ≤ 1073741824) :
    Calls Tryd.prog 3 #[v, .int .i64 a, .int .i64 b, .int .i64 h] w fun e w' => e = .returned (.bool true) ∧ Below w.heap.size w w' := by
  have D1 := hide (rmoney_good a w ha)
  have d2 := mcheck_any a w
  rw [Mo.chk_good a ha] at d2
  have D2 := hide d2
  have HS : Hid (∀ c k W, c = k → Below w.heap.size w W → Calls Tryd.prog 5 #[errV c, .int .i64 k] W fun e w' => e = .returned (.bool true) ∧ Below W.heap.size W w') := fun c k W e hW => error_hit c k W (he.below hW) e
  have D3 : Hid (∀ W, Below w.heap.size w W → Calls Tryd.prog 5 #[errV 0, .int .i64 0] W fun e w' => e = .returned (.bool true) ∧ Below W.heap.size W w') := fun W => HS.out _ _ W rfl
  have D4 : Hid (∀ W : World, Calls Tryd.prog 7 #[.slice (some ⟨W.heap.size, 0, none⟩) 2 2] (W.alloc (.cells #[.int .i64 a, .int .i64 b] 3)) fun e w' => e = .returned (.tuple #[.int .i64 (Mo.tot 0 [a, b]).1, .int .i64 (Mo.tot 0 [a, b]).2]) ∧ (W.alloc (.cells #[.int .i64 a, .int .i64 b] 3)) = w') := fun W => rtotal_any _ [a, b] _ (OwnI.two W W.heap.size a b (Nat.le_refl _)).has
  have D5 : Hid (∀ W, Calls Tryd.prog 8 #[.int .i64 a, .int .i64 b] W fun e w' => e = .returned (.tuple #[.int .i64 (Mo.add a b).1, errV (Mo.add a b).2]) ∧ W = w') := fun W => madd_any a b W
  have D6 : Hid (∀ W, Below w.heap.size w W → Calls Tryd.prog 5 #[errV (Mo.add a b).2, .int .i64 (Mo.tot 0 [a, b]).2] W fun e w' => e = .returned (.bool true) ∧ Below W.heap.size W w') := fun W => HS.out _ _ W (by rw [Mo.tot_two])
  have j6 : ((Mo.add a b).1 != (Mo.tot 0 [a, b]).1) = false := by rw [Mo.tot_two]; simp
  have D7 : Hid (∀ W, Below w.heap.size w W → Calls Tryd.prog 7 #[v] W fun e w' => e = .returned (.tuple #[.int .i64 (Mo.tot 0 l).1, .int .i64 (Mo.tot 0 l).2]) ∧ W = w') := fun W hW => rtotal_any v l W (hl.below hW)
  obtain ⟨q, hq⟩ : ∃ q, q = Mo.tot 0 l := ⟨_, rfl⟩
  have D8 : Hid (∀ W, Below w.heap.size w W → Calls Tryd.prog 9 #[v] W fun e w' => e = .returned (.tuple #[.int .i64 q.1, errV q.2]) ∧ W = w') := fun W hW => by rw [hq]; exact msum_any v l W (hl.below hW)
  have D9 : Hid (∀ W, Below w.heap.size w W → Calls Tryd.prog 5 #[errV q.2, .int .i64 (Mo.tot 0 l).2] W fun e w' => e = .returned (.bool true) ∧ Below W.heap.size W w') := fun W => HS.out _ _ W (by rw [hq])
  have j9 : (q.1 != (Mo.tot 0 l).1) = false := by rw [hq]; simp
  have hd : h / 1000 = ((K / 1000 : Nat) : Int) := by omega
  have hh0 : 0 ≤ h := by omega
  obtain ⟨M, hM⟩ : ∃ M : Int, M = (Mo.made (K / 1000) : Nat) := ⟨_, rfl⟩
  have DA : Hid (∀ W, Calls Tryd.prog 10 #[.int .i64 h] W fun e w' => e = .returned (.int .i64 M) ∧ W = w') := fun W => by rw [hM]; exact rmadeAt_any h (K / 1000) W hd hh0 (by omega)
  obtain ⟨N, hN⟩ : ∃ N : Int, N = (Mo.made (K / 1000) : Nat) := ⟨_, rfl⟩
  have DB : Hid (∀ W, Calls Tryd.prog 11 #[.int .i64 h] W fun e w' => e = .returned (.tuple #[.int .i64 N, errV 0]) ∧ W = w') := fun W => by rw [hN]; exact made_goodI h K W hK (by omega)
  have DC : Hid (∀ W, Below w.heap.size w W → Calls Tryd.prog 5 #[errV 0, .int .i64 0] W fun e w' => e = .returned (.bool true) ∧ Below W.heap.size W w') := fun W => HS.out _ _ W rfl
  have jC : (N != M) = false := by rw [hN, hM]; simp
  obtain ⟨X, hX⟩ : ∃ X : Int, X = (Mo.T (K + 1) : Nat) := ⟨_, rfl⟩
  have DD : Hid (∀ W, Calls Tryd.prog 12 #[.int .i64 h] W fun e w' => e = .returned (.tuple #[.int .i64 X, errV 0]) ∧ W = w') := fun W => by rw [hX]; exact supply_goodI h K W hK (by omega)
  have HX := hide hX
  have DE : Hid (∀ W (j : Nat), 1000 * j ≤ K → Calls Tryd.prog 10 #[.int .i64 (1000 * (j : Int))] W fun e w' => e = .returned (.int .i64 (Mo.made j : Nat)) ∧ W = w') := fun W j hj => rmadeAt_any (1000 * (j : Int)) j W (by omega) (by omega) (by omega)
  have HK := hide hK
  have hKb : K ≤ 1073741824 := by omega
  clear hd hM hN hX hK
  clear HS d2 ha hl he hq
  generalize (Mo.tot 0 [a, b]).1 = x1 at *
  generalize (Mo.tot 0 [a, b]).2 = x2 at *
  generalize (Mo.add a b).1 = y1 at *
  generalize errV (Mo.add a b).2 = y2 at *
  generalize (Mo.tot 0 l).1 = x3 at *
  generalize (Mo.tot 0 l).2 = x4 at *
  generalize q.1 = y3 at *
  generalize errV q.2 = y4 at *
  generalize errV 0 = z0 at *
  generalize errV 2 = z2 at *
  have hb0 : Below w.heap.size w w := Below.refl _ _
  go_enter Tryd.func3, Tryd.ntmps3
  go_wp2_with fail
  refine D1.out.mono ?_
  rintro e w1 ⟨rfl, rfl⟩
  go_wp2_with fail
  refine D2.out.mono ?_
  rintro e w1 ⟨rfl, rfl⟩
  go_wp2_with fail
  refine (D3.out _ hb0).mono ?_
  rintro e w1 ⟨rfl, hc1⟩
  have hb1 := hb0.trans (hc1.mono hb0.size)
  clear hc1
  have hb2 := hb1.alloc hb1.size (.cells #[.int .i64 a, .int .i64 b] 3)
  go_wp2_with fail
  refine (D4.out w1).mono ?_
  rintro e wz ⟨rfl, rfl⟩
  go_wp2_with fail
  refine (D5.out _).mono ?_
  rintro e wz ⟨rfl, rfl⟩
  go_wp2_with fail
  refine (D6.out _ hb2).mono ?_
  rintro e w3 ⟨rfl, hc3⟩
  have hb3 := hb2.trans (hc3.mono hb2.size)
  clear hc3
  go_wp2_with fail
  refine (D7.out _ hb3).mono ?_
  rintro e wz ⟨rfl, rfl⟩
  go_wp2_with fail
  refine (D8.out _ hb3).mono ?_
  rintro e wz ⟨rfl, rfl⟩
  go_wp2_with fail
  refine (D9.out _ hb3).mono ?_
  rintro e w4 ⟨rfl, hc4⟩
  have hb4 := hb3.trans (hc4.mono hb3.size)
  clear hc4
  go_wp2_with fail
  refine (DA.out _).mono ?_
  rintro e wz ⟨rfl, rfl⟩
  go_wp2_with fail
  refine (DB.out _).mono ?_
  rintro e wz ⟨rfl, rfl⟩
  go_wp2_with fail
  refine (DC.out _ hb4).mono ?_
  rintro e w5 ⟨rfl, hc5⟩
  have hb5 := hb4.trans (hc5.mono hb4.size)
  clear hc5
  go_wp2
  go_loop [11, 15, 16] (fun s i n => ∃ (j t : Nat), i = .int .i64 (1000 * (j : Int)) ∧ s = .int .i64 (t : Nat) ∧ ((1000 * j ≤ K ∧ t = Mo.T (1000 * j)) ∨ (K < 1000 * j ∧ 1000 * j ≤ K + 1000 ∧ t = Mo.T (K + 1)))) (fun _ i _ => K + 1000 - (intOf i).toNat)
  case atStart => exact ⟨0, 0, rfl, rfl, .inl ⟨by omega, rfl⟩⟩
  case round =>
    obtain ⟨j, t, rfl, rfl, hr⟩ := hrel
    by_cases h2 : 1000 * j ≤ K
    · have ht : t = Mo.T (1000 * j) := by rcases hr with hr | hr <;> omega
      have hh2 : 1000 * (j : Int) ≤ h := by have := HK.out; omega
      have E1 := hide (DE.out w5 j h2)
      have hb1' := Mo.made_bd j
      have hb2' := Mo.T_bd j
      have hd : ∃ d : Nat, h + 1 - 1000 * (j : Int) = (d : Int) ∧ 1000 * j + d = K + 1 := ⟨K + 1 - 1000 * j, by have := HK.out; omega, by omega⟩
      obtain ⟨d, hd1, hd2⟩ := hd
      rw [← ht] at hb2'
      obtain ⟨g, hg⟩ : ∃ g, g = Mo.made j := ⟨_, rfl⟩
      rw [← hg] at hb1' hb2' E1
      by_cases h3 : d ≤ 1000
      · have hnext : t + d * g = Mo.T (K + 1) := by rw [← hd2, Mo.T_run j d h3, ht, hg]
        have hbd : d * g ≤ 1000 * g := Nat.mul_le_mul_right g h3
        have hmul : ∃ p : Nat, p = d * g := ⟨_, rfl⟩
        obtain ⟨p, hp⟩ := hmul
        have hmi : (d : Int) * (g : Int) = (p : Int) := by rw [hp]; simp
        rw [← hp] at hbd hnext
        have HN := hide hnext
        have HD := hide hd2
        have HZ : Hid (g = 0 → p = 0) := fun h => by rw [hp, h, Nat.mul_zero]
        clear hp hr ht hg hnext hd2
        by_cases hg0 : g = 0
        · obtain rfl := HZ.out hg0
          subst hg0
          have jX : (X == (t : Int)) = true := by have := HX.out; have := HN.out; simp; omega
          go_wp2_with fail
          refine E1.out.mono ?_
          rintro e wz ⟨rfl, rfl⟩
          go_wp2_with fail
          refine E1.out.mono ?_
          rintro e wz ⟨rfl, rfl⟩
          go_wp2_with fail
          refine (DD.out _).mono ?_
          rintro e wz ⟨rfl, rfl⟩
          go_wp2_with fail
          refine (DC.out _ hb5).mono ?_
          rintro e w6 ⟨rfl, hc6⟩
          go_wp2
          go_ret
          exact ⟨rfl, hb5.trans (hc6.mono hb5.size)⟩
        · have hg1 : ((g : Int) == 0) = false := by simp; omega
          go_wp2_with fail
          refine E1.out.mono ?_
          rintro e wz ⟨rfl, rfl⟩
          go_wp2_with fail
          refine E1.out.mono ?_
          rintro e wz ⟨rfl, rfl⟩
          go_wp2
          go_round
          case rel => exact ⟨j + 1, t + p, by go_num, by go_num, .inr ⟨by have := HD.out; omega, by omega, HN.out⟩⟩
          case measure => simp [intOf]; omega
      · have hnext : t + 1000 * g = Mo.T (1000 * (j + 1)) := by rw [Mo.T_thousand, ht, hg]
        have HN := hide hnext
        have HD := hide hd2
        have HZ : Hid (g = 0 → t = Mo.T (K + 1)) := fun h => by rw [ht]; exact (Mo.T_none j (K + 1) (by rw [← hg]; exact h) (by omega)).symm
        clear hr ht hg hnext hd2
        by_cases hg0 : g = 0
        · have hT := HZ.out hg0
          subst hg0
          have jX : (X == (t : Int)) = true := by have := HX.out; simp; omega
          clear hT
          go_wp2_with fail
          refine E1.out.mono ?_
          rintro e wz ⟨rfl, rfl⟩
          go_wp2_with fail
          refine E1.out.mono ?_
          rintro e wz ⟨rfl, rfl⟩
          go_wp2_with fail
          refine (DD.out _).mono ?_
          rintro e wz ⟨rfl, rfl⟩
          go_wp2_with fail
          refine (DC.out _ hb5).mono ?_
          rintro e w6 ⟨rfl, hc6⟩
          go_wp2
          go_ret
          exact ⟨rfl, hb5.trans (hc6.mono hb5.size)⟩
        · have hg1 : ((g : Int) == 0) = false := by simp; omega
          go_wp2_with fail
          refine E1.out.mono ?_
          rintro e wz ⟨rfl, rfl⟩
          go_wp2_with fail
          refine E1.out.mono ?_
          rintro e wz ⟨rfl, rfl⟩
          go_wp2
          go_round
          case rel => exact ⟨j + 1, t + 1000 * g, by go_num, by go_num, .inl ⟨by have := HD.out; omega, HN.out⟩⟩
          case measure => simp [intOf]; omega
    · have ht : t = Mo.T (K + 1) := by rcases hr with hr | hr <;> omega
      have hh2 : ¬ 1000 * (j : Int) ≤ h := by have := HK.out; omega
      have jX : (X == (t : Int)) = true := by have := HX.out; simp; omega
      clear hr ht
      go_wp2_with fail
      refine (DD.out _).mono ?_
      rintro e wz ⟨rfl, rfl⟩
      go_wp2_with fail
      refine (DC.out _ hb5).mono ?_
      rintro e w6 ⟨rfl, hc6⟩
      go_wp2
      go_ret
      exact ⟨rfl, hb5.trans (hc6.mono hb5.size)⟩

set_option maxRecDepth 20000 in
set_option maxHeartbeats 8000000 in
theorem moneyTells_blo (v : Value) (l : List Int) (a b h : Int) (w : World) (hl : HasI w v l) (he : ErrVar w) (ha : ¬ Mo.ok a) (h1 : h < 0) :
    Calls Tryd.prog 3 #[v, .int .i64 a, .int .i64 b, .int .i64 h] w fun e w' => e = .returned (.bool true) ∧ Below w.heap.size w w' := by
  have D1 := hide (rmoney_bad a w ha)
  have d2 := mcheck_any a w
  rw [Mo.chk_bad a ha] at d2
  have D2 := hide d2
  have HS : Hid (∀ c k W, c = k → Below w.heap.size w W → Calls Tryd.prog 5 #[errV c, .int .i64 k] W fun e w' => e = .returned (.bool true) ∧ Below W.heap.size W w') := fun c k W e hW => error_hit c k W (he.below hW) e
  have D3 : Hid (∀ W, Below w.heap.size w W → Calls Tryd.prog 5 #[errV 2, .int .i64 2] W fun e w' => e = .returned (.bool true) ∧ Below W.heap.size W w') := fun W => HS.out _ _ W rfl
  have D4 : Hid (∀ W : World, Calls Tryd.prog 7 #[.slice (some ⟨W.heap.size, 0, none⟩) 2 2] (W.alloc (.cells #[.int .i64 a, .int .i64 b] 3)) fun e w' => e = .returned (.tuple #[.int .i64 (Mo.tot 0 [a, b]).1, .int .i64 (Mo.tot 0 [a, b]).2]) ∧ (W.alloc (.cells #[.int .i64 a, .int .i64 b] 3)) = w') := fun W => rtotal_any _ [a, b] _ (OwnI.two W W.heap.size a b (Nat.le_refl _)).has
  have D5 : Hid (∀ W, Calls Tryd.prog 8 #[.int .i64 a, .int .i64 b] W fun e w' => e = .returned (.tuple #[.int .i64 (Mo.add a b).1, errV (Mo.add a b).2]) ∧ W = w') := fun W => madd_any a b W
  have D6 : Hid (∀ W, Below w.heap.size w W → Calls Tryd.prog 5 #[errV (Mo.add a b).2, .int .i64 (Mo.tot 0 [a, b]).2] W fun e w' => e = .returned (.bool true) ∧ Below W.heap.size W w') := fun W => HS.out _ _ W (by rw [Mo.tot_two])
  have j6 : ((Mo.add a b).1 != (Mo.tot 0 [a, b]).1) = false := by rw [Mo.tot_two]; simp
  have D7 : Hid (∀ W, Below w.heap.size w W → Calls Tryd.prog 7 #[v] W fun e w' => e = .returned (.tuple #[.int .i64 (Mo.tot 0 l).1, .int .i64 (Mo.tot 0 l).2]) ∧ W = w') := fun W hW => rtotal_any v l W (hl.below hW)
  obtain ⟨q, hq⟩ : ∃ q, q = Mo.tot 0 l := ⟨_, rfl⟩
  have D8 : Hid (∀ W, Below w.heap.size w W → Calls Tryd.prog 9 #[v] W fun e w' => e = .returned (.tuple #[.int .i64 q.1, errV q.2]) ∧ W = w') := fun W hW => by rw [hq]; exact msum_any v l W (hl.below hW)
  have D9 : Hid (∀ W, Below w.heap.size w W → Calls Tryd.prog 5 #[errV q.2, .int .i64 (Mo.tot 0 l).2] W fun e w' => e = .returned (.bool true) ∧ Below W.heap.size W w') := fun W => HS.out _ _ W (by rw [hq])
  have j9 : (q.1 != (Mo.tot 0 l).1) = false := by rw [hq]; simp
  have DB : Hid (∀ W, Calls Tryd.prog 11 #[.int .i64 h] W fun e w' => e = .returned (.tuple #[.int .i64 0, errV 2]) ∧ W = w') := fun W => made_bad h W (by omega)
  have DC : Hid (∀ W, Below w.heap.size w W → Calls Tryd.prog 5 #[errV 2, .int .i64 2] W fun e w' => e = .returned (.bool true) ∧ Below W.heap.size W w') := fun W => HS.out _ _ W rfl
  have DD : Hid (∀ W, Calls Tryd.prog 12 #[.int .i64 h] W fun e w' => e = .returned (.tuple #[.int .i64 0, errV 2]) ∧ W = w') := fun W => supply_bad h W (by omega)
  clear HS d2 ha hl he hq
  generalize (Mo.tot 0 [a, b]).1 = x1 at *
  generalize (Mo.tot 0 [a, b]).2 = x2 at *
  generalize (Mo.add a b).1 = y1 at *
  generalize errV (Mo.add a b).2 = y2 at *
  generalize (Mo.tot 0 l).1 = x3 at *
  generalize (Mo.tot 0 l).2 = x4 at *
  generalize q.1 = y3 at *
  generalize errV q.2 = y4 at *
  generalize errV 0 = z0 at *
  generalize errV 2 = z2 at *
  have hb0 : Below w.heap.size w w := Below.refl _ _
  go_enter Tryd.func3, Tryd.ntmps3
  go_wp2_with fail
  refine D1.out.mono ?_
  rintro e w1 ⟨rfl, rfl⟩
  go_wp2_with fail
  refine D2.out.mono ?_
  rintro e w1 ⟨rfl, rfl⟩
  go_wp2_with fail
  refine (D3.out _ hb0).mono ?_
  rintro e w1 ⟨rfl, hc1⟩
  have hb1 := hb0.trans (hc1.mono hb0.size)
  clear hc1
  have hb2 := hb1.alloc hb1.size (.cells #[.int .i64 a, .int .i64 b] 3)
  go_wp2_with fail
  refine (D4.out w1).mono ?_
  rintro e wz ⟨rfl, rfl⟩
  go_wp2_with fail
  refine (D5.out _).mono ?_
  rintro e wz ⟨rfl, rfl⟩
  go_wp2_with fail
  refine (D6.out _ hb2).mono ?_
  rintro e w3 ⟨rfl, hc3⟩
  have hb3 := hb2.trans (hc3.mono hb2.size)
  clear hc3
  go_wp2_with fail
  refine (D7.out _ hb3).mono ?_
  rintro e wz ⟨rfl, rfl⟩
  go_wp2_with fail
  refine (D8.out _ hb3).mono ?_
  rintro e wz ⟨rfl, rfl⟩
  go_wp2_with fail
  refine (D9.out _ hb3).mono ?_
  rintro e w4 ⟨rfl, hc4⟩
  have hb4 := hb3.trans (hc4.mono hb3.size)
  clear hc4
  go_wp2_with fail
  refine (DB.out _).mono ?_
  rintro e wz ⟨rfl, rfl⟩
  go_wp2_with fail
  refine (DC.out _ hb4).mono ?_
  rintro e w5 ⟨rfl, hc5⟩
  have hb5 := hb4.trans (hc5.mono hb4.size)
  clear hc5
  go_wp2
  refine wp_loop_rounds 1 ?_
  rw [rounds_succ]
  go_wp2_with fail
  refine (DD.out _).mono ?_
  rintro e wz ⟨rfl, rfl⟩
  go_wp2_with fail
  refine (DC.out _ hb5).mono ?_
  rintro e w6 ⟨rfl, hc6⟩
  go_wp2
  go_ret
  exact ⟨rfl, hb5.trans (hc6.mono hb5.size)⟩

set_option maxRecDepth 20000 in
set_option maxHeartbeats 8000000 in
theorem moneyTells_bhi (v : Value) (l : List Int) (a b h : Int) (w : World) (hl : HasI w v l) (he : ErrVar w) (ha : ¬ Mo.ok a) (h1 : 1073741824 < h) :
    Calls Tryd.prog 3 #[v, .int .i64 a, .int .i64 b, .int .i64 h] w fun e w' => e = .returned (.bool true) ∧ Below w.heap.size w w' := by
  have D1 := hide (rmoney_bad a w ha)
  have d2 := mcheck_any a w
  rw [Mo.chk_bad a ha] at d2
  have D2 := hide d2
  have HS : Hid (∀ c k W, c = k → Below w.heap.size w W → Calls Tryd.prog 5 #[errV c, .int .i64 k] W fun e w' => e = .returned (.bool true) ∧ Below W.heap.size W w') := fun c k W e hW => error_hit c k W (he.below hW) e
  have D3 : Hid (∀ W, Below w.heap.size w W → Calls Tryd.prog 5 #[errV 2, .int .i64 2] W fun e w' => e = .returned (.bool true) ∧ Below W.heap.size W w') := fun W => HS.out _ _ W rfl
  have D4 : Hid (∀ W : World, Calls Tryd.prog 7 #[.slice (some ⟨W.heap.size, 0, none⟩) 2 2] (W.alloc (.cells #[.int .i64 a, .int .i64 b] 3)) fun e w' => e = .returned (.tuple #[.int .i64 (Mo.tot 0 [a, b]).1, .int .i64 (Mo.tot 0 [a, b]).2]) ∧ (W.alloc (.cells #[.int .i64 a, .int .i64 b] 3)) = w') := fun W => rtotal_any _ [a, b] _ (OwnI.two W W.heap.size a b (Nat.le_refl _)).has
  have D5 : Hid (∀ W, Calls Tryd.prog 8 #[.int .i64 a, .int .i64 b] W fun e w' => e = .returned (.tuple #[.int .i64 (Mo.add a b).1, errV (Mo.add a b).2]) ∧ W = w') := fun W => madd_any a b W
  have D6 : Hid (∀ W, Below w.heap.size w W → Calls Tryd.prog 5 #[errV (Mo.add a b).2, .int .i64 (Mo.tot 0 [a, b]).2] W fun e w' => e = .returned (.bool true) ∧ Below W.heap.size W w') := fun W => HS.out _ _ W (by rw [Mo.tot_two])
  have j6 : ((Mo.add a b).1 != (Mo.tot 0 [a, b]).1) = false := by rw [Mo.tot_two]; simp
  have D7 : Hid (∀ W, Below w.heap.size w W → Calls Tryd.prog 7 #[v] W fun e w' => e = .returned (.tuple #[.int .i64 (Mo.tot 0 l).1, .int .i64 (Mo.tot 0 l).2]) ∧ W = w') := fun W hW => rtotal_any v l W (hl.below hW)
  obtain ⟨q, hq⟩ : ∃ q, q = Mo.tot 0 l := ⟨_, rfl⟩
  have D8 : Hid (∀ W, Below w.heap.size w W → Calls Tryd.prog 9 #[v] W fun e w' => e = .returned (.tuple #[.int .i64 q.1, errV q.2]) ∧ W = w') := fun W hW => by rw [hq]; exact msum_any v l W (hl.below hW)
  have D9 : Hid (∀ W, Below w.heap.size w W → Calls Tryd.prog 5 #[errV q.2, .int .i64 (Mo.tot 0 l).2] W fun e w' => e = .returned (.bool true) ∧ Below W.heap.size W w') := fun W => HS.out _ _ W (by rw [hq])
  have j9 : (q.1 != (Mo.tot 0 l).1) = false := by rw [hq]; simp
  have DB : Hid (∀ W, Calls Tryd.prog 11 #[.int .i64 h] W fun e w' => e = .returned (.tuple #[.int .i64 0, errV 2]) ∧ W = w') := fun W => made_bad h W (by omega)
  have DC : Hid (∀ W, Below w.heap.size w W → Calls Tryd.prog 5 #[errV 2, .int .i64 2] W fun e w' => e = .returned (.bool true) ∧ Below W.heap.size W w') := fun W => HS.out _ _ W rfl
  have DD : Hid (∀ W, Calls Tryd.prog 12 #[.int .i64 h] W fun e w' => e = .returned (.tuple #[.int .i64 0, errV 2]) ∧ W = w') := fun W => supply_bad h W (by omega)
  clear HS d2 ha hl he hq
  generalize (Mo.tot 0 [a, b]).1 = x1 at *
  generalize (Mo.tot 0 [a, b]).2 = x2 at *
  generalize (Mo.add a b).1 = y1 at *
  generalize errV (Mo.add a b).2 = y2 at *
  generalize (Mo.tot 0 l).1 = x3 at *
  generalize (Mo.tot 0 l).2 = x4 at *
  generalize q.1 = y3 at *
  generalize errV q.2 = y4 at *
  generalize errV 0 = z0 at *
  generalize errV 2 = z2 at *
  have hb0 : Below w.heap.size w w := Below.refl _ _
  go_enter Tryd.func3, Tryd.ntmps3
  go_wp2_with fail
  refine D1.out.mono ?_
  rintro e w1 ⟨rfl, rfl⟩
  go_wp2_with fail
  refine D2.out.mono ?_
  rintro e w1 ⟨rfl, rfl⟩
  go_wp2_with fail
  refine (D3.out _ hb0).mono ?_
  rintro e w1 ⟨rfl, hc1⟩
  have hb1 := hb0.trans (hc1.mono hb0.size)
  clear hc1
  have hb2 := hb1.alloc hb1.size (.cells #[.int .i64 a, .int .i64 b] 3)
  go_wp2_with fail
  refine (D4.out w1).mono ?_
  rintro e wz ⟨rfl, rfl⟩
  go_wp2_with fail
  refine (D5.out _).mono ?_
  rintro e wz ⟨rfl, rfl⟩
  go_wp2_with fail
  refine (D6.out _ hb2).mono ?_
  rintro e w3 ⟨rfl, hc3⟩
  have hb3 := hb2.trans (hc3.mono hb2.size)
  clear hc3
  go_wp2_with fail
  refine (D7.out _ hb3).mono ?_
  rintro e wz ⟨rfl, rfl⟩
  go_wp2_with fail
  refine (D8.out _ hb3).mono ?_
  rintro e wz ⟨rfl, rfl⟩
  go_wp2_with fail
  refine (D9.out _ hb3).mono ?_
  rintro e w4 ⟨rfl, hc4⟩
  have hb4 := hb3.trans (hc4.mono hb3.size)
  clear hc4
  go_wp2_with fail
  refine (DB.out _).mono ?_
  rintro e wz ⟨rfl, rfl⟩
  go_wp2_with fail
  refine (DC.out _ hb4).mono ?_
  rintro e w5 ⟨rfl, hc5⟩
  have hb5 := hb4.trans (hc5.mono hb4.size)
  clear hc5
  go_wp2
  refine wp_loop_rounds 1 ?_
  rw [rounds_succ]
  go_wp2_with fail
  refine (DD.out _).mono ?_
  rintro e wz ⟨rfl, rfl⟩
  go_wp2_with fail
  refine (DC.out _ hb5).mono ?_
  rintro e w6 ⟨rfl, hc6⟩
  go_wp2
  go_ret
  exact ⟨rfl, hb5.trans (hc6.mono hb5.size)⟩

set_option maxRecDepth 20000 in
set_option maxHeartbeats 8000000 in
theorem moneyTells_bok (v : Value) (l : List Int) (a b h : Int) (w : World) (hl : HasI w v l) (he : ErrVar w) (ha : ¬ Mo.ok a) (K : Nat) (hK : h = (K : Nat)) (h1 : h ≤ 1073741824) :
    Calls Tryd.prog 3 #[v, .int .i64 a, .int .i64 b, .int .i64 h] w fun e w' => e = .returned (.bool true) ∧ Below w.heap.size w w' := by
  have D1 := hide (rmoney_bad a w ha)
  have d2 := mcheck_any a w
  rw [Mo.chk_bad a ha] at d2
  have D2 := hide d2
  have HS : Hid (∀ c k W, c = k → Below w.heap.size w W → Calls Tryd.prog 5 #[errV c, .int .i64 k] W fun e w' => e = .returned (.bool true) ∧ Below W.heap.size W w') := fun c k W e hW => error_hit c k W (he.below hW) e
  have D3 : Hid (∀ W, Below w.heap.size w W → Calls Tryd.prog 5 #[errV 2, .int .i64 2] W fun e w' => e = .returned (.bool true) ∧ Below W.heap.size W w') := fun W => HS.out _ _ W rfl
  have D4 : Hid (∀ W : World, Calls Tryd.prog 7 #[.slice (some ⟨W.heap.size, 0, none⟩) 2 2] (W.alloc (.cells #[.int .i64 a, .int .i64 b] 3)) fun e w' => e = .returned (.tuple #[.int .i64 (Mo.tot 0 [a, b]).1, .int .i64 (Mo.tot 0 [a, b]).2]) ∧ (W.alloc (.cells #[.int .i64 a, .int .i64 b] 3)) = w') := fun W => rtotal_any _ [a, b] _ (OwnI.two W W.heap.size a b (Nat.le_refl _)).has
  have D5 : Hid (∀ W, Calls Tryd.prog 8 #[.int .i64 a, .int .i64 b] W fun e w' => e = .returned (.tuple #[.int .i64 (Mo.add a b).1, errV (Mo.add a b).2]) ∧ W = w') := fun W => madd_any a b W
  have D6 : Hid (∀ W, Below w.heap.size w W → Calls Tryd.prog 5 #[errV (Mo.add a b).2, .int .i64 (Mo.tot 0 [a, b]).2] W fun e w' => e = .returned (.bool true) ∧ Below W.heap.size W w') := fun W => HS.out _ _ W (by rw [Mo.tot_two])
  have j6 : ((Mo.add a b).1 != (Mo.tot 0 [a, b]).1) = false := by rw [Mo.tot_two]; simp
  have D7 : Hid (∀ W, Below w.heap.size w W → Calls Tryd.prog 7 #[v] W fun e w' => e = .returned (.tuple #[.int .i64 (Mo.tot 0 l).1, .int .i64 (Mo.tot 0 l).2]) ∧ W = w') := fun W hW => rtotal_any v l W (hl.below hW)
  obtain ⟨q, hq⟩ : ∃ q, q = Mo.tot 0 l := ⟨_, rfl⟩
  have D8 : Hid (∀ W, Below w.heap.size w W → Calls Tryd.prog 9 #[v] W fun e w' => e = .returned (.tuple #[.int .i64 q.1, errV q.2]) ∧ W = w') := fun W hW => by rw [hq]; exact msum_any v l W (hl.below hW)
  have D9 : Hid (∀ W, Below w.heap.size w W → Calls Tryd.prog 5 #[errV q.2, .int .i64 (Mo.tot 0 l).2] W fun e w' => e = .returned (.bool true) ∧ Below W.heap.size W w') := fun W => HS.out _ _ W (by rw [hq])
  have j9 : (q.1 != (Mo.tot 0 l).1) = false := by rw [hq]; simp
  have hd : h / 1000 = ((K / 1000 : Nat) : Int) := by omega
  have hh0 : 0 ≤ h := by omega
  obtain ⟨M, hM⟩ : ∃ M : Int, M = (Mo.made (K / 1000) : Nat) := ⟨_, rfl⟩
  have DA : Hid (∀ W, Calls Tryd.prog 10 #[.int .i64 h] W fun e w' => e = .returned (.int .i64 M) ∧ W = w') := fun W => by rw [hM]; exact rmadeAt_any h (K / 1000) W hd hh0 (by omega)
  obtain ⟨N, hN⟩ : ∃ N : Int, N = (Mo.made (K / 1000) : Nat) := ⟨_, rfl⟩
  have DB : Hid (∀ W, Calls Tryd.prog 11 #[.int .i64 h] W fun e w' => e = .returned (.tuple #[.int .i64 N, errV 0]) ∧ W = w') := fun W => by rw [hN]; exact made_goodI h K W hK (by omega)
  have DC : Hid (∀ W, Below w.heap.size w W → Calls Tryd.prog 5 #[errV 0, .int .i64 0] W fun e w' => e = .returned (.bool true) ∧ Below W.heap.size W w') := fun W => HS.out _ _ W rfl
  have jC : (N != M) = false := by rw [hN, hM]; simp
  obtain ⟨X, hX⟩ : ∃ X : Int, X = (Mo.T (K + 1) : Nat) := ⟨_, rfl⟩
  have DD : Hid (∀ W, Calls Tryd.prog 12 #[.int .i64 h] W fun e w' => e = .returned (.tuple #[.int .i64 X, errV 0]) ∧ W = w') := fun W => by rw [hX]; exact supply_goodI h K W hK (by omega)
  have HX := hide hX
  have DE : Hid (∀ W (j : Nat), 1000 * j ≤ K → Calls Tryd.prog 10 #[.int .i64 (1000 * (j : Int))] W fun e w' => e = .returned (.int .i64 (Mo.made j : Nat)) ∧ W = w') := fun W j hj => rmadeAt_any (1000 * (j : Int)) j W (by omega) (by omega) (by omega)
  have HK := hide hK
  have hKb : K ≤ 1073741824 := by omega
  clear hd hM hN hX hK
  clear HS d2 ha hl he hq
  generalize (Mo.tot 0 [a, b]).1 = x1 at *
  generalize (Mo.tot 0 [a, b]).2 = x2 at *
  generalize (Mo.add a b).1 = y1 at *
  generalize errV (Mo.add a b).2 = y2 at *
  generalize (Mo.tot 0 l).1 = x3 at *
  generalize (Mo.tot 0 l).2 = x4 at *
  generalize q.1 = y3 at *
  generalize errV q.2 = y4 at *
  generalize errV 0 = z0 at *
  generalize errV 2 = z2 at *
  have hb0 : Below w.heap.size w w := Below.refl _ _
  go_enter Tryd.func3, Tryd.ntmps3
  go_wp2_with fail
  refine D1.out.mono ?_
  rintro e w1 ⟨rfl, rfl⟩
  go_wp2_with fail
  refine D2.out.mono ?_
  rintro e w1 ⟨rfl, rfl⟩
  go_wp2_with fail
  refine (D3.out _ hb0).mono ?_
  rintro e w1 ⟨rfl, hc1⟩
  have hb1 := hb0.trans (hc1.mono hb0.size)
  clear hc1
  have hb2 := hb1.alloc hb1.size (.cells #[.int .i64 a, .int .i64 b] 3)
  go_wp2_with fail
  refine (D4.out w1).mono ?_
  rintro e wz ⟨rfl, rfl⟩
  go_wp2_with fail
  refine (D5.out _).mono ?_
  rintro e wz ⟨rfl, rfl⟩
  go_wp2_with fail
  refine (D6.out _ hb2).mono ?_
  rintro e w3 ⟨rfl, hc3⟩
  have hb3 := hb2.trans (hc3.mono hb2.size)
  clear hc3
  go_wp2_with fail
  refine (D7.out _ hb3).mono ?_
  rintro e wz ⟨rfl, rfl⟩
  go_wp2_with fail
  refine (D8.out _ hb3).mono ?_
  rintro e wz ⟨rfl, rfl⟩
  go_wp2_with fail
  refine (D9.out _ hb3).mono ?_
  rintro e w4 ⟨rfl, hc4⟩
  have hb4 := hb3.trans (hc4.mono hb3.size)
  clear hc4
  go_wp2_with fail
  refine (DA.out _).mono ?_
  rintro e wz ⟨rfl, rfl⟩
  go_wp2_with fail
  refine (DB.out _).mono ?_
  rintro e wz ⟨rfl, rfl⟩
  go_wp2_with fail
  refine (DC.out _ hb4).mono ?_
  rintro e w5 ⟨rfl, hc5⟩
  have hb5 := hb4.trans (hc5.mono hb4.size)
  clear hc5
  go_wp2
  go_loop [11, 15, 16] (fun s i n => ∃ (j t : Nat), i = .int .i64 (1000 * (j : Int)) ∧ s = .int .i64 (t : Nat) ∧ ((1000 * j ≤ K ∧ t = Mo.T (1000 * j)) ∨ (K < 1000 * j ∧ 1000 * j ≤ K + 1000 ∧ t = Mo.T (K + 1)))) (fun _ i _ => K + 1000 - (intOf i).toNat)
  case atStart => exact ⟨0, 0, rfl, rfl, .inl ⟨by omega, rfl⟩⟩
  case round =>
    obtain ⟨j, t, rfl, rfl, hr⟩ := hrel
    by_cases h2 : 1000 * j ≤ K
    · have ht : t = Mo.T (1000 * j) := by rcases hr with hr | hr <;> omega
      have hh2 : 1000 * (j : Int) ≤ h := by have := HK.out; omega
      have E1 := hide (DE.out w5 j h2)
      have hb1' := Mo.made_bd j
      have hb2' := Mo.T_bd j
      have hd : ∃ d : Nat, h + 1 - 1000 * (j : Int) = (d : Int) ∧ 1000 * j + d = K + 1 := ⟨K + 1 - 1000 * j, by have := HK.out; omega, by omega⟩
      obtain ⟨d, hd1, hd2⟩ := hd
      rw [← ht] at hb2'
      obtain ⟨g, hg⟩ : ∃ g, g = Mo.made j := ⟨_, rfl⟩
      rw [← hg] at hb1' hb2' E1
      by_cases h3 : d ≤ 1000
      · have hnext : t + d * g = Mo.T (K + 1) := by rw [← hd2, Mo.T_run j d h3, ht, hg]
        have hbd : d * g ≤ 1000 * g := Nat.mul_le_mul_right g h3
        have hmul : ∃ p : Nat, p = d * g := ⟨_, rfl⟩
        obtain ⟨p, hp⟩ := hmul
        have hmi : (d : Int) * (g : Int) = (p : Int) := by rw [hp]; simp
        rw [← hp] at hbd hnext
        have HN := hide hnext
        have HD := hide hd2
        have HZ : Hid (g = 0 → p = 0) := fun h => by rw [hp, h, Nat.mul_zero]
        clear hp hr ht hg hnext hd2
        by_cases hg0 : g = 0
        · obtain rfl := HZ.out hg0
          subst hg0
          have jX : (X == (t : Int)) = true := by have := HX.out; have := HN.out; simp; omega
          go_wp2_with fail
          refine E1.out.mono ?_
          rintro e wz ⟨rfl, rfl⟩
          go_wp2_with fail
          refine E1.out.mono ?_
          rintro e wz ⟨rfl, rfl⟩
          go_wp2_with fail
          refine (DD.out _).mono ?_
          rintro e wz ⟨rfl, rfl⟩
          go_wp2_with fail
          refine (DC.out _ hb5).mono ?_
          rintro e w6 ⟨rfl, hc6⟩
          go_wp2
          go_ret
          exact ⟨rfl, hb5.trans (hc6.mono hb5.size)⟩
        · have hg1 : ((g : Int) == 0) = false := by simp; omega
          go_wp2_with fail
          refine E1.out.mono ?_
          rintro e wz ⟨rfl, rfl⟩
          go_wp2_with fail
          refine E1.out.mono ?_
          rintro e wz ⟨rfl, rfl⟩
          go_wp2
          go_round
          case rel => exact ⟨j + 1, t + p, by go_num, by go_num, .inr ⟨by have := HD.out; omega, by omega, HN.out⟩⟩
          case measure => simp [intOf]; omega
      · have hnext : t + 1000 * g = Mo.T (1000 * (j + 1)) := by rw [Mo.T_thousand, ht, hg]
        have HN := hide hnext
        have HD := hide hd2
        have HZ : Hid (g = 0 → t = Mo.T (K + 1)) := fun h => by rw [ht]; exact (Mo.T_none j (K + 1) (by rw [← hg]; exact h) (by omega)).symm
        clear hr ht hg hnext hd2
        by_cases hg0 : g = 0
        · have hT := HZ.out hg0
          subst hg0
          have jX : (X == (t : Int)) = true := by have := HX.out; simp; omega
          clear hT
          go_wp2_with fail
          refine E1.out.mono ?_
          rintro e wz ⟨rfl, rfl⟩
          go_wp2_with fail
          refine E1.out.mono ?_
          rintro e wz ⟨rfl, rfl⟩
          go_wp2_with fail
          refine (DD.out _).mono ?_
          rintro e wz ⟨rfl, rfl⟩
          go_wp2_with fail
          refine (DC.out _ hb5).mono ?_
          rintro e w6 ⟨rfl, hc6⟩
          go_wp2
          go_ret
          exact ⟨rfl, hb5.trans (hc6.mono hb5.size)⟩
        · have hg1 : ((g : Int) == 0) = false := by simp; omega
          go_wp2_with fail
          refine E1.out.mono ?_
          rintro e wz ⟨rfl, rfl⟩
          go_wp2_with fail
          refine E1.out.mono ?_
          rintro e wz ⟨rfl, rfl⟩
          go_wp2
          go_round
          case rel => exact ⟨j + 1, t + 1000 * g, by go_num, by go_num, .inl ⟨by have := HD.out; omega, HN.out⟩⟩
          case measure => simp [intOf]; omega
    · have ht : t = Mo.T (K + 1) := by rcases hr with hr | hr <;> omega
      have hh2 : ¬ 1000 * (j : Int) ≤ h := by have := HK.out; omega
      have jX : (X == (t : Int)) = true := by have := HX.out; simp; omega
      clear hr ht
      go_wp2_with fail
      refine (DD.out _).mono ?_
      rintro e wz ⟨rfl, rfl⟩
      go_wp2_with fail
      refine (DC.out _ hb5).mono ?_
      rintro e w6 ⟨rfl, hc6⟩
      go_wp2
      go_ret
      exact ⟨rfl, hb5.trans (hc6.mono hb5.size)⟩

theorem moneyTells_walk (v : Value) (l : List Int) (a b h : Int) (w : World) (hl : HasI w v l) (hi : I64s l) (hlen : l.length ≤ 17592186043904) (he : ErrVar w) :
    Calls Tryd.prog 3 #[v, .int .i64 a, .int .i64 b, .int .i64 h] w fun e w' => e = .returned (.bool true) ∧ Below w.heap.size w w' := by
  by_cases ha : Mo.ok a
  · by_cases h1 : h < 0
    · exact moneyTells_glo v l a b h w hl he ha h1
    · by_cases h2 : 1073741824 < h
      · exact moneyTells_ghi v l a b h w hl he ha h2
      · exact moneyTells_gok v l a b h w hl he ha h.toNat (by omega) (by omega)
  · by_cases h1 : h < 0
    · exact moneyTells_blo v l a b h w hl he ha h1
    · by_cases h2 : 1073741824 < h
      · exact moneyTells_bhi v l a b h w hl he ha h2
      · exact moneyTells_bok v l a b h w hl he ha h.toNat (by omega) (by omega)
end Go.Proofs.YtlcajpfalggheaaDoor
