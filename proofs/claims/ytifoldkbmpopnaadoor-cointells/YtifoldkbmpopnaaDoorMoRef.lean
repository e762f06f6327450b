/- The document's Money, Total and MadeAt; an error that is the one told. -/
import Derived.Test.YtifoldkbmpopnaaDoorMoSum
import Derived.Test.YtifoldkbmpopnaaDoorOwnI
import Derived.Test.YtifoldkbmpopnaaDoorTold2
namespace Go.Proofs.YtifoldkbmpopnaaDoor
open Go.RowKit
set_option linter.unusedVariables false

theorem error_hit (c k : Int) (w : World) (h : ErrVar w) (e : c = k) : Calls Tryd.prog 7 #[errV c, .int .i64 k] w fun e w' => e = .returned (.bool true) ∧ Below w.heap.size w w' := by
  have := error_any c k w h
  rw [show (c == k) = true from by simp [e]] at this
  exact this

theorem rmoney_good (n : Int) (w : World) (h : Mo.ok n) :
    Calls Tryd.prog 18 #[.int .i64 n] w fun e w' => e = .returned (.bool true) ∧ w = w' := by
  obtain ⟨h0, h1⟩ := h
  go_enter Tryd.func18, Tryd.ntmps18
  go_wp2
  go_ret
  exact ⟨rfl, rfl⟩
theorem rmoney_bad (n : Int) (w : World) (h : ¬ Mo.ok n) :
    Calls Tryd.prog 18 #[.int .i64 n] w fun e w' => e = .returned (.bool false) ∧ w = w' := by
  by_cases a : 0 ≤ n
  · have b : ¬ n ≤ 1125899906842624 := fun h1 => h ⟨a, h1⟩
    clear h
    go_enter Tryd.func18, Tryd.ntmps18
    go_wp2
    go_ret
    exact ⟨rfl, rfl⟩
  · clear h
    go_enter Tryd.func18, Tryd.ntmps18
    go_wp2
    go_ret
    exact ⟨rfl, rfl⟩

set_option maxHeartbeats 800000 in
theorem rtotal_any (v : Value) (l : List Int) (w : World) (h : HasI w v l) :
    Calls Tryd.prog 22 #[v] w fun e w' => e = .returned (.tuple #[.int .i64 (Mo.tot 0 l).1, .int .i64 (Mo.tot 0 l).2]) ∧ w = w' := by
  rcases h with ⟨a, cap, rfl, rfl, _⟩ | ⟨b, off, cap, rfl, h0, hm, hc⟩
  · go_enter Tryd.func22, Tryd.ntmps22
    go_wp2
    refine wp_loop_rounds 1 ?_
    rw [rounds_succ]
    go_wp2
    go_ret2
    exact ⟨rfl, rfl⟩
  · unfold maxLen at hm
    have HCC := hide hc
    clear hc
    go_enter Tryd.func22, Tryd.ntmps22
    go_wp2
    go_loop [4, 5] (fun s i => ∃ (k : Nat) (x : Int), k ≤ l.length ∧ i = .int .i64 k ∧ s = .int .i64 x ∧ 0 ≤ x ∧ x ≤ 1125899906842624 ∧ Mo.tot x (l.drop k) = Mo.tot 0 l) (fun _ i => l.length - (intOf i).toNat)
    case atStart => exact ⟨0, 0, Nat.zero_le _, rfl, rfl, by decide, by decide, by simp⟩
    case round =>
      obtain ⟨k, x, hk, rfl, rfl, hx0, hx1, ht⟩ := hrel
      by_cases hlt : k < l.length
      · have hck := HCC.out k hlt
        have e : l.drop k = l.getD k 0 :: l.drop (k + 1) := by
          rw [List.drop_eq_getElem_cons hlt]; simp [List.getD, List.getElem?_eq_getElem hlt]
        rw [e, Mo.tot_cons_of] at ht
        have HT := hide ht
        clear ht e
        generalize l.getD k 0 = n at *
        by_cases hn : Mo.ok n
        · have HM := hide (rmoney_good n w hn)
          have hn0 := hn.1
          have hn1 := hn.2
          by_cases hs : x + n ≤ 1125899906842624
          · have HT2 : Hid (Mo.tot (x + n) (l.drop (k + 1)) = Mo.tot 0 l) := by have := HT.out; rw [if_pos hn, if_pos hs] at this; exact this
            clear HT hn
            go_wp2_with fail
            refine HM.out.mono ?_
            rintro e w1 ⟨rfl, rfl⟩
            go_wp2
            go_round
            case rel => exact ⟨k + 1, x + n, by omega, by go_num, by go_num, by omega, hs, HT2.out⟩
            case measure => simp [intOf]; omega
          · have HT2 : Hid ((0, 4) = Mo.tot 0 l) := by have := HT.out; rw [if_pos hn, if_neg hs] at this; exact this
            clear HT hn
            go_wp2_with fail
            refine HM.out.mono ?_
            rintro e w1 ⟨rfl, rfl⟩
            go_wp2
            go_ret2
            exact ⟨by rw [← HT2.out]; rfl, rfl⟩
        · have HM := hide (rmoney_bad n w hn)
          have HT2 : Hid ((0, 2) = Mo.tot 0 l) := by have := HT.out; rw [if_neg hn] at this; exact this
          clear HT hn
          go_wp2_with fail
          refine HM.out.mono ?_
          rintro e w1 ⟨rfl, rfl⟩
          go_wp2
          go_ret2
          exact ⟨by rw [← HT2.out]; rfl, rfl⟩
      · have hfin : Mo.tot 0 l = (x, 0) := by rw [← ht, List.drop_eq_nil_of_le (by omega)]; rfl
        have HF := hide hfin
        clear hfin ht
        go_wp2
        go_ret2
        exact ⟨by rw [HF.out]; rfl, rfl⟩

theorem made_zero_on (k d : Nat) (h : Mo.made k = 0) : Mo.made (k + d) = 0 := by
  induction d with
  | zero => exact h
  | succ d ih => rw [← Nat.add_assoc, Mo.made_succ, ih]

end Go.Proofs.YtifoldkbmpopnaaDoor
