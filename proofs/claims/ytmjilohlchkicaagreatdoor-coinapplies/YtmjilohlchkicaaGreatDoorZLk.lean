/- The texts LkO, LkP, LkC, one behind the other. -/
import Derived.Test.YtmjilohlchkicaaGreatDoorLkB
import Derived.Test.YtmjilohlchkicaaGreatDoorAs
import Derived.Test.YtmjilohlchkicaaGreatDoorShEq
import Derived.Deep.MidRow
import Derived.Test.YtmjilohlchkicaaGreatDoorOwn3
import Derived.Laws.OwnMore
import Derived.WalkSmall
/- Ops in memory; what is wrong with one by itself. -/
namespace Go.Proofs.YtmjilohlchkicaaGreatDoor
open Go.RowKit
set_option linter.unusedVariables false

/-- The cells of ops, each with the slice that its bytes lie in. -/
def opCells : List (Lk.Op × Value) → List Value
  | [] => []
  | p :: R => .int .i64 p.1.op :: .int .i64 p.1.n :: p.2 :: opCells R
theorem opCells_length (R : List (Lk.Op × Value)) : (opCells R).length = R.length * 3 := by
  induction R with
  | nil => rfl
  | cons p R ih => simp only [opCells, List.length_cons, ih]; omega
theorem opCells_append (R Q : List (Lk.Op × Value)) : opCells (R ++ Q) = opCells R ++ opCells Q := by
  induction R with
  | nil => rfl
  | cons p R ih => simp only [opCells, List.cons_append, ih]
theorem opCells_get (R : List (Lk.Op × Value)) : ∀ (k : Nat) (h : k < R.length), (opCells R)[k * 3]? = some (.int .i64 R[k].1.op) ∧ (opCells R)[k * 3 + 1]? = some (.int .i64 R[k].1.n) ∧ (opCells R)[k * 3 + 2]? = some R[k].2 := by
  induction R with
  | nil => intro k h; exact absurd h (by simp)
  | cons p R ih =>
    intro k h
    cases k with
    | zero => exact ⟨rfl, rfl, rfl⟩
    | succ k =>
      have := ih k (by simpa using h)
      rw [show (k + 1) * 3 = k * 3 + 1 + 1 + 1 by omega]
      exact this

/-- A slice of ops. -/
def HasOps (w : World) (v : Value) (R : List (Lk.Op × Value)) : Prop :=
  ((∃ a cap, v = .slice a 0 cap ∧ R = []) ∨ ∃ b off cap, v = .slice (some ⟨b, off, none⟩) R.length cap ∧ 0 < R.length ∧ R.length ≤ cap ∧ cap ≤ maxLen ∧ b < w.heap.size ∧ w.rangeAt b off (opCells R)) ∧
  ∀ p ∈ R, Has w p.2 p.1.data ∧ Sz.Byt p.1.data

theorem range_keep {w w' : World} {b off B : Nat} {c : List Value} (h : w.rangeAt b off c) (hb : Below B w w') (hB : b < B) : w'.rangeAt b off c := fun j v hv => by
  rw [hb.cell (p := ⟨b, off + j, none⟩) hB]; exact h j v hv
theorem is_range {w : World} {b : Nat} {c : List Value} {t : TypeId} (h : Is w b c t) : w.rangeAt b 0 c := fun j v hv => by rw [h.cell, Nat.zero_add]; exact hv
theorem HasOps.below {w w' : World} {v : Value} {R : List (Lk.Op × Value)} (h : HasOps w v R) (hb : Below w.heap.size w w') : HasOps w' v R := by
  refine ⟨?_, fun p hp => ⟨(h.2 p hp).1.below hb, (h.2 p hp).2⟩⟩
  rcases h.1 with h | ⟨b, off, cap, hv, h0, h1, h2, h3, hc⟩
  · exact .inl h
  · exact .inr ⟨b, off, cap, hv, h0, h1, h2, Nat.lt_of_lt_of_le h3 hb.size, range_keep hc hb h3⟩

def opVal (o : Lk.Op) (v : Value) : Value := .agg #[.int .i64 o.op, .int .i64 o.n, v]
theorem size_op : Sized 95 3 := by unfold Sized; kernel_rfl

theorem Has.shape {w : World} {v : Value} {l : List Int} (h : Has w v l) : ∃ a cap, v = .slice a l.length cap ∧ cap ≤ maxLen ∧ l.length ≤ maxLen := by
  rcases h with ⟨a, cap, rfl, rfl, h, _⟩ | ⟨b, off, cap, rfl, h0, h1, h2, hc⟩
  · exact ⟨a, cap, rfl, h, by simp⟩
  · exact ⟨_, cap, rfl, h2, by omega⟩

set_option maxRecDepth 100000 in
set_option maxHeartbeats 4000000 in
theorem checkOp_any (o : Lk.Op) (a : Option Addr) (len cap : Nat) (w : World) (hl : o.data.length = len) (hm : len ≤ maxLen) :
    Calls Tryz.prog 77 #[opVal o (.slice a len cap)] w fun e w' => e = .returned (errV (Lk.opFault o)) ∧ Below w.heap.size w w' := by
  obtain ⟨op, n, data⟩ := o
  have e : Lk.opFault ⟨op, n, data⟩ = Lk.opF op n len := by rw [← hl]; rfl
  rw [e]
  unfold opVal Lk.opF
  simp only []
  unfold maxLen at hm
  clear hl e data
  have HB0 := hide (below_alloc w (.cells #[.int .i64 op, .int .i64 n, .slice a len cap] 95))
  by_cases c1 : op < 1
  · rw [if_pos (.inl c1)]
    have d1 : ¬ 14 < op := by omega
    have d2 : ¬ op = 9 := by omega
    have d3 : ¬ op = 10 := by omega
    go_enter Tryz.func77, Tryz.ntmps77
    go_wp2
    go_ret
    exact ⟨rfl, below_alloc _ _⟩
  by_cases c2 : 14 < op
  · rw [if_pos (.inr c2)]
    have d2 : ¬ op = 9 := by omega
    have d3 : ¬ op = 10 := by omega
    go_enter Tryz.func77, Tryz.ntmps77
    go_wp2
    go_ret
    exact ⟨rfl, below_alloc _ _⟩
  rw [if_neg (by omega)]
  by_cases c9 : op = 9
  · subst c9
    rw [if_neg (by simp)]
    by_cases cl : 0 < len
    · rw [if_pos ⟨cl, by decide⟩]
      go_enter Tryz.func77, Tryz.ntmps77
      go_wp2
      all_goals go_ret
      all_goals exact ⟨rfl, below_alloc _ _⟩
    · obtain rfl : len = 0 := by omega
      rw [if_neg (by simp), if_neg (by omega)]
      by_cases cn : n < 1
      · rw [if_pos ⟨rfl, .inl cn⟩]
        go_enter Tryz.func77, Tryz.ntmps77
        go_wp2
        all_goals go_ret
        all_goals exact ⟨rfl, below_alloc _ _⟩
      · by_cases cm : 9 < n
        · rw [if_pos ⟨rfl, .inr cm⟩]
          have hn0 : ¬ n = 0 := by omega
          go_enter Tryz.func77, Tryz.ntmps77
          go_wp2
          all_goals go_ret
          all_goals exact ⟨rfl, below_alloc _ _⟩
        · rw [if_neg (by omega), if_neg (by omega)]
          have hn0 : ¬ n = 0 := by omega
          go_enter Tryz.func77, Tryz.ntmps77
          go_wp2
          all_goals go_ret
          all_goals exact ⟨rfl, below_alloc _ _⟩
  by_cases c10 : op = 10
  · subst c10
    rw [if_neg (by simp)]
    by_cases cl : 0 < len
    · rw [if_pos ⟨cl, by decide⟩]
      go_enter Tryz.func77, Tryz.ntmps77
      go_wp2
      all_goals go_ret
      all_goals exact ⟨rfl, below_alloc _ _⟩
    · obtain rfl : len = 0 := by omega
      rw [if_neg (by simp), if_neg (by omega), if_neg (by omega)]
      by_cases cn : n < 0
      · rw [if_pos ⟨rfl, .inl cn⟩]
        have hn0 : ¬ n = 0 := by omega
        go_enter Tryz.func77, Tryz.ntmps77
        go_wp2
        all_goals go_ret
        all_goals exact ⟨rfl, below_alloc _ _⟩
      · by_cases cm : 1073741824 < n
        · rw [if_pos ⟨rfl, .inr cm⟩]
          have hn0 : ¬ n = 0 := by omega
          go_enter Tryz.func77, Tryz.ntmps77
          go_wp2
          all_goals go_ret
          all_goals exact ⟨rfl, below_alloc _ _⟩
        · rw [if_neg (by omega)]
          go_enter Tryz.func77, Tryz.ntmps77
          go_wp2
          all_goals go_ret
          all_goals exact ⟨rfl, below_alloc _ _⟩
  by_cases cn : n = 0
  · subst cn
    rw [if_neg (by simp)]
    by_cases co : op = 1
    · subst co
      rw [if_neg (by simp)]
      by_cases cl : 300 < len
      · rw [if_pos cl]
        have cl0 : 0 < len := by omega
        go_enter Tryz.func77, Tryz.ntmps77
        go_wp2
        all_goals go_ret
        all_goals exact ⟨rfl, below_alloc _ _⟩
      · rw [if_neg cl, if_neg (by omega), if_neg (by omega)]
        go_enter Tryz.func77, Tryz.ntmps77
        go_wp2
        all_goals go_ret
        all_goals exact ⟨rfl, below_alloc _ _⟩
    · by_cases cl : 0 < len
      · rw [if_pos ⟨cl, co⟩]
        go_enter Tryz.func77, Tryz.ntmps77
        go_wp2
        all_goals go_ret
        all_goals exact ⟨rfl, below_alloc _ _⟩
      · obtain rfl : len = 0 := by omega
        rw [if_neg (by simp), if_neg (by omega), if_neg (by omega), if_neg (by omega)]
        go_enter Tryz.func77, Tryz.ntmps77
        go_wp2
        all_goals go_ret
        all_goals exact ⟨rfl, below_alloc _ _⟩
  · rw [if_pos ⟨cn, by omega⟩]
    have e9 : (op == 9) = false := by simpa using c9
    have e10 : (op == 10) = false := by simpa using c10
    have en : (n != 0) = true := by simpa using cn
    go_enter Tryz.func77, Tryz.ntmps77
    go_wp2
    all_goals go_ret
    all_goals exact ⟨rfl, below_alloc _ _⟩
end Go.Proofs.YtmjilohlchkicaaGreatDoor

/- lock.wayEnd: where a way ends. -/
namespace Go.Proofs.YtmjilohlchkicaaGreatDoor
open Go.RowKit
set_option linter.unusedVariables false

theorem HasOps.length_le {w : World} {v : Value} {R : List (Lk.Op × Value)} (h : HasOps w v R) : R.length ≤ maxLen := by
  rcases h.1 with ⟨a, cap, _, rfl⟩ | ⟨b, off, cap, hv, h0, h1, h2, h3, hc⟩
  · simp
  · omega
def opsOf (R : List (Lk.Op × Value)) : List Lk.Op := R.map Prod.fst
theorem opsOf_length (R : List (Lk.Op × Value)) : (opsOf R).length = R.length := by simp [opsOf]
theorem opsOf_drop (R : List (Lk.Op × Value)) (k : Nat) (h : k < R.length) : (opsOf R).drop k = R[k].1 :: (opsOf R).drop (k + 1) := by
  rw [List.drop_eq_getElem_cons (by rw [opsOf_length]; exact h)]; simp [opsOf]

/-- The cells of one op of a slice. -/
theorem range_op {w : World} {b off : Nat} {R : List (Lk.Op × Value)} (h : w.rangeAt b off (opCells R)) (k : Nat) (hk : k < R.length) :
    w.cell? ⟨b, off + k * 3, none⟩ = some (.int .i64 R[k].1.op) ∧ w.cell? ⟨b, off + k * 3 + 1, none⟩ = some (.int .i64 R[k].1.n) ∧ w.cell? ⟨b, off + k * 3 + 2, none⟩ = some R[k].2 := by
  obtain ⟨h1, h2, h3⟩ := opCells_get R k hk
  exact ⟨h _ _ h1, by have := h _ _ h2; rwa [← Nat.add_assoc] at this, by have := h _ _ h3; rwa [← Nat.add_assoc] at this⟩

end Go.Proofs.YtmjilohlchkicaaGreatDoor

/- lock.inPairs and lock.Check. -/
namespace Go.Proofs.YtmjilohlchkicaaGreatDoor
open Go.RowKit
set_option linter.unusedVariables false

def bvals (l : List Bool) : List Value := l.map Value.bool
theorem bvals_length (l : List Bool) : (bvals l).length = l.length := by simp [bvals]
theorem elem_bool : Elem 179 4 1 := elem_of (.bool false) 1 Tryz.underlying179 (by kernel_rfl) (by omega) rfl (by omega)
theorem bvals_one (l : List Bool) : ∀ u ∈ bvals l, u.oneCell' = true := by
  intro u hu
  obtain ⟨x, _, rfl⟩ := List.mem_map.1 hu
  rfl

set_option maxRecDepth 100000 in
set_option maxHeartbeats 4000000 in
theorem inPairs_some (R : List (Lk.Op × Value)) (b off cap : Nat) (w : World) (h0 : 0 < R.length) (hm : R.length ≤ 60) (hr : w.rangeAt b off (opCells R)) (hb : b < w.heap.size) (hov : ∀ p ∈ R, ∃ a n c, p.2 = .slice a n c) :
    Calls Tryz.prog 78 #[.slice (some ⟨b, off, none⟩) R.length cap] w fun e w' => e = .returned (.bool (decide (Lk.pairs [] (opsOf R) = some []))) ∧ Below w.heap.size w w' := by
  have HR := hide hr
  have HBW := hide hb
  have HOV := hide hov
  clear hr hb h0 hov
  generalize hS : decide (Lk.pairs [] (opsOf R) = some []) = S
  have HS := hide hS
  clear hS
  generalize hn : R.length = n at *
  have HN := hide hn
  clear hn
  go_enter Tryz.func78, Tryz.ntmps78
  go_wp2
  go_loopw [3, 9] (fun v i wr => ∃ (k : Nat) (st : List Bool), k ≤ n ∧ st.length ≤ k ∧ i = .int .i64 k ∧ wr.ownsRow w.heap.size 4 1 v st.length (bvals st.reverse) ∧ decide (Lk.pairs st ((opsOf R).drop k) = some []) = S ∧ Below w.heap.size w wr) (fun _ i _ => n - (intOf i).toNat)
  case atStart => exact ⟨0, [], by omega, by simp, rfl, World.ownsRow_nil _ _ _ _, HS.out, Below.refl _ _⟩
  case round =>
    obtain ⟨k, st, hk, hst, rfl, hown, ht, hbel⟩ := hrel
    by_cases hlt : k < n
    · have hkR : k < R.length := by rw [HN.out]; exact hlt
      obtain ⟨hc0, hc1, hc2⟩ := range_op (range_keep HR.out hbel HBW.out) k hkR
      obtain ⟨oa, ol, oc, hoe⟩ := HOV.out R[k] (List.getElem_mem hkR)
      rw [hoe] at hc2
      rw [opsOf_drop R k hkR] at ht
      have HT := hide ht
      clear hoe ht
      generalize hop : R[k].1 = o at *
      obtain ⟨op, on, od⟩ := o
      simp only at hc0 hc1
      have HOWN := hide hown
      have HBEL := hide hbel
      have hws := hbel.size
      clear hop hown hbel
      by_cases h11 : op = 11
      · subst h11
        have HT2 : Hid (decide (Lk.pairs (false :: st) ((opsOf R).drop (k + 1)) = some []) = S) := by have := HT.out; rwa [Lk.pairs_if _ _ _ rfl] at this
        clear HT
        obtain ⟨va, vc, rfl⟩ := owns_form HOWN.out
        have HHB := hide (Nat.le_trans hws (below_alloc2 wr (.cells #[.int .i64 11, .int .i64 on, .slice oa ol oc] 95) (.cells #[.bool false] 4)).size)
        clear hws
        go_wp2_with (at_builtin; refine wpList_append_gen _ 179 4 1 rfl _ _ rfl w.heap.size (.slice va st.length vc) st.length (bvals st.reverse) rfl (wr.heap.size + 1) 0 1 1 [.bool false] rfl (owns_below HOWN.out (below_alloc2 wr _ _)) elem_bool (by omega) rfl (is_range (Is.new' [.bool false] 4 (by simp))) (bvals_one [false]) (by omega) HHB.out ?_; intro v5 w5 ho5 hg5 hs5)
        go_roundw
        case rel =>
          have hb2 : Below w.heap.size w w5 := (HBEL.out.trans ((below_alloc2 wr _ _).mono HBEL.out.size)).grown hg5 HHB.out (fun q hq => (World.ownsRow.lt HOWN.out q hq).1)
          refine ⟨k + 1, false :: st, by omega, by simp; omega, by go_num, ?_, HT2.out, hb2⟩
          have e : bvals (false :: st).reverse = bvals st.reverse ++ [.bool false] := by simp [bvals]
          rw [e]; exact ho5
        case measure => simp [intOf]; omega
      by_cases h12 : op = 12
      · subst h12
        cases st with
        | nil =>
          have HT2 : Hid (S = false) := by have := HT.out; rw [Lk.pairs_else0 _ _ rfl] at this; exact hide (this.symm.trans (by simp))
          obtain ⟨va, vc, rfl⟩ := owns_form HOWN.out
          clear HT
          go_wp2
          go_ret
          exact ⟨by rw [HT2.out]; rfl, HBEL.out.trans ((below_alloc _ _).mono HBEL.out.size)⟩
        | cons bb st =>
          obtain ⟨g, vc, rfl, hg1, hg2, hg3, hg4, hrg⟩ := owns_some HOWN.out (by simp)
          simp only [List.length_cons] at hst hg3
          have hsl : st.length ≤ 60 := by omega
          have hcl : wr.cell? ⟨g, st.length, none⟩ = some (.bool bb) := by
            have := hrg st.length (.bool bb) (by simp [bvals])
            rwa [Nat.zero_add] at this
          have hne : ¬ g = wr.heap.size := by omega
          have hfz : wr.frozen? ⟨g, st.length, none⟩ = false := World.ownsRow.frozenAt HOWN.out _
          clear hrg
          cases bb with
          | true =>
            have HT2 : Hid (S = false) := by have := HT.out; rw [Lk.pairs_else _ _ _ _ rfl] at this; exact hide (this.symm.trans (by simp))
            clear HT
            go_wp2
            go_ret
            exact ⟨by rw [HT2.out]; rfl, HBEL.out.trans ((below_alloc _ _).mono HBEL.out.size)⟩
          | false =>
            have HT2 : Hid (decide (Lk.pairs (true :: st) ((opsOf R).drop (k + 1)) = some []) = S) := by have := HT.out; rwa [Lk.pairs_else _ _ _ _ rfl] at this
            clear HT
            go_wp2
            go_roundw
            case rel =>
              have hs := (World.ownsRow.stored HOWN.out st.length (.bool true)).1
              have e : (bvals (false :: st).reverse).set st.length (.bool true) = bvals (true :: st).reverse := by
                simp [bvals]
              rw [e] at hs
              refine ⟨k + 1, true :: st, by omega, by simp; omega, by go_num, hs.alloc _, HT2.out, ?_⟩
              exact (HBEL.out.setCell hg1 _).alloc (by simp [World.setCell]; exact HBEL.out.size) _
            case measure => simp [intOf]; omega
      by_cases h13 : op = 13
      · subst h13
        cases st with
        | nil =>
          have HT2 : Hid (S = false) := by have := HT.out; rw [Lk.pairs_end0 _ _ rfl] at this; exact hide (this.symm.trans (by simp))
          obtain ⟨va, vc, rfl⟩ := owns_form HOWN.out
          clear HT
          go_wp2
          go_ret
          exact ⟨by rw [HT2.out]; rfl, HBEL.out.trans ((below_alloc _ _).mono HBEL.out.size)⟩
        | cons bb st =>
          obtain ⟨g, vc, rfl, hg1, hg2, hg3, hg4, hrg⟩ := owns_some HOWN.out (by simp)
          simp only [List.length_cons] at hst hg3
          have hsl : st.length ≤ 60 := by omega
          have HT2 : Hid (decide (Lk.pairs st ((opsOf R).drop (k + 1)) = some []) = S) := by have := HT.out; rwa [Lk.pairs_end _ _ _ _ rfl] at this
          clear HT hrg
          go_wp2
          go_roundw
          case rel =>
            have e : bvals (bb :: st).reverse = bvals st.reverse ++ [.bool bb] := by simp [bvals]
            have ho := HOWN.out
            rw [e] at ho
            have hp := ownsRow_pop (by simp [bvals]) ho
            exact ⟨k + 1, st, by omega, by omega, by go_num, hp.alloc _, HT2.out, HBEL.out.alloc HBEL.out.size _⟩
          case measure => simp [intOf]; omega
      · have HT2 : Hid (decide (Lk.pairs st ((opsOf R).drop (k + 1)) = some []) = S) := by have := HT.out; rwa [Lk.pairs_do _ _ _ h11 h12 h13] at this
        have e11 : (op == 11) = false := by simpa using h11
        have e12 : (op == 12) = false := by simpa using h12
        have e13 : (op == 13) = false := by simpa using h13
        obtain ⟨va, vc, rfl⟩ := owns_form HOWN.out
        clear HT h11 h12 h13
        go_wp2
        go_roundw
        case rel => exact ⟨k + 1, st, by omega, by omega, by go_num, owns_below HOWN.out (below_alloc _ _), HT2.out, HBEL.out.trans ((below_alloc _ _).mono HBEL.out.size)⟩
        case measure => simp [intOf]; omega
    · have hke : k = n := by omega
      have hkn : ¬ (k : Int) < n := by omega
      rw [List.drop_eq_nil_of_le (by rw [opsOf_length, HN.out]; omega)] at ht
      obtain ⟨va, vc, rfl⟩ := owns_form hown
      have HT : Hid (decide (st = []) = S) := hide (by rw [← ht]; simp [Lk.pairs])
      clear ht
      have HBEL := hide hbel
      clear hbel hown
      cases st with
      | nil =>
        go_wp2
        go_ret
        exact ⟨by rw [← HT.out]; rfl, HBEL.out⟩
      | cons bb st =>
        have hl0 : ((((bb :: st).length : Nat) : Int) == 0) = false := by simp; omega
        generalize (bb :: st).length = sl at *
        go_wp2
        go_ret
        exact ⟨by rw [← HT.out]; simp, HBEL.out⟩

theorem HasOps.forms {w : World} {v : Value} {R : List (Lk.Op × Value)} (h : HasOps w v R) : ∀ p ∈ R, ∃ a n c, p.2 = .slice a n c := fun p hp => by
  obtain ⟨a, cap, e, _⟩ := (h.2 p hp).1.shape
  exact ⟨a, _, cap, e⟩
theorem inPairs_any (v : Value) (R : List (Lk.Op × Value)) (w : World) (h : HasOps w v R) (hm : R.length ≤ 60) :
    Calls Tryz.prog 78 #[v] w fun e w' => e = .returned (.bool (decide (Lk.pairs [] (opsOf R) = some []))) ∧ Below w.heap.size w w' := by
  rcases h.1 with ⟨a, cap, rfl, rfl⟩ | ⟨b, off, cap, rfl, h0, h1, h2, h3, hc⟩
  · go_enter Tryz.func78, Tryz.ntmps78
    go_wp2
    refine wp_loop_rounds 1 ?_
    rw [rounds_succ]
    go_wp2
    go_ret
    exact ⟨rfl, Below.refl _ _⟩
  · exact inPairs_some R b off cap w h0 hm hc h3 h.forms

theorem errV_one : errV 1 = .iface 27 (.int .i64 1) := rfl
theorem errV_two' : errV 2 = .iface 27 (.int .i64 2) := rfl
theorem errV_four' : errV 4 = .iface 27 (.int .i64 4) := rfl

set_option maxRecDepth 100000 in
set_option maxHeartbeats 4000000 in
theorem check_some (R : List (Lk.Op × Value)) (b off cap : Nat) (w : World) (h0 : 0 < R.length) (hm : R.length ≤ 60) (h : HasOps w (.slice (some ⟨b, off, none⟩) R.length cap) R) (hr : w.rangeAt b off (opCells R)) (hb : b < w.heap.size) :
    Calls Tryz.prog 54 #[.slice (some ⟨b, off, none⟩) R.length cap] w fun e w' => e = .returned (errV (Lk.check (opsOf R))) ∧ Below w.heap.size w w' := by
  have HR := hide hr
  have HBW := hide hb
  have HH := hide h
  clear hr hb h0 h
  have HIP : Hid (∀ W, Below w.heap.size w W → Calls Tryz.prog 78 #[.slice (some ⟨b, off, none⟩) R.length cap] W fun e w' => e = .returned (.bool (decide (Lk.pairs [] (opsOf R) = some []))) ∧ Below W.heap.size W w') := fun W hW => inPairs_any _ R W (HH.out.below hW) hm
  generalize hS : Lk.check (opsOf R) = S
  have hS2 : (if Lk.opsFault (opsOf R) = 0 then (if Lk.pairs [] (opsOf R) = some [] then 0 else 1) else Lk.opsFault (opsOf R)) = S := by
    have hl : ¬ 60 < (opsOf R).length := by rw [opsOf_length]; omega
    rw [← hS]; unfold Lk.check; rw [if_neg hl]
  have HS := hide hS2
  clear hS hS2
  generalize hn : R.length = n at *
  have HN := hide hn
  clear hn
  go_enter Tryz.func54, Tryz.ntmps54
  go_wp2
  go_loopw [12] (fun i wr => ∃ (k : Nat), k ≤ n ∧ i = .int .i64 k ∧ Lk.opsFault ((opsOf R).drop k) = Lk.opsFault (opsOf R) ∧ Below w.heap.size w wr) (fun i _ => n - (intOf i).toNat)
  case atStart => exact ⟨0, by omega, rfl, by simp, Below.refl _ _⟩
  case round =>
    obtain ⟨k, hk, rfl, ht, hbel⟩ := hrel
    have HBEL := hide hbel
    by_cases hlt : k < n
    · have hkR : k < R.length := by rw [HN.out]; exact hlt
      obtain ⟨hc0, hc1, hc2⟩ := range_op (range_keep HR.out hbel HBW.out) k hkR
      obtain ⟨oa, oc, hoe, hom, hol⟩ := (HH.out.2 R[k] (List.getElem_mem hkR)).1.shape
      rw [hoe] at hc2
      have HC : Hid (∀ W, Calls Tryz.prog 77 #[opVal R[k].1 (.slice oa R[k].1.data.length oc)] W fun e w' => e = .returned (errV (Lk.opFault R[k].1)) ∧ Below W.heap.size W w') := fun W => checkOp_any R[k].1 oa _ oc W rfl hol
      rw [opsOf_drop R k hkR, Lk.opsFault] at ht
      clear hoe hbel hom hol
      unfold opVal at HC
      generalize Lk.opFault R[k].1 = F at *
      generalize R[k].1.data.length = ol at *
      generalize R[k].1.op = op at *
      generalize R[k].1.n = on at *
      by_cases hF : F = 0
      · subst hF
        rw [if_pos rfl] at ht
        have HT := hide ht
        clear ht
        go_wp2_with fail
        refine (HC.out _).mono ?_
        rintro e w1 ⟨rfl, hb1⟩
        have e0 : errV 0 = .nilIface := rfl
        rw [e0]
        have HB1 := hide (HBEL.out.trans ((below_alloc _ _).mono HBEL.out.size) |>.trans (hb1.mono (by simp; exact Nat.le_succ_of_le HBEL.out.size)))
        clear hb1
        go_wp2
        go_roundw
        case rel => exact ⟨k + 1, by omega, by go_num, HT.out, HB1.out⟩
        case measure => simp [intOf]; omega
      · rw [if_neg hF] at ht
        have HT : Hid (F = S) := hide (by rw [← HS.out, ← ht, if_neg hF])
        have hE : errV F = .iface 27 (.int .i64 F) := by unfold errV; rw [if_neg hF]
        clear ht
        go_wp2_with fail
        refine (HC.out _).mono ?_
        rintro e w1 ⟨rfl, hb1⟩
        rw [hE]
        have HB1 := hide (HBEL.out.trans ((below_alloc _ _).mono HBEL.out.size) |>.trans (hb1.mono (by simp; exact Nat.le_succ_of_le HBEL.out.size)))
        clear hb1 hF
        go_wp2
        go_ret
        exact ⟨by rw [← HT.out, hE]; rfl, HB1.out⟩
    · have hke : k = n := by omega
      have hkn : ¬ (k : Int) < n := by omega
      rw [List.drop_eq_nil_of_le (by rw [opsOf_length, HN.out]; omega)] at ht
      have h00 : Lk.opsFault (opsOf R) = 0 := by rw [← ht]; rfl
      have hs := HS.out
      rw [if_pos h00] at hs
      clear ht h00 hbel
      by_cases hp : Lk.pairs [] (opsOf R) = some []
      · rw [if_pos hp] at hs
        have HC := hide (HIP.out _ HBEL.out)
        rw [decide_eq_true hp] at HC
        clear hp
        go_wp2_with fail
        refine HC.out.mono ?_
        rintro e w1 ⟨rfl, hb1⟩
        have HB1 := hide (HBEL.out.trans (hb1.mono HBEL.out.size))
        clear hb1
        go_wp2
        go_ret
        exact ⟨by rw [← hs]; rfl, HB1.out⟩
      · rw [if_neg hp] at hs
        have HC := hide (HIP.out _ HBEL.out)
        rw [decide_eq_false hp] at HC
        clear hp
        go_wp2_with fail
        refine HC.out.mono ?_
        rintro e w1 ⟨rfl, hb1⟩
        have HB1 := hide (HBEL.out.trans (hb1.mono HBEL.out.size))
        clear hb1
        go_wp2
        go_ret
        exact ⟨by rw [← hs]; rfl, HB1.out⟩
theorem check_any (v : Value) (R : List (Lk.Op × Value)) (w : World) (h : HasOps w v R) :
    Calls Tryz.prog 54 #[v] w fun e w' => e = .returned (errV (Lk.check (opsOf R))) ∧ Below w.heap.size w w' := by
  rcases h.1 with ⟨a, cap, rfl, rfl⟩ | ⟨b, off, cap, rfl, h0, h1, h2, h3, hc⟩
  · have e : errV (Lk.check (opsOf [])) = .nilIface := rfl
    rw [e]
    have HIP := hide (inPairs_any (.slice a 0 cap) [] w h (by simp))
    have e2 : decide (Lk.pairs [] (opsOf []) = some []) = true := by decide
    rw [e2] at HIP
    go_enter Tryz.func54, Tryz.ntmps54
    go_wp2
    refine wp_loop_rounds 1 ?_
    rw [rounds_succ]
    go_wp2_with fail
    refine HIP.out.mono ?_
    rintro e w1 ⟨rfl, hb1⟩
    go_wp2
    go_ret
    exact ⟨rfl, hb1⟩
  · by_cases hm : R.length ≤ 60
    · exact check_some R b off cap w h0 hm h hc h3
    · have e : Lk.check (opsOf R) = 4 := by unfold Lk.check; rw [if_pos (by rw [opsOf_length]; omega)]
      rw [e, errV_four']
      have hi : (60 : Int) < (R.length : Int) := by omega
      unfold maxLen at h2
      clear hm e hc h
      generalize R.length = n at *
      go_enter Tryz.func54, Tryz.ntmps54
      go_wp2
      go_ret
      exact ⟨rfl, Below.refl _ _⟩
end Go.Proofs.YtmjilohlchkicaaGreatDoor
