/- The texts LkO, LkP, LkC, LkR, LkT, one behind the other. -/
import Derived.Test.YtgkpbglllnmbeaaGreatDoorLkB
import Derived.Test.YtgkpbglllnmbeaaGreatDoorAs
import Derived.Test.YtgkpbglllnmbeaaGreatDoorShEq
import Derived.Deep.MidRow
import Derived.Test.YtgkpbglllnmbeaaGreatDoorOwn3
import Derived.Laws.OwnMore
import Derived.WalkSmall
import Derived.OneCell
/- Ops in memory; what is wrong with one by itself. -/
namespace Go.Proofs.YtgkpbglllnmbeaaGreatDoor
open Go.RowKit
set_option linter.unusedVariables false

/-- The cells of ops, each with the slice that its bytes lie in. -/
def opCells : List (Lk.Op × Value) → List Value
  | [] => []
  | p :: R => .int .i64 p.1.op :: .int .i64 p.1.n :: p.2 :: opCells R
theorem opCells_length (R : List (Lk.Op × Value)) : (opCells R).length = R.length * 3 := by
  induction R with
  | nil => rfl
  | cons p R ih => simp only [opCells, List.length_cons, ih]; omega
theorem opCells_append (R Q : List (Lk.Op × Value)) : opCells (R ++ Q) = opCells R ++ opCells Q := by
  induction R with
  | nil => rfl
  | cons p R ih => simp only [opCells, List.cons_append, ih]
theorem opCells_get (R : List (Lk.Op × Value)) : ∀ (k : Nat) (h : k < R.length), (opCells R)[k * 3]? = some (.int .i64 R[k].1.op) ∧ (opCells R)[k * 3 + 1]? = some (.int .i64 R[k].1.n) ∧ (opCells R)[k * 3 + 2]? = some R[k].2 := by
  induction R with
  | nil => intro k h; exact absurd h (by simp)
  | cons p R ih =>
    intro k h
    cases k with
    | zero => exact ⟨rfl, rfl, rfl⟩
    | succ k =>
      have := ih k (by simpa using h)
      rw [show (k + 1) * 3 = k * 3 + 1 + 1 + 1 by omega]
      exact this

/-- A slice of ops. -/
def HasOps (w : World) (v : Value) (R : List (Lk.Op × Value)) : Prop :=
  ((∃ a cap, v = .slice a 0 cap ∧ R = []) ∨ ∃ b off cap, v = .slice (some ⟨b, off, none⟩) R.length cap ∧ 0 < R.length ∧ R.length ≤ cap ∧ cap ≤ maxLen ∧ b < w.heap.size ∧ w.rangeAt b off (opCells R)) ∧
  ∀ p ∈ R, Has w p.2 p.1.data ∧ Sz.Byt p.1.data

theorem range_keep {w w' : World} {b off B : Nat} {c : List Value} (h : w.rangeAt b off c) (hb : Below B w w') (hB : b < B) : w'.rangeAt b off c := fun j v hv => by
  rw [hb.cell (p := ⟨b, off + j, none⟩) hB]; exact h j v hv
theorem is_range {w : World} {b : Nat} {c : List Value} {t : TypeId} (h : Is w b c t) : w.rangeAt b 0 c := fun j v hv => by rw [h.cell, Nat.zero_add]; exact hv
theorem HasOps.below {w w' : World} {v : Value} {R : List (Lk.Op × Value)} (h : HasOps w v R) (hb : Below w.heap.size w w') : HasOps w' v R := by
  refine ⟨?_, fun p hp => ⟨(h.2 p hp).1.below hb, (h.2 p hp).2⟩⟩
  rcases h.1 with h | ⟨b, off, cap, hv, h0, h1, h2, h3, hc⟩
  · exact .inl h
  · exact .inr ⟨b, off, cap, hv, h0, h1, h2, Nat.lt_of_lt_of_le h3 hb.size, range_keep hc hb h3⟩

def opVal (o : Lk.Op) (v : Value) : Value := .agg #[.int .i64 o.op, .int .i64 o.n, v]
theorem size_op : Sized 111 3 := by unfold Sized; kernel_rfl

theorem Has.shape {w : World} {v : Value} {l : List Int} (h : Has w v l) : ∃ a cap, v = .slice a l.length cap ∧ cap ≤ maxLen ∧ l.length ≤ maxLen := by
  rcases h with ⟨a, cap, rfl, rfl, h, _⟩ | ⟨b, off, cap, rfl, h0, h1, h2, hc⟩
  · exact ⟨a, cap, rfl, h, by simp⟩
  · exact ⟨_, cap, rfl, h2, by omega⟩

set_option maxRecDepth 100000 in
set_option maxHeartbeats 4000000 in
theorem checkOp_any (o : Lk.Op) (a : Option Addr) (len cap : Nat) (w : World) (hl : o.data.length = len) (hm : len ≤ maxLen) :
    Calls Tryz.prog 49 #[opVal o (.slice a len cap)] w fun e w' => e = .returned (errV (Lk.opFault o)) ∧ Below w.heap.size w w' := by
  obtain ⟨op, n, data⟩ := o
  have e : Lk.opFault ⟨op, n, data⟩ = Lk.opF op n len := by rw [← hl]; rfl
  rw [e]
  unfold opVal Lk.opF
  simp only []
  unfold maxLen at hm
  clear hl e data
  have HB0 := hide (below_alloc w (.cells #[.int .i64 op, .int .i64 n, .slice a len cap] 111))
  by_cases c1 : op < 1
  · rw [if_pos (.inl c1)]
    have d1 : ¬ 14 < op := by omega
    have d2 : ¬ op = 9 := by omega
    have d3 : ¬ op = 10 := by omega
    go_enter Tryz.func49, Tryz.ntmps49
    go_wp2
    go_ret
    exact ⟨rfl, below_alloc _ _⟩
  by_cases c2 : 14 < op
  · rw [if_pos (.inr c2)]
    have d2 : ¬ op = 9 := by omega
    have d3 : ¬ op = 10 := by omega
    go_enter Tryz.func49, Tryz.ntmps49
    go_wp2
    go_ret
    exact ⟨rfl, below_alloc _ _⟩
  rw [if_neg (by omega)]
  by_cases c9 : op = 9
  · subst c9
    rw [if_neg (by simp)]
    by_cases cl : 0 < len
    · rw [if_pos ⟨cl, by decide⟩]
      go_enter Tryz.func49, Tryz.ntmps49
      go_wp2
      all_goals go_ret
      all_goals exact ⟨rfl, below_alloc _ _⟩
    · obtain rfl : len = 0 := by omega
      rw [if_neg (by simp), if_neg (by omega)]
      by_cases cn : n < 1
      · rw [if_pos ⟨rfl, .inl cn⟩]
        go_enter Tryz.func49, Tryz.ntmps49
        go_wp2
        all_goals go_ret
        all_goals exact ⟨rfl, below_alloc _ _⟩
      · by_cases cm : 9 < n
        · rw [if_pos ⟨rfl, .inr cm⟩]
          have hn0 : ¬ n = 0 := by omega
          go_enter Tryz.func49, Tryz.ntmps49
          go_wp2
          all_goals go_ret
          all_goals exact ⟨rfl, below_alloc _ _⟩
        · rw [if_neg (by omega), if_neg (by omega)]
          have hn0 : ¬ n = 0 := by omega
          go_enter Tryz.func49, Tryz.ntmps49
          go_wp2
          all_goals go_ret
          all_goals exact ⟨rfl, below_alloc _ _⟩
  by_cases c10 : op = 10
  · subst c10
    rw [if_neg (by simp)]
    by_cases cl : 0 < len
    · rw [if_pos ⟨cl, by decide⟩]
      go_enter Tryz.func49, Tryz.ntmps49
      go_wp2
      all_goals go_ret
      all_goals exact ⟨rfl, below_alloc _ _⟩
    · obtain rfl : len = 0 := by omega
      rw [if_neg (by simp), if_neg (by omega), if_neg (by omega)]
      by_cases cn : n < 0
      · rw [if_pos ⟨rfl, .inl cn⟩]
        have hn0 : ¬ n = 0 := by omega
        go_enter Tryz.func49, Tryz.ntmps49
        go_wp2
        all_goals go_ret
        all_goals exact ⟨rfl, below_alloc _ _⟩
      · by_cases cm : 1073741824 < n
        · rw [if_pos ⟨rfl, .inr cm⟩]
          have hn0 : ¬ n = 0 := by omega
          go_enter Tryz.func49, Tryz.ntmps49
          go_wp2
          all_goals go_ret
          all_goals exact ⟨rfl, below_alloc _ _⟩
        · rw [if_neg (by omega)]
          go_enter Tryz.func49, Tryz.ntmps49
          go_wp2
          all_goals go_ret
          all_goals exact ⟨rfl, below_alloc _ _⟩
  by_cases cn : n = 0
  · subst cn
    rw [if_neg (by simp)]
    by_cases co : op = 1
    · subst co
      rw [if_neg (by simp)]
      by_cases cl : 300 < len
      · rw [if_pos cl]
        have cl0 : 0 < len := by omega
        go_enter Tryz.func49, Tryz.ntmps49
        go_wp2
        all_goals go_ret
        all_goals exact ⟨rfl, below_alloc _ _⟩
      · rw [if_neg cl, if_neg (by omega), if_neg (by omega)]
        go_enter Tryz.func49, Tryz.ntmps49
        go_wp2
        all_goals go_ret
        all_goals exact ⟨rfl, below_alloc _ _⟩
    · by_cases cl : 0 < len
      · rw [if_pos ⟨cl, co⟩]
        go_enter Tryz.func49, Tryz.ntmps49
        go_wp2
        all_goals go_ret
        all_goals exact ⟨rfl, below_alloc _ _⟩
      · obtain rfl : len = 0 := by omega
        rw [if_neg (by simp), if_neg (by omega), if_neg (by omega), if_neg (by omega)]
        go_enter Tryz.func49, Tryz.ntmps49
        go_wp2
        all_goals go_ret
        all_goals exact ⟨rfl, below_alloc _ _⟩
  · rw [if_pos ⟨cn, by omega⟩]
    have e9 : (op == 9) = false := by simpa using c9
    have e10 : (op == 10) = false := by simpa using c10
    have en : (n != 0) = true := by simpa using cn
    go_enter Tryz.func49, Tryz.ntmps49
    go_wp2
    all_goals go_ret
    all_goals exact ⟨rfl, below_alloc _ _⟩
end Go.Proofs.YtgkpbglllnmbeaaGreatDoor

/- lock.wayEnd: where a way ends. -/
namespace Go.Proofs.YtgkpbglllnmbeaaGreatDoor
open Go.RowKit
set_option linter.unusedVariables false

theorem HasOps.length_le {w : World} {v : Value} {R : List (Lk.Op × Value)} (h : HasOps w v R) : R.length ≤ maxLen := by
  rcases h.1 with ⟨a, cap, _, rfl⟩ | ⟨b, off, cap, hv, h0, h1, h2, h3, hc⟩
  · simp
  · omega
def opsOf (R : List (Lk.Op × Value)) : List Lk.Op := R.map Prod.fst
theorem opsOf_length (R : List (Lk.Op × Value)) : (opsOf R).length = R.length := by simp [opsOf]
theorem opsOf_drop (R : List (Lk.Op × Value)) (k : Nat) (h : k < R.length) : (opsOf R).drop k = R[k].1 :: (opsOf R).drop (k + 1) := by
  rw [List.drop_eq_getElem_cons (by rw [opsOf_length]; exact h)]; simp [opsOf]

/-- The cells of one op of a slice. -/
theorem range_op {w : World} {b off : Nat} {R : List (Lk.Op × Value)} (h : w.rangeAt b off (opCells R)) (k : Nat) (hk : k < R.length) :
    w.cell? ⟨b, off + k * 3, none⟩ = some (.int .i64 R[k].1.op) ∧ w.cell? ⟨b, off + k * 3 + 1, none⟩ = some (.int .i64 R[k].1.n) ∧ w.cell? ⟨b, off + k * 3 + 2, none⟩ = some R[k].2 := by
  obtain ⟨h1, h2, h3⟩ := opCells_get R k hk
  exact ⟨h _ _ h1, by have := h _ _ h2; rwa [← Nat.add_assoc] at this, by have := h _ _ h3; rwa [← Nat.add_assoc] at this⟩

set_option maxRecDepth 100000 in
set_option maxHeartbeats 1600000 in
theorem wayEnd_any (R : List (Lk.Op × Value)) (b off cap : Nat) (p : Nat) (w : World) (hp : p < R.length) (hm : R.length ≤ maxLen) (hr : w.rangeAt b off (opCells R)) :
    Calls Tryz.prog 71 #[.slice (some ⟨b, off, none⟩) R.length cap, .int .i64 p] w fun e w' => w = w' ∧ ∃ q : Nat, e = .returned (.int .i64 q) ∧ p < q ∧ q ≤ R.length ∧ (opsOf R).drop (q + 1) = Lk.skip 0 ((opsOf R).drop (p + 1)) := by
  unfold maxLen at hm
  have HR := hide hr
  clear hr
  generalize hS : Lk.skip 0 ((opsOf R).drop (p + 1)) = S
  have HS := hide hS
  clear hS
  generalize hn : R.length = n at *
  have HN := hide hn
  clear hn
  have hp1 : (p : Int) + 1 ≤ 9223372036854775807 := by omega
  go_enter Tryz.func71, Tryz.ntmps71
  go_wp2
  go_loop [1, 5] (fun i c => ∃ (k d : Nat), k ≤ n ∧ p < k ∧ d ≤ k ∧ i = .int .i64 k ∧ c = .int .i64 d ∧ Lk.skip d ((opsOf R).drop k) = S) (fun i _ => n - (intOf i).toNat)
  case atStart => exact ⟨p + 1, 0, by omega, by omega, by omega, by go_num, rfl, HS.out⟩
  case round =>
    obtain ⟨k, d, hk, hpk, hd, rfl, rfl, ht⟩ := hrel
    by_cases hlt : k < n
    · have hkR : k < R.length := by rw [HN.out]; exact hlt
      have hc0 := (range_op HR.out k hkR).1
      rw [opsOf_drop R k hkR] at ht
      have HT := hide ht
      generalize hop : R[k].1 = o at *
      obtain ⟨op, on, od⟩ := o
      simp only at hc0
      clear ht hop
      by_cases h11 : op = 11
      · subst h11
        have HT2 : Hid (Lk.skip (d + 1) ((opsOf R).drop (k + 1)) = S) := by have := HT.out; rwa [Lk.skip_if _ _ _ rfl] at this
        clear HT
        go_wp2
        go_round
        case rel => exact ⟨k + 1, d + 1, by omega, by omega, by omega, by go_num, by go_num, HT2.out⟩
        case measure => simp [intOf]; omega
      by_cases h12 : op = 12
      · subst h12
        by_cases hd0 : d = 0
        · subst hd0
          have HT2 : Hid ((opsOf R).drop (k + 1) = S) := by have := HT.out; rwa [Lk.skip_else _ _ _ rfl, if_pos rfl] at this
          clear HT
          go_wp2
          go_ret
          exact ⟨rfl, k, rfl, hpk, by omega, HT2.out⟩
        · have HT2 : Hid (Lk.skip d ((opsOf R).drop (k + 1)) = S) := by have := HT.out; rwa [Lk.skip_else _ _ _ rfl, if_neg hd0] at this
          have hdi : ((d : Int) == 0) = false := by simp; omega
          have HD := hide hd0
          clear HT hd0
          go_wp2
          go_round
          case rel => exact ⟨k + 1, d, by omega, by omega, by omega, by go_num, rfl, HT2.out⟩
          case measure => simp [intOf]; omega
      by_cases h13 : op = 13
      · subst h13
        by_cases hd0 : d = 0
        · subst hd0
          have HT2 : Hid ((opsOf R).drop (k + 1) = S) := by have := HT.out; rwa [Lk.skip_end _ _ _ rfl, if_pos rfl] at this
          clear HT
          go_wp2
          go_ret
          exact ⟨rfl, k, rfl, hpk, by omega, HT2.out⟩
        · have HT2 : Hid (Lk.skip (d - 1) ((opsOf R).drop (k + 1)) = S) := by have := HT.out; rwa [Lk.skip_end _ _ _ rfl, if_neg hd0] at this
          have hdi : ((d : Int) == 0) = false := by simp; omega
          have HD := hide hd0
          clear HT hd0
          go_wp2
          have hd0 := HD.out
          go_round
          case rel => exact ⟨k + 1, d - 1, by omega, by omega, by omega, by go_num, by go_num, HT2.out⟩
          case measure => simp [intOf]; omega
      · have HT2 : Hid (Lk.skip d ((opsOf R).drop (k + 1)) = S) := by have := HT.out; rwa [Lk.skip_do _ _ _ h11 h12 h13] at this
        have e11 : (op == 11) = false := by simpa using h11
        have e12 : (op == 12) = false := by simpa using h12
        have e13 : (op == 13) = false := by simpa using h13
        clear HT h11 h12 h13
        go_wp2
        go_round
        case rel => exact ⟨k + 1, d, by omega, by omega, by omega, by go_num, rfl, HT2.out⟩
        case measure => simp [intOf]; omega
    · have hke : k = n := by omega
      have hkn : ¬ (k : Int) < n := by omega
      rw [List.drop_eq_nil_of_le (by rw [opsOf_length, HN.out]; omega)] at ht
      have HT : Hid ((opsOf R).drop (n + 1) = S) := by rw [List.drop_eq_nil_of_le (by rw [opsOf_length, HN.out]; omega), ← ht]; rfl
      clear ht
      go_wp2
      go_ret
      exact ⟨rfl, n, rfl, by omega, by omega, HT.out⟩
end Go.Proofs.YtgkpbglllnmbeaaGreatDoor

/- lock.inPairs and lock.Check. -/
namespace Go.Proofs.YtgkpbglllnmbeaaGreatDoor
open Go.RowKit
set_option linter.unusedVariables false

def bvals (l : List Bool) : List Value := l.map Value.bool
theorem bvals_length (l : List Bool) : (bvals l).length = l.length := by simp [bvals]
theorem elem_bool : Elem 138 4 1 := elem_of (.bool false) 1 Tryz.underlying138 (by kernel_rfl) (by omega) rfl (by omega)
theorem bvals_one (l : List Bool) : ∀ u ∈ bvals l, u.oneCell' = true := by
  intro u hu
  obtain ⟨x, _, rfl⟩ := List.mem_map.1 hu
  rfl

set_option maxRecDepth 100000 in
set_option maxHeartbeats 4000000 in
theorem inPairs_some (R : List (Lk.Op × Value)) (b off cap : Nat) (w : World) (h0 : 0 < R.length) (hm : R.length ≤ 60) (hr : w.rangeAt b off (opCells R)) (hb : b < w.heap.size) (hov : ∀ p ∈ R, ∃ a n c, p.2 = .slice a n c) :
    Calls Tryz.prog 50 #[.slice (some ⟨b, off, none⟩) R.length cap] w fun e w' => e = .returned (.bool (decide (Lk.pairs [] (opsOf R) = some []))) ∧ Below w.heap.size w w' := by
  have HR := hide hr
  have HBW := hide hb
  have HOV := hide hov
  clear hr hb h0 hov
  generalize hS : decide (Lk.pairs [] (opsOf R) = some []) = S
  have HS := hide hS
  clear hS
  generalize hn : R.length = n at *
  have HN := hide hn
  clear hn
  go_enter Tryz.func50, Tryz.ntmps50
  go_wp2
  go_loopw [3, 9] (fun v i wr => ∃ (k : Nat) (st : List Bool), k ≤ n ∧ st.length ≤ k ∧ i = .int .i64 k ∧ wr.ownsRow w.heap.size 4 1 v st.length (bvals st.reverse) ∧ decide (Lk.pairs st ((opsOf R).drop k) = some []) = S ∧ Below w.heap.size w wr) (fun _ i _ => n - (intOf i).toNat)
  case atStart => exact ⟨0, [], by omega, by simp, rfl, World.ownsRow_nil _ _ _ _, HS.out, Below.refl _ _⟩
  case round =>
    obtain ⟨k, st, hk, hst, rfl, hown, ht, hbel⟩ := hrel
    by_cases hlt : k < n
    · have hkR : k < R.length := by rw [HN.out]; exact hlt
      obtain ⟨hc0, hc1, hc2⟩ := range_op (range_keep HR.out hbel HBW.out) k hkR
      obtain ⟨oa, ol, oc, hoe⟩ := HOV.out R[k] (List.getElem_mem hkR)
      rw [hoe] at hc2
      rw [opsOf_drop R k hkR] at ht
      have HT := hide ht
      clear hoe ht
      generalize hop : R[k].1 = o at *
      obtain ⟨op, on, od⟩ := o
      simp only at hc0 hc1
      have HOWN := hide hown
      have HBEL := hide hbel
      have hws := hbel.size
      clear hop hown hbel
      by_cases h11 : op = 11
      · subst h11
        have HT2 : Hid (decide (Lk.pairs (false :: st) ((opsOf R).drop (k + 1)) = some []) = S) := by have := HT.out; rwa [Lk.pairs_if _ _ _ rfl] at this
        clear HT
        obtain ⟨va, vc, rfl⟩ := owns_form HOWN.out
        have HHB := hide (Nat.le_trans hws (below_alloc2 wr (.cells #[.int .i64 11, .int .i64 on, .slice oa ol oc] 111) (.cells #[.bool false] 4)).size)
        clear hws
        go_wp2_with (at_builtin; refine wpList_append_gen _ 138 4 1 rfl _ _ rfl w.heap.size (.slice va st.length vc) st.length (bvals st.reverse) rfl (wr.heap.size + 1) 0 1 1 [.bool false] rfl (owns_below HOWN.out (below_alloc2 wr _ _)) elem_bool (by omega) rfl (is_range (Is.new' [.bool false] 4 (by simp))) (bvals_one [false]) (by omega) HHB.out ?_; intro v5 w5 ho5 hg5 hs5)
        go_roundw
        case rel =>
          have hb2 : Below w.heap.size w w5 := (HBEL.out.trans ((below_alloc2 wr _ _).mono HBEL.out.size)).grown hg5 HHB.out (fun q hq => (World.ownsRow.lt HOWN.out q hq).1)
          refine ⟨k + 1, false :: st, by omega, by simp; omega, by go_num, ?_, HT2.out, hb2⟩
          have e : bvals (false :: st).reverse = bvals st.reverse ++ [.bool false] := by simp [bvals]
          rw [e]; exact ho5
        case measure => simp [intOf]; omega
      by_cases h12 : op = 12
      · subst h12
        cases st with
        | nil =>
          have HT2 : Hid (S = false) := by have := HT.out; rw [Lk.pairs_else0 _ _ rfl] at this; exact hide (this.symm.trans (by simp))
          obtain ⟨va, vc, rfl⟩ := owns_form HOWN.out
          clear HT
          go_wp2
          go_ret
          exact ⟨by rw [HT2.out]; rfl, HBEL.out.trans ((below_alloc _ _).mono HBEL.out.size)⟩
        | cons bb st =>
          obtain ⟨g, vc, rfl, hg1, hg2, hg3, hg4, hrg⟩ := owns_some HOWN.out (by simp)
          simp only [List.length_cons] at hst hg3
          have hsl : st.length ≤ 60 := by omega
          have hcl : wr.cell? ⟨g, st.length, none⟩ = some (.bool bb) := by
            have := hrg st.length (.bool bb) (by simp [bvals])
            rwa [Nat.zero_add] at this
          have hne : ¬ g = wr.heap.size := by omega
          have hfz : wr.frozen? ⟨g, st.length, none⟩ = false := World.ownsRow.frozenAt HOWN.out _
          clear hrg
          cases bb with
          | true =>
            have HT2 : Hid (S = false) := by have := HT.out; rw [Lk.pairs_else _ _ _ _ rfl] at this; exact hide (this.symm.trans (by simp))
            clear HT
            go_wp2
            go_ret
            exact ⟨by rw [HT2.out]; rfl, HBEL.out.trans ((below_alloc _ _).mono HBEL.out.size)⟩
          | false =>
            have HT2 : Hid (decide (Lk.pairs (true :: st) ((opsOf R).drop (k + 1)) = some []) = S) := by have := HT.out; rwa [Lk.pairs_else _ _ _ _ rfl] at this
            clear HT
            go_wp2
            go_roundw
            case rel =>
              have hs := (World.ownsRow.stored HOWN.out st.length (.bool true)).1
              have e : (bvals (false :: st).reverse).set st.length (.bool true) = bvals (true :: st).reverse := by
                simp [bvals]
              rw [e] at hs
              refine ⟨k + 1, true :: st, by omega, by simp; omega, by go_num, hs.alloc _, HT2.out, ?_⟩
              exact (HBEL.out.setCell hg1 _).alloc (by simp [World.setCell]; exact HBEL.out.size) _
            case measure => simp [intOf]; omega
      by_cases h13 : op = 13
      · subst h13
        cases st with
        | nil =>
          have HT2 : Hid (S = false) := by have := HT.out; rw [Lk.pairs_end0 _ _ rfl] at this; exact hide (this.symm.trans (by simp))
          obtain ⟨va, vc, rfl⟩ := owns_form HOWN.out
          clear HT
          go_wp2
          go_ret
          exact ⟨by rw [HT2.out]; rfl, HBEL.out.trans ((below_alloc _ _).mono HBEL.out.size)⟩
        | cons bb st =>
          obtain ⟨g, vc, rfl, hg1, hg2, hg3, hg4, hrg⟩ := owns_some HOWN.out (by simp)
          simp only [List.length_cons] at hst hg3
          have hsl : st.length ≤ 60 := by omega
          have HT2 : Hid (decide (Lk.pairs st ((opsOf R).drop (k + 1)) = some []) = S) := by have := HT.out; rwa [Lk.pairs_end _ _ _ _ rfl] at this
          clear HT hrg
          go_wp2
          go_roundw
          case rel =>
            have e : bvals (bb :: st).reverse = bvals st.reverse ++ [.bool bb] := by simp [bvals]
            have ho := HOWN.out
            rw [e] at ho
            have hp := ownsRow_pop (by simp [bvals]) ho
            exact ⟨k + 1, st, by omega, by omega, by go_num, hp.alloc _, HT2.out, HBEL.out.alloc HBEL.out.size _⟩
          case measure => simp [intOf]; omega
      · have HT2 : Hid (decide (Lk.pairs st ((opsOf R).drop (k + 1)) = some []) = S) := by have := HT.out; rwa [Lk.pairs_do _ _ _ h11 h12 h13] at this
        have e11 : (op == 11) = false := by simpa using h11
        have e12 : (op == 12) = false := by simpa using h12
        have e13 : (op == 13) = false := by simpa using h13
        obtain ⟨va, vc, rfl⟩ := owns_form HOWN.out
        clear HT h11 h12 h13
        go_wp2
        go_roundw
        case rel => exact ⟨k + 1, st, by omega, by omega, by go_num, owns_below HOWN.out (below_alloc _ _), HT2.out, HBEL.out.trans ((below_alloc _ _).mono HBEL.out.size)⟩
        case measure => simp [intOf]; omega
    · have hke : k = n := by omega
      have hkn : ¬ (k : Int) < n := by omega
      rw [List.drop_eq_nil_of_le (by rw [opsOf_length, HN.out]; omega)] at ht
      obtain ⟨va, vc, rfl⟩ := owns_form hown
      have HT : Hid (decide (st = []) = S) := hide (by rw [← ht]; simp [Lk.pairs])
      clear ht
      have HBEL := hide hbel
      clear hbel hown
      cases st with
      | nil =>
        go_wp2
        go_ret
        exact ⟨by rw [← HT.out]; rfl, HBEL.out⟩
      | cons bb st =>
        have hl0 : ((((bb :: st).length : Nat) : Int) == 0) = false := by simp; omega
        generalize (bb :: st).length = sl at *
        go_wp2
        go_ret
        exact ⟨by rw [← HT.out]; simp, HBEL.out⟩

theorem HasOps.forms {w : World} {v : Value} {R : List (Lk.Op × Value)} (h : HasOps w v R) : ∀ p ∈ R, ∃ a n c, p.2 = .slice a n c := fun p hp => by
  obtain ⟨a, cap, e, _⟩ := (h.2 p hp).1.shape
  exact ⟨a, _, cap, e⟩
theorem inPairs_any (v : Value) (R : List (Lk.Op × Value)) (w : World) (h : HasOps w v R) (hm : R.length ≤ 60) :
    Calls Tryz.prog 50 #[v] w fun e w' => e = .returned (.bool (decide (Lk.pairs [] (opsOf R) = some []))) ∧ Below w.heap.size w w' := by
  rcases h.1 with ⟨a, cap, rfl, rfl⟩ | ⟨b, off, cap, rfl, h0, h1, h2, h3, hc⟩
  · go_enter Tryz.func50, Tryz.ntmps50
    go_wp2
    refine wp_loop_rounds 1 ?_
    rw [rounds_succ]
    go_wp2
    go_ret
    exact ⟨rfl, Below.refl _ _⟩
  · exact inPairs_some R b off cap w h0 hm hc h3 h.forms

theorem errV_one : errV 1 = .iface 60 (.int .i64 1) := rfl
theorem errV_two' : errV 2 = .iface 60 (.int .i64 2) := rfl
theorem errV_four' : errV 4 = .iface 60 (.int .i64 4) := rfl

set_option maxRecDepth 100000 in
set_option maxHeartbeats 4000000 in
theorem check_some (R : List (Lk.Op × Value)) (b off cap : Nat) (w : World) (h0 : 0 < R.length) (hm : R.length ≤ 60) (h : HasOps w (.slice (some ⟨b, off, none⟩) R.length cap) R) (hr : w.rangeAt b off (opCells R)) (hb : b < w.heap.size) :
    Calls Tryz.prog 28 #[.slice (some ⟨b, off, none⟩) R.length cap] w fun e w' => e = .returned (errV (Lk.check (opsOf R))) ∧ Below w.heap.size w w' := by
  have HR := hide hr
  have HBW := hide hb
  have HH := hide h
  clear hr hb h0 h
  have HIP : Hid (∀ W, Below w.heap.size w W → Calls Tryz.prog 50 #[.slice (some ⟨b, off, none⟩) R.length cap] W fun e w' => e = .returned (.bool (decide (Lk.pairs [] (opsOf R) = some []))) ∧ Below W.heap.size W w') := fun W hW => inPairs_any _ R W (HH.out.below hW) hm
  generalize hS : Lk.check (opsOf R) = S
  have hS2 : (if Lk.opsFault (opsOf R) = 0 then (if Lk.pairs [] (opsOf R) = some [] then 0 else 1) else Lk.opsFault (opsOf R)) = S := by
    have hl : ¬ 60 < (opsOf R).length := by rw [opsOf_length]; omega
    rw [← hS]; unfold Lk.check; rw [if_neg hl]
  have HS := hide hS2
  clear hS hS2
  generalize hn : R.length = n at *
  have HN := hide hn
  clear hn
  go_enter Tryz.func28, Tryz.ntmps28
  go_wp2
  go_loopw [12] (fun i wr => ∃ (k : Nat), k ≤ n ∧ i = .int .i64 k ∧ Lk.opsFault ((opsOf R).drop k) = Lk.opsFault (opsOf R) ∧ Below w.heap.size w wr) (fun i _ => n - (intOf i).toNat)
  case atStart => exact ⟨0, by omega, rfl, by simp, Below.refl _ _⟩
  case round =>
    obtain ⟨k, hk, rfl, ht, hbel⟩ := hrel
    have HBEL := hide hbel
    by_cases hlt : k < n
    · have hkR : k < R.length := by rw [HN.out]; exact hlt
      obtain ⟨hc0, hc1, hc2⟩ := range_op (range_keep HR.out hbel HBW.out) k hkR
      obtain ⟨oa, oc, hoe, hom, hol⟩ := (HH.out.2 R[k] (List.getElem_mem hkR)).1.shape
      rw [hoe] at hc2
      have HC : Hid (∀ W, Calls Tryz.prog 49 #[opVal R[k].1 (.slice oa R[k].1.data.length oc)] W fun e w' => e = .returned (errV (Lk.opFault R[k].1)) ∧ Below W.heap.size W w') := fun W => checkOp_any R[k].1 oa _ oc W rfl hol
      rw [opsOf_drop R k hkR, Lk.opsFault] at ht
      clear hoe hbel hom hol
      unfold opVal at HC
      generalize Lk.opFault R[k].1 = F at *
      generalize R[k].1.data.length = ol at *
      generalize R[k].1.op = op at *
      generalize R[k].1.n = on at *
      by_cases hF : F = 0
      · subst hF
        rw [if_pos rfl] at ht
        have HT := hide ht
        clear ht
        go_wp2_with fail
        refine (HC.out _).mono ?_
        rintro e w1 ⟨rfl, hb1⟩
        have e0 : errV 0 = .nilIface := rfl
        rw [e0]
        have HB1 := hide (HBEL.out.trans ((below_alloc _ _).mono HBEL.out.size) |>.trans (hb1.mono (by simp; exact Nat.le_succ_of_le HBEL.out.size)))
        clear hb1
        go_wp2
        go_roundw
        case rel => exact ⟨k + 1, by omega, by go_num, HT.out, HB1.out⟩
        case measure => simp [intOf]; omega
      · rw [if_neg hF] at ht
        have HT : Hid (F = S) := hide (by rw [← HS.out, ← ht, if_neg hF])
        have hE : errV F = .iface 60 (.int .i64 F) := by unfold errV; rw [if_neg hF]
        clear ht
        go_wp2_with fail
        refine (HC.out _).mono ?_
        rintro e w1 ⟨rfl, hb1⟩
        rw [hE]
        have HB1 := hide (HBEL.out.trans ((below_alloc _ _).mono HBEL.out.size) |>.trans (hb1.mono (by simp; exact Nat.le_succ_of_le HBEL.out.size)))
        clear hb1 hF
        go_wp2
        go_ret
        exact ⟨by rw [← HT.out, hE]; rfl, HB1.out⟩
    · have hke : k = n := by omega
      have hkn : ¬ (k : Int) < n := by omega
      rw [List.drop_eq_nil_of_le (by rw [opsOf_length, HN.out]; omega)] at ht
      have h00 : Lk.opsFault (opsOf R) = 0 := by rw [← ht]; rfl
      have hs := HS.out
      rw [if_pos h00] at hs
      clear ht h00 hbel
      by_cases hp : Lk.pairs [] (opsOf R) = some []
      · rw [if_pos hp] at hs
        have HC := hide (HIP.out _ HBEL.out)
        rw [decide_eq_true hp] at HC
        clear hp
        go_wp2_with fail
        refine HC.out.mono ?_
        rintro e w1 ⟨rfl, hb1⟩
        have HB1 := hide (HBEL.out.trans (hb1.mono HBEL.out.size))
        clear hb1
        go_wp2
        go_ret
        exact ⟨by rw [← hs]; rfl, HB1.out⟩
      · rw [if_neg hp] at hs
        have HC := hide (HIP.out _ HBEL.out)
        rw [decide_eq_false hp] at HC
        clear hp
        go_wp2_with fail
        refine HC.out.mono ?_
        rintro e w1 ⟨rfl, hb1⟩
        have HB1 := hide (HBEL.out.trans (hb1.mono HBEL.out.size))
        clear hb1
        go_wp2
        go_ret
        exact ⟨by rw [← hs]; rfl, HB1.out⟩
theorem check_any (v : Value) (R : List (Lk.Op × Value)) (w : World) (h : HasOps w v R) :
    Calls Tryz.prog 28 #[v] w fun e w' => e = .returned (errV (Lk.check (opsOf R))) ∧ Below w.heap.size w w' := by
  rcases h.1 with ⟨a, cap, rfl, rfl⟩ | ⟨b, off, cap, rfl, h0, h1, h2, h3, hc⟩
  · have e : errV (Lk.check (opsOf [])) = .nilIface := rfl
    rw [e]
    have HIP := hide (inPairs_any (.slice a 0 cap) [] w h (by simp))
    have e2 : decide (Lk.pairs [] (opsOf []) = some []) = true := by decide
    rw [e2] at HIP
    go_enter Tryz.func28, Tryz.ntmps28
    go_wp2
    refine wp_loop_rounds 1 ?_
    rw [rounds_succ]
    go_wp2_with fail
    refine HIP.out.mono ?_
    rintro e w1 ⟨rfl, hb1⟩
    go_wp2
    go_ret
    exact ⟨rfl, hb1⟩
  · by_cases hm : R.length ≤ 60
    · exact check_some R b off cap w h0 hm h hc h3
    · have e : Lk.check (opsOf R) = 4 := by unfold Lk.check; rw [if_pos (by rw [opsOf_length]; omega)]
      rw [e, errV_four']
      have hi : (60 : Int) < (R.length : Int) := by omega
      unfold maxLen at h2
      clear hm e hc h
      generalize R.length = n at *
      go_enter Tryz.func28, Tryz.ntmps28
      go_wp2
      go_ret
      exact ⟨rfl, Below.refl _ _⟩
end Go.Proofs.YtgkpbglllnmbeaaGreatDoor

/- A lock that is being opened: what is at hand, and how it is put and taken. -/
namespace Go.Proofs.YtgkpbglllnmbeaaGreatDoor
open Go.RowKit
set_option linter.unusedVariables false

/-- What a run breaks off with. -/
def pan (c : Int) : List PanicEntry := [{ v := .iface (if c = 4 then 114 else if c = 8 then 115 else 160) (.agg #[]), recovered := false }]

/-- Bytes that lie in a block of which X holds. -/
def HasX (w : World) (X : Nat → Prop) (v : Value) (l : List Int) : Prop :=
  (∃ a cap, v = .slice a 0 cap ∧ l = [] ∧ cap ≤ maxLen ∧ (a = none → cap = 0)) ∨
  ∃ b off cap, v = .slice (some ⟨b, off, none⟩) l.length cap ∧ 0 < l.length ∧ l.length ≤ cap ∧ cap ≤ maxLen ∧ X b ∧ ∀ j, j < l.length → w.cell? ⟨b, off + j, none⟩ = some (.int .u8 (l.getD j 0))
theorem HasX.has {w : World} {X : Nat → Prop} {v : Value} {l : List Int} (h : HasX w X v l) : Has w v l := by
  rcases h with h | ⟨b, off, cap, h1, h2, h3, h4, _, h5⟩
  · exact .inl h
  · exact .inr ⟨b, off, cap, h1, h2, h3, h4, h5⟩
theorem Has.x {w : World} {X : Nat → Prop} {v : Value} {l : List Int} (h : Has w v l) (hX : ∀ b, b < w.heap.size → X b) : HasX w X v l := by
  rcases h with h | ⟨b, off, cap, h1, h2, h3, h4, h5⟩
  · exact .inl h
  · exact .inr ⟨b, off, cap, h1, h2, h3, h4, hX b (World.block_lt_of_cell? w _ (h5 0 h2)), h5⟩
theorem HasX.move {w w' : World} {X Y : Nat → Prop} {v : Value} {l : List Int} (h : HasX w X v l) (hb : ∀ b, b < w.heap.size → X b → w'.heap[b]? = w.heap[b]? ∧ Y b) : HasX w' Y v l := by
  rcases h with h | ⟨b, off, cap, h1, h2, h3, h4, h5, h6⟩
  · exact .inl h
  · have hlt : b < w.heap.size := World.block_lt_of_cell? w _ (h6 0 h2)
    obtain ⟨e, y⟩ := hb b hlt h5
    exact .inr ⟨b, off, cap, h1, h2, h3, h4, y, fun j hj => by rw [World.cell?_of_block (a := ⟨b, off + j, none⟩) e]; exact h6 j hj⟩

def handOf (w : World) (R : Nat) : Value := (w.cell? ⟨R, 0, none⟩).getD .nilIface
/-- Bytes that lie neither in the run itself nor in the row of what is at hand. -/
def HasH (R : Nat) (w : World) (v : Value) (l : List Int) : Prop := HasX w (fun b => b ≠ R ∧ (handOf w R).ownBlock ≠ some b) v l
def runCells (v : Value) (m : List Int) (h : Int) : List Value := v :: (vals m ++ [.int .i64 h])
/-- Bytes, and not too many. -/
def Sm (l : List Int) : Prop := Sz.Byt l ∧ l.length ≤ 3000
/-- The run: what is at hand, the top one last. -/
structure St (w : World) (R base : Nat) (m : List Int) (h : Int) (K : List (List Int × Value)) : Prop where
  is : Is w R (runCells (handOf w R) m h) 118
  own : w.ownsRow base 72 1 (handOf w R) K.length (K.map Prod.snd)
  apart : (handOf w R).ownBlock ≠ some R
  few : K.length ≤ 30
  mlen : m.length = 32
  mbyt : Sz.Byt m
  lay : base ≤ R
  has : ∀ p ∈ K, HasH R w p.2 p.1 ∧ Sm p.1
def Keep (R : Nat) (w w' : World) : Prop := ∀ v l, HasH R w v l → HasH R w' v l
theorem Keep.refl (R : Nat) (w : World) : Keep R w w := fun _ _ h => h
theorem Keep.trans {R : Nat} {a b c : World} (h : Keep R a b) (k : Keep R b c) : Keep R a c := fun v l x => k v l (h v l x)

theorem handOf_below {w w' : World} {R B : Nat} (hb : Below B w w') (h : R < B) : handOf w' R = handOf w R := by
  unfold handOf; rw [hb.cell (p := ⟨R, 0, none⟩) h]
theorem Keep.below {w w' : World} {R : Nat} (hb : Below w.heap.size w w') (h : R < w.heap.size) : Keep R w w' := fun v l x => by
  unfold HasH at x ⊢
  rw [handOf_below hb h]
  exact x.move fun b hlt hX => ⟨hb.block b hlt, hX⟩
theorem St.below {w w' : World} {R base : Nat} {m : List Int} {h : Int} {K : List (List Int × Value)} (s : St w R base m h K) (hb : Below w.heap.size w w') : St w' R base m h K := by
  have e := handOf_below hb s.is.lt
  exact { is := by rw [e]; exact s.is.below hb s.is.lt, own := by rw [e]; exact owns_below s.own hb, apart := by rw [e]; exact s.apart, few := s.few, mlen := s.mlen, mbyt := s.mbyt, lay := s.lay,
          has := fun p hp => ⟨Keep.below hb s.is.lt _ _ (s.has p hp).1, (s.has p hp).2⟩ }
theorem St.cell {w : World} {R base : Nat} {m : List Int} {h : Int} {K : List (List Int × Value)} (s : St w R base m h K) : w.cell? ⟨R, 0, none⟩ = some (handOf w R) := by
  rw [s.is.cell]; rfl
theorem St.form {w : World} {R base : Nat} {m : List Int} {h : Int} {K : List (List Int × Value)} (s : St w R base m h K) : ∃ a cap, handOf w R = .slice a K.length cap := owns_form s.own

theorem must_true (r : Value) (w : World) : Calls Tryz.prog 73 #[r, .bool true] w fun e w' => e = .returned (.tuple #[]) ∧ w = w' := by
  go_enter Tryz.func73, Tryz.ntmps73
  go_wp2
  first | go_end0 | skip
  exact ⟨rfl, rfl⟩
theorem must_false (r : Value) (w : World) : Calls Tryz.prog 73 #[r, .bool false] w fun e w' => e = .panicked (pan 7) ∧ w = w' := by
  go_enter Tryz.func73, Tryz.ntmps73
  go_wp2
  exact ⟨rfl, rfl, rfl⟩

theorem put_full (R base : Nat) (m : List Int) (h : Int) (K : List (List Int × Value)) (v : Value) (w : World) (s : St w R base m h K) (hk : K.length = 30) :
    Calls Tryz.prog 52 #[.pointer (some ⟨R, 0, none⟩), v] w fun e w' => e = .panicked (pan 4) ∧ w = w' := by
  obtain ⟨a, cap, e⟩ := s.form
  have hc := s.cell
  rw [e, hk] at hc
  clear s e hk
  go_enter Tryz.func52, Tryz.ntmps52
  go_wp2
  exact ⟨rfl, rfl, rfl⟩

theorem elem_row : Elem 45 72 1 := elem_of (.slice none 0 0) 24 Tryz.underlying45 (by kernel_rfl) (by omega) rfl (by omega)

/-- What a store of a new row of what is at hand leaves. -/
theorem hand_set {w w' : World} {R : Nat} {v : Value} {m : List Int} {h : Int} {x : Value} (hi : Is w R (runCells v m h) 118) (hw : w' = w.setCell ⟨R, 0, none⟩ x) : Is w' R (runCells x m h) 118 ∧ handOf w' R = x := by
  subst hw
  have h2 := hi.set 0 x
  refine ⟨h2, ?_⟩
  unfold handOf
  rw [h2.cell]; rfl

set_option maxRecDepth 100000 in
set_option maxHeartbeats 1600000 in
theorem put_ok (R base : Nat) (m : List Int) (h : Int) (K : List (List Int × Value)) (x : List Int) (v : Value) (w : World) (s : St w R base m h K) (hk : K.length < 30) (hx : HasH R w v x) (hxb : Sm x) :
    Calls Tryz.prog 52 #[.pointer (some ⟨R, 0, none⟩), v] w fun e w' => e = .returned (.tuple #[]) ∧ St w' R base m h (K ++ [(x, v)]) ∧ Keep R w w' ∧ Below base w w' := by
  obtain ⟨xa, xc, hxe, _, _⟩ := hx.has.shape
  obtain ⟨a, cap, e⟩ := s.form
  have hc := s.cell
  rw [e] at hc
  have S := hide s
  have HX := hide hx
  have HXB := hide hxb
  have HE := hide e
  have hne : ¬ R = w.heap.size := by have := s.is.lt; omega
  have hk30 : ¬ (K.length : Int) = 30 := by omega
  have HOWN : Hid (w.ownsRow base 72 1 (.slice a K.length cap) K.length (K.map Prod.snd)) := by have := s.own; rwa [e] at this
  have HAP : Hid ((Value.slice a K.length cap).ownBlock ≠ some R) := by have := s.apart; rwa [e] at this
  have HBA : Hid (base ≤ (w.alloc (.cells #[v] 72)).heap.size) := hide (by have h1 := s.lay; have h2 := s.is.lt; simp; omega)
  have HVE := hide hxe
  have hvo : v.oneCell' = true := by rw [hxe]; rfl
  have HVO := hide hvo
  clear s hx hxb e
  generalize x.length = xl at *
  subst hxe
  clear hvo
  go_enter Tryz.func52, Tryz.ntmps52
  go_wp2_with (at_builtin; refine wpList_append_gen _ 45 72 1 rfl _ _ rfl base (.slice a K.length cap) K.length (K.map Prod.snd) rfl w.heap.size 0 1 1 [.slice xa xl xc] rfl (owns_below HOWN.out (below_alloc w _)) elem_row (by omega) rfl (is_range (Is.new w [.slice xa xl xc] 72)) (by simpa using HVO.out) (by omega) HBA.out ?_; intro v5 w5 ho5 hg5 hs5; obtain ⟨va5, vc5, rfl⟩ := owns_form ho5; have hcR := hg5.cell (a := ⟨R, 0, none⟩) (v := .slice a K.length cap) (by rw [World.cell?_alloc_lt _ _ _ (by simpa using S.out.is.lt)]; exact hc) (fun e => HAP.out e.symm); have hfR : w5.frozen? ⟨R, 0, none⟩ = false := by (rw [World.frozen?_of_block (hg5.block R (by have := S.out.is.lt; simp; omega) (fun e => HAP.out e.symm)), World.frozen?_alloc_old _ _ _ hne]; exact S.out.is.frozen 0))
  go_end0
  have hlt := S.out.is.lt
  have hiA : Is (w.alloc (.cells #[.slice xa xl xc] 72)) R (runCells (handOf w R) m h) 118 := S.out.is.alloc _
  have hi5 : Is w5 R (runCells (handOf w R) m h) 118 := by
    unfold Is; rw [hg5.block R (by simp; omega) (fun e => HAP.out e.symm)]; exact hiA
  obtain ⟨hi6, hh6⟩ := hand_set (x := .slice va5 (K.length + 1) vc5) hi5 rfl
  have hold : ∀ b, b < w.heap.size → b ≠ R → (handOf w R).ownBlock ≠ some b → (w5.setCell ⟨R, 0, none⟩ (.slice va5 (K.length + 1) vc5)).heap[b]? = w.heap[b]? := fun b hb h1 h2 => by
    rw [HE.out] at h2
    rw [Below.heap_setCell _ _ _ _ h1, hg5.block b (by simp; omega) (fun e => h2 e.symm), Below.heap_alloc _ _ _ hb]
  have hnew : ∀ b, b < w.heap.size → b ≠ R → (handOf w R).ownBlock ≠ some b → (Value.slice va5 (K.length + 1) vc5).ownBlock ≠ some b := fun b hb h1 h2 e => by
    rw [HE.out] at h2
    rcases hs5 with h | h
    · rw [h] at e; exact h2 e
    · rw [h] at e; injection e with e; simp at e; omega
  have hkeep : Keep R w (w5.setCell ⟨R, 0, none⟩ (.slice va5 (K.length + 1) vc5)) := fun v' l' hv' => by
    unfold HasH at hv' ⊢
    rw [hh6]
    exact hv'.move fun b hb hX => ⟨hold b hb hX.1 hX.2, hX.1, hnew b hb hX.1 hX.2⟩
  have hsz : w.heap.size ≤ w5.heap.size := Nat.le_trans (below_alloc w (.cells #[.slice xa xl xc] 72)).size hg5.size
  refine ⟨rfl, ?_, hkeep, ?_⟩
  · refine { is := by rw [hh6]; exact hi6, own := ?_, apart := ?_, few := by simp; omega, mlen := S.out.mlen, mbyt := S.out.mbyt, lay := S.out.lay, has := ?_ }
    · rw [hh6]
      have hap : (Value.slice va5 (K.length + 1) vc5).ownBlock ≠ some R := fun e => by
        rcases hs5 with h | h
        · rw [h] at e; exact HAP.out e
        · rw [h] at e; injection e with e; simp at e; omega
      have := ownsRow_setCell_other ho5 (a := ⟨R, 0, none⟩) hap (.slice va5 (K.length + 1) vc5)
      simpa using this
    · rw [hh6]
      intro e
      rcases hs5 with h | h
      · rw [h] at e; exact HAP.out e
      · rw [h] at e; injection e with e; simp at e; omega
    · intro p hp
      rcases List.mem_append.1 hp with hp | hp
      · exact ⟨hkeep _ _ (S.out.has p hp).1, (S.out.has p hp).2⟩
      · obtain rfl := List.mem_singleton.1 hp
        exact ⟨hkeep _ _ HX.out, HXB.out⟩
  · have hb5 : Below base w w5 := ((Below.refl base w).alloc (Nat.le_trans S.out.lay (Nat.le_of_lt hlt)) _).grown hg5 HBA.out (fun q hq => (World.ownsRow.lt HOWN.out q hq).1)
    exact hb5.setCell S.out.lay _
end Go.Proofs.YtgkpbglllnmbeaaGreatDoor

/- What is at hand is taken, and told. -/
namespace Go.Proofs.YtgkpbglllnmbeaaGreatDoor
open Go.RowKit
set_option linter.unusedVariables false

set_option maxRecDepth 100000 in
set_option maxHeartbeats 1600000 in
theorem takeSome_few (R base : Nat) (m : List Int) (h : Int) (K : List (List Int × Value)) (n : Nat) (w : World) (s : St w R base m h K) (hk : K.length < n) (hn : n ≤ 100) :
    Calls Tryz.prog 91 #[.pointer (some ⟨R, 0, none⟩), .int .i64 n] w fun e w' => e = .panicked (pan 7) ∧ w = w' := by
  obtain ⟨a, cap, e⟩ := s.form
  have hc := s.cell
  rw [e] at hc
  have h30 := s.few
  clear s e
  generalize K.length = k at *
  obtain ⟨z, hz⟩ : ∃ z : Int, (k : Int) - (n : Int) = z := ⟨_, rfl⟩
  have hz0 : ¬ 0 ≤ z := by omega
  have hz1 : -100 ≤ z := by omega
  have hz2 : z ≤ 100 := by omega
  go_enter Tryz.func91, Tryz.ntmps91
  go_wp2_with fail
  refine (must_false _ w).mono ?_
  rintro e w1 ⟨rfl, rfl⟩
  exact ⟨rfl, rfl, rfl⟩

theorem owns_cut {w : World} {base : Nat} {e : TypeId} {size g cap n k : Nat} {xs : List Value} (hk : k ≤ n)
    (h : w.ownsRow base e size (.slice (some ⟨g, 0, none⟩) n cap) n xs) : w.ownsRow base e size (.slice (some ⟨g, 0, none⟩) k cap) k (xs.take (k * size)) := by
  obtain ⟨h1, h2⟩ := h
  rcases h2 with ⟨h0, _⟩ | ⟨g', cap', cur, hv, hg, hh, hn, hcap, hsz, htake⟩
  · cases h0
  · cases hv
    have hle : k * size ≤ n * size := Nat.mul_le_mul_right _ hk
    refine ⟨by rw [List.length_take, h1]; omega, .inr ⟨g, cap, cur, rfl, hg, hh, by omega, hcap, hsz, ?_⟩⟩
    rw [← htake, List.take_take, Nat.min_eq_left hle]

set_option maxRecDepth 100000 in
set_option maxHeartbeats 1600000 in
theorem takeSome_ok (R base : Nat) (m : List Int) (h : Int) (K : List (List Int × Value)) (n : Nat) (w : World) (s : St w R base m h K) (hk : n ≤ K.length) (hn : 1 ≤ n) :
    Calls Tryz.prog 91 #[.pointer (some ⟨R, 0, none⟩), .int .i64 n] w fun e w' => ∃ g c, e = .returned (.slice (some ⟨g, K.length - n, none⟩) n c) ∧ g < w'.heap.size ∧ n ≤ c ∧ c ≤ maxLen ∧ w'.rangeAt g (K.length - n) ((K.drop (K.length - n)).map Prod.snd) ∧ St w' R base m h (K.take (K.length - n)) ∧ (∀ p ∈ K.drop (K.length - n), HasH R w' p.2 p.1) ∧ Keep R w w' ∧ Below base w w' ∧ ∀ b, b ≠ R → w'.heap[b]? = w.heap[b]? := by
  obtain ⟨g, cap, e, hg1, hg2, hg3, hg4, hrg⟩ := owns_some s.own (by omega)
  have hc := s.cell
  rw [e] at hc
  have h30 := s.few
  have S := hide s
  have HE := hide e
  have HRG := hide hrg
  have hap : g ≠ R := fun h => by have := s.apart; rw [e, h] at this; exact this rfl
  have hfz : w.frozen? ⟨R, 0, none⟩ = false := s.is.frozen 0
  have HL := hide s.lay
  clear s e hrg
  generalize hkl : K.length = k at *
  have HK := hide hkl
  clear hkl
  have hge : decide ((0 : Int) ≤ (k : Int) - (n : Int)) = true := decide_eq_true (by omega)
  obtain ⟨l, rfl⟩ : ∃ l, k = l + n := ⟨k - n, by omega⟩
  have e1 : ((l + n : Nat) : Int) - (n : Int) = (l : Int) := by omega
  have e2 : l + n - n = l := by omega
  unfold maxLen at hg4
  have hcl : ¬ cap = l := by omega
  have hlc : (l : Int) ≤ (cap : Int) := by omega
  rw [e2]
  go_enter Tryz.func91, Tryz.ntmps91
  go_wp2_with fail
  refine (must_true _ w).mono ?_
  rintro e w1 ⟨rfl, rfl⟩
  go_wp2
  go_ret
  have hst := hand_set (x := .slice (some ⟨g, 0, none⟩) l cap) S.out.is rfl
  have hown := S.out.own
  rw [HE.out, HK.out] at hown
  have hblk : ∀ b, b ≠ R → (w.setCell ⟨R, 0, none⟩ (.slice (some ⟨g, 0, none⟩) l cap)).heap[b]? = w.heap[b]? := fun b hb => Below.heap_setCell _ _ _ _ hb
  have hkeep : Keep R w (w.setCell ⟨R, 0, none⟩ (.slice (some ⟨g, 0, none⟩) l cap)) := fun v' l' hv' => by
    unfold HasH at hv' ⊢
    rw [hst.2]
    rw [HE.out] at hv'
    exact hv'.move fun b hb hX => ⟨hblk b hX.1, hX.1, hX.2⟩
  refine ⟨g, cap - l, rfl, by simpa [World.setCell] using hg2, by omega, by unfold maxLen; omega, ?_, ?_, ?_, hkeep, ?_, hblk⟩
  · intro j u hu
    rw [World.cell?_of_block (a := ⟨g, l + j, none⟩) (hblk g hap)]
    have := HRG.out (l + j) u (by rw [List.map_drop, List.getElem?_drop] at hu; exact hu)
    rwa [Nat.zero_add] at this
  · refine { is := by rw [hst.2]; exact hst.1, own := ?_, apart := ?_, few := by rw [List.length_take, HK.out]; omega, mlen := S.out.mlen, mbyt := S.out.mbyt, lay := S.out.lay, has := fun p hp => ⟨hkeep _ _ (S.out.has p (List.mem_of_mem_take hp)).1, (S.out.has p (List.mem_of_mem_take hp)).2⟩ }
    · rw [hst.2]
      have h1 := owns_cut (k := l) (by omega) hown
      have h2 := ownsRow_setCell_other h1 (a := ⟨R, 0, none⟩) (by intro e; injection e with e; exact hap e) (.slice (some ⟨g, 0, none⟩) l cap)
      have e3 : (K.take l).length = l := by rw [List.length_take, HK.out]; omega
      rw [e3, List.map_take]
      rwa [Nat.mul_one] at h2
    · rw [hst.2]; intro e; injection e with e; exact hap e
  · exact fun p hp => hkeep _ _ (S.out.has p (List.mem_of_mem_drop hp)).1
  · exact (Below.refl _ _).setCell HL.out _

theorem take_none (R base : Nat) (m : List Int) (h : Int) (w : World) (s : St w R base m h []) :
    Calls Tryz.prog 70 #[.pointer (some ⟨R, 0, none⟩)] w fun e w' => e = .panicked (pan 7) ∧ w = w' := by
  have HT := hide (takeSome_few R base m h [] 1 w s (by simp) (by omega))
  simp only [Int.cast_ofNat_Int] at HT
  clear s
  go_enter Tryz.func70, Tryz.ntmps70
  go_wp2_with fail
  refine HT.out.mono ?_
  rintro e w1 ⟨rfl, rfl⟩
  exact ⟨rfl, rfl, rfl⟩
set_option maxRecDepth 100000 in
set_option maxHeartbeats 800000 in
theorem take_ok (R base : Nat) (m : List Int) (h : Int) (K : List (List Int × Value)) (p : List Int × Value) (w : World) (s : St w R base m h (K ++ [p])) :
    Calls Tryz.prog 70 #[.pointer (some ⟨R, 0, none⟩)] w fun e w' => e = .returned p.2 ∧ St w' R base m h K ∧ HasH R w' p.2 p.1 ∧ Keep R w w' ∧ Below base w w' ∧ ∀ b, b ≠ R → w'.heap[b]? = w.heap[b]? := by
  have HT := hide (takeSome_ok R base m h (K ++ [p]) 1 w s (by simp) (by omega))
  have e1 : (K ++ [p]).length - 1 = K.length := by simp
  rw [e1, List.drop_left, List.take_left] at HT
  have e2 : ((1 : Nat) : Int) = 1 := rfl
  rw [e2] at HT
  obtain ⟨pa, pc, hpe, _, _⟩ := (s.has p (by simp)).1.has.shape
  obtain ⟨px, pv⟩ := p
  simp only at hpe ⊢
  subst hpe
  clear s
  go_enter Tryz.func70, Tryz.ntmps70
  go_wp2_with fail
  refine HT.out.mono ?_
  rintro e w1 ⟨g, c, rfl, hg, hc1, hc2, hr, hs, hh, hk, hb, hq⟩
  have hcell : w1.cell? ⟨g, K.length, none⟩ = some (.slice pa px.length pc) := hr 0 _ (by simp)
  have HS := hide hs
  have HH := hide (hh _ (List.mem_singleton.2 rfl))
  have HKB := hide (And.intro hk (And.intro hb hq))
  clear hs hh hk hb hr hq
  unfold maxLen at hc2
  go_wp2
  go_ret
  exact ⟨rfl, HS.out, HH.out, HKB.out.1, HKB.out.2.1, HKB.out.2.2⟩

theorem has_one (R base : Nat) (w : World) (hl : R < w.heap.size) (ho : (handOf w R).ownBlock ≠ some w.heap.size) (x : Int) : HasH R (w.alloc (.cells #[.int .u8 x] 5)) (.slice (some ⟨w.heap.size, 0, none⟩) 1 1) [x] := by
  refine .inr ⟨w.heap.size, 0, 1, rfl, by simp, by simp, by unfold maxLen; omega, ⟨by omega, ?_⟩, fun j hj => ?_⟩
  · rw [handOf_below (below_alloc w _) hl]; exact ho
  · obtain rfl : j = 0 := by simp at hj; omega
    simp
/-- What is told. -/
def toldV (d : Bool) : List Int := if d then [1] else []
/-- One thing more is at hand. -/
def Puts (R base : Nat) (m : List Int) (h : Int) (K : List (List Int × Value)) (x : List Int) (w w' : World) : Prop := ∃ v, St w' R base m h (K ++ [(x, v)]) ∧ Keep R w w' ∧ Below base w w'
theorem tell_ok (R base : Nat) (m : List Int) (h : Int) (K : List (List Int × Value)) (b : Bool) (w : World) (s : St w R base m h K) (hk : K.length < 30) :
    Calls Tryz.prog 92 #[.pointer (some ⟨R, 0, none⟩), .bool b] w fun e w' => e = .returned (.tuple #[]) ∧ Puts R base m h K (toldV b) w w' := by
  have hlt := s.is.lt
  have hlay := s.lay
  cases b with
  | true =>
    have ho : (handOf w R).ownBlock ≠ some w.heap.size := fun e => by have := World.ownsRow.lt s.own _ e; omega
    have hbl := below_alloc w (.cells #[.int .u8 1] 5)
    have HP := hide (put_ok R base m h K [1] (.slice (some ⟨w.heap.size, 0, none⟩) 1 1) _ (s.below hbl) hk (has_one R base w hlt ho 1) ⟨by intro x hx; simp at hx; omega, by simp⟩)
    have HKB := hide (Keep.below hbl hlt)
    have HBB := hide (hbl.mono (show base ≤ w.heap.size by omega))
    clear s ho hbl
    go_enter Tryz.func92, Tryz.ntmps92
    go_wp2_with fail
    refine HP.out.mono ?_
    rintro e w1 ⟨rfl, h1, h2, h3⟩
    have H := hide (And.intro h1 (And.intro h2 h3))
    clear h1 h2 h3
    go_wp2
    go_end0
    exact ⟨rfl, _, H.out.1, HKB.out.trans H.out.2.1, HBB.out.trans H.out.2.2⟩
  | false =>
    have HP := hide (put_ok R base m h K [] (.slice none 0 0) _ s hk (.inl ⟨none, 0, rfl, rfl, by unfold maxLen; omega, fun _ => rfl⟩) ⟨Sz.Byt.nil, by simp⟩)
    clear s
    go_enter Tryz.func92, Tryz.ntmps92
    go_wp2_with fail
    refine HP.out.mono ?_
    rintro e w1 ⟨rfl, h1, h2, h3⟩
    have H := hide (And.intro h1 (And.intro h2 h3))
    clear h1 h2 h3
    go_wp2
    go_end0
    exact ⟨rfl, _, H.out⟩
end Go.Proofs.YtgkpbglllnmbeaaGreatDoor
