/- Ops in memory; what is wrong with one by itself. -/
import Derived.Test.YtkdihbgjeanjdaaDoorLkB
import Derived.Test.YtkdihbgjeanjdaaDoorAs
import Derived.Test.YtkdihbgjeanjdaaDoorShEq
import Derived.Deep.MidRow
namespace Go.Proofs.YtkdihbgjeanjdaaDoor
open Go.RowKit
set_option linter.unusedVariables false

/-- The cells of ops, each with the slice that its bytes lie in. -/
def opCells : List (Lk.Op × Value) → List Value
  | [] => []
  | p :: R => .int .i64 p.1.op :: .int .i64 p.1.n :: p.2 :: opCells R
theorem opCells_length (R : List (Lk.Op × Value)) : (opCells R).length = R.length * 3 := by
  induction R with
  | nil => rfl
  | cons p R ih => simp only [opCells, List.length_cons, ih]; omega
theorem opCells_append (R Q : List (Lk.Op × Value)) : opCells (R ++ Q) = opCells R ++ opCells Q := by
  induction R with
  | nil => rfl
  | cons p R ih => simp only [opCells, List.cons_append, ih]
theorem opCells_get (R : List (Lk.Op × Value)) : ∀ (k : Nat) (h : k < R.length), (opCells R)[k * 3]? = some (.int .i64 R[k].1.op) ∧ (opCells R)[k * 3 + 1]? = some (.int .i64 R[k].1.n) ∧ (opCells R)[k * 3 + 2]? = some R[k].2 := by
  induction R with
  | nil => intro k h; exact absurd h (by simp)
  | cons p R ih =>
    intro k h
    cases k with
    | zero => exact ⟨rfl, rfl, rfl⟩
    | succ k =>
      have := ih k (by simpa using h)
      rw [show (k + 1) * 3 = k * 3 + 1 + 1 + 1 by omega]
      exact this

/-- A slice of ops. -/
def HasOps (w : World) (v : Value) (R : List (Lk.Op × Value)) : Prop :=
  ((∃ a cap, v = .slice a 0 cap ∧ R = []) ∨ ∃ b off cap, v = .slice (some ⟨b, off, none⟩) R.length cap ∧ 0 < R.length ∧ R.length ≤ cap ∧ cap ≤ maxLen ∧ b < w.heap.size ∧ w.rangeAt b off (opCells R)) ∧
  ∀ p ∈ R, Has w p.2 p.1.data ∧ Sz.Byt p.1.data

theorem range_keep {w w' : World} {b off B : Nat} {c : List Value} (h : w.rangeAt b off c) (hb : Below B w w') (hB : b < B) : w'.rangeAt b off c := fun j v hv => by
  rw [hb.cell (p := ⟨b, off + j, none⟩) hB]; exact h j v hv
theorem is_range {w : World} {b : Nat} {c : List Value} {t : TypeId} (h : Is w b c t) : w.rangeAt b 0 c := fun j v hv => by rw [h.cell, Nat.zero_add]; exact hv
theorem HasOps.below {w w' : World} {v : Value} {R : List (Lk.Op × Value)} (h : HasOps w v R) (hb : Below w.heap.size w w') : HasOps w' v R := by
  refine ⟨?_, fun p hp => ⟨(h.2 p hp).1.below hb, (h.2 p hp).2⟩⟩
  rcases h.1 with h | ⟨b, off, cap, hv, h0, h1, h2, h3, hc⟩
  · exact .inl h
  · exact .inr ⟨b, off, cap, hv, h0, h1, h2, Nat.lt_of_lt_of_le h3 hb.size, range_keep hc hb h3⟩

def opVal (o : Lk.Op) (v : Value) : Value := .agg #[.int .i64 o.op, .int .i64 o.n, v]
theorem size_op : Sized 38 3 := by unfold Sized; kernel_rfl

theorem Has.shape {w : World} {v : Value} {l : List Int} (h : Has w v l) : ∃ a cap, v = .slice a l.length cap ∧ cap ≤ maxLen ∧ l.length ≤ maxLen := by
  rcases h with ⟨a, cap, rfl, rfl, h, _⟩ | ⟨b, off, cap, rfl, h0, h1, h2, hc⟩
  · exact ⟨a, cap, rfl, h, by simp⟩
  · exact ⟨_, cap, rfl, h2, by omega⟩

set_option maxRecDepth 100000 in
set_option maxHeartbeats 4000000 in
theorem checkOp_any (o : Lk.Op) (a : Option Addr) (len cap : Nat) (w : World) (hl : o.data.length = len) (hm : len ≤ maxLen) :
    Calls Tryd.prog 22 #[opVal o (.slice a len cap)] w fun e w' => e = .returned (errV (Lk.opFault o)) ∧ Below w.heap.size w w' := by
  obtain ⟨op, n, data⟩ := o
  have e : Lk.opFault ⟨op, n, data⟩ = Lk.opF op n len := by rw [← hl]; rfl
  rw [e]
  unfold opVal Lk.opF
  simp only []
  unfold maxLen at hm
  clear hl e data
  have HB0 := hide (below_alloc w (.cells #[.int .i64 op, .int .i64 n, .slice a len cap] 38))
  by_cases c1 : op < 1
  · rw [if_pos (.inl c1)]
    have d1 : ¬ 14 < op := by omega
    have d2 : ¬ op = 9 := by omega
    have d3 : ¬ op = 10 := by omega
    go_enter Tryd.func22, Tryd.ntmps22
    go_wp2
    go_ret
    exact ⟨rfl, below_alloc _ _⟩
  by_cases c2 : 14 < op
  · rw [if_pos (.inr c2)]
    have d2 : ¬ op = 9 := by omega
    have d3 : ¬ op = 10 := by omega
    go_enter Tryd.func22, Tryd.ntmps22
    go_wp2
    go_ret
    exact ⟨rfl, below_alloc _ _⟩
  rw [if_neg (by omega)]
  by_cases c9 : op = 9
  · subst c9
    rw [if_neg (by simp)]
    by_cases cl : 0 < len
    · rw [if_pos ⟨cl, by decide⟩]
      go_enter Tryd.func22, Tryd.ntmps22
      go_wp2
      all_goals go_ret
      all_goals exact ⟨rfl, below_alloc _ _⟩
    · obtain rfl : len = 0 := by omega
      rw [if_neg (by simp), if_neg (by omega)]
      by_cases cn : n < 1
      · rw [if_pos ⟨rfl, .inl cn⟩]
        go_enter Tryd.func22, Tryd.ntmps22
        go_wp2
        all_goals go_ret
        all_goals exact ⟨rfl, below_alloc _ _⟩
      · by_cases cm : 9 < n
        · rw [if_pos ⟨rfl, .inr cm⟩]
          have hn0 : ¬ n = 0 := by omega
          go_enter Tryd.func22, Tryd.ntmps22
          go_wp2
          all_goals go_ret
          all_goals exact ⟨rfl, below_alloc _ _⟩
        · rw [if_neg (by omega), if_neg (by omega)]
          have hn0 : ¬ n = 0 := by omega
          go_enter Tryd.func22, Tryd.ntmps22
          go_wp2
          all_goals go_ret
          all_goals exact ⟨rfl, below_alloc _ _⟩
  by_cases c10 : op = 10
  · subst c10
    rw [if_neg (by simp)]
    by_cases cl : 0 < len
    · rw [if_pos ⟨cl, by decide⟩]
      go_enter Tryd.func22, Tryd.ntmps22
      go_wp2
      all_goals go_ret
      all_goals exact ⟨rfl, below_alloc _ _⟩
    · obtain rfl : len = 0 := by omega
      rw [if_neg (by simp), if_neg (by omega), if_neg (by omega)]
      by_cases cn : n < 0
      · rw [if_pos ⟨rfl, .inl cn⟩]
        have hn0 : ¬ n = 0 := by omega
        go_enter Tryd.func22, Tryd.ntmps22
        go_wp2
        all_goals go_ret
        all_goals exact ⟨rfl, below_alloc _ _⟩
      · by_cases cm : 1073741824 < n
        · rw [if_pos ⟨rfl, .inr cm⟩]
          have hn0 : ¬ n = 0 := by omega
          go_enter Tryd.func22, Tryd.ntmps22
          go_wp2
          all_goals go_ret
          all_goals exact ⟨rfl, below_alloc _ _⟩
        · rw [if_neg (by omega)]
          go_enter Tryd.func22, Tryd.ntmps22
          go_wp2
          all_goals go_ret
          all_goals exact ⟨rfl, below_alloc _ _⟩
  by_cases cn : n = 0
  · subst cn
    rw [if_neg (by simp)]
    by_cases co : op = 1
    · subst co
      rw [if_neg (by simp)]
      by_cases cl : 300 < len
      · rw [if_pos cl]
        have cl0 : 0 < len := by omega
        go_enter Tryd.func22, Tryd.ntmps22
        go_wp2
        all_goals go_ret
        all_goals exact ⟨rfl, below_alloc _ _⟩
      · rw [if_neg cl, if_neg (by omega), if_neg (by omega)]
        go_enter Tryd.func22, Tryd.ntmps22
        go_wp2
        all_goals go_ret
        all_goals exact ⟨rfl, below_alloc _ _⟩
    · by_cases cl : 0 < len
      · rw [if_pos ⟨cl, co⟩]
        go_enter Tryd.func22, Tryd.ntmps22
        go_wp2
        all_goals go_ret
        all_goals exact ⟨rfl, below_alloc _ _⟩
      · obtain rfl : len = 0 := by omega
        rw [if_neg (by simp), if_neg (by omega), if_neg (by omega), if_neg (by omega)]
        go_enter Tryd.func22, Tryd.ntmps22
        go_wp2
        all_goals go_ret
        all_goals exact ⟨rfl, below_alloc _ _⟩
  · rw [if_pos ⟨cn, by omega⟩]
    have e9 : (op == 9) = false := by simpa using c9
    have e10 : (op == 10) = false := by simpa using c10
    have en : (n != 0) = true := by simpa using cn
    go_enter Tryd.func22, Tryd.ntmps22
    go_wp2
    all_goals go_ret
    all_goals exact ⟨rfl, below_alloc _ _⟩
end Go.Proofs.YtkdihbgjeanjdaaDoor
