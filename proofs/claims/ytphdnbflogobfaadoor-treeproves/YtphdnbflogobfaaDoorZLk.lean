/- The texts LkO, LkP, LkC, one behind the other. -/
import Derived.Test.YtphdnbflogobfaaDoorLkB
import Derived.Test.YtphdnbflogobfaaDoorAs
import Derived.Test.YtphdnbflogobfaaDoorShEq
import Derived.Deep.MidRow
import Derived.Test.YtphdnbflogobfaaDoorOwn3
import Derived.Laws.OwnMore
import Derived.WalkSmall
/- Ops in memory; what is wrong with one by itself. -/
namespace Go.Proofs.YtphdnbflogobfaaDoor
open Go.RowKit
set_option linter.unusedVariables false

/-- The cells of ops, each with the slice that its bytes lie in. -/
def opCells : List (Lk.Op × Value) → List Value
  | [] => []
  | p :: R => .int .i64 p.1.op :: .int .i64 p.1.n :: p.2 :: opCells R
theorem opCells_length (R : List (Lk.Op × Value)) : (opCells R).length = R.length * 3 := by
  induction R with
  | nil => rfl
  | cons p R ih => simp only [opCells, List.length_cons, ih]; omega
theorem opCells_append (R Q : List (Lk.Op × Value)) : opCells (R ++ Q) = opCells R ++ opCells Q := by
  induction R with
  | nil => rfl
  | cons p R ih => simp only [opCells, List.cons_append, ih]
theorem opCells_get (R : List (Lk.Op × Value)) : ∀ (k : Nat) (h : k < R.length), (opCells R)[k * 3]? = some (.int .i64 R[k].1.op) ∧ (opCells R)[k * 3 + 1]? = some (.int .i64 R[k].1.n) ∧ (opCells R)[k * 3 + 2]? = some R[k].2 := by
  induction R with
  | nil => intro k h; exact absurd h (by simp)
  | cons p R ih =>
    intro k h
    cases k with
    | zero => exact ⟨rfl, rfl, rfl⟩
    | succ k =>
      have := ih k (by simpa using h)
      rw [show (k + 1) * 3 = k * 3 + 1 + 1 + 1 by omega]
      exact this

/-- A slice of ops. -/
def HasOps (w : World) (v : Value) (R : List (Lk.Op × Value)) : Prop :=
  ((∃ a cap, v = .slice a 0 cap ∧ R = []) ∨ ∃ b off cap, v = .slice (some ⟨b, off, none⟩) R.length cap ∧ 0 < R.length ∧ R.length ≤ cap ∧ cap ≤ maxLen ∧ b < w.heap.size ∧ w.rangeAt b off (opCells R)) ∧
  ∀ p ∈ R, Has w p.2 p.1.data ∧ Sz.Byt p.1.data

theorem range_keep {w w' : World} {b off B : Nat} {c : List Value} (h : w.rangeAt b off c) (hb : Below B w w') (hB : b < B) : w'.rangeAt b off c := fun j v hv => by
  rw [hb.cell (p := ⟨b, off + j, none⟩) hB]; exact h j v hv
theorem is_range {w : World} {b : Nat} {c : List Value} {t : TypeId} (h : Is w b c t) : w.rangeAt b 0 c := fun j v hv => by rw [h.cell, Nat.zero_add]; exact hv
theorem HasOps.below {w w' : World} {v : Value} {R : List (Lk.Op × Value)} (h : HasOps w v R) (hb : Below w.heap.size w w') : HasOps w' v R := by
  refine ⟨?_, fun p hp => ⟨(h.2 p hp).1.below hb, (h.2 p hp).2⟩⟩
  rcases h.1 with h | ⟨b, off, cap, hv, h0, h1, h2, h3, hc⟩
  · exact .inl h
  · exact .inr ⟨b, off, cap, hv, h0, h1, h2, Nat.lt_of_lt_of_le h3 hb.size, range_keep hc hb h3⟩

def opVal (o : Lk.Op) (v : Value) : Value := .agg #[.int .i64 o.op, .int .i64 o.n, v]
theorem Has.shape {w : World} {v : Value} {l : List Int} (h : Has w v l) : ∃ a cap, v = .slice a l.length cap ∧ cap ≤ maxLen ∧ l.length ≤ maxLen := by
  rcases h with ⟨a, cap, rfl, rfl, h, _⟩ | ⟨b, off, cap, rfl, h0, h1, h2, hc⟩
  · exact ⟨a, cap, rfl, h, by simp⟩
  · exact ⟨_, cap, rfl, h2, by omega⟩

end Go.Proofs.YtphdnbflogobfaaDoor

/- lock.wayEnd: where a way ends. -/
namespace Go.Proofs.YtphdnbflogobfaaDoor
open Go.RowKit
set_option linter.unusedVariables false

theorem HasOps.length_le {w : World} {v : Value} {R : List (Lk.Op × Value)} (h : HasOps w v R) : R.length ≤ maxLen := by
  rcases h.1 with ⟨a, cap, _, rfl⟩ | ⟨b, off, cap, hv, h0, h1, h2, h3, hc⟩
  · simp
  · omega
def opsOf (R : List (Lk.Op × Value)) : List Lk.Op := R.map Prod.fst
theorem opsOf_length (R : List (Lk.Op × Value)) : (opsOf R).length = R.length := by simp [opsOf]
theorem opsOf_drop (R : List (Lk.Op × Value)) (k : Nat) (h : k < R.length) : (opsOf R).drop k = R[k].1 :: (opsOf R).drop (k + 1) := by
  rw [List.drop_eq_getElem_cons (by rw [opsOf_length]; exact h)]; simp [opsOf]

/-- The cells of one op of a slice. -/
theorem range_op {w : World} {b off : Nat} {R : List (Lk.Op × Value)} (h : w.rangeAt b off (opCells R)) (k : Nat) (hk : k < R.length) :
    w.cell? ⟨b, off + k * 3, none⟩ = some (.int .i64 R[k].1.op) ∧ w.cell? ⟨b, off + k * 3 + 1, none⟩ = some (.int .i64 R[k].1.n) ∧ w.cell? ⟨b, off + k * 3 + 2, none⟩ = some R[k].2 := by
  obtain ⟨h1, h2, h3⟩ := opCells_get R k hk
  exact ⟨h _ _ h1, by have := h _ _ h2; rwa [← Nat.add_assoc] at this, by have := h _ _ h3; rwa [← Nat.add_assoc] at this⟩

end Go.Proofs.YtphdnbflogobfaaDoor

/- lock.inPairs and lock.Check. -/
namespace Go.Proofs.YtphdnbflogobfaaDoor
open Go.RowKit
set_option linter.unusedVariables false

def bvals (l : List Bool) : List Value := l.map Value.bool
theorem bvals_length (l : List Bool) : (bvals l).length = l.length := by simp [bvals]
theorem elem_bool : Elem 51 4 1 := elem_of (.bool false) 1 Tryd.underlying51 (by kernel_rfl) (by omega) rfl (by omega)
theorem bvals_one (l : List Bool) : ∀ u ∈ bvals l, u.oneCell' = true := by
  intro u hu
  obtain ⟨x, _, rfl⟩ := List.mem_map.1 hu
  rfl

theorem HasOps.forms {w : World} {v : Value} {R : List (Lk.Op × Value)} (h : HasOps w v R) : ∀ p ∈ R, ∃ a n c, p.2 = .slice a n c := fun p hp => by
  obtain ⟨a, cap, e, _⟩ := (h.2 p hp).1.shape
  exact ⟨a, _, cap, e⟩
theorem errV_one : errV 1 = .iface 24 (.int .i64 1) := rfl
theorem errV_two' : errV 2 = .iface 24 (.int .i64 2) := rfl
theorem errV_four' : errV 4 = .iface 24 (.int .i64 4) := rfl

end Go.Proofs.YtphdnbflogobfaaDoor
