/- plain.Told and moneyersame.Error: which number an error has, and whether it is the one told. -/
import Derived.Test.YtphdnbflogobfaaDoorTold
namespace Go.Proofs.YtphdnbflogobfaaDoor
open Go.RowKit
set_option linter.unusedVariables false

/-- What the walks ask of package errors' own variable: it holds the handle of the type error. -/
def ErrVar (w : World) : Prop := w.cell? ⟨0, 0, none⟩ = some (.iface 100 (.agg #[.pointer (some ⟨2, 29, none⟩)]))
theorem ErrVar.lt {w : World} (h : ErrVar w) : 0 < w.heap.size := World.block_lt_of_cell? w ⟨0, 0, none⟩ h
theorem ErrVar.below {w w' : World} (h : ErrVar w) (hb : Below w.heap.size w w') : ErrVar w' := by
  have hl := h.lt
  unfold ErrVar at h ⊢
  rw [hb.cell (p := ⟨0, 0, none⟩) hl]; exact h

theorem told_nil (w : World) : Calls Tryd.prog 28 #[.nilIface] w fun e w' => e = .returned (.int .i64 0) ∧ w = w' := by
  go_enter Tryd.func28, Tryd.ntmps28
  go_wp2
  go_ret
  exact ⟨rfl, rfl⟩

set_option maxHeartbeats 1000000 in
theorem told_err (n : Int) (w : World) (h : ErrVar w) : Calls Tryd.prog 28 #[.iface 24 (.int .i64 n)] w fun e w' => e = .returned (.int .i64 n) ∧ Below w.heap.size w w' := by
  have hb : Below w.heap.size w (w.alloc (.cells #[.int .i64 0] 24)) := (Below.refl _ _).alloc (Nat.le_refl _) _
  have hh := as_hit n ⟨w.heap.size, 0, none⟩ (.int .i64 0) (w.alloc (.cells #[.int .i64 0] 24)) (h.below hb) (by simp) (by simp)
  have HH := hide hh
  clear hh
  go_enter Tryd.func28, Tryd.ntmps28
  go_wp2_with fail
  refine HH.out.mono ?_
  rintro e w1 ⟨rfl, rfl⟩
  go_wp2
  go_ret
  refine ⟨rfl, ?_⟩
  exact (((((Below.refl _ _).alloc (Nat.le_refl _) _).alloc (by simp) _).alloc (by simp; omega) _).alloc (by simp; omega) _).alloc (by simp; omega) _

set_option maxHeartbeats 1000000 in
/-- Is an error the one told. -/
theorem error_any (c k : Int) (w : World) (h : ErrVar w) : Calls Tryd.prog 11 #[errV c, .int .i64 k] w fun e w' => e = .returned (.bool (c == k)) ∧ Below w.heap.size w w' := by
  by_cases hc : c = 0
  · subst hc
    have e : errV 0 = .nilIface := rfl
    rw [e]
    go_enter Tryd.func11, Tryd.ntmps11
    go_wp2_with fail
    refine (told_nil _).mono ?_
    rintro e w1 ⟨rfl, rfl⟩
    go_wp2
    go_ret
    exact ⟨rfl, Below.refl _ _⟩
  · have e : errV c = .iface 24 (.int .i64 c) := by unfold errV; rw [if_neg hc]
    rw [e]
    clear e hc
    go_enter Tryd.func11, Tryd.ntmps11
    go_wp2_with fail
    refine (told_err c _ h).mono ?_
    rintro e w1 ⟨rfl, hb⟩
    go_wp2
    go_ret
    exact ⟨rfl, hb⟩
end Go.Proofs.YtphdnbflogobfaaDoor
