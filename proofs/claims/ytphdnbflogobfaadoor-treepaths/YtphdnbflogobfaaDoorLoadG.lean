/- A load of a whole array under a guard that is met. -/
import Derived.Test.YtphdnbflogobfaaDoorShEq
namespace Go.Proofs.YtphdnbflogobfaaDoor
open Go.RowKit
set_option linter.unusedVariables false

/-- An operation under a guard that is met. -/
theorem wpList_wanted {ops : Array Oper} {rest : List Oper} {o : Oper} {a : Act} {w : World} {Q : Exit → Act → World → Prop} (hw : Region.wanted o (yielded ops a.tmps) = true)
    (h : ∀ K : Act → World → Prop, (∀ a w, wpList Tryd.prog ops Q rest a w → K a w) → o.wp Tryd.prog a w K Q) : wpList Tryd.prog ops Q (o :: rest) a w :=
  wpList_step fun K hK => by rw [if_pos hw]; exact h K hK
theorem wpList_load_arrG (t : TypeId) (c : List Value) (b : Nat) {n m : Nat} {e : TypeId} {w : World} {ops : Array Oper} {rest : List Oper} {o : Oper} {a : Act} {Q : Exit → Act → World → Prop} (s : Operand) (ho : o.op = .load t s) (hs : a.eval s = .pointer (some ⟨b, 0, none⟩)) (hw : Region.wanted o (yielded ops a.tmps) = true)
    (hi : Is w b c t) (hu : Tryd.prog.underlying t = some (.array n e)) (hz : Sized t m) (hc : c.length = m)
    (h : wpList Tryd.prog ops Q rest (a.put o.dst (.agg c.toArray)) w) : wpList Tryd.prog ops Q (o :: rest) a w := by
  refine wpList_wanted hw fun K hK => ?_
  have hl := hi.load hu (by rw [hc]; exact hz)
  unfold Oper.wp
  simp only [execOp, ho, hs, Sem.run_bind, Sem.run_pure, Result.andThen_ok, hl]
  exact hK _ _ h

end Go.Proofs.YtphdnbflogobfaaDoor
