/- The walk of KeySteps: so many steps and then so many are as many as both. -/
import Derived.Test.YtfgjgaenhpelkaaDoorKeSum
import Derived.Deep.RegionHeld2
namespace Go.Proofs.YtfgjgaenhpelkaaDoor
open Go.RowKit
set_option linter.unusedVariables false
set_option linter.unusedSimpArgs false

/-- What a region leaves where it comes to its end. -/
def Norm (J : Act → World → Prop) : Exit → Act → World → Prop
  | .normal, a, w => J a w
  | _, _, _ => False
/-- A cut behind a piece of code. -/
theorem wp_cut {P : Program} {c : Code} {Q : Exit → Act → World → Prop} {a : Act} {w : World} (J : Act → World → Prop) (h1 : c.wp P (Norm J) a w) (h2 : ∀ a w, J a w → Q .normal a w) : c.wp P Q a w :=
  Code.wp_mono (fun e a w h => by cases e <;> first | exact h2 a w h | exact (h : False).elim) h1

/-- Two ranges and what was there stand behind a call that makes memory alone. -/
theorem two_below {w W W' : World} {a b : Nat} {x y : List Value} (h : W.rangeAt a 0 x ∧ W.rangeAt b 0 y ∧ Below w.heap.size w W) (hb : Below W.heap.size W W') : W'.rangeAt a 0 x ∧ W'.rangeAt b 0 y ∧ Below w.heap.size w W' :=
  ⟨range_below h.1 hb, range_below h.2.1 hb, h.2.2.trans (hb.mono h.2.2.size)⟩

theorem dig_same (A B : List Int) (hB : B.length = 32) (h : A = B) (w : World) : (Op.equalIn 10000 23 (.agg (vals A).toArray) (.agg (vals B).toArray)).run Tryd.prog w = .ok true w := by
  subst h
  rw [dig_eq _ _ hB hB]; simp
theorem step_zero_ne : Ky.steps (List.replicate 32 0) 1 ≠ List.replicate 32 0 := fun h => Ky.step_zero (by
  have e : Ky.step (List.replicate 32 0) = List.replicate 32 0 := h
  rw [e]; rfl)

end Go.Proofs.YtfgjgaenhpelkaaDoor
