/- The document's KeySigned; numbers held against themselves. -/
import Derived.Test.YtfgjgaenhpelkaaDoorRKey4
namespace Go.Proofs.YtfgjgaenhpelkaaDoor
open Go.RowKit
set_option linter.unusedVariables false
set_option linter.unusedSimpArgs false

theorem rc_below {w1 W W' : World} {g : Nat} {L : List Value} {a : Addr} {v : Value} (h : W.rangeAt g 0 L ∧ W.cell? a = some v ∧ Below w1.heap.size w1 W) (hb : Below W.heap.size W W') : W'.rangeAt g 0 L ∧ W'.cell? a = some v ∧ Below w1.heap.size w1 W' :=
  ⟨range_below h.1 hb, cell_below h.2.1 hb, h.2.2.trans (hb.mono h.2.2.size)⟩
theorem rc_store {w1 W : World} {g : Nat} {L : List Value} {a : Addr} {v : Value} (h : W.rangeAt g 0 L ∧ W.cell? a = some v ∧ Below w1.heap.size w1 W) {q : Nat} (h1 : g ≠ q) (h2 : a.block ≠ q) (hq : w1.heap.size ≤ q) (vs : List Value) :
    (W.setCells q 0 vs).rangeAt g 0 L ∧ (W.setCells q 0 vs).cell? a = some v ∧ Below w1.heap.size w1 (W.setCells q 0 vs) :=
  ⟨World.rangeAt_setCells_apart h.1 _ _ _ (.inl h1), cell_setCells h.2.1 h2 _ _, setCells_below hq _ _ _ h.2.2⟩

end Go.Proofs.YtfgjgaenhpelkaaDoor
