/- The document's KeyOf and KeySigned. -/
import Derived.Test.YtfgjgaenhpelkaaDoorRKey3
import Derived.Test.YtfgjgaenhpelkaaDoorKeSig
namespace Go.Proofs.YtfgjgaenhpelkaaDoor
open Go.RowKit
set_option linter.unusedVariables false
set_option linter.unusedSimpArgs false

theorem cb_below {w1 W W' : World} {a : Addr} {v : Value} (h : W.cell? a = some v ∧ Below w1.heap.size w1 W) (hb : Below W.heap.size W W') : W'.cell? a = some v ∧ Below w1.heap.size w1 W' :=
  ⟨cell_below h.1 hb, h.2.trans (hb.mono h.2.size)⟩
theorem cb_grown {w1 W W' : World} {a : Addr} {v : Value} {row : Option Nat} (h : W.cell? a = some v ∧ Below w1.heap.size w1 W) (hg : W.grownBy W' row) (ha : a.block < w1.heap.size) (hr : ∀ k, row = some k → w1.heap.size ≤ k) : W'.cell? a = some v ∧ Below w1.heap.size w1 W' :=
  ⟨hg.cell h.1 (fun e => by have := hr _ e.symm; omega), h.2.grown hg h.2.size hr⟩

end Go.Proofs.YtfgjgaenhpelkaaDoor
