/- The walk of KeySigned: a signature tells the public key of its seed. -/
import Derived.Test.YtfgjgaenhpelkaaDoorKeRec
import Derived.Test.YtfgjgaenhpelkaaDoorKeSteps
import Derived.Test.YtfgjgaenhpelkaaDoorKf
namespace Go.Proofs.YtfgjgaenhpelkaaDoor
open Go.RowKit
set_option linter.unusedVariables false
set_option linter.unusedSimpArgs false

theorem pub_zero_ne : Ky.pub (List.replicate 32 0) ≠ List.replicate 32 0 := fun h => by
  have := Kf.pub_zero
  rw [h] at this
  exact absurd this (by decide)
theorem pub_ne (Z : List Int) (hZ : Z = List.replicate 32 0) : Ky.pub Z ≠ Z := by rw [hZ]; exact pub_zero_ne
theorem range_lt {w : World} {b off : Nat} {L : List Int} (h : w.rangeAt b off (vals L)) (h0 : 0 < L.length) : b < w.heap.size := by
  have := h 0 _ (vals_get L 0 h0)
  exact World.block_lt_of_cell? w _ this
/-- Three ranges and what was there stand behind a call that makes memory alone. -/
theorem three_below {w W W' : World} {a b c : Nat} {x y z : List Value} (h : W.rangeAt a 0 x ∧ W.rangeAt b 0 y ∧ W.rangeAt c 0 z ∧ Below w.heap.size w W) (hb : Below W.heap.size W W') : W'.rangeAt a 0 x ∧ W'.rangeAt b 0 y ∧ W'.rangeAt c 0 z ∧ Below w.heap.size w W' :=
  ⟨range_below h.1 hb, range_below h.2.1 hb, range_below h.2.2.1 hb, h.2.2.2.trans (hb.mono h.2.2.2.size)⟩
theorem three_store {w W : World} {a b c : Nat} {x y z : List Value} (h : W.rangeAt a 0 x ∧ W.rangeAt b 0 y ∧ W.rangeAt c 0 z ∧ Below w.heap.size w W) {g : Nat} (ha : a ≠ g) (hb : b ≠ g) (hc : c ≠ g) (hg : w.heap.size ≤ g) (vs : List Value) :
    (W.setCells g 0 vs).rangeAt a 0 x ∧ (W.setCells g 0 vs).rangeAt b 0 y ∧ (W.setCells g 0 vs).rangeAt c 0 z ∧ Below w.heap.size w (W.setCells g 0 vs) :=
  ⟨World.rangeAt_setCells_apart h.1 _ _ _ (.inl ha), World.rangeAt_setCells_apart h.2.1 _ _ _ (.inl hb), World.rangeAt_setCells_apart h.2.2.1 _ _ _ (.inl hc), setCells_below hg _ _ _ h.2.2.2⟩

end Go.Proofs.YtfgjgaenhpelkaaDoor
