/- moneyerlaw2.TxBack. -/
import Derived.Test.YtmoijbdpbpfljaaDoorTxSn
import Derived.Test.YtmoijbdpbpfljaaDoorZTs
import Derived.Test.YtmoijbdpbpfljaaDoorTxQ
import Derived.Test.YtmoijbdpbpfljaaDoorTxMa
namespace Go.Proofs.YtmoijbdpbpfljaaDoor
open Go.RowKit
set_option linter.unusedVariables false
set_option linter.unusedSimpArgs false

theorem TellsB.true {P : Prop} {e : Ending} (h : TellsB P e) (hp : P) : e = .returned (.bool true) := by
  obtain ⟨b, rfl, hb⟩ := h
  rw [hb.2 hp]
/-- What was read, in a form that a walk can use. -/
theorem read_some {w w' : World} {t : Tm.Tx} {e : Ending} (h : ReadTold w (some t) e w') : ∃ T : TxV, T.it = t ∧ e = .returned (.tuple #[T.val, .nilIface]) ∧ Below w.heap.size w w' ∧ HasTx w' T ∧ (∃ a n c, T.iv = .slice a n c) ∧ ∃ a n c, T.ov = .slice a n c := by
  obtain ⟨hb, T, h1, h2, h3⟩ := h
  exact ⟨T, h1, h2, hb, h3.out, hasIns_form h3.out.1, hasOuts_form h3.out.2⟩

end Go.Proofs.YtmoijbdpbpfljaaDoor
