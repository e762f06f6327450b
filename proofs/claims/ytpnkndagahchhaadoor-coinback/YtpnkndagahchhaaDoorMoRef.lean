/- The document's Money, Total and MadeAt; an error that is the one told. -/
import Derived.Test.YtpnkndagahchhaaDoorMoSum
import Derived.Test.YtpnkndagahchhaaDoorOwnI
import Derived.Test.YtpnkndagahchhaaDoorTold2
namespace Go.Proofs.YtpnkndagahchhaaDoor
open Go.RowKit
set_option linter.unusedVariables false

theorem made_zero_on (k d : Nat) (h : Mo.made k = 0) : Mo.made (k + d) = 0 := by
  induction d with
  | zero => exact h
  | succ d ih => rw [← Nat.add_assoc, Mo.made_succ, ih]

end Go.Proofs.YtpnkndagahchhaaDoor
