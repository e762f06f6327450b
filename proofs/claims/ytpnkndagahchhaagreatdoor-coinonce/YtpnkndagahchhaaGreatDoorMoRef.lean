/- The document's Money, Total and MadeAt; an error that is the one told. -/
import Derived.Test.YtpnkndagahchhaaGreatDoorMoSum
import Derived.Test.YtpnkndagahchhaaGreatDoorOwnI
import Derived.Test.YtpnkndagahchhaaGreatDoorTold2
namespace Go.Proofs.YtpnkndagahchhaaGreatDoor
open Go.RowKit
set_option linter.unusedVariables false

theorem error_hit (c k : Int) (w : World) (h : ErrVar w) (e : c = k) : Calls Tryz.prog 9 #[errV c, .int .i64 k] w fun e w' => e = .returned (.bool true) ∧ Below w.heap.size w w' := by
  have := error_any c k w h
  rw [show (c == k) = true from by simp [e]] at this
  exact this

theorem made_zero_on (k d : Nat) (h : Mo.made k = 0) : Mo.made (k + d) = 0 := by
  induction d with
  | zero => exact h
  | succ d ih => rw [← Nat.add_assoc, Mo.made_succ, ih]

end Go.Proofs.YtpnkndagahchhaaGreatDoor
