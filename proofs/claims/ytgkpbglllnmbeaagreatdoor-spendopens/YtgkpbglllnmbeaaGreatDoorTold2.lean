/- plain.Told and moneyersame.Error: which number an error has, and whether it is the one told. -/
import Derived.Test.YtgkpbglllnmbeaaGreatDoorTold
namespace Go.Proofs.YtgkpbglllnmbeaaGreatDoor
open Go.RowKit
set_option linter.unusedVariables false

end Go.Proofs.YtgkpbglllnmbeaaGreatDoor
