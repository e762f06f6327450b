/- plain.Told and moneyersame.Error: which number an error has, and whether it is the one told. -/
import Derived.Test.YtpnkndagahchhaaDoorTold
namespace Go.Proofs.YtpnkndagahchhaaDoor
open Go.RowKit
set_option linter.unusedVariables false

end Go.Proofs.YtpnkndagahchhaaDoor
