/- tx.Bytes; size.Unpack, its bytes in blocks of their own. -/
import Derived.Test.YtpnkndagahchhaaGreatDoorZTc
import Derived.Test.YtpnkndagahchhaaGreatDoorZTw
import Derived.Test.YtpnkndagahchhaaGreatDoorZRd
namespace Go.Proofs.YtpnkndagahchhaaGreatDoor
open Go.RowKit
set_option linter.unusedVariables false
set_option linter.unusedSimpArgs false

end Go.Proofs.YtpnkndagahchhaaGreatDoor
