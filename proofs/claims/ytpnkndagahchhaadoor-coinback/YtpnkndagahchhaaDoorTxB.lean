/- tx.Bytes; size.Unpack, its bytes in blocks of their own. -/
import Derived.Test.YtpnkndagahchhaaDoorZTc
import Derived.Test.YtpnkndagahchhaaDoorZTw
import Derived.Test.YtpnkndagahchhaaDoorZRd
namespace Go.Proofs.YtpnkndagahchhaaDoor
open Go.RowKit
set_option linter.unusedVariables false
set_option linter.unusedSimpArgs false

end Go.Proofs.YtpnkndagahchhaaDoor
