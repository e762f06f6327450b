/- The document's WotsPublic, KeySigned and KeyOf; numbers held against themselves. -/
import Derived.Test.YtfgjgaenhpelkaaDoorRKey2
import Derived.Test.YtfgjgaenhpelkaaDoorBytes
namespace Go.Proofs.YtfgjgaenhpelkaaDoor
open Go.RowKit
set_option linter.unusedVariables false
set_option linter.unusedSimpArgs false

theorem elem_dig : Elem 33 23 32 := elem_of (.agg (vals (List.replicate 32 0)).toArray) 32 Tryd.underlying33 (by kernel_rfl) (by omega) (by simp [Value.cells, vals]) (by omega)

end Go.Proofs.YtfgjgaenhpelkaaDoor
