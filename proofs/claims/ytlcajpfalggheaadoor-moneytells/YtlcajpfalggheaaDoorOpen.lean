/- How an argument that is a slice of bytes is opened: its elements as a list of numbers, and how many they can be. -/
import Derived.Test.YtlcajpfalggheaaDoorOwns
import Derived.SizedLaws
namespace Go.Proofs.YtlcajpfalggheaaDoor
open Go.ChangeShapes Go.WideShapes Go.ChangeAt Go.RowKit
set_option linter.unusedVariables false

theorem own_knob : ownKnob Tryd.prog.godebug = none := by kernel_rfl
theorem laid_out : laidOutB Tryd.prog = true := by kernel_rfl
theorem bytes_u8 : Tryd.prog.bytesOf 5 = 1 := by kernel_rfl

/-- What the datum of a slice of bytes says of how many there are. -/
def Holds {H : Type} (d : DataW H) (l : List Int) : Prop := (d = .nil ∧ l = []) ∨ ∃ elems spare, d = .slice elems spare ∧ l.length = elems.length

end Go.Proofs.YtlcajpfalggheaaDoor
