/-
  DERIVED. GIVEN WITH THE SEED: THE CARDS: each row of YtgkpbglllnmbeaaGreatDoorRows.lean that lists a variable, with what it lists TIED to the program's text (the seventh form; the later family's looks); each row that meets fmt, with fmt's text TOLD by the authors' own Lean function (tested against real Go, not proved from fmt's source: count such statements apart). THE CARD IS WHAT COUNTS. Prove the row's statement (the work); the ties are given (YtgkpbglllnmbeaaGreatDoorTie.lean); close each card by the builder's one call (the guide's Derived/Test/ToyasCard.lean, 'card_holds'). Laid BY PROGRAM, IN A SANDBOX (cutbox-door.mjs). By AI agents, Wed Nov 11 2026. No macro, syntax, notation, axiom, sorry.
-/
import Derived.Test.YtgkpbglllnmbeaaGreatDoorRows
import GoSem.ClaimSeven
namespace Go.Proofs.YtgkpbglllnmbeaaGreatDoor
namespace Rows

/-- THE TIED CARD OF 'moneyerlaw2.SpendOpens'. -/
def spendOpensCard : Claim7 := { stood := { row := spendOpensRow, standIns := [], harness := (true, "cca7b1a81ec44782ea22efb3cbfeebd617147e4a0ba89920e2343f2697afec56"), looks := true }, kinds := [], alts := [], laidByText := true, laidKinds := [.data], laidTests := true, laidLooks := .later }
def SpendOpensCardSaid : Prop := Claim7.holds Tryz.pinned (.plain (OpenSpec.ofChange spendOpensSpec)) spendOpensCard

/-- THE TIED CARD OF 'moneyerlaw2.SpendParts'. -/
def spendPartsCard : Claim7 := { stood := { row := spendPartsRow, standIns := [], harness := (true, "cca7b1a81ec44782ea22efb3cbfeebd617147e4a0ba89920e2343f2697afec56"), looks := true }, kinds := [], alts := [], laidByText := true, laidKinds := [.data], laidTests := true, laidLooks := .later }
def SpendPartsCardSaid : Prop := Claim7.holds Tryz.pinned (.plain (OpenSpec.ofChange spendPartsSpec)) spendPartsCard

/-- THE TIED CARD OF 'moneyerlaw2.SpendLater'. -/
def spendLaterCard : Claim7 := { stood := { row := spendLaterRow, standIns := [], harness := (true, "cca7b1a81ec44782ea22efb3cbfeebd617147e4a0ba89920e2343f2697afec56"), looks := true }, kinds := [], alts := [], laidByText := true, laidKinds := [.data], laidTests := true, laidLooks := .later }
def SpendLaterCardSaid : Prop := Claim7.holds Tryz.pinned (.plain (OpenSpec.ofChange spendLaterSpec)) spendLaterCard

/-- THE SECOND FORM's CARD OF 'moneyerlaw2.SpendOpens'. -/
def spendOpensUptoCard : Claim7 := { stood := { row := spendOpensUptoRow, standIns := [], harness := (true, "cca7b1a81ec44782ea22efb3cbfeebd617147e4a0ba89920e2343f2697afec56"), looks := true }, kinds := [], alts := [], laidByText := true, laidKinds := [.data], laidTests := true, laidLooks := .later }
def SpendOpensUptoCardSaid : Prop := Claim7.holds Tryz.pinned (.plain (OpenSpec.upto spendOpensSpec)) spendOpensUptoCard

/-- THE SECOND FORM's CARD OF 'moneyerlaw2.SpendParts'. -/
def spendPartsUptoCard : Claim7 := { stood := { row := spendPartsUptoRow, standIns := [], harness := (true, "cca7b1a81ec44782ea22efb3cbfeebd617147e4a0ba89920e2343f2697afec56"), looks := true }, kinds := [], alts := [], laidByText := true, laidKinds := [.data], laidTests := true, laidLooks := .later }
def SpendPartsUptoCardSaid : Prop := Claim7.holds Tryz.pinned (.plain (OpenSpec.upto spendPartsSpec)) spendPartsUptoCard

/-- THE SECOND FORM's CARD OF 'moneyerlaw2.SpendLater'. -/
def spendLaterUptoCard : Claim7 := { stood := { row := spendLaterUptoRow, standIns := [], harness := (true, "cca7b1a81ec44782ea22efb3cbfeebd617147e4a0ba89920e2343f2697afec56"), looks := true }, kinds := [], alts := [], laidByText := true, laidKinds := [.data], laidTests := true, laidLooks := .later }
def SpendLaterUptoCardSaid : Prop := Claim7.holds Tryz.pinned (.plain (OpenSpec.upto spendLaterSpec)) spendLaterUptoCard
end Rows
end Go.Proofs.YtgkpbglllnmbeaaGreatDoor
