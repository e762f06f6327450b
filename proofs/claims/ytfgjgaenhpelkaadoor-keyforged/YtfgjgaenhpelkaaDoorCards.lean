/-
  DERIVED. GIVEN WITH THE SEED: THE CARDS: each row of YtfgjgaenhpelkaaDoorRows.lean that lists a variable, with what it lists TIED to the program's text (the seventh form; the later family's looks); each row that meets fmt, with fmt's text TOLD by the authors' own Lean function (tested against real Go, not proved from fmt's source: count such statements apart). THE CARD IS WHAT COUNTS. Prove the row's statement (the work); the ties are given (YtfgjgaenhpelkaaDoorTie.lean); close each card by the builder's one call (the guide's Derived/Test/ToyasCard.lean, 'card_holds'). Laid BY PROGRAM, IN A SANDBOX (cutbox-door.mjs). By AI agents, Wed Nov 11 2026. No macro, syntax, notation, axiom, sorry.
-/
import Derived.Test.YtfgjgaenhpelkaaDoorRows
import GoSem.ClaimSeven
namespace Go.Proofs.YtfgjgaenhpelkaaDoor
namespace Rows

/-- THE TIED CARD OF 'moneyerlaw1.KeyForged'. -/
def keyForgedCard : Claim7 := { stood := { row := keyForgedRow, standIns := [], harness := (true, "25ce9ba9fb16a3df40e8cfe4c594497c3d3477ece9c96a2e44ea6b318306fc26"), looks := false }, kinds := [], alts := [], laidByText := true, laidKinds := [.data], laidTests := true, laidLooks := .later }
def KeyForgedCardSaid : Prop := Claim7.holds Tryd.pinned (.plain (OpenSpec.ofChange keyForgedSpec)) keyForgedCard

/-- THE SECOND FORM's CARD OF 'moneyerlaw1.KeyForged'. -/
def keyForgedUptoCard : Claim7 := { stood := { row := keyForgedUptoRow, standIns := [], harness := (true, "25ce9ba9fb16a3df40e8cfe4c594497c3d3477ece9c96a2e44ea6b318306fc26"), looks := false }, kinds := [], alts := [], laidByText := true, laidKinds := [.data], laidTests := true, laidLooks := .later }
def KeyForgedUptoCardSaid : Prop := Claim7.holds Tryd.pinned (.plain (OpenSpec.upto keyForgedSpec)) keyForgedUptoCard
end Rows
end Go.Proofs.YtfgjgaenhpelkaaDoor
