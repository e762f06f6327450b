/-
  DERIVED. GIVEN WITH THE SEED: THE CARDS: each row of YtmjilohlchkicaaGreatDoorRows.lean that lists a variable, with what it lists TIED to the program's text (the seventh form; the later family's looks); each row that meets fmt, with fmt's text TOLD by the authors' own Lean function (tested against real Go, not proved from fmt's source: count such statements apart). THE CARD IS WHAT COUNTS. Prove the row's statement (the work); the ties are given (YtmjilohlchkicaaGreatDoorTie.lean); close each card by the builder's one call (the guide's Derived/Test/ToyasCard.lean, 'card_holds'). Laid BY PROGRAM, IN A SANDBOX (cutbox-door.mjs). By AI agents, Wed Nov 11 2026. No macro, syntax, notation, axiom, sorry.
-/
import Derived.Test.YtmjilohlchkicaaGreatDoorRows
import GoSem.ClaimSeven
namespace Go.Proofs.YtmjilohlchkicaaGreatDoor
namespace Rows

/-- THE TIED CARD OF 'moneyerlaw2.CoinApplies'. -/
def coinAppliesCard : Claim7 := { stood := { row := coinAppliesRow, standIns := [], harness := (true, "5a20eb926472116ead8d83489e5261d700b8bd695a709fa9e7e176aca093e07f"), looks := true }, kinds := [], alts := [], laidByText := true, laidKinds := [.data, .handle], laidTests := true, laidLooks := .later }
def CoinAppliesCardSaid : Prop := Claim7.holds Tryz.pinned (.plain (OpenSpec.ofChange coinAppliesSpec)) coinAppliesCard

/-- THE SECOND FORM's CARD OF 'moneyerlaw2.CoinApplies'. -/
def coinAppliesUptoCard : Claim7 := { stood := { row := coinAppliesUptoRow, standIns := [], harness := (true, "5a20eb926472116ead8d83489e5261d700b8bd695a709fa9e7e176aca093e07f"), looks := true }, kinds := [], alts := [], laidByText := true, laidKinds := [.data, .handle], laidTests := true, laidLooks := .later }
def CoinAppliesUptoCardSaid : Prop := Claim7.holds Tryz.pinned (.plain (OpenSpec.upto coinAppliesSpec)) coinAppliesUptoCard
end Rows
end Go.Proofs.YtmjilohlchkicaaGreatDoor
