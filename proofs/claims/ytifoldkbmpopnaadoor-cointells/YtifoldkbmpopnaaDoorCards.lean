/-
  DERIVED. GIVEN WITH THE SEED: THE CARDS: each row of YtifoldkbmpopnaaDoorRows.lean that lists a variable, with what it lists TIED to the program's text (the seventh form; the later family's looks); each row that meets fmt, with fmt's text TOLD by the authors' own Lean function (tested against real Go, not proved from fmt's source: count such statements apart). THE CARD IS WHAT COUNTS. Prove the row's statement (the work); the ties are given (YtifoldkbmpopnaaDoorTie.lean); close each card by the builder's one call (the guide's Derived/Test/ToyasCard.lean, 'card_holds'). Laid BY PROGRAM, IN A SANDBOX (cutbox-door.mjs). By AI agents, Wed Nov 11 2026. No macro, syntax, notation, axiom, sorry.
-/
import Derived.Test.YtifoldkbmpopnaaDoorRows
import GoSem.ClaimSeven
namespace Go.Proofs.YtifoldkbmpopnaaDoor
namespace Rows

/-- THE TIED CARD OF 'moneyerlaw2.CoinTells'. -/
def coinTellsCard : Claim7 := { stood := { row := coinTellsRow, standIns := [], harness := (true, "80e47ec7340c9c37a4b6df31027cc8fedff5a635d0f4f6c4fba87668d2b4d7b6"), looks := true }, kinds := [], alts := [], laidByText := true, laidKinds := [.handle], laidTests := true, laidLooks := .later }
def CoinTellsCardSaid : Prop := Claim7.holds Tryd.pinned (.plain (OpenSpec.ofChange coinTellsSpec)) coinTellsCard

/-- THE SECOND FORM's CARD OF 'moneyerlaw2.CoinTells'. -/
def coinTellsUptoCard : Claim7 := { stood := { row := coinTellsUptoRow, standIns := [], harness := (true, "80e47ec7340c9c37a4b6df31027cc8fedff5a635d0f4f6c4fba87668d2b4d7b6"), looks := true }, kinds := [], alts := [], laidByText := true, laidKinds := [.handle], laidTests := true, laidLooks := .later }
def CoinTellsUptoCardSaid : Prop := Claim7.holds Tryd.pinned (.plain (OpenSpec.upto coinTellsSpec)) coinTellsUptoCard
end Rows
end Go.Proofs.YtifoldkbmpopnaaDoor
