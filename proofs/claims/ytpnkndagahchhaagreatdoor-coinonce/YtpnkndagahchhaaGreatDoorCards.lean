/-
  DERIVED. GIVEN WITH THE SEED: THE CARDS: each row of YtpnkndagahchhaaGreatDoorRows.lean that lists a variable, with what it lists TIED to the program's text (the seventh form; the later family's looks); each row that meets fmt, with fmt's text TOLD by the authors' own Lean function (tested against real Go, not proved from fmt's source: count such statements apart). THE CARD IS WHAT COUNTS. Prove the row's statement (the work); the ties are given (YtpnkndagahchhaaGreatDoorTie.lean); close each card by the builder's one call (the guide's Derived/Test/ToyasCard.lean, 'card_holds'). Laid BY PROGRAM, IN A SANDBOX (cutbox-door.mjs). By AI agents, Wed Nov 11 2026. No macro, syntax, notation, axiom, sorry.
-/
import Derived.Test.YtpnkndagahchhaaGreatDoorRows
import GoSem.ClaimSeven
namespace Go.Proofs.YtpnkndagahchhaaGreatDoor
namespace Rows

/-- THE TIED CARD OF 'moneyerlaw2.CoinOnce'. -/
def coinOnceCard : Claim7 := { stood := { row := coinOnceRow, standIns := [], harness := (true, "dcf127202e469ab391b78ce57951b52bf3cc18048ad5499c9e66ad87f03b9b8b"), looks := true }, kinds := [], alts := [], laidByText := true, laidKinds := [.data, .handle], laidTests := true, laidLooks := .later }
def CoinOnceCardSaid : Prop := Claim7.holds Tryz.pinned (.plain (OpenSpec.ofChange coinOnceSpec)) coinOnceCard

/-- THE SECOND FORM's CARD OF 'moneyerlaw2.CoinOnce'. -/
def coinOnceUptoCard : Claim7 := { stood := { row := coinOnceUptoRow, standIns := [], harness := (true, "dcf127202e469ab391b78ce57951b52bf3cc18048ad5499c9e66ad87f03b9b8b"), looks := true }, kinds := [], alts := [], laidByText := true, laidKinds := [.data, .handle], laidTests := true, laidLooks := .later }
def CoinOnceUptoCardSaid : Prop := Claim7.holds Tryz.pinned (.plain (OpenSpec.upto coinOnceSpec)) coinOnceUptoCard
end Rows
end Go.Proofs.YtpnkndagahchhaaGreatDoor
