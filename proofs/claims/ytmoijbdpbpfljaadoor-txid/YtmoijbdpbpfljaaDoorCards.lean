/-
  DERIVED. GIVEN WITH THE SEED: THE CARDS: each row of YtmoijbdpbpfljaaDoorRows.lean that lists a variable, with what it lists TIED to the program's text (the seventh form; the later family's looks); each row that meets fmt, with fmt's text TOLD by the authors' own Lean function (tested against real Go, not proved from fmt's source: count such statements apart). THE CARD IS WHAT COUNTS. Prove the row's statement (the work); the ties are given (YtmoijbdpbpfljaaDoorTie.lean); close each card by the builder's one call (the guide's Derived/Test/ToyasCard.lean, 'card_holds'). Laid BY PROGRAM, IN A SANDBOX (cutbox-door.mjs). By AI agents, Wed Nov 11 2026. No macro, syntax, notation, axiom, sorry.
-/
import Derived.Test.YtmoijbdpbpfljaaDoorRows
import GoSem.ClaimSeven
namespace Go.Proofs.YtmoijbdpbpfljaaDoor
namespace Rows

/-- THE TIED CARD OF 'moneyerlaw2.TxTorn'. -/
def txTornCard : Claim7 := { stood := { row := txTornRow, standIns := [], harness := (true, "47c6514e9fa874ccc948e6459a146ed7e8412927b6498d14b9b2ee862600e31f"), looks := true }, kinds := [], alts := [], laidByText := true, laidKinds := [.handle], laidTests := true, laidLooks := .later }
def TxTornCardSaid : Prop := Claim7.holds Tryd.pinned (.plain (OpenSpec.ofChange txTornSpec)) txTornCard

/-- THE TIED CARD OF 'moneyerlaw2.TxID'. -/
def txIDCard : Claim7 := { stood := { row := txIDRow, standIns := [], harness := (true, "47c6514e9fa874ccc948e6459a146ed7e8412927b6498d14b9b2ee862600e31f"), looks := true }, kinds := [], alts := [], laidByText := true, laidKinds := [.data], laidTests := true, laidLooks := .later }
def TxIDCardSaid : Prop := Claim7.holds Tryd.pinned (.plain (OpenSpec.ofChange txIDSpec)) txIDCard

/-- THE SECOND FORM's CARD OF 'moneyerlaw2.TxTorn'. -/
def txTornUptoCard : Claim7 := { stood := { row := txTornUptoRow, standIns := [], harness := (true, "47c6514e9fa874ccc948e6459a146ed7e8412927b6498d14b9b2ee862600e31f"), looks := true }, kinds := [], alts := [], laidByText := true, laidKinds := [.handle], laidTests := true, laidLooks := .later }
def TxTornUptoCardSaid : Prop := Claim7.holds Tryd.pinned (.plain (OpenSpec.upto txTornSpec)) txTornUptoCard

/-- THE SECOND FORM's CARD OF 'moneyerlaw2.TxID'. -/
def txIDUptoCard : Claim7 := { stood := { row := txIDUptoRow, standIns := [], harness := (true, "47c6514e9fa874ccc948e6459a146ed7e8412927b6498d14b9b2ee862600e31f"), looks := true }, kinds := [], alts := [], laidByText := true, laidKinds := [.data], laidTests := true, laidLooks := .later }
def TxIDUptoCardSaid : Prop := Claim7.holds Tryd.pinned (.plain (OpenSpec.upto txIDSpec)) txIDUptoCard
end Rows
end Go.Proofs.YtmoijbdpbpfljaaDoor
