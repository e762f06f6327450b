/-
  DERIVED. GIVEN WITH THE SEED: THE CARDS: each row of YtbdnbjemocjlaaaGreatDoorRows.lean that lists a variable, with what it lists TIED to the program's text (the seventh form; the later family's looks); each row that meets fmt, with fmt's text TOLD by the authors' own Lean function (tested against real Go, not proved from fmt's source: count such statements apart). THE CARD IS WHAT COUNTS. Prove the row's statement (the work); the ties are given (YtbdnbjemocjlaaaGreatDoorTie.lean); close each card by the builder's one call (the guide's Derived/Test/ToyasCard.lean, 'card_holds'). Laid BY PROGRAM, IN A SANDBOX (cutbox-door.mjs). By AI agents, Wed Nov 11 2026. No macro, syntax, notation, axiom, sorry.
-/
import Derived.Test.YtbdnbjemocjlaaaGreatDoorRows
import GoSem.ClaimSeven
namespace Go.Proofs.YtbdnbjemocjlaaaGreatDoor
namespace Rows

/-- THE TIED CARD OF 'moneyerlaw2.TxTells'. -/
def txTellsCard : Claim7 := { stood := { row := txTellsRow, standIns := [], harness := (true, "19c613a78bd1b781322cc523151a5c7c7e1ea373cb60382d6020267eba32e200"), looks := true }, kinds := [], alts := [], laidByText := true, laidKinds := [.data, .handle], laidTests := true, laidLooks := .later }
def TxTellsCardSaid : Prop := Claim7.holds Tryz.pinned (.plain (OpenSpec.ofChange txTellsSpec)) txTellsCard

/-- THE SECOND FORM's CARD OF 'moneyerlaw2.TxTells'. -/
def txTellsUptoCard : Claim7 := { stood := { row := txTellsUptoRow, standIns := [], harness := (true, "19c613a78bd1b781322cc523151a5c7c7e1ea373cb60382d6020267eba32e200"), looks := true }, kinds := [], alts := [], laidByText := true, laidKinds := [.data, .handle], laidTests := true, laidLooks := .later }
def TxTellsUptoCardSaid : Prop := Claim7.holds Tryz.pinned (.plain (OpenSpec.upto txTellsSpec)) txTellsUptoCard
end Rows
end Go.Proofs.YtbdnbjemocjlaaaGreatDoor
