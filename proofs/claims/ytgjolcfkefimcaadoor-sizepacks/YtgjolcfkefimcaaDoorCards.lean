/-
  DERIVED. GIVEN WITH THE SEED: THE CARDS: each row of YtgjolcfkefimcaaDoorRows.lean that lists a variable, with what it lists TIED to the program's text (the seventh form; the later family's looks); each row that meets fmt, with fmt's text TOLD by the authors' own Lean function (tested against real Go, not proved from fmt's source: count such statements apart). THE CARD IS WHAT COUNTS. Prove the row's statement (the work); the ties are given (YtgjolcfkefimcaaDoorTie.lean); close each card by the builder's one call (the guide's Derived/Test/ToyasCard.lean, 'card_holds'). Laid BY PROGRAM, IN A SANDBOX (cutbox-door.mjs). By AI agents, Wed Nov 11 2026. No macro, syntax, notation, axiom, sorry.
-/
import Derived.Test.YtgjolcfkefimcaaDoorRows
import GoSem.ClaimSeven
namespace Go.Proofs.YtgjolcfkefimcaaDoor
namespace Rows

/-- THE TIED CARD OF 'moneyerlaw1.SizeTells'. -/
def sizeTellsCard : Claim7 := { stood := { row := sizeTellsRow, standIns := [], harness := (true, "df5211862dd448e9a213b8ea23fb8344e78d1e29f3ecb3a4bcb6a1d6695c5d5a"), looks := true }, kinds := [], alts := [], laidByText := true, laidKinds := [.handle], laidTests := true, laidLooks := .later }
def SizeTellsCardSaid : Prop := Claim7.holds Tryd.pinned (.plain (OpenSpec.ofChange sizeTellsSpec)) sizeTellsCard

/-- THE TIED CARD OF 'moneyerlaw1.SizePacks'. -/
def sizePacksCard : Claim7 := { stood := { row := sizePacksRow, standIns := [], harness := (true, "df5211862dd448e9a213b8ea23fb8344e78d1e29f3ecb3a4bcb6a1d6695c5d5a"), looks := true }, kinds := [], alts := [], laidByText := true, laidKinds := [.handle], laidTests := true, laidLooks := .later }
def SizePacksCardSaid : Prop := Claim7.holds Tryd.pinned (.plain (OpenSpec.ofChange sizePacksSpec)) sizePacksCard

/-- THE SECOND FORM's CARD OF 'moneyerlaw1.SizeTells'. -/
def sizeTellsUptoCard : Claim7 := { stood := { row := sizeTellsUptoRow, standIns := [], harness := (true, "df5211862dd448e9a213b8ea23fb8344e78d1e29f3ecb3a4bcb6a1d6695c5d5a"), looks := true }, kinds := [], alts := [], laidByText := true, laidKinds := [.handle], laidTests := true, laidLooks := .later }
def SizeTellsUptoCardSaid : Prop := Claim7.holds Tryd.pinned (.plain (OpenSpec.upto sizeTellsSpec)) sizeTellsUptoCard

/-- THE SECOND FORM's CARD OF 'moneyerlaw1.SizePacks'. -/
def sizePacksUptoCard : Claim7 := { stood := { row := sizePacksUptoRow, standIns := [], harness := (true, "df5211862dd448e9a213b8ea23fb8344e78d1e29f3ecb3a4bcb6a1d6695c5d5a"), looks := true }, kinds := [], alts := [], laidByText := true, laidKinds := [.handle], laidTests := true, laidLooks := .later }
def SizePacksUptoCardSaid : Prop := Claim7.holds Tryd.pinned (.plain (OpenSpec.upto sizePacksSpec)) sizePacksUptoCard
end Rows
end Go.Proofs.YtgjolcfkefimcaaDoor
