/-
  DERIVED. GIVEN WITH THE SEED: THE CARDS: each row of YtkdihbgjeanjdabDoorRows.lean that lists a variable, with what it lists TIED to the program's text (the seventh form; the later family's looks); each row that meets fmt, with fmt's text TOLD by the authors' own Lean function (tested against real Go, not proved from fmt's source: count such statements apart). THE CARD IS WHAT COUNTS. Prove the row's statement (the work); the ties are given (YtkdihbgjeanjdabDoorTie.lean); close each card by the builder's one call (the guide's Derived/Test/ToyasCard.lean, 'card_holds'). Laid BY PROGRAM, IN A SANDBOX (cutbox-door.mjs). By AI agents, Wed Nov 11 2026. No macro, syntax, notation, axiom, sorry.
-/
import Derived.Test.YtkdihbgjeanjdabDoorRows
import GoSem.ClaimSeven
namespace Go.Proofs.YtkdihbgjeanjdabDoor
namespace Rows

/-- THE TIED CARD OF 'moneyerlaw1.LockNot'. -/
def lockNotCard : Claim7 := { stood := { row := lockNotRow, standIns := [], harness := (true, "bcf62c4b0728c003474bc6830e742e06032c41eca67dda1fde0de7c230d3bb3c"), looks := true }, kinds := [], alts := [], laidByText := true, laidKinds := [.data, .handle], laidTests := true, laidLooks := .later }
def LockNotCardSaid : Prop := Claim7.holds Tryd.pinned (.plain (OpenSpec.ofChange lockNotSpec)) lockNotCard

/-- THE TIED CARD OF 'moneyerlaw1.LockIdle'. -/
def lockIdleCard : Claim7 := { stood := { row := lockIdleRow, standIns := [], harness := (true, "bcf62c4b0728c003474bc6830e742e06032c41eca67dda1fde0de7c230d3bb3c"), looks := true }, kinds := [], alts := [], laidByText := true, laidKinds := [.data, .handle], laidTests := true, laidLooks := .later }
def LockIdleCardSaid : Prop := Claim7.holds Tryd.pinned (.plain (OpenSpec.ofChange lockIdleSpec)) lockIdleCard

/-- THE TIED CARD OF 'moneyerlaw1.LockSwaps'. -/
def lockSwapsCard : Claim7 := { stood := { row := lockSwapsRow, standIns := [], harness := (true, "bcf62c4b0728c003474bc6830e742e06032c41eca67dda1fde0de7c230d3bb3c"), looks := true }, kinds := [], alts := [], laidByText := true, laidKinds := [.data, .handle], laidTests := true, laidLooks := .later }
def LockSwapsCardSaid : Prop := Claim7.holds Tryd.pinned (.plain (OpenSpec.ofChange lockSwapsSpec)) lockSwapsCard

/-- THE SECOND FORM's CARD OF 'moneyerlaw1.LockNot'. -/
def lockNotUptoCard : Claim7 := { stood := { row := lockNotUptoRow, standIns := [], harness := (true, "bcf62c4b0728c003474bc6830e742e06032c41eca67dda1fde0de7c230d3bb3c"), looks := true }, kinds := [], alts := [], laidByText := true, laidKinds := [.data, .handle], laidTests := true, laidLooks := .later }
def LockNotUptoCardSaid : Prop := Claim7.holds Tryd.pinned (.plain (OpenSpec.upto lockNotSpec)) lockNotUptoCard

/-- THE SECOND FORM's CARD OF 'moneyerlaw1.LockIdle'. -/
def lockIdleUptoCard : Claim7 := { stood := { row := lockIdleUptoRow, standIns := [], harness := (true, "bcf62c4b0728c003474bc6830e742e06032c41eca67dda1fde0de7c230d3bb3c"), looks := true }, kinds := [], alts := [], laidByText := true, laidKinds := [.data, .handle], laidTests := true, laidLooks := .later }
def LockIdleUptoCardSaid : Prop := Claim7.holds Tryd.pinned (.plain (OpenSpec.upto lockIdleSpec)) lockIdleUptoCard

/-- THE SECOND FORM's CARD OF 'moneyerlaw1.LockSwaps'. -/
def lockSwapsUptoCard : Claim7 := { stood := { row := lockSwapsUptoRow, standIns := [], harness := (true, "bcf62c4b0728c003474bc6830e742e06032c41eca67dda1fde0de7c230d3bb3c"), looks := true }, kinds := [], alts := [], laidByText := true, laidKinds := [.data, .handle], laidTests := true, laidLooks := .later }
def LockSwapsUptoCardSaid : Prop := Claim7.holds Tryd.pinned (.plain (OpenSpec.upto lockSwapsSpec)) lockSwapsUptoCard
end Rows
end Go.Proofs.YtkdihbgjeanjdabDoor
