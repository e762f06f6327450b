/-
  DERIVED. GIVEN WITH THE SEED: THE CARDS: each row of YtkdihbgjeanjdaaDoorRows.lean that lists a variable, with what it lists TIED to the program's text (the seventh form; the later family's looks); each row that meets fmt, with fmt's text TOLD by the authors' own Lean function (tested against real Go, not proved from fmt's source: count such statements apart). THE CARD IS WHAT COUNTS. Prove the row's statement (the work); the ties are given (YtkdihbgjeanjdaaDoorTie.lean); close each card by the builder's one call (the guide's Derived/Test/ToyasCard.lean, 'card_holds'). Laid BY PROGRAM, IN A SANDBOX (cutbox-door.mjs). By AI agents, Wed Nov 11 2026. No macro, syntax, notation, axiom, sorry.
-/
import Derived.Test.YtkdihbgjeanjdaaDoorRows
import GoSem.ClaimSeven
namespace Go.Proofs.YtkdihbgjeanjdaaDoor
namespace Rows

/-- THE TIED CARD OF 'moneyerlaw1.LockTells'. -/
def lockTellsCard : Claim7 := { stood := { row := lockTellsRow, standIns := [], harness := (true, "f043f711050a5a9d06fa84692fb5210c3ad9b0abb5776609cce04d88fce4b9d6"), looks := true }, kinds := [], alts := [], laidByText := true, laidKinds := [.data, .handle], laidTests := true, laidLooks := .later }
def LockTellsCardSaid : Prop := Claim7.holds Tryd.pinned (.plain (OpenSpec.ofChange lockTellsSpec)) lockTellsCard

/-- THE TIED CARD OF 'moneyerlaw1.LockHash'. -/
def lockHashCard : Claim7 := { stood := { row := lockHashRow, standIns := [], harness := (true, "f043f711050a5a9d06fa84692fb5210c3ad9b0abb5776609cce04d88fce4b9d6"), looks := true }, kinds := [], alts := [], laidByText := true, laidKinds := [.data, .handle], laidTests := true, laidLooks := .later }
def LockHashCardSaid : Prop := Claim7.holds Tryd.pinned (.plain (OpenSpec.ofChange lockHashSpec)) lockHashCard

/-- THE TIED CARD OF 'moneyerlaw1.LockSigned'. -/
def lockSignedCard : Claim7 := { stood := { row := lockSignedRow, standIns := [], harness := (true, "f043f711050a5a9d06fa84692fb5210c3ad9b0abb5776609cce04d88fce4b9d6"), looks := true }, kinds := [], alts := [], laidByText := true, laidKinds := [.data, .handle], laidTests := true, laidLooks := .later }
def LockSignedCardSaid : Prop := Claim7.holds Tryd.pinned (.plain (OpenSpec.ofChange lockSignedSpec)) lockSignedCard

/-- THE TIED CARD OF 'moneyerlaw1.LockMany'. -/
def lockManyCard : Claim7 := { stood := { row := lockManyRow, standIns := [], harness := (true, "f043f711050a5a9d06fa84692fb5210c3ad9b0abb5776609cce04d88fce4b9d6"), looks := true }, kinds := [], alts := [], laidByText := true, laidKinds := [.data, .handle], laidTests := true, laidLooks := .later }
def LockManyCardSaid : Prop := Claim7.holds Tryd.pinned (.plain (OpenSpec.ofChange lockManySpec)) lockManyCard

/-- THE TIED CARD OF 'moneyerlaw1.LockEither'. -/
def lockEitherCard : Claim7 := { stood := { row := lockEitherRow, standIns := [], harness := (true, "f043f711050a5a9d06fa84692fb5210c3ad9b0abb5776609cce04d88fce4b9d6"), looks := true }, kinds := [], alts := [], laidByText := true, laidKinds := [.data, .handle], laidTests := true, laidLooks := .later }
def LockEitherCardSaid : Prop := Claim7.holds Tryd.pinned (.plain (OpenSpec.ofChange lockEitherSpec)) lockEitherCard

/-- THE TIED CARD OF 'moneyerlaw1.LockAfter'. -/
def lockAfterCard : Claim7 := { stood := { row := lockAfterRow, standIns := [], harness := (true, "f043f711050a5a9d06fa84692fb5210c3ad9b0abb5776609cce04d88fce4b9d6"), looks := true }, kinds := [], alts := [], laidByText := true, laidKinds := [.data, .handle], laidTests := true, laidLooks := .later }
def LockAfterCardSaid : Prop := Claim7.holds Tryd.pinned (.plain (OpenSpec.ofChange lockAfterSpec)) lockAfterCard

/-- THE SECOND FORM's CARD OF 'moneyerlaw1.LockTells'. -/
def lockTellsUptoCard : Claim7 := { stood := { row := lockTellsUptoRow, standIns := [], harness := (true, "f043f711050a5a9d06fa84692fb5210c3ad9b0abb5776609cce04d88fce4b9d6"), looks := true }, kinds := [], alts := [], laidByText := true, laidKinds := [.data, .handle], laidTests := true, laidLooks := .later }
def LockTellsUptoCardSaid : Prop := Claim7.holds Tryd.pinned (.plain (OpenSpec.upto lockTellsSpec)) lockTellsUptoCard

/-- THE SECOND FORM's CARD OF 'moneyerlaw1.LockHash'. -/
def lockHashUptoCard : Claim7 := { stood := { row := lockHashUptoRow, standIns := [], harness := (true, "f043f711050a5a9d06fa84692fb5210c3ad9b0abb5776609cce04d88fce4b9d6"), looks := true }, kinds := [], alts := [], laidByText := true, laidKinds := [.data, .handle], laidTests := true, laidLooks := .later }
def LockHashUptoCardSaid : Prop := Claim7.holds Tryd.pinned (.plain (OpenSpec.upto lockHashSpec)) lockHashUptoCard

/-- THE SECOND FORM's CARD OF 'moneyerlaw1.LockSigned'. -/
def lockSignedUptoCard : Claim7 := { stood := { row := lockSignedUptoRow, standIns := [], harness := (true, "f043f711050a5a9d06fa84692fb5210c3ad9b0abb5776609cce04d88fce4b9d6"), looks := true }, kinds := [], alts := [], laidByText := true, laidKinds := [.data, .handle], laidTests := true, laidLooks := .later }
def LockSignedUptoCardSaid : Prop := Claim7.holds Tryd.pinned (.plain (OpenSpec.upto lockSignedSpec)) lockSignedUptoCard

/-- THE SECOND FORM's CARD OF 'moneyerlaw1.LockMany'. -/
def lockManyUptoCard : Claim7 := { stood := { row := lockManyUptoRow, standIns := [], harness := (true, "f043f711050a5a9d06fa84692fb5210c3ad9b0abb5776609cce04d88fce4b9d6"), looks := true }, kinds := [], alts := [], laidByText := true, laidKinds := [.data, .handle], laidTests := true, laidLooks := .later }
def LockManyUptoCardSaid : Prop := Claim7.holds Tryd.pinned (.plain (OpenSpec.upto lockManySpec)) lockManyUptoCard

/-- THE SECOND FORM's CARD OF 'moneyerlaw1.LockEither'. -/
def lockEitherUptoCard : Claim7 := { stood := { row := lockEitherUptoRow, standIns := [], harness := (true, "f043f711050a5a9d06fa84692fb5210c3ad9b0abb5776609cce04d88fce4b9d6"), looks := true }, kinds := [], alts := [], laidByText := true, laidKinds := [.data, .handle], laidTests := true, laidLooks := .later }
def LockEitherUptoCardSaid : Prop := Claim7.holds Tryd.pinned (.plain (OpenSpec.upto lockEitherSpec)) lockEitherUptoCard

/-- THE SECOND FORM's CARD OF 'moneyerlaw1.LockAfter'. -/
def lockAfterUptoCard : Claim7 := { stood := { row := lockAfterUptoRow, standIns := [], harness := (true, "f043f711050a5a9d06fa84692fb5210c3ad9b0abb5776609cce04d88fce4b9d6"), looks := true }, kinds := [], alts := [], laidByText := true, laidKinds := [.data, .handle], laidTests := true, laidLooks := .later }
def LockAfterUptoCardSaid : Prop := Claim7.holds Tryd.pinned (.plain (OpenSpec.upto lockAfterSpec)) lockAfterUptoCard
end Rows
end Go.Proofs.YtkdihbgjeanjdaaDoor
