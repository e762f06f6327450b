/-
  DERIVED. GIVEN WITH THE SEED: THE CARDS: each row of YtdeddnlagbeanaaDoorRows.lean that lists a variable, with what it lists TIED to the program's text (the seventh form; the later family's looks); each row that meets fmt, with fmt's text TOLD by the authors' own Lean function (tested against real Go, not proved from fmt's source: count such statements apart). THE CARD IS WHAT COUNTS. Prove the row's statement (the work); the ties are given (YtdeddnlagbeanaaDoorTie.lean); close each card by the builder's one call (the guide's Derived/Test/ToyasCard.lean, 'card_holds'). Laid BY PROGRAM, IN A SANDBOX (cutbox-door.mjs). By AI agents, Wed Nov 11 2026. No macro, syntax, notation, axiom, sorry.
-/
import Derived.Test.YtdeddnlagbeanaaDoorRows
import GoSem.ClaimSeven
namespace Go.Proofs.YtdeddnlagbeanaaDoor
namespace Rows

/-- THE TIED CARD OF 'moneyerlaw1.KeyTells'. -/
def keyTellsCard : Claim7 := { stood := { row := keyTellsRow, standIns := [], harness := (true, "64ac3552f9d1ba35c18903c39a14b1c2a2bf451604845a7aff21a9fc780cbb54"), looks := true }, kinds := [], alts := [], laidByText := true, laidKinds := [.data, .handle], laidTests := true, laidLooks := .later }
def KeyTellsCardSaid : Prop := Claim7.holds Tryd.pinned (.plain (OpenSpec.ofChange keyTellsSpec)) keyTellsCard

/-- THE TIED CARD OF 'moneyerlaw1.KeySigned'. -/
def keySignedCard : Claim7 := { stood := { row := keySignedRow, standIns := [], harness := (true, "64ac3552f9d1ba35c18903c39a14b1c2a2bf451604845a7aff21a9fc780cbb54"), looks := true }, kinds := [], alts := [], laidByText := true, laidKinds := [.data], laidTests := true, laidLooks := .later }
def KeySignedCardSaid : Prop := Claim7.holds Tryd.pinned (.plain (OpenSpec.ofChange keySignedSpec)) keySignedCard

/-- THE TIED CARD OF 'moneyerlaw1.KeySteps'. -/
def keyStepsCard : Claim7 := { stood := { row := keyStepsRow, standIns := [], harness := (true, "64ac3552f9d1ba35c18903c39a14b1c2a2bf451604845a7aff21a9fc780cbb54"), looks := true }, kinds := [], alts := [], laidByText := true, laidKinds := [.data], laidTests := true, laidLooks := .later }
def KeyStepsCardSaid : Prop := Claim7.holds Tryd.pinned (.plain (OpenSpec.ofChange keyStepsSpec)) keyStepsCard

/-- THE TIED CARD OF 'moneyerlaw1.KeyForged'. -/
def keyForgedCard : Claim7 := { stood := { row := keyForgedRow, standIns := [], harness := (true, "64ac3552f9d1ba35c18903c39a14b1c2a2bf451604845a7aff21a9fc780cbb54"), looks := true }, kinds := [], alts := [], laidByText := true, laidKinds := [.data], laidTests := true, laidLooks := .later }
def KeyForgedCardSaid : Prop := Claim7.holds Tryd.pinned (.plain (OpenSpec.ofChange keyForgedSpec)) keyForgedCard

/-- THE SECOND FORM's CARD OF 'moneyerlaw1.KeyTells'. -/
def keyTellsUptoCard : Claim7 := { stood := { row := keyTellsUptoRow, standIns := [], harness := (true, "64ac3552f9d1ba35c18903c39a14b1c2a2bf451604845a7aff21a9fc780cbb54"), looks := true }, kinds := [], alts := [], laidByText := true, laidKinds := [.data, .handle], laidTests := true, laidLooks := .later }
def KeyTellsUptoCardSaid : Prop := Claim7.holds Tryd.pinned (.plain (OpenSpec.upto keyTellsSpec)) keyTellsUptoCard

/-- THE SECOND FORM's CARD OF 'moneyerlaw1.KeySigned'. -/
def keySignedUptoCard : Claim7 := { stood := { row := keySignedUptoRow, standIns := [], harness := (true, "64ac3552f9d1ba35c18903c39a14b1c2a2bf451604845a7aff21a9fc780cbb54"), looks := true }, kinds := [], alts := [], laidByText := true, laidKinds := [.data], laidTests := true, laidLooks := .later }
def KeySignedUptoCardSaid : Prop := Claim7.holds Tryd.pinned (.plain (OpenSpec.upto keySignedSpec)) keySignedUptoCard

/-- THE SECOND FORM's CARD OF 'moneyerlaw1.KeySteps'. -/
def keyStepsUptoCard : Claim7 := { stood := { row := keyStepsUptoRow, standIns := [], harness := (true, "64ac3552f9d1ba35c18903c39a14b1c2a2bf451604845a7aff21a9fc780cbb54"), looks := true }, kinds := [], alts := [], laidByText := true, laidKinds := [.data], laidTests := true, laidLooks := .later }
def KeyStepsUptoCardSaid : Prop := Claim7.holds Tryd.pinned (.plain (OpenSpec.upto keyStepsSpec)) keyStepsUptoCard

/-- THE SECOND FORM's CARD OF 'moneyerlaw1.KeyForged'. -/
def keyForgedUptoCard : Claim7 := { stood := { row := keyForgedUptoRow, standIns := [], harness := (true, "64ac3552f9d1ba35c18903c39a14b1c2a2bf451604845a7aff21a9fc780cbb54"), looks := true }, kinds := [], alts := [], laidByText := true, laidKinds := [.data], laidTests := true, laidLooks := .later }
def KeyForgedUptoCardSaid : Prop := Claim7.holds Tryd.pinned (.plain (OpenSpec.upto keyForgedSpec)) keyForgedUptoCard
end Rows
end Go.Proofs.YtdeddnlagbeanaaDoor
