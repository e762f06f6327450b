/-
  DERIVED. GIVEN WITH THE SEED: THE CARDS: each row of YtpnkndagahchhaaDoorRows.lean that lists a variable, with what it lists TIED to the program's text (the seventh form; the later family's looks); each row that meets fmt, with fmt's text TOLD by the authors' own Lean function (tested against real Go, not proved from fmt's source: count such statements apart). THE CARD IS WHAT COUNTS. Prove the row's statement (the work); the ties are given (YtpnkndagahchhaaDoorTie.lean); close each card by the builder's one call (the guide's Derived/Test/ToyasCard.lean, 'card_holds'). Laid BY PROGRAM, IN A SANDBOX (cutbox-door.mjs). By AI agents, Wed Nov 11 2026. No macro, syntax, notation, axiom, sorry.
-/
import Derived.Test.YtpnkndagahchhaaDoorRows
import GoSem.ClaimSeven
namespace Go.Proofs.YtpnkndagahchhaaDoor
namespace Rows

/-- THE TIED CARD OF 'moneyerlaw2.CoinSums'. -/
def coinSumsCard : Claim7 := { stood := { row := coinSumsRow, standIns := [], harness := (true, "086d6d1d408634beefca74a120dbb5424f9de6190fefb5a9513619a31ee60d21"), looks := false }, kinds := [], alts := [], laidByText := true, laidKinds := [.data], laidTests := true, laidLooks := .later }
def CoinSumsCardSaid : Prop := Claim7.holds Tryd.pinned (.plain (OpenSpec.ofChange coinSumsSpec)) coinSumsCard

/-- THE TIED CARD OF 'moneyerlaw2.CoinOrder'. -/
def coinOrderCard : Claim7 := { stood := { row := coinOrderRow, standIns := [], harness := (true, "086d6d1d408634beefca74a120dbb5424f9de6190fefb5a9513619a31ee60d21"), looks := false }, kinds := [], alts := [], laidByText := true, laidKinds := [.data], laidTests := true, laidLooks := .later }
def CoinOrderCardSaid : Prop := Claim7.holds Tryd.pinned (.plain (OpenSpec.ofChange coinOrderSpec)) coinOrderCard

/-- THE TIED CARD OF 'moneyerlaw2.CoinBack'. -/
def coinBackCard : Claim7 := { stood := { row := coinBackRow, standIns := [], harness := (true, "086d6d1d408634beefca74a120dbb5424f9de6190fefb5a9513619a31ee60d21"), looks := false }, kinds := [], alts := [], laidByText := true, laidKinds := [.data], laidTests := true, laidLooks := .later }
def CoinBackCardSaid : Prop := Claim7.holds Tryd.pinned (.plain (OpenSpec.ofChange coinBackSpec)) coinBackCard

/-- THE SECOND FORM's CARD OF 'moneyerlaw2.CoinSums'. -/
def coinSumsUptoCard : Claim7 := { stood := { row := coinSumsUptoRow, standIns := [], harness := (true, "086d6d1d408634beefca74a120dbb5424f9de6190fefb5a9513619a31ee60d21"), looks := false }, kinds := [], alts := [], laidByText := true, laidKinds := [.data], laidTests := true, laidLooks := .later }
def CoinSumsUptoCardSaid : Prop := Claim7.holds Tryd.pinned (.plain (OpenSpec.upto coinSumsSpec)) coinSumsUptoCard

/-- THE SECOND FORM's CARD OF 'moneyerlaw2.CoinOrder'. -/
def coinOrderUptoCard : Claim7 := { stood := { row := coinOrderUptoRow, standIns := [], harness := (true, "086d6d1d408634beefca74a120dbb5424f9de6190fefb5a9513619a31ee60d21"), looks := false }, kinds := [], alts := [], laidByText := true, laidKinds := [.data], laidTests := true, laidLooks := .later }
def CoinOrderUptoCardSaid : Prop := Claim7.holds Tryd.pinned (.plain (OpenSpec.upto coinOrderSpec)) coinOrderUptoCard

/-- THE SECOND FORM's CARD OF 'moneyerlaw2.CoinBack'. -/
def coinBackUptoCard : Claim7 := { stood := { row := coinBackUptoRow, standIns := [], harness := (true, "086d6d1d408634beefca74a120dbb5424f9de6190fefb5a9513619a31ee60d21"), looks := false }, kinds := [], alts := [], laidByText := true, laidKinds := [.data], laidTests := true, laidLooks := .later }
def CoinBackUptoCardSaid : Prop := Claim7.holds Tryd.pinned (.plain (OpenSpec.upto coinBackSpec)) coinBackUptoCard
end Rows
end Go.Proofs.YtpnkndagahchhaaDoor
