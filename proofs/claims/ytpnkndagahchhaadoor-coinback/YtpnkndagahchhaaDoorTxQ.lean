/- tx.Read: what breaks a reading off is told as an error. -/
import Derived.Test.YtpnkndagahchhaaDoorTxY
import Derived.Defers
import Derived.Recover
namespace Go.Proofs.YtpnkndagahchhaaDoor
open Go.RowKit
set_option linter.unusedVariables false
set_option linter.unusedSimpArgs false

/-- What reading tells. -/
def ReadTold (w : World) (r : Option Tm.Tx) (e : Ending) (w' : World) : Prop :=
  Below w.heap.size w w' ∧ match r with
  | none => e = .returned (.tuple #[.agg #[.slice none 0 0, .slice none 0 0, .int .i64 0], errV 1])
  | some t => ∃ T : TxV, T.it = t ∧ e = .returned (.tuple #[T.val, .nilIface]) ∧ Itm w.heap.size w' (fun W => HasTx W T)
theorem hasIns_form {w : World} {v : Value} {L : List InV} (h : HasIns w v L) : ∃ a n c, v = .slice a n c := by
  rcases h.1 with ⟨a, c, e, _⟩ | ⟨b, off, c, e, _⟩
  · exact ⟨a, 0, c, e⟩
  · exact ⟨_, _, c, e⟩
theorem hasOuts_form {w : World} {v : Value} {L : List OutV} (h : HasOuts w v L) : ∃ a n c, v = .slice a n c := by
  rcases h.1 with ⟨a, c, e, _⟩ | ⟨b, off, c, e, _⟩
  · exact ⟨a, 0, c, e⟩
  · exact ⟨_, _, c, e⟩

/-- What lies in the two cells of results. -/
structure ResS (w : World) (W : World) : Prop where
  below : Below w.heap.size w W
  tx : Is W w.heap.size [.slice none 0 0, .slice none 0 0, .int .i64 0] 26
  err : Is W (w.heap.size + 1) [.nilIface] 29
theorem ResS.call {w W W' : World} (h : ResS w W) (hb : Below (w.heap.size + 2) W W') : ResS w W' :=
  ⟨h.below.trans (hb.mono (by omega)), h.tx.below hb (by omega), h.err.below hb (by omega)⟩
theorem ResS.but {w W W' : World} {R : Nat} (h : ResS w W) (hb : But R W W') (hR : w.heap.size + 2 ≤ R) : ResS w W' :=
  h.call (hb.under (by have := h.err.lt; omega) hR)

end Go.Proofs.YtpnkndagahchhaaDoor
