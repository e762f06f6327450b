/- moneyerlaw2's sent: a payment of 5 is sent so. -/
import Derived.Test.YtmoijbdpbpfljaaDoorTxB
import Derived.Test.YtmoijbdpbpfljaaDoorBytes
namespace Go.Proofs.YtmoijbdpbpfljaaDoor
open Go.RowKit
set_option linter.unusedVariables false
set_option linter.unusedSimpArgs false

/-- The payment that sent sends. -/
def sentT (b : Nat) : TxV := ⟨.slice none 0 0, [], .slice (some ⟨b, 0, none⟩) 1 1, [⟨5, .slice none 0 0, []⟩], 0⟩
theorem sent_has {w : World} {b : Nat} (h : Is w b [.int .i64 5, .slice none 0 0] 53) : HasTx w (sentT b) := by
  refine ⟨⟨.inl ⟨none, 0, rfl, rfl⟩, fun x hx => by cases hx⟩, ⟨.inr ⟨b, 0, 1, rfl, by simp [sentT], by simp [sentT], by unfold maxLen; omega, h.lt, is_range h⟩, fun x hx => ?_⟩⟩
  obtain rfl : x = ⟨5, .slice none 0 0, []⟩ := by simpa [sentT] using hx
  exact ⟨.inl ⟨none, 0, rfl, rfl⟩, fun p hp => by cases hp⟩
theorem sent_check (b : Nat) : Tm.check (sentT b).it = 0 := by
  show Tm.check ⟨[], [⟨5, []⟩], 0⟩ = 0
  decide
theorem sent_bytes (b : Nat) : Tm.bytes (sentT b).it = [0, 1, 5, 0, 0] := by
  show Tm.bytes ⟨[], [⟨5, []⟩], 0⟩ = [0, 1, 5, 0, 0]
  decide

set_option maxRecDepth 100000 in
set_option maxHeartbeats 1000000 in
theorem sent_any (w : World) : Calls Tryd.prog 5 #[] w fun e w' => e = .returned (.bool true) ∧ Below w.heap.size w w' := by
  have HS := hide (fun W (h : HasTx W (sentT w.heap.size)) => tbytes_good _ W h (sent_check _))
  have HSB := hide (sent_bytes w.heap.size)
  have HI := hide (Is.new w [.int .i64 5, .slice none 0 0] 53)
  have HBL := hide (below_alloc w (.cells #[.int .i64 5, .slice none 0 0] 53))
  go_enter Tryd.func5, Tryd.ntmps5
  go_wp2_with fail
  refine (HS.out _ (sent_has HI.out)).mono ?_
  rintro e w1 ⟨v, rfl, ho, hb1⟩
  rw [HSB.out] at ho
  obtain ⟨va, vc, rfl, _, _⟩ := ho.form
  have HO := hide ho
  have HB1 := hide (HBL.out.trans (hb1.mono (by simp)))
  clear hb1 ho HS HI
  go_wp2_with fail
  have hh : Has (w1.alloc (.cells #[.int .u8 0, .int .u8 1, .int .u8 5, .int .u8 0, .int .u8 0] 5)) (.slice (some ⟨w1.heap.size, 0, none⟩) 5 5) [0, 1, 5, 0, 0] := by
    refine .inr ⟨w1.heap.size, 0, 5, rfl, by decide, by decide, by unfold maxLen; omega, fun j hj => ?_⟩
    rw [Nat.zero_add]
    exact ((Is.new w1 (vals [0, 1, 5, 0, 0]) 5).cell j).trans (vals_get [0, 1, 5, 0, 0] j hj)
  refine (bytes_any _ _ _ _ _ ((Own.has HO.out).below (below_alloc w1 _)) hh).mono ?_
  rintro e w2 ⟨rfl, hb2⟩
  have hs : sameB [0, 1, 5, 0, 0] [0, 1, 5, 0, 0] = true := by unfold sameB; decide
  rw [hs]
  have HB2 := hide (HB1.out.trans ((below_alloc w1 (.cells #[.int .u8 0, .int .u8 1, .int .u8 5, .int .u8 0, .int .u8 0] 5)).trans (hb2.mono (by simp)) |>.mono HB1.out.size))
  clear hb2 hh
  go_wp2
  go_ret
  exact ⟨rfl, HB2.out⟩
end Go.Proofs.YtmoijbdpbpfljaaDoor
