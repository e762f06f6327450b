/- The walk of KeyForged, for any seed, any two digests and any bytes. -/
import Derived.Test.YtfgjgaenhpelkaaDoorKeForgedB
import Derived.Test.YtfgjgaenhpelkaaDoorKeForgedG
namespace Go.Proofs.YtfgjgaenhpelkaaDoor
open Go.RowKit
set_option linter.unusedVariables false

theorem kforged_walk (seed m other : List Int) (v : Value) (sig : List Int) (w : World) (hs : seed.length = 32) (hsb : Sz.Byt seed) (hm : m.length = 32) (hmb : Sz.Byt m) (ho : other.length = 32) (hob : Sz.Byt other) (hv : Has w v sig) (hgb : Sz.Byt sig) (hgl : sig.length ≤ 140737488351232) (ht : Tab w) (hw : 0 < w.heap.size) :
    Calls Tryd.prog 3 #[.agg (vals seed).toArray, .agg (vals m).toArray, .agg (vals other).toArray, v] w fun e w' => e = .returned (.bool true) ∧ Below w.heap.size w w' := by
  rcases hv with ⟨a, cap, rfl, rfl, hm1, hn⟩ | ⟨b, off, cap, rfl, h0, h1, hm1, hc⟩
  · exact kforged_bad seed m other a 0 cap (by omega) (by omega) w hs hsb hm hmb ho hob ht hw
  · by_cases hl : sig.length = 2144
    · rw [hl]
      refine kforged_good seed m other sig b off cap hl hgb (by omega) hm1 w (fun j v hv => ?_) (World.block_lt_of_cell? w _ (hc 0 h0)) hs hsb hm hmb ho hob ht hw
      have hj : j < sig.length := by have := (List.getElem?_eq_some_iff.1 hv).1; rwa [vals_length] at this
      rw [hc j hj, ← hv, vals_get _ _ hj]
    · exact kforged_bad seed m other (some ⟨b, off, none⟩) sig.length cap hl (by omega) w hs hsb hm hmb ho hob ht hw
end Go.Proofs.YtfgjgaenhpelkaaDoor
