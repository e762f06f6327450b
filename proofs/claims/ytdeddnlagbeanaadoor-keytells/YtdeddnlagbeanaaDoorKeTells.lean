/- The walk of KeyTells, for any seed, digest, bytes and number. -/
import Derived.Test.YtdeddnlagbeanaaDoorKeTellsG
namespace Go.Proofs.YtdeddnlagbeanaaDoor
open Go.RowKit
set_option linter.unusedVariables false

set_option maxRecDepth 100000 in
theorem ktells_above (seed m : List Int) (v : Value) (z : Int) (w : World) (hz : 1000 < z) :
    Calls Tryd.prog 3 #[.agg (vals seed).toArray, .agg (vals m).toArray, v, .int .i64 z] w fun e w' => e = .returned (.bool true) ∧ Below w.heap.size w w' := by
  go_enter Tryd.func3, Tryd.ntmps3
  go_wp2
  go_ret
  exact ⟨rfl, below_alloc2 _ _ _⟩

theorem ktells_walk (seed m : List Int) (v : Value) (sig : List Int) (z : Int) (w : World) (hs : seed.length = 32) (hsb : Sz.Byt seed) (hm : m.length = 32) (hmb : Sz.Byt m) (hv : Has w v sig) (hgb : Sz.Byt sig) (hgl : sig.length ≤ 140737488351232) (ht : Tab w) (hw : 1 < w.heap.size) (he : ErrVar w) :
    Calls Tryd.prog 3 #[.agg (vals seed).toArray, .agg (vals m).toArray, v, .int .i64 z] w fun e w' => e = .returned (.bool true) ∧ Below w.heap.size w w' := by
  by_cases hz : 1000 < z
  · exact ktells_above seed m v z w hz
  · rcases hv with ⟨a, cap, rfl, rfl, hm1, hn⟩ | ⟨b, off, cap, rfl, h0, h1, hm1, hc⟩
    · exact ktells_bad seed m a 0 cap z w hs hsb hm hmb (by omega) (by omega) ht hw he hz
    · by_cases hl : sig.length = 2144
      · rw [hl]
        refine ktells_good seed m sig b off cap z w hs hsb hm hmb hl hgb (by omega) hm1 (fun j v hv => ?_) (World.block_lt_of_cell? w _ (hc 0 h0)) ht hw he hz
        have hj : j < sig.length := by have := (List.getElem?_eq_some_iff.1 hv).1; rwa [vals_length] at this
        rw [hc j hj, ← hv, vals_get _ _ hj]
      · exact ktells_bad seed m (some ⟨b, off, none⟩) sig.length cap z w hs hsb hm hmb hl (by omega) ht hw he hz
end Go.Proofs.YtdeddnlagbeanaaDoor
