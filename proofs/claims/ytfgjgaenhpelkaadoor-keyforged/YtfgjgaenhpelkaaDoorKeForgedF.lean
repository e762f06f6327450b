/- What the walk of KeyForged asks of the two rows of ends: facts of lists, and what the document's Of tells of them. -/
import Derived.Test.YtfgjgaenhpelkaaDoorKeSigned
import Derived.Test.YtfgjgaenhpelkaaDoorRKey5
import Derived.Test.YtfgjgaenhpelkaaDoorDigs
import Derived.Test.YtfgjgaenhpelkaaDoorKh
namespace Go.Proofs.YtfgjgaenhpelkaaDoor
open Go.RowKit
set_option linter.unusedVariables false

/-- The told ends: those of the signature, below 67; beyond it nothing matters. -/
def Ky.tops (other sig : List Int) (i : Nat) : List Int := if i < 67 then Ky.top other sig i else List.replicate 32 0
theorem Ky.tops_rows (other sig : List Int) : Ky.rowsOf (Ky.tops other sig) 67 = Ky.rowsOf (Ky.top other sig) 67 := Ky.rowsOf_congr _ _ 67 (fun i hi => if_pos hi)
theorem Ky.tops_length (other sig : List Int) (hg : sig.length = 2144) (k : Nat) : (Ky.tops other sig k).length = 32 := by
  unfold Ky.tops
  split
  · exact Ky.steps_length _ (Ky.sigAt_length _ _ (by omega)) _
  · simp
theorem forged_diff (seed m other sig : List Int) (hm : Sz.Byt m) (ho : Sz.Byt other) (lm : m.length = 32) (lo : other.length = 32) (hs : sig.length = 2144) (h : ∀ j, j < 67 → Ky.NoHit seed m other sig j) (hne : other ≠ m) :
    Ky.rowsOf (Ky.endAt seed) 67 ≠ Ky.rowsOf (Ky.tops other sig) 67 := by
  rw [Ky.tops_rows]
  exact Ky.ends_differ seed m other sig hm ho lm lo hs hne h
theorem rof_seven (b n cap : Nat) (L : List Int) (w : World) (hn : n ≤ 1000) (hL : L.length = 32 * n) (hr : w.rangeAt b 0 (vals L)) (hb0 : b < w.heap.size) (hB : Sz.Byt L) (O : List Int) (hO : O = Sh.sum ((7 : Int) :: L)) :
    Calls Tryd.prog 12 #[.int .u8 7, .slice (some ⟨b, 0, none⟩) n cap] w fun e w' => e = .returned (.agg (vals O).toArray) ∧ Below w.heap.size w w' := by
  have h := rof_any 7 b 0 n cap L w (by omega) hn hL hr hb0 hB
  rw [show ((7 : Nat) : Int) = 7 from rfl, ← hO] at h
  exact h
theorem rof_ends (seed : List Int) (g c : Nat) (W : World) (O : List Int) (hO : O = Ky.pub seed) (hr : W.rangeAt g 0 (vals (Ky.rowsOf (Ky.endAt seed) 67))) (hg : g < W.heap.size) :
    Calls Tryd.prog 12 #[.int .u8 7, .slice (some ⟨g, 0, none⟩) 67 c] W fun e w' => e = .returned (.agg (vals O).toArray) ∧ Below W.heap.size W w' :=
  rof_seven g 67 c _ W (by omega) (Ky.rowsOf_length _ (Ky.endAt_length seed) 67) hr hg (Ky.rowsOf_byt _ (fun k => Ky.steps_byt _ (Ky.secret_byt _ _) _) 67) O (by rw [hO, Ky.pub_ends])
theorem rof_tops (other sig : List Int) (hs : sig.length = 2144) (hb : Sz.Byt sig) (g c : Nat) (W : World) (O : List Int) (hO : O = Ky.recov other sig) (hr : W.rangeAt g 0 (vals (Ky.rowsOf (Ky.tops other sig) 67))) (hg : g < W.heap.size) :
    Calls Tryd.prog 12 #[.int .u8 7, .slice (some ⟨g, 0, none⟩) 67 c] W fun e w' => e = .returned (.agg (vals O).toArray) ∧ Below W.heap.size W w' :=
  rof_seven g 67 c _ W (by omega) (Ky.rowsOf_length _ (Ky.tops_length other sig hs) 67) hr hg (by rw [Ky.tops_rows]; exact Ky.rowsOf_byt _ (fun k => Ky.steps_byt _ (Ky.sigAt_byt _ _ hb) _) 67) O (by rw [hO, Ky.tops_rows, Ky.recov])
end Go.Proofs.YtfgjgaenhpelkaaDoor
