/- The walk of ShaSums: the digest that the program tells is the document's. -/
import Derived.Test.YtgcjeoeaoimgkaaDoorShKnown
import Derived.Test.YtgcjeoeaoimgkaaDoorRSum
namespace Go.Proofs.YtgcjeoeaoimgkaaDoor
open Go.RowKit
set_option linter.unusedVariables false

set_option maxRecDepth 100000 in
set_option maxHeartbeats 400000 in
theorem sums_walk (v : Value) (l : List Int) (w : World) (h : Has w v l) (hbt : Sz.Byt l) (hlen : l.length ≤ 140737488351232) (ht : Tab w) (hw : 0 < w.heap.size) :
    Calls Tryd.prog 3 #[v] w fun e w' => e = .returned (.bool true) ∧ Below w.heap.size w w' := by
  have hS : ∀ w', Below w.heap.size w w' → Calls Tryd.prog 6 #[v] w' fun e w'' => e = .returned (.agg (vals (Sh.sum l)).toArray) ∧ Below w'.heap.size w' w'' := fun w' hb => sum_any v l w' (h.below hb) hbt (ht.below hb hw) (Nat.lt_of_lt_of_le hw hb.size) (by omega)
  have hR : ∀ w', Below w.heap.size w w' → Calls Tryd.prog 7 #[v] w' fun e w'' => e = .returned (.agg (vals (Sh.sum l)).toArray) ∧ Below w'.heap.size w' w'' := fun w' hb => rsum_any v l w' (h.below hb) hbt hlen
  have hdl : (Sh.sum l).length = 32 := by simp [Sh.sum, Sh.digest]
  generalize Sh.sum l = D at *
  have heq : ∀ w', (Op.equalIn 10000 25 (.agg (vals D).toArray) (.agg (vals D).toArray)).run Tryd.prog w' = .ok true w' := fun w' => by rw [dig_eq D D hdl hdl]; simp
  have hgd := guard_dig
  have HS := hide hS
  have HR := hide hR
  have HT := hide ht
  clear hS hR hdl ht h
  go_enter Tryd.func3, Tryd.ntmps3
  go_wp2_with (first
    | (go_at_call 5; refine (known_any w HT.out hw).mono ?_; rintro e w1 ⟨rfl, hb1⟩)
    | (go_at_call 6; refine (HS.out _ hb1).mono ?_; rintro e w2 ⟨rfl, hb2⟩; have hb2' := hb1.trans (hb2.mono hb1.size))
    | (go_at_call 7; refine (HR.out _ hb2').mono ?_; rintro e w3 ⟨rfl, hb3⟩))
  go_ret
  exact ⟨rfl, hb2'.trans (hb3.mono hb2'.size)⟩
end Go.Proofs.YtgcjeoeaoimgkaaDoor
