/- Who signs another text knows more, as functions of lists: where no digest was met that tells it, the two rows of ends differ. -/
import Derived.Test.YtfgjgaenhpelkaaDoorKg
namespace Go.Proofs.YtfgjgaenhpelkaaDoor.Ky
set_option linter.unusedVariables false

/-- At place j nothing was met: neither a digest ahead of the one shown, nor two digests with one next one. -/
def NoHit (seed m other sig : List Int) (j : Nat) : Prop :=
  (dig other j < dig m j → steps (sigAt sig j) (dig m j - dig other j) ≠ signed seed m j) ∧
  ∀ t, t < 15 - dig other j → steps (steps (secret seed j) (dig other j)) t ≠ steps (sigAt sig j) t → steps (steps (secret seed j) (dig other j)) (t + 1) ≠ steps (sigAt sig j) (t + 1)
/-- What a seed's chain of a place ends in. -/
def endAt (seed : List Int) (j : Nat) : List Int := steps (secret seed j) 15
theorem endAt_length (seed : List Int) (j : Nat) : (endAt seed j).length = 32 := steps_length _ (secret_length _ _) _
theorem pub_ends (seed : List Int) : pub seed = Sh.sum ((7 : Int) :: rowsOf (endAt seed) 67) := rfl
theorem steps_end (seed : List Int) (other : List Int) (ho : Sz.Byt other) (j : Nat) : steps (steps (secret seed j) (dig other j)) (15 - dig other j) = endAt seed j := by
  have hd : dig other j ≤ 15 := digits_le other ho j
  rw [steps_add, show dig other j + (15 - dig other j) = 15 by omega]; rfl
/-- Where nothing was met at any place, the ends differ. -/
theorem ends_differ (seed m other sig : List Int) (hm : Sz.Byt m) (ho : Sz.Byt other) (lm : m.length = 32) (lo : other.length = 32) (hs : sig.length = 2144) (hne : other ≠ m) (h : ∀ j, j < 67 → NoHit seed m other sig j) :
    rowsOf (endAt seed) 67 ≠ rowsOf (top other sig) 67 := by
  intro e
  have hex : ∃ i, i < 67 ∧ dig other i < dig m i := by
    refine Classical.byContradiction fun hc => hne ?_
    refine digits_apart other m ho hm lo lm (fun i hi => ?_)
    have : ¬ dig other i < dig m i := fun hl => hc ⟨i, hi, hl⟩
    exact Nat.le_of_not_lt this
  obtain ⟨i, hi, hl⟩ := hex
  have hT : ∀ k, k < 67 → (top other sig k).length = 32 := fun k hk => steps_length _ (sigAt_length _ _ (by omega)) _
  have hT' : rowsOf (top other sig) 67 = rowsOf (fun k => if k < 67 then top other sig k else List.replicate 32 0) 67 := rowsOf_congr _ _ 67 (fun k hk => (if_pos hk).symm)
  have hTl : ∀ k, (if k < 67 then top other sig k else List.replicate 32 0).length = 32 := fun k => by
    split
    · exact hT k (by assumption)
    · simp
  have h1 := rowsOf_inj (endAt seed) (fun k => if k < 67 then top other sig k else List.replicate 32 0) 67 (endAt_length seed) hTl (by rw [e, hT']) i hi
  have h2 : endAt seed i = top other sig i := by rw [h1]; exact if_pos hi
  obtain ⟨n1, n2⟩ := h i hi
  have hx : steps (secret seed i) (dig other i) ≠ sigAt sig i := fun hc => n1 hl (chain_on seed i _ _ (Nat.le_of_lt hl) _ hc)
  have hz := chains_apart _ _ (15 - dig other i) hx n2
  rw [steps_end seed other ho i] at hz
  exact hz h2
end Go.Proofs.YtfgjgaenhpelkaaDoor.Ky
