/- Slices of slices of bytes, and what a hasher is behind the growth of other bytes. -/
import Derived.Test.YtdeddnlagbeanaaDoorShSum
namespace Go.Proofs.YtdeddnlagbeanaaDoor
open Go.RowKit
set_option linter.unusedVariables false

/-- A slice value whose elements are slices of bytes. -/
def HasRows (w : World) (A : Option Addr) (n : Nat) (ls : List (List Int)) : Prop :=
  n = ls.length ∧ ∀ i, i < n → ∃ b off a m c, A = some ⟨b, off, none⟩ ∧ w.cell? ⟨b, off + i, none⟩ = some (.slice a m c) ∧ Has w (.slice a m c) (ls.getD i [])

theorem Own.only {w w' : World} {base g : Nat} {v : Value} {l : List Int} (h : Own w base v l) (hb : Only g w.heap.size w w') (hg : g < base) : Own w' base v l := by
  refine ⟨h.1, ?_⟩
  rcases h.2 with h0 | ⟨g', cap, cur, rfl, hbg, hg', hn, hc, hs, ht⟩
  · exact .inl h0
  · have hlt : g' < w.heap.size := by
      rcases Nat.lt_or_ge g' w.heap.size with hlt | hge
      · exact hlt
      · rw [Array.getElem?_eq_none hge] at hg'; cases hg'
    exact .inr ⟨g', cap, cur, rfl, hbg, by rw [hb.block g' hlt (by omega)]; exact hg', hn, hc, hs, ht⟩
theorem Hash.grown {w w' : World} {g : Nat} {row : Option Nat} {all : List Int} (h : Hash w g all) (k : w.grownBy w' row) (hne : row ≠ some g) : Hash w' g all := by
  obtain ⟨st, R, h1, h2⟩ := h
  refine ⟨st, R, h1, ?_⟩
  unfold Is
  rw [k.block g h2.lt (fun e => hne e.symm)]
  exact h2
theorem take_flat (ls : List (List Int)) (k : Nat) (h : k < ls.length) : (ls.take (k + 1)).flatten = (ls.take k).flatten ++ ls.getD k [] := by
  have e : ls.getD k [] = ls[k] := by simp [List.getD, List.getElem?_eq_getElem h]
  rw [List.take_succ_eq_append_getElem h, List.flatten_append, e]
  simp
theorem flat_le (ls : List (List Int)) (k : Nat) : (ls.take k).flatten.length ≤ ls.flatten.length := by
  have : ls.flatten = (ls.take k).flatten ++ (ls.drop k).flatten := by rw [← List.flatten_append, List.take_append_drop]
  rw [this, List.length_append]; omega
theorem byt_flat {ls : List (List Int)} (h : ∀ l ∈ ls, Sz.Byt l) : Sz.Byt ls.flatten := fun x hx => by
  obtain ⟨l, hl, hx⟩ := List.mem_flatten.1 hx
  exact h l hl x hx
end Go.Proofs.YtdeddnlagbeanaaDoor
