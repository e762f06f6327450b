/- tx's reader: numbers, packed bytes. -/
import Derived.Test.YtifoldkbmpopnaaDoorZTc
import Derived.Test.YtifoldkbmpopnaaDoorZRd
import Derived.WalkLawsBesides
import Derived.Deep.RegionHeld2
namespace Go.Proofs.YtifoldkbmpopnaaDoor
open Go.RowKit
set_option linter.unusedVariables false
set_option linter.unusedSimpArgs false

/-- Nothing that was there has turned but block g. -/
def But (g : Nat) (w w' : World) : Prop := Only g w.heap.size w w'
theorem But.refl (g : Nat) (w : World) : But g w w := Only.refl _ _ _
theorem But.trans {g : Nat} {a b c : World} (h : But g a b) (k : But g b c) : But g a c := Only.trans h (k.mono h.size)
theorem But.call {g : Nat} {w w' : World} (h : Below w.heap.size w w') : But g w w' := Only.of_below h (Nat.le_refl _)
theorem But.under {g B : Nat} {w w' : World} (h : But g w w') (hB : B ≤ w.heap.size) (hg : B ≤ g) : Below B w w' := Only.below h hB hg
theorem But.kept {w w' : World} {g b : Nat} {c : List Value} {t : TypeId} (k : But g w w') (h : Is w b c t) (hne : b ≠ g) : Is w' b c t := h.only k h.lt hne

theorem But.cell (w : World) (R i : Nat) (v : Value) : But R w (w.setCell ⟨R, i, none⟩ v) := Only.setCell (Only.refl R w.heap.size w) (p := ⟨R, i, none⟩) (.inl rfl) v
theorem rd_cell {w w' : World} {a : Addr} {v : Value} (h : w.cell? a = some v) (hb : Below w.heap.size w w') : w'.cell? a = some v := by rw [hb.cell (p := a) (World.block_lt_of_cell? w a h)]; exact h
theorem rd_keep {w W W' : World} {R : Nat} {u v : Value} {c : List Value} {t : TypeId} (h : Below w.heap.size w W ∧ W.cell? ⟨R, 0, none⟩ = some u ∧ W.cell? ⟨R, 1, none⟩ = some v) (hb : Below w.heap.size w W') (hi : Is w R c t) (h0 : w.cell? ⟨R, 0, none⟩ = some u) (h1 : w.cell? ⟨R, 1, none⟩ = some v) : Below w.heap.size w W' ∧ W'.cell? ⟨R, 0, none⟩ = some u ∧ W'.cell? ⟨R, 1, none⟩ = some v :=
  ⟨hb, rd_cell h0 hb, rd_cell h1 hb⟩

end Go.Proofs.YtifoldkbmpopnaaDoor
