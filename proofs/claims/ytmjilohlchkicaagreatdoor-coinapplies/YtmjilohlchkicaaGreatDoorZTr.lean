/- The texts TxR, TxU, TxP, TxO, TxE, one behind the other. -/
import Derived.Test.YtmjilohlchkicaaGreatDoorZTc
import Derived.Test.YtmjilohlchkicaaGreatDoorZRd
import Derived.WalkLawsBesides
import Derived.Deep.RegionHeld2
/- tx's reader: numbers, packed bytes. -/
namespace Go.Proofs.YtmjilohlchkicaaGreatDoor
open Go.RowKit
set_option linter.unusedVariables false
set_option linter.unusedSimpArgs false

/-- Nothing that was there has turned but block g. -/
def But (g : Nat) (w w' : World) : Prop := Only g w.heap.size w w'
theorem But.refl (g : Nat) (w : World) : But g w w := Only.refl _ _ _
theorem But.trans {g : Nat} {a b c : World} (h : But g a b) (k : But g b c) : But g a c := Only.trans h (k.mono h.size)
theorem But.call {g : Nat} {w w' : World} (h : Below w.heap.size w w') : But g w w' := Only.of_below h (Nat.le_refl _)
theorem But.under {g B : Nat} {w w' : World} (h : But g w w') (hB : B ≤ w.heap.size) (hg : B ≤ g) : Below B w w' := Only.below h hB hg
theorem But.kept {w w' : World} {g b : Nat} {c : List Value} {t : TypeId} (k : But g w w') (h : Is w b c t) (hne : b ≠ g) : Is w' b c t := h.only k h.lt hne

theorem But.cell (w : World) (R i : Nat) (v : Value) : But R w (w.setCell ⟨R, i, none⟩ v) := Only.setCell (Only.refl R w.heap.size w) (p := ⟨R, i, none⟩) (.inl rfl) v
theorem rd_cell {w w' : World} {a : Addr} {v : Value} (h : w.cell? a = some v) (hb : Below w.heap.size w w') : w'.cell? a = some v := by rw [hb.cell (p := a) (World.block_lt_of_cell? w a h)]; exact h
theorem rd_keep {w W W' : World} {R : Nat} {u v : Value} {c : List Value} {t : TypeId} (h : Below w.heap.size w W ∧ W.cell? ⟨R, 0, none⟩ = some u ∧ W.cell? ⟨R, 1, none⟩ = some v) (hb : Below w.heap.size w W') (hi : Is w R c t) (h0 : w.cell? ⟨R, 0, none⟩ = some u) (h1 : w.cell? ⟨R, 1, none⟩ = some v) : Below w.heap.size w W' ∧ W'.cell? ⟨R, 0, none⟩ = some u ∧ W'.cell? ⟨R, 1, none⟩ = some v :=
  ⟨hb, rd_cell h0 hb, rd_cell h1 hb⟩

end Go.Proofs.YtmjilohlchkicaaGreatDoor

/- size.Unpack, what it gives in a block of its own. -/
namespace Go.Proofs.YtmjilohlchkicaaGreatDoor
open Go.RowKit
set_option linter.unusedVariables false
set_option linter.unusedSimpArgs false

end Go.Proofs.YtmjilohlchkicaaGreatDoor

/- tx's reader: packed bytes, counts. -/
namespace Go.Proofs.YtmjilohlchkicaaGreatDoor
open Go.RowKit
set_option linter.unusedVariables false
set_option linter.unusedSimpArgs false

theorem unp_ok (l : List Int) (p : Nat) (hbt : Sz.Byt l) (h : (Sz.unp l p).2.2 = 0) : 0 ≤ (Sz.unp l p).2.1 := by
  unfold Sz.unp at h ⊢
  by_cases h0 : (Sz.rd l p).2.2 = 0
  · obtain ⟨r1, r2, r3, r4, r5⟩ := Sz.wr_rd l p (Sz.rd l p).1 (Sz.rd l p).2.1 hbt (by rw [← h0])
    rw [if_neg (by omega)]
    split
    · exact Int.le_refl _
    · show 0 ≤ (Sz.rd l p).2.1 + (Sz.rd l p).1
      omega
  · rw [if_pos h0]
    exact Int.le_refl _

theorem row_but {w w' : World} {base R : Nat} {T : TypeId} {s : Nat} {v : Value} {n : Nat} {cs : List Value} (h : w.ownsRow base T s v n cs) (hb : But R w w') (hR : R < base) : w'.ownsRow base T s v n cs := by
  refine ⟨h.1, ?_⟩
  rcases h.2 with h0 | ⟨g', cap, cur, rfl, hbg, hg', hn, hc, hs, ht⟩
  · exact .inl h0
  · have hlt : g' < w.heap.size := by
      rcases Nat.lt_or_ge g' w.heap.size with hlt | hge
      · exact hlt
      · rw [Array.getElem?_eq_none hge] at hg'; cases hg'
    exact .inr ⟨g', cap, cur, rfl, hbg, by rw [hb.block g' hlt (by omega)]; exact hg', hn, hc, hs, ht⟩
theorem own_but {w w' : World} {base R : Nat} {v : Value} {l : List Int} (h : Own w base v l) (hb : But R w w') (hR : R < base) : Own w' base v l := row_but h hb hR

end Go.Proofs.YtmjilohlchkicaaGreatDoor

/- tx's reader: what a part's boxes hold; an operation. -/
namespace Go.Proofs.YtmjilohlchkicaaGreatDoor
open Go.RowKit
set_option linter.unusedVariables false
set_option linter.unusedSimpArgs false

/-- A row of one's own behind the box stays when the box is laid anew. -/
theorem row_set {W : World} {base g i : Nat} {T : TypeId} {s : Nat} {v : Value} {n : Nat} {cs : List Value} (h : W.ownsRow base T s v n cs) (u : Value) (hg : g < base) : (W.setCell ⟨g, i, none⟩ u).ownsRow base T s v n cs := row_but h (But.cell W g i u) hg
theorem But.row (w : World) (g : Nat) (cs : Array Value) : But g w (w.setRow g cs) := Only.setRow (Only.refl g w.heap.size w) (.inl rfl) cs

end Go.Proofs.YtmjilohlchkicaaGreatDoor

/- What rests on blocks that nobody lays anew; rows that grow, of things that rest on such blocks. -/
namespace Go.Proofs.YtmjilohlchkicaaGreatDoor
open Go.RowKit
set_option linter.unusedVariables false
set_option linter.unusedSimpArgs false

/-- A fact that rests on the blocks of which S holds. -/
def Dep (S : Nat → Prop) (F : World → Prop) (W : World) : Prop := ∀ W', W.heap.size ≤ W'.heap.size → (∀ k, S k → W'.heap[k]? = W.heap[k]?) → F W'
theorem Dep.out {S : Nat → Prop} {F : World → Prop} {W : World} (h : Dep S F W) : F W := h W (Nat.le_refl _) (fun _ _ => rfl)
theorem Dep.step {S : Nat → Prop} {F : World → Prop} {W W' : World} (h : Dep S F W) (hs : W.heap.size ≤ W'.heap.size) (hk : ∀ k, S k → W'.heap[k]? = W.heap[k]?) : Dep S F W' :=
  fun W2 h2 k2 => h W2 (Nat.le_trans hs h2) (fun k hk' => (k2 k hk').trans (hk k hk'))
theorem Dep.more {S S' : Nat → Prop} {F : World → Prop} {W : World} (h : Dep S F W) (hS : ∀ k, S k → S' k) : Dep S' F W := fun W2 h2 k2 => h W2 h2 (fun k hk => k2 k (hS k hk))
theorem Dep.map {S : Nat → Prop} {F G : World → Prop} {W : World} (h : Dep S F W) (hG : ∀ W, F W → G W) : Dep S G W := fun W2 h2 k2 => hG _ (h W2 h2 k2)
theorem Dep.and {S : Nat → Prop} {F G : World → Prop} {W : World} (h : Dep S F W) (k : Dep S G W) : Dep S (fun W => F W ∧ G W) W := fun W2 h2 k2 => ⟨h W2 h2 k2, k W2 h2 k2⟩
/-- A fact that rests on blocks from lo on. -/
def Itm (lo : Nat) (W : World) (F : World → Prop) : Prop := ∃ S : Nat → Prop, (∀ k, S k → lo ≤ k ∧ k < W.heap.size) ∧ Dep S F W
theorem Itm.out {lo : Nat} {W : World} {F : World → Prop} (h : Itm lo W F) : F W := by obtain ⟨S, _, h⟩ := h; exact h.out
theorem Itm.but {lo R : Nat} {W W' : World} {F : World → Prop} (h : Itm lo W F) (hb : But R W W') (hR : R < lo) : Itm lo W' F := by
  obtain ⟨S, h1, h2⟩ := h
  exact ⟨S, fun k hk => ⟨(h1 k hk).1, Nat.lt_of_lt_of_le (h1 k hk).2 hb.size⟩, h2.step hb.size (fun k hk => hb.block k (h1 k hk).2 (by have := (h1 k hk).1; omega))⟩
theorem Itm.mono {lo lo' : Nat} {W : World} {F : World → Prop} (h : Itm lo W F) (hl : lo' ≤ lo) : Itm lo' W F := by
  obtain ⟨S, h1, h2⟩ := h
  exact ⟨S, fun k hk => ⟨Nat.le_trans hl (h1 k hk).1, (h1 k hk).2⟩, h2⟩
theorem Itm.map {lo : Nat} {W : World} {F G : World → Prop} (h : Itm lo W F) (hG : ∀ W, F W → G W) : Itm lo W G := by
  obtain ⟨S, h1, h2⟩ := h
  exact ⟨S, h1, h2.map hG⟩
theorem row_dep {W : World} {base s n : Nat} {e : TypeId} {v : Value} {cs : List Value} (h : W.ownsRow base e s v n cs) : Dep (fun k => v.ownBlock = some k) (fun W => W.ownsRow base e s v n cs) W := by
  intro W' hs hk
  refine ⟨h.1, ?_⟩
  rcases h.2 with h0 | ⟨g', cap, cur, rfl, hbg, hg', hn, hc, hs', ht⟩
  · exact .inl h0
  · exact .inr ⟨g', cap, cur, rfl, hbg, by rw [hk g' rfl]; exact hg', hn, hc, hs', ht⟩
theorem row_itm {W : World} {base s n : Nat} {e : TypeId} {v : Value} {cs : List Value} (h : W.ownsRow base e s v n cs) : Itm base W (fun W => W.ownsRow base e s v n cs) :=
  ⟨fun k => v.ownBlock = some k, fun k hk => World.ownsRow.lt h k hk, row_dep h⟩

/-- A row of one's own, and what is said of the things in it. -/
structure Acc (W : World) (base : Nat) (e : TypeId) (s n : Nat) (v : Value) (cs : List Value) (F : World → Prop) : Prop where
  ex : ∃ S : Nat → Prop, (∀ k, S k → base ≤ k ∧ k < W.heap.size) ∧ (∀ b, v.ownBlock = some b → ¬ S b) ∧ Dep S F W
  own : W.ownsRow base e s v n cs
theorem Acc.nil (W : World) (base : Nat) (e : TypeId) (s : Nat) {F : World → Prop} (hF : ∀ W, F W) : Acc W base e s 0 (.slice none 0 0) [] F :=
  ⟨⟨fun _ => False, fun k hk => hk.elim, fun b hb => fun h => h, fun W' _ _ => hF W'⟩, World.ownsRow_nil W base e s⟩
theorem Acc.but {W W' : World} {base s n R : Nat} {e : TypeId} {v : Value} {cs : List Value} {F : World → Prop} (h : Acc W base e s n v cs F) (hb : But R W W') (hR : R < base) : Acc W' base e s n v cs F := by
  obtain ⟨⟨S, h1, h2, h3⟩, ho⟩ := h
  exact ⟨⟨S, fun k hk => ⟨(h1 k hk).1, Nat.lt_of_lt_of_le (h1 k hk).2 hb.size⟩, h2, h3.step hb.size (fun k hk => hb.block k (h1 k hk).2 (by have := (h1 k hk).1; omega))⟩, row_but ho hb hR⟩
theorem Acc.itm {W : World} {base s n : Nat} {e : TypeId} {v : Value} {cs : List Value} {F : World → Prop} (h : Acc W base e s n v cs F) : Itm base W (fun W => W.ownsRow base e s v n cs ∧ F W) := by
  obtain ⟨⟨S, h1, h2, h3⟩, ho⟩ := h
  exact ⟨fun k => S k ∨ v.ownBlock = some k, fun k hk => hk.elim (h1 k) (fun e => World.ownsRow.lt ho k e), ((row_dep ho).more (fun k hk => .inr hk)).and (h3.more (fun k hk => .inl hk))⟩
theorem Acc.app {W W' : World} {base s n n' lo : Nat} {e : TypeId} {v v' : Value} {cs cs' : List Value} {F G : World → Prop} (h : Acc W base e s n v cs F) (hi : Itm lo W G) (hlo : ∀ b, v.ownBlock = some b → b < lo) (hbl : base ≤ lo)
    (ho : W'.ownsRow base e s v' n' cs') (hg : W.grownBy W' v.ownBlock) (hv : v'.ownBlock = v.ownBlock ∨ v'.ownBlock = some W.heap.size) : Acc W' base e s n' v' cs' (fun W => F W ∧ G W) := by
  obtain ⟨⟨S, h1, h2, h3⟩, ho0⟩ := h
  obtain ⟨S2, k1, k2⟩ := hi
  have hsz := hg.size
  refine ⟨⟨fun k => S k ∨ S2 k, fun k hk => ?_, fun b hb hs => ?_, ?_⟩, ho⟩
  · rcases hk with hk | hk
    · exact ⟨(h1 k hk).1, Nat.lt_of_lt_of_le (h1 k hk).2 hsz⟩
    · exact ⟨Nat.le_trans hbl (k1 k hk).1, Nat.lt_of_lt_of_le (k1 k hk).2 hsz⟩
  · rcases hv with hv | hv
    · rw [hv] at hb
      rcases hs with hs | hs
      · exact h2 b hb hs
      · exact absurd (hlo b hb) (by have := (k1 b hs).1; omega)
    · rw [hv] at hb
      cases hb
      rcases hs with hs | hs
      · exact absurd (h1 _ hs).2 (by omega)
      · exact absurd (k1 _ hs).2 (by omega)
  · have hS : ∀ k, (S k ∨ S2 k) → W'.heap[k]? = W.heap[k]? := fun k hk => by
      rcases hk with hk | hk
      · exact hg.block k (h1 k hk).2 (fun e => h2 k e.symm hk)
      · exact hg.block k (k1 k hk).2 (fun e => absurd (hlo k e.symm) (by have := (k1 k hk).1; omega))
    exact ((h3.more (fun k hk => .inl hk)).and (k2.more (fun k hk => .inr hk))).step hsz hS
end Go.Proofs.YtmjilohlchkicaaGreatDoor
