/- Digests in memory: some of a row of them, and rows of one's own. -/
import Derived.Test.YtphdnbflogobfaaDoorLkOpenS
import Derived.Test.YtphdnbflogobfaaDoorOwn3
import Derived.Test.YtphdnbflogobfaaDoorTe
namespace Go.Proofs.YtphdnbflogobfaaDoor
open Go.RowKit
set_option linter.unusedVariables false
set_option linter.unusedSimpArgs false

/-- Digests are 32 bytes each. -/
def DigOk (DS : List (List Int)) : Prop := ∀ d ∈ DS, d.length = 32 ∧ Sz.Byt d
theorem DigOk.get {DS : List (List Int)} (h : DigOk DS) (i : Nat) (hi : i < DS.length) : (DS.getD i []).length = 32 ∧ Sz.Byt (DS.getD i []) := by
  rw [List.getD_eq_getElem?_getD, List.getElem?_eq_getElem hi, Option.getD_some]; exact h _ (List.getElem_mem hi)
theorem DigOk.take {DS : List (List Int)} (h : DigOk DS) (k : Nat) : DigOk (DS.take k) := fun d hd => h d (List.mem_of_mem_take hd)
theorem DigOk.drop {DS : List (List Int)} (h : DigOk DS) (k : Nat) : DigOk (DS.drop k) := fun d hd => h d (List.mem_of_mem_drop hd)
theorem DigOk.snoc {DS : List (List Int)} {d : List Int} (h : DigOk DS) (h1 : d.length = 32) (h2 : Sz.Byt d) : DigOk (DS ++ [d]) := fun x hx => by
  rcases List.mem_append.1 hx with hx | hx
  · exact h x hx
  · rw [List.mem_singleton.1 hx]; exact ⟨h1, h2⟩

/-- Digests from a place of a block on. -/
def DigsAt (w : World) (b off : Nat) (DS : List (List Int)) : Prop := DigOk DS ∧ b < w.heap.size ∧ ∀ i, i < DS.length → w.rangeAt b (off + i * 32) (vals (DS.getD i []))
theorem DigsAt.below {w w' : World} {b off : Nat} {DS : List (List Int)} (h : DigsAt w b off DS) (hb : Below w.heap.size w w') : DigsAt w' b off DS :=
  ⟨h.1, Nat.lt_of_lt_of_le h.2.1 hb.size, fun i hi => range_keep (h.2.2 i hi) hb h.2.1⟩
theorem DigsAt.take {w : World} {b off : Nat} {DS : List (List Int)} (h : DigsAt w b off DS) (k : Nat) : DigsAt w b off (DS.take k) :=
  ⟨h.1.take k, h.2.1, fun i hi => by
    rw [List.length_take] at hi
    rw [Te.getD_take _ _ _ (by omega)]
    exact h.2.2 i (by omega)⟩
theorem DigsAt.drop {w : World} {b off : Nat} {DS : List (List Int)} (h : DigsAt w b off DS) (k : Nat) : DigsAt w b (off + k * 32) (DS.drop k) :=
  ⟨h.1.drop k, h.2.1, fun i hi => by
    rw [List.length_drop] at hi
    rw [Te.getD_drop, show off + k * 32 + i * 32 = off + (k + i) * 32 by omega]
    exact h.2.2 (k + i) (by omega)⟩
theorem DigsAt.has {w : World} {b off cap : Nat} {DS : List (List Int)} (h : DigsAt w b off DS) (h1 : DS.length ≤ cap) (h2 : cap ≤ maxLen) : HasDigs w (.slice (some ⟨b, off, none⟩) DS.length cap) DS :=
  ⟨⟨_, cap, rfl, h1, h2, fun i hi => ⟨b, off, rfl, h.2.1, h.2.2⟩⟩, h.1⟩
theorem HasDigs.at' {w : World} {v : Value} {DS : List (List Int)} (h : HasDigs w v DS) (h0 : 0 < DS.length) : ∃ b off cap, v = .slice (some ⟨b, off, none⟩) DS.length cap ∧ DS.length ≤ cap ∧ cap ≤ maxLen ∧ DigsAt w b off DS := by
  obtain ⟨⟨a, cap, hv, h1, h2, hr⟩, hd⟩ := h
  obtain ⟨b, off, ha, hlt, hrr⟩ := hr 0 h0
  subst ha
  exact ⟨b, off, cap, hv, h1, h2, hd, hlt, hrr⟩
theorem HasDigs.form {w : World} {v : Value} {DS : List (List Int)} (h : HasDigs w v DS) : ∃ a cap, v = .slice a DS.length cap ∧ DS.length ≤ cap ∧ cap ≤ maxLen := by
  obtain ⟨⟨a, cap, hv, h1, h2, hr⟩, hd⟩ := h
  exact ⟨a, cap, hv, h1, h2⟩
theorem HasDigs.take {w : World} {a : Option Addr} {n cap : Nat} {DS : List (List Int)} (h : HasDigs w (.slice a n cap) DS) (k c : Nat) (hk : k ≤ DS.length) (hc : k ≤ c) (hm : c ≤ maxLen) : HasDigs w (.slice a k c) (DS.take k) := by
  obtain ⟨⟨a2, cap2, hv, h1, h2, hr⟩, hd⟩ := h
  injection hv with e1 e2 e3
  subst e1 e2 e3
  refine ⟨⟨a, c, by rw [List.length_take, Nat.min_eq_left hk], by rw [List.length_take]; omega, hm, fun i hi => ?_⟩, DigOk.take hd k⟩
  rw [List.length_take] at hi
  obtain ⟨b, off, ha, hlt, hrr⟩ := hr i (by omega)
  refine ⟨b, off, ha, hlt, fun j hj => ?_⟩
  rw [List.length_take] at hj
  rw [Te.getD_take _ _ _ (by omega)]
  exact hrr j (by omega)

/-- The cells of digests. -/
def digCells (DS : List (List Int)) : List Value := DS.flatMap vals
theorem digCells_snoc (DS : List (List Int)) (d : List Int) : digCells (DS ++ [d]) = digCells DS ++ vals d := by simp [digCells]
theorem digCells_one (d : List Int) : digCells [d] = vals d := by simp [digCells]
theorem digCells_length (DS : List (List Int)) (h : DigOk DS) : (digCells DS).length = DS.length * 32 := by
  induction DS with
  | nil => rfl
  | cons d DS ih =>
    have := ih (fun x hx => h x (List.mem_cons_of_mem _ hx))
    have h1 := (h d (List.mem_cons_self)).1
    simp only [digCells, List.flatMap_cons, List.length_append, vals_length, h1, List.length_cons] at this ⊢
    omega
theorem digCells_get (DS : List (List Int)) (h : DigOk DS) (i : Nat) (hi : i < DS.length) (j : Nat) (hj : j < 32) : (digCells DS)[i * 32 + j]? = (vals (DS.getD i []))[j]? := by
  induction DS generalizing i with
  | nil => cases hi
  | cons d DS ih =>
    have h1 := (h d (List.mem_cons_self)).1
    have hc : digCells (d :: DS) = vals d ++ digCells DS := rfl
    rw [hc]
    cases i with
    | zero => rw [List.getElem?_append_left (by rw [vals_length]; omega)]; simp
    | succ i =>
      rw [List.getElem?_append_right (by rw [vals_length]; omega), vals_length, h1, show (i + 1) * 32 + j - 32 = i * 32 + j by omega, ih (fun x hx => h x (List.mem_cons_of_mem _ hx)) i (by simpa using hi)]
      rfl
theorem digCells_one' (DS : List (List Int)) : ∀ u ∈ digCells DS, u.oneCell' = true := fun u hu => by
  obtain ⟨d, _, hd⟩ := List.mem_flatMap.1 hu
  exact vals_one _ u hd
theorem te_elem_dig : Elem 22 26 32 := elem_of (.agg (vals (List.replicate 32 0)).toArray) 32 Tryd.underlying22 (by kernel_rfl) (by omega) (by simp [Value.cells, vals]) (by decide)
theorem DigsAt.of_range {w : World} {b off : Nat} {DS : List (List Int)} (hd : DigOk DS) (hb : b < w.heap.size) (h : w.rangeAt b off (digCells DS)) : DigsAt w b off DS :=
  ⟨hd, hb, fun i hi j v hv => by
    have h32 := (hd.get i hi).1
    have hj : j < 32 := by have := (List.getElem?_eq_some_iff.1 hv).1; rw [vals_length, h32] at this; exact this
    have := h (i * 32 + j) v (by rw [digCells_get _ hd i hi j hj]; exact hv)
    rwa [← Nat.add_assoc] at this⟩

/-- A row of digests of one's own. -/
def OwnDigs (w : World) (base : Nat) (v : Value) (DS : List (List Int)) : Prop := DigOk DS ∧ w.ownsRow base 26 32 v DS.length (digCells DS)
theorem OwnDigs.below {w w' : World} {base : Nat} {v : Value} {DS : List (List Int)} (h : OwnDigs w base v DS) (hb : Below w.heap.size w w') : OwnDigs w' base v DS := ⟨h.1, owns_below h.2 hb⟩
theorem OwnDigs.form {w : World} {base : Nat} {v : Value} {DS : List (List Int)} (h : OwnDigs w base v DS) : ∃ a cap, v = .slice a DS.length cap := owns_form h.2
theorem OwnDigs.nil (w : World) (base : Nat) : OwnDigs w base (.slice none 0 0) [] := ⟨(fun d hd => by cases hd), rfl, .inl ⟨rfl, rfl⟩⟩
theorem OwnDigs.at' {w : World} {base : Nat} {v : Value} {DS : List (List Int)} (h : OwnDigs w base v DS) (h0 : 0 < DS.length) : ∃ g cap, v = .slice (some ⟨g, 0, none⟩) DS.length cap ∧ base ≤ g ∧ DS.length ≤ cap ∧ cap ≤ maxLen ∧ DigsAt w g 0 DS := by
  obtain ⟨g, cap, hv, hb, hg, h1, h2, hr⟩ := owns_some h.2 h0
  exact ⟨g, cap, hv, hb, h1, h2, .of_range h.1 hg hr⟩
theorem OwnDigs.has {w : World} {base : Nat} {v : Value} {DS : List (List Int)} (h : OwnDigs w base v DS) : HasDigs w v DS := by
  by_cases h0 : 0 < DS.length
  · obtain ⟨g, cap, hv, hb, h1, h2, hr⟩ := h.at' h0
    rw [hv]
    exact hr.has h1 h2
  · have : DS = [] := List.length_eq_zero_iff.1 (by omega)
    subst this
    rcases h.2.2 with ⟨rfl, _⟩ | ⟨g, cap, cur, rfl, hb, hg, hn, hc, hs, ht⟩
    · exact ⟨⟨none, 0, rfl, by simp, by simp, fun i hi => absurd hi (by simp)⟩, h.1⟩
    · exact ⟨⟨_, cap, rfl, by simp, hc, fun i hi => absurd hi (by simp)⟩, h.1⟩
theorem OwnDigs.low {w : World} {base base' : Nat} {v : Value} {DS : List (List Int)} (h : OwnDigs w base v DS) (hb : base' ≤ base) : OwnDigs w base' v DS :=
  ⟨h.1, h.2.1, h.2.2.imp id fun ⟨g, cap, cur, hv, hg, r⟩ => ⟨g, cap, cur, hv, Nat.le_trans hb hg, r⟩⟩
theorem OwnDigs.block {w : World} {base : Nat} {v : Value} {DS : List (List Int)} (h : OwnDigs w base v DS) (g : Nat) (hv : v.ownBlock = some g) : base ≤ g ∧ g < w.heap.size := by
  rcases h.2.2 with ⟨rfl, _⟩ | ⟨g', cap, cur, rfl, hb, hg, _⟩
  · cases hv
  · injection hv with hv
    subst hv
    exact ⟨hb, (Array.getElem?_eq_some_iff.1 hg).1⟩

/-- Truths in a row of one's own. -/
def boolCells (BS : List Bool) : List Value := BS.map Value.bool
def OwnBools (w : World) (base : Nat) (v : Value) (BS : List Bool) : Prop := w.ownsRow base 4 1 v BS.length (boolCells BS)
theorem OwnBools.nil (w : World) (base : Nat) : OwnBools w base (.slice none 0 0) [] := ⟨rfl, .inl ⟨rfl, rfl⟩⟩
theorem OwnBools.below {w w' : World} {base : Nat} {v : Value} {BS : List Bool} (h : OwnBools w base v BS) (hb : Below w.heap.size w w') : OwnBools w' base v BS := owns_below h hb
theorem OwnBools.form {w : World} {base : Nat} {v : Value} {BS : List Bool} (h : OwnBools w base v BS) : ∃ a cap, v = .slice a BS.length cap := owns_form h
theorem OwnBools.low {w : World} {base base' : Nat} {v : Value} {BS : List Bool} (h : OwnBools w base v BS) (hb : base' ≤ base) : OwnBools w base' v BS :=
  ⟨h.1, h.2.imp id fun ⟨g, cap, cur, hv, hg, r⟩ => ⟨g, cap, cur, hv, Nat.le_trans hb hg, r⟩⟩
theorem OwnBools.block {w : World} {base : Nat} {v : Value} {BS : List Bool} (h : OwnBools w base v BS) (g : Nat) (hv : v.ownBlock = some g) : base ≤ g ∧ g < w.heap.size := by
  rcases h.2 with ⟨rfl, _⟩ | ⟨g', cap, cur, rfl, hb, hg, _⟩
  · cases hv
  · injection hv with hv
    subst hv
    exact ⟨hb, (Array.getElem?_eq_some_iff.1 hg).1⟩
theorem OwnBools.cells {w : World} {base : Nat} {v : Value} {BS : List Bool} (h : OwnBools w base v BS) (h0 : 0 < BS.length) : ∃ g cap, v = .slice (some ⟨g, 0, none⟩) BS.length cap ∧ base ≤ g ∧ g < w.heap.size ∧ BS.length ≤ cap ∧ cap ≤ maxLen ∧ ∀ i, i < BS.length → w.cell? ⟨g, i, none⟩ = some (.bool (BS.getD i false)) := by
  obtain ⟨g, cap, hv, hb, hg, h1, h2, hr⟩ := owns_some h h0
  refine ⟨g, cap, hv, hb, hg, h1, h2, fun i hi => ?_⟩
  have := hr i (.bool (BS.getD i false)) (by simp [boolCells, List.getD, List.getElem?_eq_getElem hi])
  rwa [Nat.zero_add] at this
theorem te_elem_bool : Elem 51 4 1 := elem_of (.bool false) 1 Tryd.underlying51 (by kernel_rfl) (by omega) (by simp [Value.cells]) (by decide)
end Go.Proofs.YtphdnbflogobfaaDoor
