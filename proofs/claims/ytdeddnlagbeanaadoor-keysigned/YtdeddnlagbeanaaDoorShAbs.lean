/- What a hasher holds of the bytes that were written into it: lists alone. -/
import Derived.Test.YtdeddnlagbeanaaDoorShEnd
import Derived.Deep.MidRow
import Derived.Laws.CopyOwn
namespace Go.Proofs.YtdeddnlagbeanaaDoor
open Go.RowKit
set_option linter.unusedVariables false

theorem comp_append (l m : List Int) (k : Nat) (h : 64 * k ≤ l.length) : Sh.comp (l ++ m) k = Sh.comp l k := by
  induction k with
  | zero => rfl
  | succ k ih =>
    rw [Sh.comp, Sh.comp, ih (by omega), List.drop_append_of_le_length (by omega), List.take_append_of_le_length (by rw [List.length_drop]; omega)]

/-- The words st and the bytes R that lie behind them, of all bytes. -/
structure Abs (st : Sh.St) (R all : List Int) : Prop where
  len : R.length = 64
  byt : Sz.Byt R
  tail : R.take (all.length % 64) = all.drop (64 * (all.length / 64))
  words : st = Sh.comp all (all.length / 64)

theorem Abs.ok {st : Sh.St} {R all : List Int} (h : Abs st R all) : st.Ok := by rw [h.words]; exact Sh.comp_ok _ _

theorem splice_len (R c : List Int) (f : Nat) (h : R.length = 64) (hf : f + c.length ≤ 64) : (splice R f c).length = 64 := by rw [length_splice _ _ _ (by omega), h]
theorem splice_byt {R c : List Int} (f : Nat) (h : Sz.Byt R) (hc : Sz.Byt c) : Sz.Byt (splice R f c) := (h.take _).append (hc.append (h.drop _))
theorem splice_take (R c : List Int) (f : Nat) (h : f ≤ R.length) : (splice R f c).take (f + c.length) = R.take f ++ c := by
  unfold splice
  have hf : (R.take f).length = f := by rw [List.length_take]; omega
  rw [List.take_append, hf, List.take_of_length_le (by omega), Nat.add_sub_cancel_left, List.take_append_of_le_length (Nat.le_refl _), List.take_length]

theorem Abs.part {st : Sh.St} {R all c : List Int} (h : Abs st R all) (hc : Sz.Byt c) (hl : all.length % 64 + c.length < 64) : Abs st (splice R (all.length % 64) c) (all ++ c) := by
  have e1 : (all ++ c).length % 64 = all.length % 64 + c.length := by rw [List.length_append]; omega
  have e2 : (all ++ c).length / 64 = all.length / 64 := by rw [List.length_append]; omega
  have hR := h.len
  refine ⟨splice_len R c _ hR (by omega), splice_byt _ h.byt hc, ?_, ?_⟩
  · rw [e1, e2, splice_take _ _ _ (by omega), h.tail, List.drop_append_of_le_length (by omega)]
  · rw [e2, comp_append _ _ _ (by omega)]; exact h.words

theorem Abs.full {st : Sh.St} {R all c : List Int} (h : Abs st R all) (hc : Sz.Byt c) (hl : all.length % 64 + c.length = 64) : Abs (Sh.mix st (splice R (all.length % 64) c)) (splice R (all.length % 64) c) (all ++ c) := by
  have e1 : (all ++ c).length % 64 = 0 := by rw [List.length_append]; omega
  have e2 : (all ++ c).length / 64 = all.length / 64 + 1 := by rw [List.length_append]; omega
  have hR := h.len
  have e3 : splice R (all.length % 64) c = (all ++ c).drop (64 * (all.length / 64)) := by
    have := splice_take R c (all.length % 64) (by omega)
    rw [hl, List.take_of_length_le (by rw [splice_len R c _ hR (by omega)]; omega), h.tail] at this
    rw [this, List.drop_append_of_le_length (by omega)]
  refine ⟨splice_len R c _ hR (by omega), splice_byt _ h.byt hc, ?_, ?_⟩
  · rw [e1, e2, List.take_zero, List.drop_eq_nil_of_le (by rw [List.length_append]; omega)]
  · rw [e2, Sh.comp, comp_append _ _ _ (by omega), ← h.words, ← e3, List.take_of_length_le (by rw [splice_len R c _ hR (by omega)]; omega)]

theorem Abs.zero (R : List Int) (h : R.length = 64) (hb : Sz.Byt R) : Abs Sh.init R [] := ⟨h, hb, rfl, rfl⟩

/-- The cells of a hasher. -/
def hcells (st : Sh.St) (R : List Int) (n : Nat) : List Value := wvals st.list ++ (vals R ++ [.int .u64 (n : Int)])
theorem hcells_length (st : Sh.St) (R : List Int) (n : Nat) (h : R.length = 64) : (hcells st R n).length = 73 := by simp [hcells, wvals_length, vals_length, h, Sh.St.list]
theorem hcells_taken (st : Sh.St) (R : List Int) (n : Nat) (h : R.length = 64) : (hcells st R n)[72]? = some (.int .u64 (n : Int)) := by
  have h8 : (wvals st.list).length = 8 := rfl
  have h64 : (vals R).length = 64 := by rw [vals_length, h]
  unfold hcells
  rw [List.getElem?_append_right (by omega), h8, List.getElem?_append_right (by omega), h64]
  rfl
theorem hcells_set (st : Sh.St) (R : List Int) (n m : Nat) (h : R.length = 64) : (hcells st R n).set 72 (.int .u64 (m : Int)) = hcells st R m := by
  have h8 : (wvals st.list).length = 8 := rfl
  have h64 : (vals R).length = 64 := by rw [vals_length, h]
  unfold hcells
  rw [List.set_append_right _ _ (by omega), h8, List.set_append_right _ _ (by omega), h64]
  rfl
theorem hcells_splice (st : Sh.St) (R c : List Int) (n f : Nat) (h : R.length = 64) (hf : f + c.length ≤ 64) :
    (hcells st R n).take (8 + f) ++ (vals c ++ (hcells st R n).drop (8 + f + (vals c).length)) = hcells st (splice R f c) n := by
  have h8 : (wvals st.list).length = 8 := rfl
  have h64 : (vals R).length = 64 := by rw [vals_length, h]
  unfold hcells splice
  rw [List.take_append, h8, List.take_of_length_le (by omega), Nat.add_sub_cancel_left, List.take_append_of_le_length (by omega), vals_length, List.drop_append, h8, List.drop_eq_nil_of_le (by omega), List.nil_append, show 8 + f + c.length - 8 = f + c.length by omega, List.drop_append_of_le_length (by omega)]
  simp only [vals, List.map_append, List.map_take, List.map_drop, List.append_assoc]
theorem hcells_range {w : World} {g : Nat} {st : Sh.St} {R : List Int} {n : Nat} {t : TypeId} (h : Is w g (hcells st R n) t) : w.rangeAt g 8 (vals R) := fun j v hv => by
  have hj : j < (vals R).length := (List.getElem?_eq_some_iff.1 hv).1
  rw [h.cell]
  unfold hcells
  rw [List.getElem?_append_right (by show 8 ≤ _; omega), show 8 + j - (wvals st.list).length = j by show 8 + j - 8 = j; omega, List.getElem?_append_left hj]
  exact hv
end Go.Proofs.YtdeddnlagbeanaaDoor
