/- The texts KeDig, KeSum, one behind the other. -/
import Derived.Test.YtphdnbflogobfaaDoorShEq
import Derived.Test.YtphdnbflogobfaaDoorZMt
import Derived.WalkSmall
import Derived.BigQuiet
import Derived.Deep.QuietTactic
import Derived.Test.YtphdnbflogobfaaDoorBuild1
import Derived.Test.YtphdnbflogobfaaDoorGMa
import Derived.Test.YtphdnbflogobfaaDoorZKg
/- The contracts of digitsOf and Digits: the numbers that a digest is signed by. -/
namespace Go.Proofs.YtphdnbflogobfaaDoor
open Go.RowKit
set_option linter.unusedVariables false

/-- The laws on whole blocks, the operation's form asked first. -/
theorem wpList_load_arr2 (t : TypeId) (c : List Value) (b : Nat) {n m : Nat} {e : TypeId} {w : World} {ops : Array Oper} {rest : List Oper} {o : Oper} {a : Act} {Q : Exit → Act → World → Prop} (hgd : o.guard = none) (s : Operand) (ho : o.op = .load t s) (hs : a.eval s = .pointer (some ⟨b, 0, none⟩))
    (hi : Is w b c t) (hu : Tryd.prog.underlying t = some (.array n e)) (hz : Sized t m) (hc : c.length = m)
    (h : wpList Tryd.prog ops Q rest (a.put o.dst (.agg c.toArray)) w) : wpList Tryd.prog ops Q (o :: rest) a w := wpList_load_arr t c b hi hu hz hc hgd s ho hs h
theorem wpList_store_any2 (t : TypeId) (c c' : List Value) (b : Nat) {m : Nat} {w : World} {ops : Array Oper} {rest : List Oper} {o : Oper} {a : Act} {Q : Exit → Act → World → Prop} (hgd : o.guard = none) (s x : Operand) (ho : o.op = .store t s x) (hs : a.eval s = .pointer (some ⟨b, 0, none⟩)) (hx : a.eval x = .agg c'.toArray) (hd : o.dst = none)
    (hi : Is w b c t) (hz : Sized t m) (hc : c.length = m) (hc' : c'.length = m) (h1 : ∀ v ∈ c', v.oneCell' = true)
    (h : ∀ w2, Is w2 b c' t → (∀ B w0, Below B w0 w → B ≤ b → Below B w0 w2) → (∀ b' c2 t2, b' ≠ b → Is w b' c2 t2 → Is w2 b' c2 t2) → w2.heap.size = w.heap.size → wpList Tryd.prog ops Q rest a w2) : wpList Tryd.prog ops Q (o :: rest) a w := wpList_store_any t c c' b hi hz hc hc' h1 hgd s x ho hs hx hd h

/-- Numbers as values. -/
def ivals (l : List Nat) : List Value := l.map (fun (x : Nat) => Value.int .i64 (x : Int))
theorem ivals_length (l : List Nat) : (ivals l).length = l.length := by simp [ivals]
theorem ivals_get (l : List Nat) (j : Nat) (h : j < l.length) : (ivals l)[j]? = some (.int .i64 ((l.getD j 0 : Nat) : Int)) := by
  simp [ivals, List.getD, List.getElem?_eq_getElem h]
theorem ivals_one (l : List Nat) : ∀ u ∈ ivals l, u.oneCell' = true := by
  intro u hu
  obtain ⟨x, _, rfl⟩ := List.mem_map.1 hu
  rfl
theorem ivals_set (l : List Nat) (i : Nat) (x : Nat) : (ivals l).set i (.int .i64 (x : Int)) = ivals (l.set i x) := by unfold ivals; rw [← List.map_set]

/-- The first 2 k digits, and 0 behind them. -/
def pdg (m : List Int) (k : Nat) : List Nat := (List.range 67).map fun i => if i < 2 * k then Ky.nib m i else 0
theorem pdg_length (m : List Int) (k : Nat) : (pdg m k).length = 67 := by simp [pdg]
theorem pdg_zero (m : List Int) : pdg m 0 = List.replicate 67 0 := List.eq_replicate_iff.2 ⟨by simp [pdg], fun b hb => by
  obtain ⟨i, _, rfl⟩ := List.mem_map.1 hb
  rw [if_neg (by omega)]⟩
theorem pdg_step (m : List Int) (k : Nat) (h : k < 32) : ((pdg m k).set (2 * k) (Ky.nib m (2 * k))).set (2 * k + 1) (Ky.nib m (2 * k + 1)) = pdg m (k + 1) := by
  apply List.ext_getElem
  · simp [pdg]
  · intro i h1 h2
    simp only [List.getElem_set]
    by_cases e1 : 2 * k + 1 = i
    · subst e1; simp [pdg]; omega
    · rw [if_neg e1]
      by_cases e0 : 2 * k = i
      · subst e0; simp [pdg]
      · rw [if_neg e0]
        simp only [pdg, List.getElem_map, List.getElem_range]
        by_cases hi : i < 2 * k
        · rw [if_pos hi, if_pos (by omega)]
        · rw [if_neg hi, if_neg (by omega)]
theorem pdg_all (m : List Int) : (((pdg m 32).set 64 (Ky.lack m 64 / 256)).set 65 (Ky.lack m 64 / 16 % 16)).set 66 (Ky.lack m 64 % 16) = Ky.digits m := by
  apply List.ext_getElem
  · rw [Ky.digits_length]; simp [pdg]
  · intro i h1 h2
    have hd := Ky.digits_chk m
    have e : (Ky.digits m).getD i 0 = (Ky.digits m)[i] := by simp [List.getD, List.getElem?_eq_getElem h2]
    rw [← e]
    simp only [List.getElem_set]
    by_cases e2 : 66 = i
    · subst e2; rw [if_pos rfl]; exact hd.2.2.symm
    · rw [if_neg e2]
      by_cases e1 : 65 = i
      · subst e1; rw [if_pos rfl]; exact hd.2.1.symm
      · rw [if_neg e1]
        by_cases e0 : 64 = i
        · subst e0; rw [if_pos rfl]; exact hd.1.symm
        · have h6 : i < 64 := by rw [Ky.digits_length] at h2; omega
          rw [if_neg e0, Ky.digits_nib m i h6]
          simp [pdg, h6]
theorem nib_even (m : List Int) (k : Nat) : Ky.nib m (2 * k) = (m.getD k 0).toNat / 16 := by
  unfold Ky.nib
  rw [show 2 * k % 2 = 0 by omega, show 2 * k / 2 = k by omega]; simp
theorem nib_odd (m : List Int) (k : Nat) : Ky.nib m (2 * k + 1) = (m.getD k 0).toNat % 16 := by
  unfold Ky.nib
  rw [show (2 * k + 1) % 2 = 1 by omega, show (2 * k + 1) / 2 = k by omega]; simp
theorem lack_two (m : List Int) (k : Nat) : Ky.lack m (2 * (k + 1)) = Ky.lack m (2 * k) + (15 - Ky.nib m (2 * k)) + (15 - Ky.nib m (2 * k + 1)) := rfl

theorem kd_size_u8 : Sized 5 1 := by unfold Sized; kernel_rfl
theorem kd_agg_u8 (w : World) : (isAgg 5).run Tryd.prog w = .ok false w := by simp [isAgg, underlying, Tryd.underlying5]
end Go.Proofs.YtphdnbflogobfaaDoor

/- The contracts of key.sumBehind and key.Step: the digest of a byte and of digests behind it; so many steps. -/
namespace Go.Proofs.YtphdnbflogobfaaDoor
open Go.RowKit
set_option linter.unusedVariables false

/-- A part of a range. -/
theorem range_part {w : World} {b off : Nat} {L : List Int} (h : w.rangeAt b off (vals L)) (k n : Nat) (hk : k + n ≤ L.length) : w.rangeAt b (off + k) (vals ((L.drop k).take n)) := fun j v hv => by
  have hj : j < n := by
    have := (List.getElem?_eq_some_iff.1 hv).1
    simp [vals] at this
    omega
  have : (vals L)[k + j]? = some v := by
    rw [← hv]
    simp [vals, hj]
  rw [show off + k + j = off + (k + j) by omega]
  exact h _ _ this
theorem sigAt_mid {w : World} {b off : Nat} {L : List Int} (h : w.rangeAt b off (vals L)) (k : Nat) (hk : 32 * k + 32 ≤ L.length) : w.rangeAt b (off + 32 * k) (vals (Ky.sigAt L k)) := range_part h _ _ hk
theorem take_row (L : List Int) (k : Nat) : L.take (32 * (k + 1)) = L.take (32 * k) ++ Ky.sigAt L k := by
  unfold Ky.sigAt
  rw [show 32 * (k + 1) = 32 * k + 32 by omega, List.take_add]

theorem wpList_load_mid2 (t : TypeId) (c : List Value) (b off : Nat) {n m : Nat} {e : TypeId} {w : World} {ops : Array Oper} {rest : List Oper} {o : Oper} {a : Act} {Q : Exit → Act → World → Prop} (hgd : o.guard = none) (s : Operand) (ho : o.op = .load t s) (hs : a.eval s = .pointer (some ⟨b, off, none⟩))
    (hi : w.rangeAt b off c) (hu : Tryd.prog.underlying t = some (.array n e)) (hz : Sized t m) (hc : c.length = m)
    (h : wpList Tryd.prog ops Q rest (a.put o.dst (.agg c.toArray)) w) : wpList Tryd.prog ops Q (o :: rest) a w := wpList_load_mid hgd t s ho b off hs c _ hi hu rfl (by rw [hc]; exact hz) h

end Go.Proofs.YtphdnbflogobfaaDoor
