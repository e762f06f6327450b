/- The digits that a digest is signed by: no digest's are all at least another one's. -/
import Derived.Test.YtpnkndagahchhaaDoorMath
namespace Go.Proofs.YtpnkndagahchhaaDoor.Ky
set_option linter.unusedVariables false

/-- What 16 goes into a byte, and what is left, by turns. -/
def nib (m : List Int) (i : Nat) : Nat := if i % 2 = 0 then (m.getD (i / 2) 0).toNat / 16 else (m.getD (i / 2) 0).toNat % 16
/-- All that the first k lack to 15. -/
def lack (m : List Int) : Nat → Nat
  | 0 => 0
  | k + 1 => lack m k + (15 - nib m k)
def nibs (m : List Int) (k : Nat) : List Nat := (List.range k).map (nib m)
def digits (m : List Int) : List Nat := nibs m 64 ++ [lack m 64 / 256, lack m 64 / 16 % 16, lack m 64 % 16]
theorem digits_length (m : List Int) : (digits m).length = 67 := by simp [digits, nibs]
theorem nib_lt (m : List Int) (hb : Sz.Byt m) (i : Nat) : nib m i ≤ 15 := by
  have := hb.getD (i / 2)
  unfold nib
  split <;> omega
theorem lack_le (m : List Int) (k : Nat) : lack m k ≤ 15 * k := by
  induction k with
  | zero => simp [lack]
  | succ k ih => rw [lack]; omega
theorem digits_nib (m : List Int) (i : Nat) (h : i < 64) : (digits m).getD i 0 = nib m i := by
  simp only [digits, List.getD]
  rw [List.getElem?_append_left (by simp [nibs]; exact h)]
  simp [nibs, h]
theorem digits_chk (m : List Int) : (digits m).getD 64 0 = lack m 64 / 256 ∧ (digits m).getD 65 0 = lack m 64 / 16 % 16 ∧ (digits m).getD 66 0 = lack m 64 % 16 := by
  have hl : (nibs m 64).length = 64 := by simp [nibs]
  refine ⟨?_, ?_, ?_⟩ <;> simp only [digits, List.getD] <;> rw [List.getElem?_append_right (by omega), hl] <;> rfl
theorem digits_le (m : List Int) (hb : Sz.Byt m) (i : Nat) : (digits m).getD i 0 ≤ 15 := by
  by_cases h : i < 64
  · rw [digits_nib m i h]; exact nib_lt m hb i
  · have hc := digits_chk m
    have hl := lack_le m 64
    by_cases h4 : i = 64
    · subst h4; rw [hc.1]; omega
    · by_cases h5 : i = 65
      · subst h5; rw [hc.2.1]; omega
      · by_cases h6 : i = 66
        · subst h6; rw [hc.2.2]; omega
        · have : (digits m)[i]? = none := List.getElem?_eq_none (by rw [digits_length]; omega)
          simp [List.getD, this]
theorem lack_mono (m o : List Int) (k : Nat) (h : ∀ i, i < k → nib o i ≤ nib m i) : lack m k ≤ lack o k := by
  induction k with
  | zero => exact Nat.le_refl _
  | succ k ih =>
    have := ih (fun i hi => h i (by omega))
    have := h k (by omega)
    rw [lack, lack]; omega
theorem lack_same (m o : List Int) (hm : Sz.Byt m) (k : Nat) (h : ∀ i, i < k → nib o i ≤ nib m i) (he : lack o k ≤ lack m k) : ∀ i, i < k → nib o i = nib m i := by
  induction k with
  | zero => intro i hi; omega
  | succ k ih =>
    have h1 := lack_mono m o k (fun i hi => h i (by omega))
    have h2 := h k (by omega)
    have h3 := nib_lt m hm k
    rw [lack, lack] at he
    intro i hi
    by_cases e : i = k
    · subst e; omega
    · exact ih (fun i hi => h i (by omega)) (by omega) i (by omega)
/-- Where no digit of m is less than o's, the two digests are one. -/
theorem digits_apart (m o : List Int) (hm : Sz.Byt m) (ho : Sz.Byt o) (lm : m.length = 32) (lo : o.length = 32) (h : ∀ i, i < 67 → (digits o).getD i 0 ≤ (digits m).getD i 0) : m = o := by
  have h1 : ∀ i, i < 64 → nib o i ≤ nib m i := fun i hi => by
    have := h i (by omega)
    rwa [digits_nib _ _ hi, digits_nib _ _ hi] at this
  have c1 := digits_chk m
  have c2 := digits_chk o
  have a1 := h 64 (by omega)
  have a2 := h 65 (by omega)
  have a3 := h 66 (by omega)
  rw [c1.1, c2.1] at a1
  rw [c1.2.1, c2.2.1] at a2
  rw [c1.2.2, c2.2.2] at a3
  have hs := lack_same m o hm 64 h1 (by omega)
  apply List.ext_getElem (by omega)
  intro j j1 j2
  have e0 := hs (2 * j) (by omega)
  have e1 := hs (2 * j + 1) (by omega)
  have g1 := hm.getD j
  have g2 := ho.getD j
  have m1 : m.getD j 0 = m[j] := by simp [List.getD, List.getElem?_eq_getElem j1]
  have o1 : o.getD j 0 = o[j] := by simp [List.getD, List.getElem?_eq_getElem j2]
  simp only [nib, show 2 * j % 2 = 0 by omega, show (2 * j + 1) % 2 = 1 by omega, show 2 * j / 2 = j by omega, show (2 * j + 1) / 2 = j by omega, if_true] at e0 e1
  rw [← m1, ← o1]
  simp at e1
  simp only [List.getD] at e0 g1 g2 ⊢
  omega
end Go.Proofs.YtpnkndagahchhaaDoor.Ky
