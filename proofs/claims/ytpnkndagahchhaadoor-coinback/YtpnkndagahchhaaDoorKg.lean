/- Signatures as functions of lists: what is signed tells the public key; chains that never meet end apart. -/
import Derived.Test.YtpnkndagahchhaaDoorKd
import Derived.Test.YtpnkndagahchhaaDoorZSh
namespace Go.Proofs.YtpnkndagahchhaaDoor.Ky
set_option linter.unusedVariables false

/-- The digest at a place of a signature. -/
def sigAt (sig : List Int) (i : Nat) : List Int := (sig.drop (32 * i)).take 32
/-- So many lists of 32, one behind the other. -/
def rowsOf (f : Nat → List Int) (n : Nat) : List Int := ((List.range n).map f).flatten
theorem rowsOf_succ (f : Nat → List Int) (n : Nat) : rowsOf f (n + 1) = rowsOf f n ++ f n := by simp [rowsOf, List.range_succ]
theorem rowsOf_length (f : Nat → List Int) (h : ∀ i, (f i).length = 32) (n : Nat) : (rowsOf f n).length = 32 * n := by
  induction n with
  | zero => rfl
  | succ n ih => rw [rowsOf_succ, List.length_append, ih, h]; omega
theorem rowsOf_at (f : Nat → List Int) (h : ∀ i, (f i).length = 32) (n i : Nat) (hi : i < n) : sigAt (rowsOf f n) i = f i := by
  induction n with
  | zero => omega
  | succ n ih =>
    rw [rowsOf_succ]
    unfold sigAt
    have hl := rowsOf_length f h n
    by_cases e : i = n
    · subst e
      rw [List.drop_append, List.drop_eq_nil_of_le (by omega), hl, Nat.sub_self, List.drop_zero, List.nil_append, List.take_of_length_le (by rw [h]; omega)]
    · have := ih (by omega)
      unfold sigAt at this
      rw [List.drop_append_of_le_length (by omega), List.take_append_of_le_length (by rw [List.length_drop]; omega)]
      exact this
theorem rowsOf_congr (f g : Nat → List Int) (n : Nat) (h : ∀ i, i < n → f i = g i) : rowsOf f n = rowsOf g n := by
  induction n with
  | zero => rfl
  | succ n ih => rw [rowsOf_succ, rowsOf_succ, ih (fun i hi => h i (by omega)), h n (by omega)]
theorem rowsOf_byt (f : Nat → List Int) (h : ∀ i, Sz.Byt (f i)) (n : Nat) : Sz.Byt (rowsOf f n) := by
  induction n with
  | zero => exact Sz.Byt.nil
  | succ n ih => rw [rowsOf_succ]; exact ih.append (h n)
theorem rowsOf_inj (f g : Nat → List Int) (n : Nat) (hf : ∀ i, (f i).length = 32) (hg : ∀ i, (g i).length = 32) (e : rowsOf f n = rowsOf g n) (i : Nat) (hi : i < n) : f i = g i := by
  rw [← rowsOf_at f hf n i hi, ← rowsOf_at g hg n i hi, e]

theorem steps_length (d : List Int) (h : d.length = 32) (n : Nat) : (steps d n).length = 32 := by
  cases n with
  | zero => exact h
  | succ n => exact step_length _
theorem steps_byt (d : List Int) (h : Sz.Byt d) (n : Nat) : Sz.Byt (steps d n) := by
  cases n with
  | zero => exact h
  | succ n => exact Mc.sum_byt _
theorem secret_length (seed : List Int) (i : Nat) : (secret seed i).length = 32 := Mc.mac_length _ _
theorem secret_byt (seed : List Int) (i : Nat) : Sz.Byt (secret seed i) := Mc.mac_byt _ _
theorem sigAt_length (sig : List Int) (i : Nat) (h : 32 * i + 32 ≤ sig.length) : (sigAt sig i).length = 32 := by
  unfold sigAt
  rw [List.length_take, List.length_drop]; omega
theorem sigAt_byt (sig : List Int) (i : Nat) (h : Sz.Byt sig) : Sz.Byt (sigAt sig i) := (h.drop _).take _
theorem sigAt_getD (sig : List Int) (i j : Nat) (h : j < 32) : (sigAt sig i).getD j 0 = sig.getD (32 * i + j) 0 := by
  simp only [sigAt, List.getD, List.getElem?_take, List.getElem?_drop]
  rw [if_pos h]

def dig (m : List Int) (i : Nat) : Nat := (digits m).getD i 0
def signed (seed m : List Int) (i : Nat) : List Int := steps (secret seed i) (dig m i)
def sign (seed m : List Int) : List Int := rowsOf (signed seed m) 67
def top (m sig : List Int) (i : Nat) : List Int := steps (sigAt sig i) (15 - dig m i)
def recov (m sig : List Int) : List Int := Sh.sum ((7 : Int) :: rowsOf (top m sig) 67)
theorem signed_length (seed m : List Int) (i : Nat) : (signed seed m i).length = 32 := steps_length _ (secret_length _ _) _
theorem sign_length (seed m : List Int) : (sign seed m).length = 2144 := rowsOf_length _ (signed_length seed m) 67
theorem sign_byt (seed m : List Int) : Sz.Byt (sign seed m) := rowsOf_byt _ (fun i => steps_byt _ (secret_byt _ _) _) 67
theorem sign_at (seed m : List Int) (i : Nat) (h : i < 67) : sigAt (sign seed m) i = signed seed m i := rowsOf_at _ (signed_length seed m) 67 i h
theorem pub_rows (seed : List Int) : pub seed = Sh.sum ((7 : Int) :: rowsOf (fun i => steps (secret seed i) 15) 67) := rfl
theorem pub_length (seed : List Int) : (pub seed).length = 32 := Mc.sum_length _
theorem recov_length (m sig : List Int) : (recov m sig).length = 32 := Mc.sum_length _
/-- What is signed is known. -/
theorem recov_sign (seed m : List Int) (hm : Sz.Byt m) : recov m (sign seed m) = pub seed := by
  rw [pub_rows]
  unfold recov
  rw [rowsOf_congr (top m (sign seed m)) (fun i => steps (secret seed i) 15) 67 (fun i hi => ?_)]
  have hd : dig m i ≤ 15 := digits_le m hm i
  unfold top
  rw [sign_at seed m i hi]
  unfold signed
  rw [steps_add, show dig m i + (15 - dig m i) = 15 by omega]

/-- Two chains that are apart, and never come to one digest from two, stay apart. -/
theorem chains_apart (x y : List Int) (n : Nat) (h : x ≠ y) (hs : ∀ k, k < n → steps x k ≠ steps y k → steps x (k + 1) ≠ steps y (k + 1)) : steps x n ≠ steps y n := by
  induction n with
  | zero => exact h
  | succ n ih => exact hs n (by omega) (ih (fun k hk => hs k (by omega)))
/-- Where another text's signature is the seed's own chain's, one goes on from it to what was shown. -/
theorem chain_on (seed : List Int) (i a b : Nat) (h : b ≤ a) (y : List Int) (e : steps (secret seed i) b = y) : steps y (a - b) = steps (secret seed i) a := by
  rw [← e, steps_add, show b + (a - b) = a by omega]

set_option maxRecDepth 100000 in
/-- One step from the digest of bytes 0 does not lead to it. -/
theorem step_zero : (step (List.replicate 32 0)).getD 0 0 ≠ 0 := by
  have h : ((step (List.replicate 32 0)).getD 0 0 == 0) = false := by kernel_rfl
  exact beq_eq_false_iff_ne.1 h
end Go.Proofs.YtpnkndagahchhaaDoor.Ky
