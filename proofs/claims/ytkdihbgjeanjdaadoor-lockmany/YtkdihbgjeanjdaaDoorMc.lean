/- Digests with a key as functions of lists: the key's block, Mac, and what Expand tells. -/
import Derived.Test.YtkdihbgjeanjdaaDoorGSh
namespace Go.Proofs.YtkdihbgjeanjdaaDoor.Mc
set_option linter.unusedVariables false

theorem digest_byt (s : Sh.St) : Sz.Byt (Sh.digest s) := by
  intro x hx
  simp only [Sh.digest, List.mem_map] at hx
  obtain ⟨i, _, rfl⟩ := hx
  omega
theorem sum_byt (l : List Int) : Sz.Byt (Sh.sum l) := digest_byt _
theorem sum_length (l : List Int) : (Sh.sum l).length = 32 := by simp [Sh.sum, Sh.digest]

/-- The key, or its digest where it is longer than a block. -/
def short (key : List Int) : List Int := if 64 < key.length then Sh.sum key else key
theorem short_length (key : List Int) : (short key).length ≤ 64 := by
  unfold short
  split
  · rw [sum_length]; omega
  · omega
theorem short_byt (key : List Int) (h : Sz.Byt key) : Sz.Byt (short key) := by
  unfold short
  split
  · exact sum_byt key
  · exact h
/-- The key's block. -/
def block (key : List Int) : List Int := short key ++ List.replicate (64 - (short key).length) 0
theorem block_length (key : List Int) : (block key).length = 64 := by
  have := short_length key
  simp [block]; omega
theorem block_byt (key : List Int) (h : Sz.Byt key) : Sz.Byt (block key) :=
  (short_byt key h).append (fun x hx => by rw [List.eq_of_mem_replicate hx]; omega)
/-- Each byte unlike c. -/
def mask (c : Nat) (l : List Int) : List Int := l.map fun x => ((x.toNat ^^^ c : Nat) : Int)
theorem mask_length (c : Nat) (l : List Int) : (mask c l).length = l.length := by simp [mask]
theorem mask_byt (c : Nat) (l : List Int) (h : Sz.Byt l) (hc : c < 256) : Sz.Byt (mask c l) := by
  intro x hx
  simp only [mask, List.mem_map] at hx
  obtain ⟨y, hy, rfl⟩ := hx
  have hb := h y hy
  have : y.toNat ^^^ c < 2 ^ 8 := Nat.xor_lt_two_pow (by omega) (by omega)
  omega
def mac (key b : List Int) : List Int := Sh.sum (mask 92 (block key) ++ Sh.sum (mask 54 (block key) ++ b))
theorem mac_length (key b : List Int) : (mac key b).length = 32 := sum_length _
theorem mac_byt (key b : List Int) : Sz.Byt (mac key b) := sum_byt _

/-- A key longer than a block is as its digest. -/
theorem mac_long (key b : List Int) (h : 64 < key.length) : mac (Sh.sum key) b = mac key b := by
  have e : short (Sh.sum key) = short key := by
    unfold short
    rw [if_neg (by rw [sum_length]; omega), if_pos h]
  have e2 : block (Sh.sum key) = block key := by unfold block; rw [e]
  unfold mac; rw [e2]
/-- Bytes 0 behind a key, to a block, change nothing. -/
theorem mac_zeros (key b : List Int) (z : Nat) (h : key.length + z ≤ 64) : mac (key ++ List.replicate z 0) b = mac key b := by
  have e1 : short (key ++ List.replicate z 0) = key ++ List.replicate z 0 := by unfold short; rw [if_neg (by simp; omega)]
  have e2 : short key = key := by unfold short; rw [if_neg (by omega)]
  have e3 : block (key ++ List.replicate z 0) = block key := by
    unfold block
    rw [e1, e2, List.append_assoc, List.length_append, List.length_replicate, List.replicate_append_replicate, show z + (64 - (key.length + z)) = 64 - key.length by omega]
  unfold mac; rw [e3]

/-- The i-th part of what Expand tells. -/
def part (key info : List Int) : Nat → List Int
  | 0 => []
  | i + 1 => mac key (part key info i ++ info ++ [(((i + 1) % 256 : Nat) : Int)])
def parts (key info : List Int) : Nat → List Int
  | 0 => []
  | i + 1 => parts key info i ++ part key info (i + 1)
theorem part_length (key info : List Int) (i : Nat) : (part key info (i + 1)).length = 32 := mac_length _ _
theorem part_byt (key info : List Int) (i : Nat) : Sz.Byt (part key info i) := by
  cases i with
  | zero => exact Sz.Byt.nil
  | succ i => exact mac_byt _ _
theorem parts_length (key info : List Int) (i : Nat) : (parts key info i).length = 32 * i := by
  induction i with
  | zero => rfl
  | succ i ih => rw [parts, List.length_append, ih, part_length]; omega
theorem parts_byt (key info : List Int) (i : Nat) : Sz.Byt (parts key info i) := by
  induction i with
  | zero => exact Sz.Byt.nil
  | succ i ih => exact ih.append (part_byt _ _ _)
theorem parts_take (key info : List Int) (i j n : Nat) (h : i ≤ j) (hn : n ≤ 32 * i) : (parts key info j).take n = (parts key info i).take n := by
  obtain ⟨d, rfl⟩ : ∃ d, j = i + d := ⟨j - i, by omega⟩
  induction d with
  | zero => rfl
  | succ d ih => rw [show i + (d + 1) = (i + d) + 1 by omega, parts, List.take_append_of_le_length (by rw [parts_length]; omega)]; exact ih (by omega)
/-- What Expand tells: the first n bytes. -/
def expand (key info : List Int) (n : Nat) : List Int := (parts key info ((n + 31) / 32)).take n
theorem expand_length (key info : List Int) (n : Nat) : (expand key info n).length = n := by rw [expand, List.length_take, parts_length]; omega
theorem expand_of (key info : List Int) (n i : Nat) (h : n ≤ 32 * i) : (parts key info i).take n = expand key info n := by
  unfold expand
  exact parts_take _ _ _ _ _ (by omega) (by omega)
theorem expand_take (key info : List Int) (m n : Nat) (h : m ≤ n) : (expand key info n).take m = expand key info m := by
  rw [expand, List.take_take, Nat.min_eq_left h, expand_of _ _ _ _ (by omega)]

set_option maxRecDepth 100000 in
/-- Mac of nothing with no key is not made of 0 alone. -/
theorem none_at : (mac [] []).getD 0 0 = 182 := by kernel_rfl
end Go.Proofs.YtkdihbgjeanjdaaDoor.Mc
