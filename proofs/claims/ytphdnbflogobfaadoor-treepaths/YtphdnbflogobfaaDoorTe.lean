/- One digest for many, over lists. -/
import Derived.Test.YtphdnbflogobfaaDoorZSh
namespace Go.Proofs.YtphdnbflogobfaaDoor.Te
set_option linter.unusedVariables false

def nd (l r : List Int) : List Int := Sh.sum ((1 : Int) :: (l ++ r))
def leaf (b : List Int) : List Int := Sh.sum ((0 : Int) :: b)
theorem nd_length (l r : List Int) : (nd l r).length = 32 := Mc.sum_length _
theorem nd_byt (l r : List Int) : Sz.Byt (nd l r) := Mc.sum_byt _

def half (n : Nat) : Nat := 2 ^ Nat.log2 (n - 1)
theorem half_pos (n : Nat) : 0 < half n := Nat.two_pow_pos _
theorem half_lt (n : Nat) (h : 2 ≤ n) : half n < n := by
  have := Nat.log2_self_le (n := n - 1) (by omega)
  unfold half; omega
theorem half_two (n : Nat) (h : 2 ≤ n) : n ≤ 2 * half n := by
  have := Nat.lt_log2_self (n := n - 1)
  rw [Nat.pow_succ] at this
  unfold half; omega
theorem half_is (n j : Nat) (h : 2 ^ j < n) (h2 : n ≤ 2 * 2 ^ j) : half n = 2 ^ j := by
  have h0 := Nat.two_pow_pos j
  have : Nat.log2 (n - 1) = j := (Nat.log2_eq_iff (by omega)).2 ⟨by omega, by rw [Nat.pow_succ]; omega⟩
  unfold half; rw [this]

/-- The digest of all leaves: of at least one. -/
def root (ls : List (List Int)) : List Int :=
  if h : ls.length ≤ 1 then ls.getD 0 [] else
    nd (root (ls.take (half ls.length))) (root (ls.drop (half ls.length)))
  termination_by ls.length
  decreasing_by
    · have := half_lt ls.length (by omega); simp only [List.length_take]; omega
    · have := half_pos ls.length; simp only [List.length_drop]; omega
theorem root_one (l : List Int) : root [l] = l := by rw [root]; simp
theorem root_more (ls : List (List Int)) (h : 2 ≤ ls.length) : root ls = nd (root (ls.take (half ls.length))) (root (ls.drop (half ls.length))) := by
  rw [root, dif_neg (by omega)]

/-- What stands beside leaf i, from it up. -/
def path (ls : List (List Int)) (i : Nat) : List (List Int) :=
  if h : ls.length ≤ 1 then [] else
    if i < half ls.length then path (ls.take (half ls.length)) i ++ [root (ls.drop (half ls.length))]
    else path (ls.drop (half ls.length)) (i - half ls.length) ++ [root (ls.take (half ls.length))]
  termination_by ls.length
  decreasing_by
    · have := half_lt ls.length (by omega); simp only [List.length_take]; omega
    · have := half_pos ls.length; simp only [List.length_drop]; omega
theorem path_one (ls : List (List Int)) (i : Nat) (h : ls.length = 1) : path ls i = [] := by rw [path, dif_pos (by omega)]
theorem path_left (ls : List (List Int)) (i : Nat) (h : 2 ≤ ls.length) (hi : i < half ls.length) : path ls i = path (ls.take (half ls.length)) i ++ [root (ls.drop (half ls.length))] := by
  rw [path, dif_neg (by omega), if_pos hi]
theorem path_right (ls : List (List Int)) (i : Nat) (h : 2 ≤ ls.length) (hi : ¬ i < half ls.length) : path ls i = path (ls.drop (half ls.length)) (i - half ls.length) ++ [root (ls.take (half ls.length))] := by
  rw [path, dif_neg (by omega), if_neg hi]

/-- From leaf i of n up: does what stands beside stand ahead? -/
def sides (i n : Nat) : List Bool :=
  if h : n ≤ 1 then [] else
    if i < half n then sides i (half n) ++ [false] else sides (i - half n) (n - half n) ++ [true]
  termination_by n
  decreasing_by
    · exact half_lt n (by omega)
    · have := half_pos n; omega
theorem sides_one (i : Nat) : sides i 1 = [] := by rw [sides]; simp
theorem sides_left (i n : Nat) (h : 2 ≤ n) (hi : i < half n) : sides i n = sides i (half n) ++ [false] := by rw [sides, dif_neg (by omega), if_pos hi]
theorem sides_right (i n : Nat) (h : 2 ≤ n) (hi : ¬ i < half n) : sides i n = sides (i - half n) (n - half n) ++ [true] := by rw [sides, dif_neg (by omega), if_neg hi]

def long (i n : Nat) : Nat := (sides i n).length
theorem long_one (i : Nat) : long i 1 = 0 := by simp [long, sides_one]
theorem long_left (i n : Nat) (h : 2 ≤ n) (hi : i < half n) : long i n = 1 + long i (half n) := by simp only [long, sides_left i n h hi, List.length_append, List.length_singleton]; omega
theorem long_right (i n : Nat) (h : 2 ≤ n) (hi : ¬ i < half n) : long i n = 1 + long (i - half n) (n - half n) := by simp only [long, sides_right i n h hi, List.length_append, List.length_singleton]; omega
theorem long_pos (i n : Nat) (h : 2 ≤ n) : 0 < long i n := by
  by_cases hi : i < half n
  · rw [long_left i n h hi]; omega
  · rw [long_right i n h hi]; omega

/-- Two powers of two. -/
theorem log2_mono {a b : Nat} (h : a ≤ b) : Nat.log2 a ≤ Nat.log2 b := by
  by_cases ha : a = 0
  · subst ha; simp
  · exact (Nat.le_log2 (by omega)).2 (Nat.le_trans (Nat.log2_self_le ha) h)
/-- The bits of a number. -/
def bits (n : Nat) : Nat := if n = 0 then 0 else Nat.log2 n + 1
theorem bits_le {a b : Nat} (h : a ≤ b) : bits a ≤ bits b := by
  unfold bits
  have := log2_mono h
  split <;> split <;> omega
theorem bits_half (n : Nat) (h : n ≠ 0) : bits n = bits (n / 2) + 1 := by
  unfold bits
  rw [if_neg h]
  by_cases h1 : n / 2 = 0
  · have : n = 1 := by omega
    subst this; decide
  · rw [if_neg h1, Nat.log2_def, if_pos (by omega)]
theorem bits_pow (j n : Nat) (h : n < 2 ^ j) : bits n ≤ j := by
  unfold bits
  split
  · omega
  · next h0 => have := (Nat.log2_lt h0).2 h; omega
theorem long_le (n : Nat) : ∀ i, 1 ≤ n → long i n ≤ bits (n - 1) := by
  induction n using Nat.strongRecOn with
  | _ n ih =>
    intro i h1
    by_cases h : 2 ≤ n
    · have hb : bits (n - 1) = Nat.log2 (n - 1) + 1 := by unfold bits; rw [if_neg (by omega)]
      have hp := half_pos n
      have hl := half_lt n h
      have ht := half_two n h
      by_cases hi : i < half n
      · rw [long_left i n h hi, hb]
        have := ih (half n) hl i hp
        have h2 : bits (half n - 1) ≤ Nat.log2 (n - 1) := bits_pow _ _ (by unfold half; unfold half at hp; omega)
        omega
      · rw [long_right i n h hi, hb]
        have := ih (n - half n) (by omega) (i - half n) (by omega)
        have h2 : bits (n - half n - 1) ≤ Nat.log2 (n - 1) := bits_pow _ _ (by unfold half; unfold half at hp ht; omega)
        omega
    · have : n = 1 := by omega
      subst this; rw [long_one]; omega

/-- One step up, and all of them. -/
def up1 (l : List Int) (s : Bool) (x : List Int) : List Int := if s then nd x l else nd l x
def up : List Int → List Bool → List (List Int) → List Int
  | l, s :: ss, x :: xs => up (up1 l s x) ss xs
  | l, _, _ => l
theorem up_nil (l : List Int) (xs : List (List Int)) : up l [] xs = l := rfl
theorem up_snoc (ss : List Bool) : ∀ (l : List Int) (xs : List (List Int)) (s : Bool) (x : List Int), ss.length = xs.length → up l (ss ++ [s]) (xs ++ [x]) = up1 (up l ss xs) s x := by
  induction ss with
  | nil => intro l xs s x h; cases xs with
    | nil => rfl
    | cons y ys => simp at h
  | cons a ts ih => intro l xs s x h; cases xs with
    | nil => simp at h
    | cons y ys => exact ih (up1 l a y) ys s x (by simpa using h)
def folded (l : List Int) (i n : Nat) (p : List (List Int)) : List Int := up l (sides i n) p
theorem folded_one (l : List Int) (i : Nat) (p : List (List Int)) : folded l i 1 p = l := by rw [folded, sides_one]; rfl
theorem folded_left (l : List Int) (i n : Nat) (p : List (List Int)) (x : List Int) (h : 2 ≤ n) (hi : i < half n) (hl : p.length = long i (half n)) : folded l i n (p ++ [x]) = nd (folded l i (half n) p) x := by
  rw [folded, sides_left i n h hi, up_snoc _ _ _ _ _ hl.symm]; rfl
theorem folded_right (l : List Int) (i n : Nat) (p : List (List Int)) (x : List Int) (h : 2 ≤ n) (hi : ¬ i < half n) (hl : p.length = long (i - half n) (n - half n)) : folded l i n (p ++ [x]) = nd x (folded l (i - half n) (n - half n) p) := by
  rw [folded, sides_right i n h hi, up_snoc _ _ _ _ _ hl.symm]; rfl
theorem last_split (p : List (List Int)) (h : p ≠ []) : p = p.take (p.length - 1) ++ [p.getD (p.length - 1) []] := by
  have h0 : 0 < p.length := List.length_pos_iff.2 h
  have := List.take_succ_eq_append_getElem (l := p) (i := p.length - 1) (by omega)
  rw [show p.length - 1 + 1 = p.length by omega, List.take_of_length_le (Nat.le_refl _)] at this
  rw [List.getD_eq_getElem?_getD, List.getElem?_eq_getElem (by omega), Option.getD_some]
  exact this

theorem path_length (n : Nat) : ∀ (ls : List (List Int)) (i : Nat), ls.length = n → 1 ≤ n → (path ls i).length = long i n := by
  induction n using Nat.strongRecOn with
  | _ n ih =>
    intro ls i hn h1
    by_cases h : 2 ≤ n
    · have hp := half_pos n
      have hl := half_lt n h
      by_cases hi : i < half n
      · rw [path_left ls i (by omega) (by rw [hn]; exact hi), long_left i n h hi, List.length_append, hn, ih (half n) hl _ i (by rw [List.length_take, hn]; omega) hp]; simp; omega
      · rw [path_right ls i (by omega) (by rw [hn]; exact hi), long_right i n h hi, List.length_append, hn, ih (n - half n) (by omega) _ (i - half n) (by rw [List.length_drop, hn]) (by omega)]; simp; omega
    · have : n = 1 := by omega
      subst this; rw [path_one ls i hn, long_one]; rfl
theorem getD_take (l : List (List Int)) (k i : Nat) (h : i < k) : (l.take k).getD i [] = l.getD i [] := by simp [List.getD, h]
theorem getD_drop (l : List (List Int)) (k i : Nat) : (l.drop k).getD i [] = l.getD (k + i) [] := by simp [List.getD, List.getElem?_drop]
/-- A leaf and its path are the root. -/
theorem fold_path (n : Nat) : ∀ (ls : List (List Int)) (i : Nat), ls.length = n → i < n → folded (ls.getD i []) i n (path ls i) = root ls := by
  induction n using Nat.strongRecOn with
  | _ n ih =>
    intro ls i hn hi0
    by_cases h : 2 ≤ n
    · have hp := half_pos n
      have hl := half_lt n h
      have htl : (ls.take (half n)).length = half n := by rw [List.length_take, hn]; omega
      have hdl : (ls.drop (half n)).length = n - half n := by rw [List.length_drop, hn]
      rw [root_more ls (by omega), hn]
      by_cases hi : i < half n
      · rw [path_left ls i (by omega) (by rw [hn]; exact hi), hn, folded_left _ _ _ _ _ h hi (path_length _ _ _ htl hp)]
        have := ih (half n) hl (ls.take (half n)) i htl hi
        rw [getD_take _ _ _ hi] at this
        rw [this]
      · rw [path_right ls i (by omega) (by rw [hn]; exact hi), hn, folded_right _ _ _ _ _ h hi (path_length _ _ _ hdl (by omega))]
        have := ih (n - half n) (by omega) (ls.drop (half n)) (i - half n) hdl (by omega)
        rw [getD_drop, show half n + (i - half n) = i by omega] at this
        rw [this]
    · have : n = 1 := by omega
      subst this
      have hi1 : i = 0 := by omega
      subst hi1
      rw [folded_one, root, dif_pos (by omega)]

/-- Two unlike pairs with one node, found from the root down. -/
def clash (a : List Int) (p : List (List Int)) (b : List Int) (q : List (List Int)) (i n : Nat) : Bool :=
  if h : n ≤ 1 then false else
    if i < half n then
      (if folded a i (half n) (p.take (p.length - 1)) ≠ folded b i (half n) (q.take (q.length - 1)) ∨ p.getD (p.length - 1) [] ≠ q.getD (q.length - 1) [] then
        nd (folded a i (half n) (p.take (p.length - 1))) (p.getD (p.length - 1) []) == nd (folded b i (half n) (q.take (q.length - 1))) (q.getD (q.length - 1) [])
      else clash a (p.take (p.length - 1)) b (q.take (q.length - 1)) i (half n))
    else
      (if folded a (i - half n) (n - half n) (p.take (p.length - 1)) ≠ folded b (i - half n) (n - half n) (q.take (q.length - 1)) ∨ p.getD (p.length - 1) [] ≠ q.getD (q.length - 1) [] then
        nd (p.getD (p.length - 1) []) (folded a (i - half n) (n - half n) (p.take (p.length - 1))) == nd (q.getD (q.length - 1) []) (folded b (i - half n) (n - half n) (q.take (q.length - 1)))
      else clash a (p.take (p.length - 1)) b (q.take (q.length - 1)) (i - half n) (n - half n))
  termination_by n
  decreasing_by
    · exact half_lt n (by omega)
    · have := half_pos n; omega
theorem clash_left (a b : List Int) (p q : List (List Int)) (x y : List Int) (i n : Nat) (h : 2 ≤ n) (hi : i < half n) :
    clash a (p ++ [x]) b (q ++ [y]) i n = if folded a i (half n) p ≠ folded b i (half n) q ∨ x ≠ y then nd (folded a i (half n) p) x == nd (folded b i (half n) q) y else clash a p b q i (half n) := by
  rw [clash, dif_neg (by omega)]
  simp [hi, List.getD]
theorem clash_right (a b : List Int) (p q : List (List Int)) (x y : List Int) (i n : Nat) (h : 2 ≤ n) (hi : ¬ i < half n) :
    clash a (p ++ [x]) b (q ++ [y]) i n = if folded a (i - half n) (n - half n) p ≠ folded b (i - half n) (n - half n) q ∨ x ≠ y then nd x (folded a (i - half n) (n - half n) p) == nd y (folded b (i - half n) (n - half n) q) else clash a p b q (i - half n) (n - half n) := by
  rw [clash, dif_neg (by omega)]
  simp [hi, List.getD]
/-- Two unlike leaves at one place that have one root clash. -/
theorem clash_true (n : Nat) : ∀ (a b : List Int) (p q : List (List Int)) (i : Nat), 1 ≤ n → p.length = long i n → q.length = long i n → folded a i n p = folded b i n q → a ≠ b → clash a p b q i n = true := by
  induction n using Nat.strongRecOn with
  | _ n ih =>
    intro a b p q i h1 hp hq hf hne
    by_cases h : 2 ≤ n
    · have hpos := long_pos i n h
      have hpn : p ≠ [] := by intro e; rw [e] at hp; simp at hp; omega
      have hqn : q ≠ [] := by intro e; rw [e] at hq; simp at hq; omega
      have hl := half_lt n h
      have h0 := half_pos n
      obtain ⟨p1, x, hpe⟩ : ∃ p1 x, p = p1 ++ [x] := ⟨_, _, last_split p hpn⟩
      obtain ⟨q1, y, hqe⟩ : ∃ q1 y, q = q1 ++ [y] := ⟨_, _, last_split q hqn⟩
      subst hpe hqe
      simp only [List.length_append, List.length_singleton] at hp hq
      by_cases hi : i < half n
      · rw [long_left i n h hi] at hp hq
        rw [folded_left _ _ _ _ _ h hi (by omega), folded_left _ _ _ _ _ h hi (by omega)] at hf
        rw [clash_left _ _ _ _ _ _ _ _ h hi]
        split
        · rw [hf]; exact beq_self_eq_true _
        · next hc =>
          exact ih (half n) hl a b p1 q1 i h0 (by omega) (by omega) (Decidable.byContradiction fun e => hc (.inl e)) hne
      · rw [long_right i n h hi] at hp hq
        rw [folded_right _ _ _ _ _ h hi (by omega), folded_right _ _ _ _ _ h hi (by omega)] at hf
        rw [clash_right _ _ _ _ _ _ _ _ h hi]
        split
        · rw [hf]; exact beq_self_eq_true _
        · next hc =>
          exact ih (n - half n) (by omega) a b p1 q1 (i - half n) (by omega) (by omega) (by omega) (Decidable.byContradiction fun e => hc (.inl e)) hne
    · have : n = 1 := by omega
      subst this
      rw [folded_one, folded_one] at hf
      exact absurd hf hne
end Go.Proofs.YtphdnbflogobfaaDoor.Te
