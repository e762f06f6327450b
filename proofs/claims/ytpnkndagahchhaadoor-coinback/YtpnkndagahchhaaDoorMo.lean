/- Plain facts on amounts: sums that are bounded, what a block makes, what all blocks make; with no program in sight. -/
namespace Go.Proofs.YtpnkndagahchhaaDoor.Mo

/-- Is it an amount. -/
def ok (n : Int) : Prop := 0 ≤ n ∧ n ≤ 1125899906842624
instance (n : Int) : Decidable (ok n) := inferInstanceAs (Decidable (_ ∧ _))
/-- What is wrong with an amount. -/
def chk (n : Int) : Int := if ok n then 0 else 2
theorem chk_bad (n : Int) (h : ¬ ok n) : chk n = 2 := by unfold chk; rw [if_neg h]
theorem chk_good (n : Int) (h : ok n) : chk n = 0 := by unfold chk; rw [if_pos h]
/-- The sum of two. -/
def add (a b : Int) : Int × Int := if ok a ∧ ok b then (if a + b ≤ 1125899906842624 then (a + b, 0) else (0, 4)) else (0, 2)
/-- The sum of all, on from a sum. -/
def tot : Int → List Int → Int × Int
  | s, [] => (s, 0)
  | s, n :: l => if ok n then (if s + n ≤ 1125899906842624 then tot (s + n) l else (0, 4)) else (0, 2)

def sum : List Int → Int
  | [] => 0
  | n :: l => n + sum l

theorem tot_cons_of (s n : Int) (l : List Int) : tot s (n :: l) = if ok n then (if s + n ≤ 1125899906842624 then tot (s + n) l else (0, 4)) else (0, 2) := rfl
theorem tot_drop (s : Int) (l : List Int) (k : Nat) (h : k < l.length) : tot s (l.drop k) = if ok (l.getD k 0) then (if s + l.getD k 0 ≤ 1125899906842624 then tot (s + l.getD k 0) (l.drop (k + 1)) else (0, 4)) else (0, 2) := by
  have e : l.drop k = l.getD k 0 :: l.drop (k + 1) := by
    rw [List.drop_eq_getElem_cons h]; simp [List.getD, List.getElem?_eq_getElem h]
  rw [e]; rfl

theorem sum_append (a b : List Int) : sum (a ++ b) = sum a + sum b := by
  induction a with
  | nil => simp [sum]
  | cons n a ih => simp only [List.cons_append, sum, ih]; omega
theorem sum_reverse (a : List Int) : sum a.reverse = sum a := by
  induction a with
  | nil => rfl
  | cons n a ih => simp only [List.reverse_cons, sum_append, sum, ih]; omega
theorem sum_nonneg (l : List Int) (h : ∀ n ∈ l, ok n) : 0 ≤ sum l := by
  induction l with
  | nil => exact Int.le_refl _
  | cons n l ih =>
    have h1 := (h n (by simp)).1
    have h2 := ih (fun m hm => h m (by simp [hm]))
    simp only [sum]; omega
theorem sum_ge (l : List Int) (h : ∀ n ∈ l, ok n) : ∀ n ∈ l, n ≤ sum l := by
  induction l with
  | nil => intro n hn; cases hn
  | cons m l ih =>
    intro n hn
    have h1 := (h m (by simp)).1
    have h3 := sum_nonneg l (fun m hm => h m (by simp [hm]))
    rcases List.mem_cons.1 hn with rfl | hn
    · simp only [sum]; omega
    · have h2 := ih (fun m hm => h m (by simp [hm])) n hn
      simp only [sum]; omega

/-- What may be summed. -/
def fits (s : Int) (l : List Int) : Prop := (∀ n ∈ l, ok n) ∧ s + sum l ≤ 1125899906842624
theorem tot_fits (l : List Int) : ∀ s, 0 ≤ s → s ≤ 1125899906842624 → fits s l → tot s l = (s + sum l, 0) := by
  induction l with
  | nil => intro s _ _ _; simp [tot, sum]
  | cons n l ih =>
    intro s h0 h1 hf
    have hn := hf.1 n (by simp)
    have hl : ∀ m ∈ l, ok m := fun m hm => hf.1 m (by simp [hm])
    have hp := sum_nonneg l hl
    have hs := hf.2
    have hn0 := hn.1
    simp only [sum] at hs
    rw [tot_cons_of, if_pos hn, if_pos (by omega), ih _ (by omega) (by omega) ⟨hl, by omega⟩]
    simp only [sum, Prod.mk.injEq, and_true]; omega
theorem tot_misfit (l : List Int) : ∀ s, 0 ≤ s → s ≤ 1125899906842624 → ¬ fits s l → (tot s l).1 = 0 ∧ (tot s l).2 ≠ 0 := by
  induction l with
  | nil => intro s _ h1 hf; exact absurd ⟨fun n hn => (by cases hn), by simpa [sum] using h1⟩ hf
  | cons n l ih =>
    intro s h0 h1 hf
    rw [tot_cons_of]
    by_cases hn : ok n
    · rw [if_pos hn]
      have hn0 := hn.1
      by_cases hs : s + n ≤ 1125899906842624
      · rw [if_pos hs]
        refine ih _ (by omega) hs (fun hg => hf ⟨fun m hm => ?_, ?_⟩)
        · rcases List.mem_cons.1 hm with rfl | hm
          · exact hn
          · exact hg.1 m hm
        · have := hg.2; simp only [sum]; omega
      · rw [if_neg hs]; exact ⟨rfl, by decide⟩
    · rw [if_neg hn]; exact ⟨rfl, by decide⟩
theorem fits_rev (l : List Int) : fits 0 l.reverse ↔ fits 0 l := by
  unfold fits; rw [sum_reverse]; simp
theorem fits_parts (a b : List Int) (h : fits 0 (a ++ b)) : fits 0 a ∧ fits 0 b ∧ ok (sum a) ∧ ok (sum b) := by
  obtain ⟨h1, h2⟩ := h
  rw [sum_append] at h2
  have ha : ∀ n ∈ a, ok n := fun n hn => h1 n (by simp [hn])
  have hb : ∀ n ∈ b, ok n := fun n hn => h1 n (by simp [hn])
  have pa := sum_nonneg a ha
  have pb := sum_nonneg b hb
  exact ⟨⟨ha, by omega⟩, ⟨hb, by omega⟩, ⟨pa, by omega⟩, ⟨pb, by omega⟩⟩
theorem tot_two (a b : Int) : tot 0 [a, b] = add a b := by
  unfold add
  rw [tot_cons_of]
  by_cases ha : ok a
  · have h1 := ha.1
    have h2 := ha.2
    rw [if_pos ha, if_pos (by omega), tot_cons_of]
    by_cases hb : ok b
    · rw [if_pos hb, Int.zero_add, if_pos (show ok a ∧ ok b from ⟨ha, hb⟩)]; rfl
    · rw [if_neg hb, if_neg (fun h => hb h.2)]
  · rw [if_neg ha, if_neg (fun h => ha h.1)]

/-- What the blocks of the k-th thousand make, each. -/
def made (k : Nat) : Nat := 1073741824 / 2 ^ k
theorem made_zero : made 0 = 1073741824 := rfl
theorem made_succ (k : Nat) : made (k + 1) = made k / 2 := by
  unfold made; rw [Nat.pow_succ, Nat.div_div_eq_div_mul]
theorem made_le (k : Nat) : made (k + 1) ≤ made k := by rw [made_succ]; omega
theorem made_bd (k : Nat) : made k ≤ 1073741824 := Nat.div_le_self _ _
theorem made_31 (i : Nat) : made (31 + i) = 0 := by
  induction i with
  | zero => decide
  | succ i ih => rw [← Nat.add_assoc, made_succ, ih]
theorem made_small (k : Nat) (h : 0 < made k) : k < 31 := by
  apply Nat.lt_of_not_le
  intro h1
  obtain ⟨i, rfl⟩ := Nat.exists_eq_add_of_le h1
  rw [made_31] at h; omega
/-- What the first n blocks make. -/
def T : Nat → Nat
  | 0 => 0
  | n + 1 => T n + made (n / 1000)
theorem T_run (j r : Nat) (h : r ≤ 1000) : T (1000 * j + r) = T (1000 * j) + r * made j := by
  induction r with
  | zero => simp
  | succ r ih =>
    have e : 1000 * j + (r + 1) = (1000 * j + r) + 1 := by omega
    rw [e, T, ih (by omega)]
    have e2 : (1000 * j + r) / 1000 = j := by omega
    rw [e2, Nat.add_mul r 1 (made j), Nat.one_mul, Nat.add_assoc]
theorem T_thousand (j : Nat) : T (1000 * (j + 1)) = T (1000 * j) + 1000 * made j := by
  have := T_run j 1000 (Nat.le_refl _)
  rw [← this]; congr 1
theorem T_bd (j : Nat) : T (1000 * j) + 2000 * made j ≤ 2147483648000 := by
  induction j with
  | zero => decide
  | succ j ih => rw [T_thousand, made_succ]; omega
theorem T_late (i : Nat) : T (31000 + i) = T 31000 := by
  induction i with
  | zero => rfl
  | succ i ih =>
    rw [← Nat.add_assoc, T, ih]
    have e : (31000 + i) / 1000 = 31 + i / 1000 := by omega
    rw [e, made_31, Nat.add_zero]
theorem T_mono (a i : Nat) : T a ≤ T (a + i) := by
  induction i with
  | zero => exact Nat.le_refl _
  | succ i ih => rw [← Nat.add_assoc, T]; omega
theorem T_31 : T 31000 < 2147483648000 := by
  have h1 := T_bd 30
  have h2 := T_thousand 30
  have e : made 30 = 1 := by decide
  rw [e] at h1 h2
  have e3 : (1000 * (30 + 1)) = 31000 := rfl
  rw [e3] at h2
  omega
theorem T_lt (n : Nat) : T n < 2147483648000 := by
  have h := T_31
  by_cases hn : n ≤ 31000
  · obtain ⟨i, hi⟩ := Nat.exists_eq_add_of_le hn
    have := T_mono n i
    rw [← hi] at this; omega
  · obtain ⟨i, rfl⟩ := Nat.exists_eq_add_of_le (Nat.le_of_not_le hn)
    rw [T_late]; exact h
theorem T_none (j n : Nat) (h : made j = 0) (hn : 1000 * j ≤ n) : T n = T (1000 * j) := by
  obtain ⟨i, rfl⟩ := Nat.exists_eq_add_of_le hn
  clear hn
  induction i with
  | zero => rfl
  | succ i ih =>
    rw [← Nat.add_assoc, T, ih]
    have e : (1000 * j + i) / 1000 = j + i / 1000 := by omega
    rw [e]
    have : ∀ d, made (j + d) = 0 := by
      intro d
      induction d with
      | zero => exact h
      | succ d ihd => rw [← Nat.add_assoc, made_succ, ihd]
    rw [this, Nat.add_zero]
end Go.Proofs.YtpnkndagahchhaaDoor.Mo
