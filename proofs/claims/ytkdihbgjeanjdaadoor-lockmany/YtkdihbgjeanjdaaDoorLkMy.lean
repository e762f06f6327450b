/- So many of as many keys, as lists: what opens such a lock. -/
import Derived.Test.YtkdihbgjeanjdaaDoorLk2
namespace Go.Proofs.YtkdihbgjeanjdaaDoor.Lk
set_option linter.unusedVariables false

/-- Keys from one place on. -/
def keysFrom (ps : List (List Int)) (j : Nat) : List Int := (ps.drop j).flatten
/-- Places that rise, from one on. -/
def incr : Nat → List Nat → Bool
  | _, [] => true
  | a, i :: r => decide (a ≤ i) && incr (i + 1) r

theorem keysFrom_step (ps : List (List Int)) (j : Nat) (h : j < ps.length) : keysFrom ps j = ps.getD j [] ++ keysFrom ps (j + 1) := by
  unfold keysFrom
  rw [List.drop_eq_getElem_cons h, List.flatten_cons]
  simp [List.getD, List.getElem?_eq_getElem h]
theorem keysFrom_end (ps : List (List Int)) (j : Nat) (h : ps.length ≤ j) : keysFrom ps j = [] := by
  unfold keysFrom; rw [List.drop_eq_nil_of_le h]; rfl
theorem keysFrom_length (ps : List (List Int)) (hl : ∀ p ∈ ps, p.length = 32) (j : Nat) : (keysFrom ps j).length = 32 * (ps.length - j) := by
  unfold keysFrom
  have : ∀ (l : List (List Int)), (∀ p ∈ l, p.length = 32) → l.flatten.length = 32 * l.length := by
    intro l
    induction l with
    | nil => intro _; rfl
    | cons x r ih =>
      intro h
      rw [List.flatten_cons, List.length_append, ih (fun p hp => h p (by simp [hp])), h x (by simp), List.length_cons]
      omega
  rw [this _ (fun p hp => hl p (List.mem_of_mem_drop hp)), List.length_drop]
theorem getD_len (ps : List (List Int)) (hl : ∀ p ∈ ps, p.length = 32) (j : Nat) (h : j < ps.length) : (ps.getD j []).length = 32 := by
  have e : ps.getD j [] = ps[j] := by simp [List.getD, List.getElem?_eq_getElem h]
  rw [e]; exact hl _ (List.getElem_mem h)
theorem step_take (ps : List (List Int)) (hl : ∀ p ∈ ps, p.length = 32) (j : Nat) (h : j < ps.length) : (keysFrom ps j).take 32 = ps.getD j [] ∧ (keysFrom ps j).drop 32 = keysFrom ps (j + 1) := by
  have hn := getD_len ps hl j h
  rw [keysFrom_step ps j h]
  exact ⟨by rw [List.take_append_of_le_length (by omega), List.take_of_length_le (by omega)], by rw [List.drop_append_of_le_length (by omega), List.drop_eq_nil_of_le (by omega), List.nil_append]⟩

theorem seek_found (ps : List (List Int)) (hl : ∀ p ∈ ps, p.length = 32) (i : Nat) (hi : i < ps.length) (hd : ∀ a, a < i → ps.getD a [] ≠ ps.getD i []) : ∀ (d j n : Nat), j + d = i → d + 1 ≤ n → seek n (keysFrom ps j) (ps.getD i []) = some (keysFrom ps (i + 1)) := by
  intro d
  induction d with
  | zero =>
    intro j n hj hn
    obtain ⟨n, rfl⟩ : ∃ k, n = k + 1 := ⟨n - 1, by omega⟩
    obtain rfl : j = i := by omega
    have hlen := keysFrom_length ps hl j
    obtain ⟨h1, h2⟩ := step_take ps hl j hi
    rw [seek, if_neg (by omega), if_pos h1, h2]
  | succ d ih =>
    intro j n hj hn
    obtain ⟨n, rfl⟩ : ∃ k, n = k + 1 := ⟨n - 1, by omega⟩
    have hlt : j < ps.length := by omega
    have hlen := keysFrom_length ps hl j
    obtain ⟨h1, h2⟩ := step_take ps hl j hlt
    rw [seek, if_neg (by omega), if_neg (by rw [h1]; exact hd j (by omega)), h2]
    exact ih (j + 1) n (by omega) (by omega)
theorem seek_lost (ps : List (List Int)) (hl : ∀ p ∈ ps, p.length = 32) (i : Nat) (hd : ∀ a, i < a → a < ps.length → ps.getD a [] ≠ ps.getD i []) : ∀ (n j : Nat), i < j → seek n (keysFrom ps j) (ps.getD i []) = none := by
  intro n
  induction n with
  | zero => intro j hj; rfl
  | succ n ih =>
    intro j hj
    by_cases hlt : j < ps.length
    · have hlen := keysFrom_length ps hl j
      obtain ⟨h1, h2⟩ := step_take ps hl j hlt
      rw [seek, if_neg (by omega), if_neg (by rw [h1]; exact hd j hj hlt), h2]
      exact ih (j + 1) (by omega)
    · rw [keysFrom_end ps j (by omega), seek, if_pos List.length_nil]

theorem among_incr (m : List Int) (ps : List (List Int)) (G : Nat → List Int) (hl : ∀ p ∈ ps, p.length = 32) (hd : ∀ a b, a < b → b < ps.length → ps.getD a [] ≠ ps.getD b [])
    (hG : ∀ i, i < ps.length → (G i).length = 2144 ∧ Ky.recov m (G i) = ps.getD i []) : ∀ (is : List Nat) (j : Nat), (∀ i ∈ is, i < ps.length) → among m (keysFrom ps j) (is.map G) = incr j is := by
  intro is
  induction is with
  | nil => intro j _; rw [List.map_nil, among, incr]
  | cons i r ih =>
    intro j hi
    have hlt := hi i (by simp)
    obtain ⟨g1, g2⟩ := hG i hlt
    rw [List.map_cons, among, if_pos g1, g2, incr]
    by_cases hji : j ≤ i
    · have hlen := keysFrom_length ps hl j
      rw [seek_found ps hl i hlt (fun a ha => hd a i ha hlt) (i - j) j _ (by omega) (by omega), decide_eq_true hji, Bool.true_and]
      exact ih (i + 1) (fun x hx => hi x (by simp [hx]))
    · rw [seek_lost ps hl i (fun a h1 h2 => Ne.symm (hd i a h1 h2)) _ j (by omega), decide_eq_false hji, Bool.false_and]

theorem incr_snoc (x : Nat) : ∀ (l : List Nat) (a : Nat), incr a l = true → (∀ y ∈ l, y < x) → a ≤ x → incr a (l ++ [x]) = true
  | [], a, _, _, h => by simp [incr, h]
  | y :: r, a, h1, h2, h => by
    simp only [incr, Bool.and_eq_true, decide_eq_true_eq] at h1
    have hy := h2 y (by simp)
    rw [List.cons_append, incr, decide_eq_true h1.1, Bool.true_and]
    exact incr_snoc x r (y + 1) h1.2 (fun z hz => h2 z (by simp [hz])) hy
theorem incr_take : ∀ (l : List Nat) (a t : Nat), incr a l = true → incr a (l.take t) = true
  | [], a, t, _ => by simp [incr]
  | y :: r, a, 0, h => by simp [incr]
  | y :: r, a, t + 1, h => by
    simp only [incr, Bool.and_eq_true, decide_eq_true_eq] at h
    rw [List.take_succ_cons, incr, decide_eq_true h.1, Bool.true_and]
    exact incr_take r (y + 1) t h.2
theorem incr_low (x : Nat) (t : List Nat) : ∀ (l : List Nat) (a : Nat), x < a → incr a (l ++ x :: t) = false
  | [], a, h => by rw [List.nil_append, incr, decide_eq_false (by omega), Bool.false_and]
  | y :: r, a, h => by
    rw [List.cons_append, incr]
    by_cases hy : a ≤ y
    · rw [decide_eq_true hy, Bool.true_and]; exact incr_low x t r (y + 1) (by omega)
    · rw [decide_eq_false hy, Bool.false_and]
theorem incr_bad (x y : Nat) (t : List Nat) (hxy : x ≤ y) : ∀ (l : List Nat) (a : Nat), y ∈ l → incr a (l ++ x :: t) = false
  | [], a, h => by cases h
  | z :: r, a, h => by
    rw [List.cons_append, incr]
    rcases List.mem_cons.1 h with rfl | h
    · rw [incr_low x t r (y + 1) (by omega), Bool.and_false]
    · rw [incr_bad x y t hxy r (z + 1) h, Bool.and_false]

/-- A lock on some of as many keys. -/
def manyOps (ks : List Int) (n : Int) : List Op := [⟨1, 0, ks⟩, ⟨9, n, []⟩]
theorem law_many (m ks : List Int) (n : Nat) (sigs : List (List Int)) (h0 : ks.length ≠ 0) (h300 : ks.length ≤ 300) (h32 : ks.length % 32 = 0) (hn1 : 1 ≤ n) (hn9 : n ≤ 9) (hs : sigs.length = n) (hl : ∀ s ∈ sigs, s.length ≤ 3000) :
    run m 0 (manyOps ks n) sigs = if among m ks sigs then 0 else 7 := by
  have hc : check (manyOps ks n) = 0 := by
    refine (check_zero _).2 ⟨by simp [manyOps], ?_, rfl⟩
    have e1 : opFault ⟨1, 0, ks⟩ = 0 := by unfold opFault opF; simp; omega
    have e2 : opFault ⟨9, (n : Int), []⟩ = 0 := by unfold opFault opF; simp; omega
    rw [manyOps, opsFault, if_pos e1, opsFault, if_pos e2]; rfl
  have hany : sigs.any (fun k => decide (3000 < k.length)) = false := by
    rw [List.any_eq_false]
    intro s hs' h
    have := of_decide_eq_true h
    have := hl s hs'
    omega
  rw [run_checked _ _ _ _ hc, if_neg (by omega), hany]
  simp only [Bool.false_eq_true, if_false]
  have e : exec m 0 (manyOps ks n) sigs.reverse = .ok [if among m ks sigs then [1] else []] := by
    unfold manyOps
    rw [exec_do _ _ _ _ _ (by simp) (by simp) (by simp)]
    have e1 : doOp m 0 ⟨1, 0, ks⟩ sigs.reverse = .ok (ks :: sigs.reverse) := by
      show put ks sigs.reverse = _
      unfold put; rw [if_neg (by simp; omega)]
    rw [e1]
    show exec m 0 [⟨9, (n : Int), []⟩] (ks :: sigs.reverse) = _
    rw [exec_do _ _ _ _ _ (by simp) (by simp) (by simp)]
    have e2 : doOp m 0 ⟨9, (n : Int), []⟩ (ks :: sigs.reverse) = .ok [if among m ks sigs then [1] else []] := by
      show (if sigs.reverse.length < (n : Int).toNat then Out.err 7 else tell (many m ks (sigs.reverse.take (n : Int).toNat).reverse) (sigs.reverse.drop (n : Int).toNat)) = _
      rw [Int.toNat_natCast, if_neg (by simp; omega), List.take_of_length_le (by simp; omega), List.reverse_reverse, List.drop_eq_nil_of_le (by simp; omega)]
      unfold many
      rw [if_neg (by omega)]
      rfl
    rw [e2]
    show exec m 0 [] _ = _
    rw [exec_nil]
  rw [e]
  show (if isTrue (if among m ks sigs then [1] else []) then (0 : Int) else 7) = _
  rw [isTrue_told]
end Go.Proofs.YtkdihbgjeanjdaaDoor.Lk
