/- The texts Math, Kd, one behind the other. -/

/- Plain facts on numbers and lists: how a number is written in bytes and read back, with no program in sight. -/
namespace Go.Proofs.YtphdnbflogobfaaDoor.Sz

/-- The first byte of a number. -/
def fst (n : Int) : Int := if n < 253 then n else if n ≤ 65535 then 253 else if n ≤ 4294967295 then 254 else 255
/-- How many bytes stand behind a first byte. -/
def wid (f : Int) : Nat := if f = 253 then 2 else if f = 254 then 4 else if f = 255 then 8 else 0
/-- The number of some bytes, the highest one first. -/
def joinL (l : List Int) : Int := l.foldl (fun n x => n * 256 + x) 0
/-- The lowest k bytes of a number, the highest one first. -/
def low : Nat → Int → List Int
  | 0, _ => []
  | k + 1, n => low k (n / 256) ++ [n % 256]
/-- A number's bytes. -/
def wr (n : Int) : List Int := fst n :: low (wid (fst n)) n
def Byt (l : List Int) : Prop := ∀ x ∈ l, 0 ≤ x ∧ x < 256

theorem Byt.nil : Byt [] := fun _ h => by cases h
theorem Byt.append {a b : List Int} (h : Byt a) (k : Byt b) : Byt (a ++ b) := fun x hx => by
  rcases List.mem_append.1 hx with h1 | h1
  · exact h x h1
  · exact k x h1
theorem Byt.take {a : List Int} (h : Byt a) (n : Nat) : Byt (a.take n) := fun x hx => h x (List.mem_of_mem_take hx)
theorem Byt.drop {a : List Int} (h : Byt a) (n : Nat) : Byt (a.drop n) := fun x hx => h x (List.mem_of_mem_drop hx)
theorem Byt.getD {a : List Int} (h : Byt a) (i : Nat) : 0 ≤ a.getD i 0 ∧ a.getD i 0 < 256 := by
  by_cases hi : i < a.length
  · have e : a.getD i 0 = a[i] := by simp [List.getD, List.getElem?_eq_getElem hi]
    rw [e]; exact h _ (List.getElem_mem hi)
  · have e : a.getD i 0 = 0 := by simp [List.getD, List.getElem?_eq_none (Nat.le_of_not_lt hi)]
    rw [e]; decide

theorem fst_bd (n : Int) (h : 0 ≤ n) : 0 ≤ fst n ∧ fst n ≤ 255 := by unfold fst; split <;> (try split) <;> (try split) <;> omega
theorem wid_le (f : Int) : wid f ≤ 8 := by unfold wid; split <;> (try split) <;> (try split) <;> omega
theorem wid_fst (n : Int) (h : 0 ≤ n) (hn : n < 253) : wid (fst n) = 0 := by
  unfold wid fst; rw [if_pos hn, if_neg (by omega), if_neg (by omega), if_neg (by omega)]

theorem low_length (k : Nat) : ∀ n, (low k n).length = k := by
  induction k with
  | zero => intro n; rfl
  | succ k ih => intro n; simp [low, ih]
theorem low_byt (k : Nat) : ∀ n, Byt (low k n) := by
  induction k with
  | zero => intro n; exact Byt.nil
  | succ k ih => intro n; exact (ih _).append (fun x hx => by simp at hx; omega)
theorem wr_length (n : Int) : (wr n).length = 1 + wid (fst n) := by simp [wr, low_length]; omega
theorem wr_byt (n : Int) (h : 0 ≤ n) : Byt (wr n) := by
  intro x hx
  rcases List.mem_cons.1 hx with e | e
  · have := fst_bd n h; omega
  · exact low_byt _ _ x e

theorem joinL_snoc (l : List Int) (x : Int) : joinL (l ++ [x]) = joinL l * 256 + x := by simp [joinL, List.foldl_append]
def pw : Nat → Int
  | 0 => 1
  | k + 1 => 256 * pw k
theorem pw_pos (k : Nat) : 0 < pw k := by
  induction k with
  | zero => decide
  | succ k ih => rw [pw]; omega
theorem emod_split (n m : Int) (hn : 0 ≤ n) (hm : 0 < m) : n % (256 * m) = n / 256 % m * 256 + n % 256 := by
  obtain ⟨a, rfl⟩ := Int.eq_ofNat_of_zero_le hn
  obtain ⟨b, rfl⟩ := Int.eq_ofNat_of_zero_le (Int.le_of_lt hm)
  have h := Nat.mod_mul (x := a) (a := 256) (b := b)
  have e1 : ((a : Int) % (256 * (b : Int))) = ((a % (256 * b) : Nat) : Int) := by simp
  have e2 : ((a : Int) / 256 % (b : Int)) = ((a / 256 % b : Nat) : Int) := by simp
  have e3 : ((a : Int) % 256) = ((a % 256 : Nat) : Int) := by simp
  rw [e1, e2, e3, h]
  generalize a / 256 % b = u
  generalize a % 256 = v
  omega
theorem joinL_low (k : Nat) : ∀ n, 0 ≤ n → joinL (low k n) = n % pw k := by
  induction k with
  | zero => intro n _; simp [low, joinL, pw, Int.emod_one]
  | succ k ih =>
    intro n hn
    rw [low, joinL_snoc, ih _ (by omega), pw, emod_split n (pw k) hn (pw_pos k)]
theorem foldl_bd (l : List Int) : ∀ acc m : Int, Byt l → 0 ≤ acc → acc < m → 0 ≤ l.foldl (fun n x => n * 256 + x) acc ∧ l.foldl (fun n x => n * 256 + x) acc < m * pw l.length := by
  induction l with
  | nil => intro acc m _ h0 h1; simp [pw]; omega
  | cons x l ih =>
    intro acc m hb h0 h1
    have hx := hb x (by simp)
    have := ih (acc * 256 + x) (m * 256) (fun y hy => hb y (by simp [hy])) (by omega) (by omega)
    rw [List.foldl_cons, List.length_cons, pw, ← Int.mul_assoc]
    exact this
theorem joinL_bd (l : List Int) (h : Byt l) : 0 ≤ joinL l ∧ joinL l < pw l.length := by
  have := foldl_bd l 0 1 h (by decide) (by decide)
  simpa [joinL] using this
theorem pw_0 : pw 0 = 1 := rfl
theorem pw_2 : pw 2 = 65536 := rfl
theorem pw_4 : pw 4 = 4294967296 := rfl
theorem pw_8 : pw 8 = 18446744073709551616 := rfl
theorem pw_mono (k j : Nat) : pw k ≤ pw (k + j) := by
  induction j with
  | zero => exact Int.le_refl _
  | succ j ih => have := pw_pos (k + j); rw [← Nat.add_assoc, pw]; omega
theorem pw_le8 (k : Nat) (h : k ≤ 8) : pw k ≤ 18446744073709551616 := by
  have := pw_mono k (8 - k)
  rw [show k + (8 - k) = 8 from by omega, pw_8] at this
  exact this

/-- What is behind the first byte is the number. -/
theorem join_wr (n : Int) (h : 0 ≤ n) (hn : n < 18446744073709551616) (hw : wid (fst n) ≠ 0) : joinL (low (wid (fst n)) n) = n := by
  rw [joinL_low _ _ h]
  by_cases h1 : n < 253
  · exact absurd (wid_fst n h h1) hw
  · by_cases h2 : n ≤ 65535
    · have e : wid (fst n) = 2 := by unfold wid fst; rw [if_neg h1, if_pos h2]; rfl
      rw [e, pw_2]; omega
    · by_cases h3 : n ≤ 4294967295
      · have e : wid (fst n) = 4 := by unfold wid fst; rw [if_neg h1, if_neg h2, if_pos h3]; rfl
        rw [e, pw_4]; omega
      · have e : wid (fst n) = 8 := by unfold wid fst; rw [if_neg h1, if_neg h2, if_neg h3]; rfl
        rw [e, pw_8]; omega
end Go.Proofs.YtphdnbflogobfaaDoor.Sz
namespace Go.Proofs.YtphdnbflogobfaaDoor.Sz
theorem ediv_pw (n : Int) (j : Nat) : n / pw (j + 1) = n / pw j / 256 := by
  rw [pw, Int.mul_comm, Int.ediv_ediv_of_nonneg (Int.le_of_lt (pw_pos j))]
/-- The lowest bytes, from the other end. -/
theorem low_cons (j : Nat) : ∀ n, 0 ≤ n → low (j + 1) n = n / pw j % 256 :: low j n := by
  induction j with
  | zero => intro n _; simp [low, pw]
  | succ j ih =>
    intro n hn
    rw [low, ih (n / 256) (by omega), low]
    have e : n / 256 / pw j = n / pw (j + 1) := by rw [pw, Int.ediv_ediv_of_nonneg (by decide)]
    rw [e, List.cons_append]
/-- What the array holds while a number is written, i places still to go. -/
def part (k i : Nat) (n : Int) : List Int := fst n :: (List.replicate i 0 ++ low (k - i) n)
theorem part_length (k i : Nat) (n : Int) (h : i ≤ k) : (part k i n).length = 1 + k := by simp [part, low_length]; omega
theorem part_zero (k : Nat) (n : Int) : part k 0 n = fst n :: low k n := by simp [part]
theorem part_full (k : Nat) (n : Int) : part k k n = fst n :: List.replicate k 0 := by simp [part, low]
theorem part_step (k i : Nat) (n : Int) (hn : 0 ≤ n) (h : i + 1 ≤ k) (j : Nat) : (part k i n).getD j 0 = if j = i + 1 then n / pw (k - (i + 1)) % 256 else (part k (i + 1) n).getD j 0 := by
  have e : k - i = (k - (i + 1)) + 1 := by omega
  unfold part
  rw [e, low_cons _ _ hn, List.replicate_succ']
  cases j with
  | zero => simp
  | succ j =>
    simp only [List.getD_cons_succ, List.append_assoc, List.singleton_append]
    by_cases h1 : j < i
    · rw [if_neg (by omega)]
      simp [List.getD, List.getElem?_append, h1]
    · by_cases h2 : j = i
      · subst h2; simp [List.getD]
      · rw [if_neg (by omega)]
        simp only [List.getD, List.getElem?_append, List.length_replicate]
        rw [if_neg h1, if_neg h1]
        have e2 : j - i = (j - i - 1) + 1 := by omega
        rw [e2]; simp
end Go.Proofs.YtphdnbflogobfaaDoor.Sz
namespace Go.Proofs.YtphdnbflogobfaaDoor.Sz
/-- What Read tells: the number, the place behind it, the error's number (0: there is none). -/
def rd (l : List Int) (p : Int) : Int × Int × Int :=
  if p < 0 then (0, 0, 2) else
  if (l.length : Int) ≤ p then (0, 0, 3) else
  if l.length < p.toNat + 1 + wid (l.getD p.toNat 0) then (0, 0, 3) else
  if wid (l.getD p.toNat 0) = 0 then (l.getD p.toNat 0, p + 1, 0) else
  if fst (joinL ((l.drop (p.toNat + 1)).take (wid (l.getD p.toNat 0)))) = l.getD p.toNat 0 ∧ joinL ((l.drop (p.toNat + 1)).take (wid (l.getD p.toNat 0))) ≤ 9223372036854775807
  then (joinL ((l.drop (p.toNat + 1)).take (wid (l.getD p.toNat 0))), p + 1 + wid (l.getD p.toNat 0), 0) else (0, 0, 1)

theorem fst_wid0 (n : Int) (hw : wid (fst n) = 0) : fst n = n := by
  by_cases h1 : n < 253
  · unfold fst; rw [if_pos h1]
  · exfalso
    by_cases h2 : n ≤ 65535
    · have e : wid (fst n) = 2 := by unfold wid fst; rw [if_neg h1, if_pos h2]; rfl
      omega
    · by_cases h3 : n ≤ 4294967295
      · have e : wid (fst n) = 4 := by unfold wid fst; rw [if_neg h1, if_neg h2, if_pos h3]; rfl
        omega
      · have e : wid (fst n) = 8 := by unfold wid fst; rw [if_neg h1, if_neg h2, if_neg h3]; rfl
        omega

theorem getD_at (a x c : List Int) (f : Int) (t : List Int) (hx : x = f :: t) : (a ++ x ++ c).getD a.length 0 = f := by
  subst hx; simp [List.getD]
theorem drop_at (a x c : List Int) (f : Int) (t : List Int) (hx : x = f :: t) : ((a ++ x ++ c).drop (a.length + 1)).take t.length = t := by
  subst hx
  rw [List.append_assoc, ← List.drop_drop, List.drop_left]
  simp

/-- What is written is read: behind any bytes, and with any behind it. -/
theorem rd_wr (a c : List Int) (n : Int) (h : 0 ≤ n) (hn : n ≤ 9223372036854775807) : rd (a ++ wr n ++ c) (a.length : Nat) = (n, (a.length : Int) + ((wr n).length : Nat), 0) := by
  have hx : wr n = fst n :: low (wid (fst n)) n := rfl
  have hg := getD_at a (wr n) c _ _ hx
  have hd := drop_at a (wr n) c _ _ hx
  rw [low_length] at hd
  have hl := wr_length n
  unfold rd
  rw [Int.toNat_natCast, hg, hd]
  rw [if_neg (by omega), if_neg (by simp; omega), if_neg (by simp; omega)]
  by_cases hw : wid (fst n) = 0
  · rw [if_pos hw, fst_wid0 n hw, hl, hw]; rfl
  · rw [if_neg hw, join_wr n h (by omega) hw, if_pos ⟨rfl, hn⟩, hl]
    congr 2
    omega

/-- The lowest bytes of a number made of them. -/
theorem low_join (k : Nat) : ∀ l : List Int, l.length = k → Byt l → low k (joinL l) = l := by
  induction k with
  | zero => intro l hl _; rw [List.eq_nil_of_length_eq_zero hl]; rfl
  | succ k ih =>
    intro l hl hb
    obtain ⟨r, x, rfl⟩ : ∃ r x, l = r ++ [x] := ⟨l.dropLast, l.getLast (by intro h; subst h; simp at hl), (List.dropLast_concat_getLast _).symm⟩
    have hx := hb x (by simp)
    have hr : Byt r := fun y hy => hb y (by simp [hy])
    have hlen : r.length = k := by simpa using hl
    rw [joinL_snoc, low]
    have e1 : (joinL r * 256 + x) / 256 = joinL r := by omega
    have e2 : (joinL r * 256 + x) % 256 = x := by omega
    rw [e1, e2, ih r hlen hr]

/-- What is read is written so. -/
theorem wr_rd (l : List Int) (p : Nat) (m q : Int) (hb : Byt l) (h : rd l (p : Int) = (m, q, 0)) :
    0 ≤ m ∧ m ≤ 9223372036854775807 ∧ q = (p : Int) + ((wr m).length : Nat) ∧ p + (wr m).length ≤ l.length ∧ wr m = (l.drop p).take (wr m).length := by
  unfold rd at h
  rw [Int.toNat_natCast, if_neg (by omega)] at h
  by_cases h1 : (l.length : Int) ≤ p
  · rw [if_pos h1] at h; simp at h
  rw [if_neg h1] at h
  by_cases h2 : l.length < p + 1 + wid (l.getD p 0)
  · rw [if_pos h2] at h; simp at h
  rw [if_neg h2] at h
  have hp : p < l.length := by omega
  have hg := hb.getD p
  have hdp : l.drop p = l.getD p 0 :: l.drop (p + 1) := by
    rw [List.drop_eq_getElem_cons hp]; simp [List.getD, List.getElem?_eq_getElem hp]
  by_cases h3 : wid (l.getD p 0) = 0
  · rw [if_pos h3] at h
    simp only [Prod.mk.injEq] at h
    obtain ⟨rfl, rfl, _⟩ := h
    have hlt : l.getD p 0 < 253 := by
      unfold wid at h3; split at h3 <;> (try split at h3) <;> (try split at h3) <;> omega
    have hf : fst (l.getD p 0) = l.getD p 0 := by unfold fst; rw [if_pos hlt]
    have hw : wr (l.getD p 0) = [l.getD p 0] := by unfold wr; rw [hf, h3]; rfl
    rw [hw]
    exact ⟨hg.1, by omega, rfl, by simp; omega, by rw [hdp]; rfl⟩
  · rw [if_neg h3] at h
    split at h
    · rename_i hc
      simp only [Prod.mk.injEq] at h
      obtain ⟨rfl, rfl, _⟩ := h
      have hlen : ((l.drop (p + 1)).take (wid (l.getD p 0))).length = wid (l.getD p 0) := by rw [List.length_take, List.length_drop]; omega
      have hbt : Byt ((l.drop (p + 1)).take (wid (l.getD p 0))) := (hb.drop _).take _
      have hj := joinL_bd _ hbt
      have hlow := low_join _ _ hlen hbt
      have hwr : wr (joinL ((l.drop (p + 1)).take (wid (l.getD p 0)))) = l.getD p 0 :: (l.drop (p + 1)).take (wid (l.getD p 0)) := by
        unfold wr; rw [hc.1, hlow]
      rw [hwr, List.length_cons, hlen]
      refine ⟨hj.1, hc.2, by omega, by omega, ?_⟩
      rw [hdp, List.take_succ_cons]
    · simp at h

theorem rd_ok (l : List Int) (p : Int) : (rd l p).2.2 = 0 ∨ ((rd l p).1 = 0 ∧ (rd l p).2.1 = 0) := by
  unfold rd
  repeat' split
  all_goals simp
/-- Numbers in a row. -/
def row (ns : List Int) : List Int := (ns.map wr).flatten
theorem row_snoc (ns : List Int) (n : Int) : row (ns ++ [n]) = row ns ++ wr n := by simp [row]
theorem wr_le9 (n : Int) : (wr n).length ≤ 9 := by have := wid_le (fst n); rw [wr_length]; omega
theorem wr_pos (n : Int) : 0 < (wr n).length := by rw [wr_length]; omega
theorem row_le (ns : List Int) : (row ns).length ≤ 9 * ns.length := by
  induction ns with
  | nil => simp [row]
  | cons n ns ih =>
    have := wr_le9 n
    have e : row (n :: ns) = wr n ++ row ns := by simp [row]
    rw [e, List.length_append, List.length_cons]; omega
theorem row_byt (ns : List Int) (h : ∀ n ∈ ns, 0 ≤ n) : Byt (row ns) := by
  intro x hx
  obtain ⟨r, hr, hx⟩ := List.mem_flatten.1 hx
  obtain ⟨n, hn, rfl⟩ := List.mem_map.1 hr
  exact wr_byt n (h n hn) x hx
theorem row_split (ns : List Int) (k : Nat) (h : k < ns.length) : row ns = row (ns.take k) ++ wr (ns.getD k 0) ++ row (ns.drop (k + 1)) := by
  have e : ns = ns.take k ++ ns.getD k 0 :: ns.drop (k + 1) := by
    have : ns.getD k 0 = ns[k] := by simp [List.getD, List.getElem?_eq_getElem h]
    rw [this, ← List.drop_eq_getElem_cons h, List.take_append_drop]
  have e2 : row (ns.take k ++ ns.getD k 0 :: ns.drop (k + 1)) = row (ns.take k) ++ wr (ns.getD k 0) ++ row (ns.drop (k + 1)) := by simp [row]
  rw [← e2, ← e]
end Go.Proofs.YtphdnbflogobfaaDoor.Sz
namespace Go.Proofs.YtphdnbflogobfaaDoor.Sz
/-- No number begins another one. -/
theorem wr_prefix (m n : Int) (hm : 0 ≤ m) (hm1 : m ≤ 9223372036854775807) (hn : 0 ≤ n) (hn1 : n ≤ 9223372036854775807) (h1 : List.take (wr m).length (wr n) = wr m) : m = n := by
  have e : wr n = [] ++ wr m ++ (wr n).drop (wr m).length := by
    rw [List.nil_append]
    conv => lhs; rw [← List.take_append_drop (wr m).length (wr n), h1]
  have r1 := rd_wr [] ((wr n).drop (wr m).length) m hm hm1
  have r2 := rd_wr [] [] n hn hn1
  rw [← e] at r1
  rw [List.append_nil, List.nil_append, r1] at r2
  simp only [Prod.mk.injEq] at r2
  exact r2.1
theorem wr_mono (m n : Int) (hm : 0 ≤ m) (h : m < n) : (wr m).length ≤ (wr n).length := by
  rw [wr_length, wr_length]
  unfold wid fst
  by_cases a1 : m < 253
  · rw [if_pos a1, if_neg (by omega), if_neg (by omega), if_neg (by omega)]; omega
  · rw [if_neg a1, if_neg (show ¬ n < 253 by omega)]
    by_cases a2 : m ≤ 65535
    · rw [if_pos a2]
      by_cases b2 : n ≤ 65535
      · rw [if_pos b2]; exact Nat.le_refl _
      · rw [if_neg b2]
        by_cases b3 : n ≤ 4294967295
        · rw [if_pos b3]; decide
        · rw [if_neg b3]; decide
    · rw [if_neg a2, if_neg (show ¬ n ≤ 65535 by omega)]
      by_cases a3 : m ≤ 4294967295
      · rw [if_pos a3]
        by_cases b3 : n ≤ 4294967295
        · rw [if_pos b3]; exact Nat.le_refl _
        · rw [if_neg b3]; decide
      · rw [if_neg a3, if_neg (show ¬ n ≤ 4294967295 by omega)]; exact Nat.le_refl _
/-- Packed bytes. -/
def pk (l : List Int) : List Int := wr (l.length : Nat) ++ l
theorem pk_prefix (b c : List Int) (hb : (b.length : Int) ≤ 9223372036854775807) (hc : (c.length : Int) ≤ 9223372036854775807) (h1 : (pk c).take (pk b).length = pk b) : b = c := by
  have e : pk c = [] ++ wr (b.length : Nat) ++ (b ++ (pk c).drop (pk b).length) := by
    rw [List.nil_append, ← List.append_assoc]
    conv => lhs; rw [← List.take_append_drop (pk b).length (pk c), h1]
    rfl
  have r1 := rd_wr [] (b ++ (pk c).drop (pk b).length) (b.length : Nat) (by omega) hb
  have r2 := rd_wr [] c (c.length : Nat) (by omega) hc
  rw [← e] at r1
  have e2 : [] ++ wr (c.length : Nat) ++ c = pk c := rfl
  rw [e2, r1] at r2
  simp only [Prod.mk.injEq] at r2
  have hl : b.length = c.length := by omega
  unfold pk at h1
  rw [hl, List.length_append, hl, ← List.length_append, List.take_length] at h1
  exact (List.append_cancel_left h1).symm
theorem pk_length (l : List Int) : (pk l).length = (wr (l.length : Nat)).length + l.length := by simp [pk]
end Go.Proofs.YtphdnbflogobfaaDoor.Sz
namespace Go.Proofs.YtphdnbflogobfaaDoor.Sz
/-- What Unpack tells: the bytes, the place behind them, the error's number (0: there is none). -/
def unp (l : List Int) (p : Int) : List Int × Int × Int :=
  if (rd l p).2.2 ≠ 0 then ([], 0, (rd l p).2.2) else
  if (l.length : Int) - (rd l p).2.1 < (rd l p).1 then ([], 0, 3) else
  ((l.drop (rd l p).2.1.toNat).take (rd l p).1.toNat, (rd l p).2.1 + (rd l p).1, 0)
theorem rd_neg (l : List Int) (p : Int) (h : p < 0) : rd l p = (0, 0, 2) := by unfold rd; rw [if_pos h]
theorem unp_pk (a b c : List Int) (hb : (b.length : Int) ≤ 9223372036854775807) : unp (a ++ pk b ++ c) (a.length : Nat) = (b, (a.length : Int) + ((pk b).length : Nat), 0) := by
  have e : a ++ pk b ++ c = a ++ wr (b.length : Nat) ++ (b ++ c) := by simp [pk, List.append_assoc]
  have r := rd_wr a (b ++ c) (b.length : Nat) (by omega) hb
  unfold unp
  rw [e, r]
  have hd : (a ++ wr (b.length : Nat) ++ (b ++ c)).drop ((a.length : Int) + ((wr (b.length : Nat)).length : Nat)).toNat = b ++ c := by
    have : ((a.length : Int) + ((wr (b.length : Nat)).length : Nat)).toNat = (a ++ wr (b.length : Nat)).length := by rw [List.length_append]; omega
    rw [this, List.drop_left]
  rw [if_neg (by simp), if_neg (by simp; omega)]
  rw [hd, pk_length]
  simp
  omega
end Go.Proofs.YtphdnbflogobfaaDoor.Sz
namespace Go.Proofs.YtphdnbflogobfaaDoor.Sz
/-- What an array holds while the lowest k bytes are put into it, q places still to go. -/
def part2 (k q : Nat) (n : Int) : List Int := List.replicate q 0 ++ low (k - q) n
theorem part2_zero (k : Nat) (n : Int) : part2 k 0 n = low k n := by simp [part2]
theorem part2_full (k : Nat) (n : Int) : part2 k k n = List.replicate k 0 := by simp [part2, low]
theorem part2_step (k q : Nat) (n : Int) (hn : 0 ≤ n) (h : q + 1 ≤ k) (j : Nat) : (part2 k q n).getD j 0 = if j = q then n / pw (k - (q + 1)) % 256 else (part2 k (q + 1) n).getD j 0 := by
  have := part_step k q n hn h (j + 1)
  simp only [part, List.getD_cons_succ] at this
  unfold part2
  rw [this]
  by_cases e : j = q
  · rw [if_pos e, if_pos (by omega)]
  · rw [if_neg e, if_neg (by omega)]
theorem foldl_acc (l : List Int) : ∀ a : Int, l.foldl (fun n x => n * 256 + x) a = a * pw l.length + joinL l := by
  induction l with
  | nil => intro a; simp [joinL, pw]
  | cons x l ih =>
    intro a
    have e : joinL (x :: l) = l.foldl (fun n x => n * 256 + x) (0 * 256 + x) := rfl
    rw [List.foldl_cons, ih, e, ih, List.length_cons, pw]
    rw [Int.add_mul, Int.add_mul, Int.mul_assoc, Int.mul_assoc]
    omega
theorem joinL_cons (x : Int) (l : List Int) : joinL (x :: l) = x * pw l.length + joinL l := by
  have e : joinL (x :: l) = l.foldl (fun n x => n * 256 + x) (0 * 256 + x) := rfl
  rw [e, foldl_acc]; simp
theorem pw_7 : pw 7 = 72057594037927936 := rfl
/-- Eight bytes are above the greatest int just if the first one is from 128 on. -/
theorem join_top (l : List Int) (hb : Byt l) (h : l.length = 8) : (128 ≤ l.getD 0 0 ↔ 9223372036854775807 < joinL l) := by
  cases l with
  | nil => simp at h
  | cons x l =>
    have hl : l.length = 7 := by simpa using h
    have hj := joinL_bd l (fun y hy => hb y (by simp [hy]))
    have hx := hb x (by simp)
    rw [joinL_cons, hl, pw_7]
    rw [hl, pw_7] at hj
    simp only [List.getD_cons_zero]
    omega
theorem join_small (l : List Int) (hb : Byt l) (h : l.length ≤ 7) : joinL l ≤ 9223372036854775807 := by
  have hj := joinL_bd l hb
  have := pw_mono l.length (7 - l.length)
  rw [show l.length + (7 - l.length) = 7 from by omega, pw_7] at this
  omega
/-- The first byte of a number, by how long it is. -/
theorem fst_of_wid (m f : Int) (hk : wid f ≠ 0) (h : wid (fst m) = wid f) : fst m = f := by
  have hf : f = 253 ∨ f = 254 ∨ f = 255 := by
    unfold wid at hk
    by_cases a : f = 253
    · exact .inl a
    · by_cases b : f = 254
      · exact .inr (.inl b)
      · by_cases c : f = 255
        · exact .inr (.inr c)
        · rw [if_neg a, if_neg b, if_neg c] at hk; exact absurd rfl hk
  have hm : fst m = 253 ∨ fst m = 254 ∨ fst m = 255 := by
    by_cases a : fst m = 253
    · exact .inl a
    · by_cases b : fst m = 254
      · exact .inr (.inl b)
      · by_cases c : fst m = 255
        · exact .inr (.inr c)
        · have : wid (fst m) = 0 := by unfold wid; rw [if_neg a, if_neg b, if_neg c]
          exact absurd (h.symm.trans this) hk
  rcases hf with rfl | rfl | rfl <;> rcases hm with e | e | e <;> rw [e] at h ⊢ <;> simp [wid] at h
end Go.Proofs.YtphdnbflogobfaaDoor.Sz

/- The digits that a digest is signed by: no digest's are all at least another one's. -/
namespace Go.Proofs.YtphdnbflogobfaaDoor.Ky
set_option linter.unusedVariables false

/-- What 16 goes into a byte, and what is left, by turns. -/
def nib (m : List Int) (i : Nat) : Nat := if i % 2 = 0 then (m.getD (i / 2) 0).toNat / 16 else (m.getD (i / 2) 0).toNat % 16
/-- All that the first k lack to 15. -/
def lack (m : List Int) : Nat → Nat
  | 0 => 0
  | k + 1 => lack m k + (15 - nib m k)
def nibs (m : List Int) (k : Nat) : List Nat := (List.range k).map (nib m)
def digits (m : List Int) : List Nat := nibs m 64 ++ [lack m 64 / 256, lack m 64 / 16 % 16, lack m 64 % 16]
theorem digits_length (m : List Int) : (digits m).length = 67 := by simp [digits, nibs]
theorem nib_lt (m : List Int) (hb : Sz.Byt m) (i : Nat) : nib m i ≤ 15 := by
  have := hb.getD (i / 2)
  unfold nib
  split <;> omega
theorem lack_le (m : List Int) (k : Nat) : lack m k ≤ 15 * k := by
  induction k with
  | zero => simp [lack]
  | succ k ih => rw [lack]; omega
theorem digits_nib (m : List Int) (i : Nat) (h : i < 64) : (digits m).getD i 0 = nib m i := by
  simp only [digits, List.getD]
  rw [List.getElem?_append_left (by simp [nibs]; exact h)]
  simp [nibs, h]
theorem digits_chk (m : List Int) : (digits m).getD 64 0 = lack m 64 / 256 ∧ (digits m).getD 65 0 = lack m 64 / 16 % 16 ∧ (digits m).getD 66 0 = lack m 64 % 16 := by
  have hl : (nibs m 64).length = 64 := by simp [nibs]
  refine ⟨?_, ?_, ?_⟩ <;> simp only [digits, List.getD] <;> rw [List.getElem?_append_right (by omega), hl] <;> rfl
theorem digits_le (m : List Int) (hb : Sz.Byt m) (i : Nat) : (digits m).getD i 0 ≤ 15 := by
  by_cases h : i < 64
  · rw [digits_nib m i h]; exact nib_lt m hb i
  · have hc := digits_chk m
    have hl := lack_le m 64
    by_cases h4 : i = 64
    · subst h4; rw [hc.1]; omega
    · by_cases h5 : i = 65
      · subst h5; rw [hc.2.1]; omega
      · by_cases h6 : i = 66
        · subst h6; rw [hc.2.2]; omega
        · have : (digits m)[i]? = none := List.getElem?_eq_none (by rw [digits_length]; omega)
          simp [List.getD, this]
theorem lack_mono (m o : List Int) (k : Nat) (h : ∀ i, i < k → nib o i ≤ nib m i) : lack m k ≤ lack o k := by
  induction k with
  | zero => exact Nat.le_refl _
  | succ k ih =>
    have := ih (fun i hi => h i (by omega))
    have := h k (by omega)
    rw [lack, lack]; omega
theorem lack_same (m o : List Int) (hm : Sz.Byt m) (k : Nat) (h : ∀ i, i < k → nib o i ≤ nib m i) (he : lack o k ≤ lack m k) : ∀ i, i < k → nib o i = nib m i := by
  induction k with
  | zero => intro i hi; omega
  | succ k ih =>
    have h1 := lack_mono m o k (fun i hi => h i (by omega))
    have h2 := h k (by omega)
    have h3 := nib_lt m hm k
    rw [lack, lack] at he
    intro i hi
    by_cases e : i = k
    · subst e; omega
    · exact ih (fun i hi => h i (by omega)) (by omega) i (by omega)
/-- Where no digit of m is less than o's, the two digests are one. -/
theorem digits_apart (m o : List Int) (hm : Sz.Byt m) (ho : Sz.Byt o) (lm : m.length = 32) (lo : o.length = 32) (h : ∀ i, i < 67 → (digits o).getD i 0 ≤ (digits m).getD i 0) : m = o := by
  have h1 : ∀ i, i < 64 → nib o i ≤ nib m i := fun i hi => by
    have := h i (by omega)
    rwa [digits_nib _ _ hi, digits_nib _ _ hi] at this
  have c1 := digits_chk m
  have c2 := digits_chk o
  have a1 := h 64 (by omega)
  have a2 := h 65 (by omega)
  have a3 := h 66 (by omega)
  rw [c1.1, c2.1] at a1
  rw [c1.2.1, c2.2.1] at a2
  rw [c1.2.2, c2.2.2] at a3
  have hs := lack_same m o hm 64 h1 (by omega)
  apply List.ext_getElem (by omega)
  intro j j1 j2
  have e0 := hs (2 * j) (by omega)
  have e1 := hs (2 * j + 1) (by omega)
  have g1 := hm.getD j
  have g2 := ho.getD j
  have m1 : m.getD j 0 = m[j] := by simp [List.getD, List.getElem?_eq_getElem j1]
  have o1 : o.getD j 0 = o[j] := by simp [List.getD, List.getElem?_eq_getElem j2]
  simp only [nib, show 2 * j % 2 = 0 by omega, show (2 * j + 1) % 2 = 1 by omega, show 2 * j / 2 = j by omega, show (2 * j + 1) / 2 = j by omega, if_true] at e0 e1
  rw [← m1, ← o1]
  simp at e1
  simp only [List.getD] at e0 g1 g2 ⊢
  omega
end Go.Proofs.YtphdnbflogobfaaDoor.Ky
