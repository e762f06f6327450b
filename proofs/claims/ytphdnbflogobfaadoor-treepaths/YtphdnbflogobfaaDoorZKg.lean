/- The texts Kg, Lk, one behind the other. -/
import Derived.Test.YtphdnbflogobfaaDoorZMt
import Derived.Test.YtphdnbflogobfaaDoorZSh
/- Signatures as functions of lists: what is signed tells the public key; chains that never meet end apart. -/
namespace Go.Proofs.YtphdnbflogobfaaDoor.Ky
set_option linter.unusedVariables false

/-- The digest at a place of a signature. -/
def sigAt (sig : List Int) (i : Nat) : List Int := (sig.drop (32 * i)).take 32
/-- So many lists of 32, one behind the other. -/
def rowsOf (f : Nat → List Int) (n : Nat) : List Int := ((List.range n).map f).flatten
theorem rowsOf_succ (f : Nat → List Int) (n : Nat) : rowsOf f (n + 1) = rowsOf f n ++ f n := by simp [rowsOf, List.range_succ]
theorem rowsOf_length (f : Nat → List Int) (h : ∀ i, (f i).length = 32) (n : Nat) : (rowsOf f n).length = 32 * n := by
  induction n with
  | zero => rfl
  | succ n ih => rw [rowsOf_succ, List.length_append, ih, h]; omega
theorem rowsOf_at (f : Nat → List Int) (h : ∀ i, (f i).length = 32) (n i : Nat) (hi : i < n) : sigAt (rowsOf f n) i = f i := by
  induction n with
  | zero => omega
  | succ n ih =>
    rw [rowsOf_succ]
    unfold sigAt
    have hl := rowsOf_length f h n
    by_cases e : i = n
    · subst e
      rw [List.drop_append, List.drop_eq_nil_of_le (by omega), hl, Nat.sub_self, List.drop_zero, List.nil_append, List.take_of_length_le (by rw [h]; omega)]
    · have := ih (by omega)
      unfold sigAt at this
      rw [List.drop_append_of_le_length (by omega), List.take_append_of_le_length (by rw [List.length_drop]; omega)]
      exact this
theorem rowsOf_congr (f g : Nat → List Int) (n : Nat) (h : ∀ i, i < n → f i = g i) : rowsOf f n = rowsOf g n := by
  induction n with
  | zero => rfl
  | succ n ih => rw [rowsOf_succ, rowsOf_succ, ih (fun i hi => h i (by omega)), h n (by omega)]
theorem rowsOf_byt (f : Nat → List Int) (h : ∀ i, Sz.Byt (f i)) (n : Nat) : Sz.Byt (rowsOf f n) := by
  induction n with
  | zero => exact Sz.Byt.nil
  | succ n ih => rw [rowsOf_succ]; exact ih.append (h n)
theorem rowsOf_inj (f g : Nat → List Int) (n : Nat) (hf : ∀ i, (f i).length = 32) (hg : ∀ i, (g i).length = 32) (e : rowsOf f n = rowsOf g n) (i : Nat) (hi : i < n) : f i = g i := by
  rw [← rowsOf_at f hf n i hi, ← rowsOf_at g hg n i hi, e]

theorem steps_length (d : List Int) (h : d.length = 32) (n : Nat) : (steps d n).length = 32 := by
  cases n with
  | zero => exact h
  | succ n => exact step_length _
theorem steps_byt (d : List Int) (h : Sz.Byt d) (n : Nat) : Sz.Byt (steps d n) := by
  cases n with
  | zero => exact h
  | succ n => exact Mc.sum_byt _
theorem secret_length (seed : List Int) (i : Nat) : (secret seed i).length = 32 := Mc.mac_length _ _
theorem secret_byt (seed : List Int) (i : Nat) : Sz.Byt (secret seed i) := Mc.mac_byt _ _
theorem sigAt_length (sig : List Int) (i : Nat) (h : 32 * i + 32 ≤ sig.length) : (sigAt sig i).length = 32 := by
  unfold sigAt
  rw [List.length_take, List.length_drop]; omega
theorem sigAt_byt (sig : List Int) (i : Nat) (h : Sz.Byt sig) : Sz.Byt (sigAt sig i) := (h.drop _).take _
theorem sigAt_getD (sig : List Int) (i j : Nat) (h : j < 32) : (sigAt sig i).getD j 0 = sig.getD (32 * i + j) 0 := by
  simp only [sigAt, List.getD, List.getElem?_take, List.getElem?_drop]
  rw [if_pos h]

def dig (m : List Int) (i : Nat) : Nat := (digits m).getD i 0
def signed (seed m : List Int) (i : Nat) : List Int := steps (secret seed i) (dig m i)
def sign (seed m : List Int) : List Int := rowsOf (signed seed m) 67
def top (m sig : List Int) (i : Nat) : List Int := steps (sigAt sig i) (15 - dig m i)
def recov (m sig : List Int) : List Int := Sh.sum ((7 : Int) :: rowsOf (top m sig) 67)
theorem signed_length (seed m : List Int) (i : Nat) : (signed seed m i).length = 32 := steps_length _ (secret_length _ _) _
theorem sign_length (seed m : List Int) : (sign seed m).length = 2144 := rowsOf_length _ (signed_length seed m) 67
theorem sign_byt (seed m : List Int) : Sz.Byt (sign seed m) := rowsOf_byt _ (fun i => steps_byt _ (secret_byt _ _) _) 67
theorem sign_at (seed m : List Int) (i : Nat) (h : i < 67) : sigAt (sign seed m) i = signed seed m i := rowsOf_at _ (signed_length seed m) 67 i h
theorem pub_rows (seed : List Int) : pub seed = Sh.sum ((7 : Int) :: rowsOf (fun i => steps (secret seed i) 15) 67) := rfl
theorem pub_length (seed : List Int) : (pub seed).length = 32 := Mc.sum_length _
theorem recov_length (m sig : List Int) : (recov m sig).length = 32 := Mc.sum_length _
/-- What is signed is known. -/
theorem recov_sign (seed m : List Int) (hm : Sz.Byt m) : recov m (sign seed m) = pub seed := by
  rw [pub_rows]
  unfold recov
  rw [rowsOf_congr (top m (sign seed m)) (fun i => steps (secret seed i) 15) 67 (fun i hi => ?_)]
  have hd : dig m i ≤ 15 := digits_le m hm i
  unfold top
  rw [sign_at seed m i hi]
  unfold signed
  rw [steps_add, show dig m i + (15 - dig m i) = 15 by omega]

/-- Two chains that are apart, and never come to one digest from two, stay apart. -/
theorem chains_apart (x y : List Int) (n : Nat) (h : x ≠ y) (hs : ∀ k, k < n → steps x k ≠ steps y k → steps x (k + 1) ≠ steps y (k + 1)) : steps x n ≠ steps y n := by
  induction n with
  | zero => exact h
  | succ n ih => exact hs n (by omega) (ih (fun k hk => hs k (by omega)))
/-- Where another text's signature is the seed's own chain's, one goes on from it to what was shown. -/
theorem chain_on (seed : List Int) (i a b : Nat) (h : b ≤ a) (y : List Int) (e : steps (secret seed i) b = y) : steps y (a - b) = steps (secret seed i) a := by
  rw [← e, steps_add, show b + (a - b) = a by omega]

set_option maxRecDepth 100000 in
/-- One step from the digest of bytes 0 does not lead to it. -/
theorem step_zero : (step (List.replicate 32 0)).getD 0 0 ≠ 0 := by
  have h : ((step (List.replicate 32 0)).getD 0 0 == 0) = false := by kernel_rfl
  exact beq_eq_false_iff_ne.1 h
end Go.Proofs.YtphdnbflogobfaaDoor.Ky

/- Locks as lists: what is wrong with one, what opens it; how it is cut into ways. -/
namespace Go.Proofs.YtphdnbflogobfaaDoor.Lk
set_option linter.unusedVariables false

/-- An op: what it does, its number, its bytes. -/
structure Op where
  op : Int
  n : Int
  data : List Int

/-- What is wrong with an op by itself. -/
def opF (op n : Int) (len : Nat) : Int :=
  if op < 1 ∨ 14 < op then 1
  else if n ≠ 0 ∧ ¬ (op = 9 ∨ op = 10) then 1
  else if 0 < len ∧ op ≠ 1 then 1
  else if 300 < len then 4
  else if op = 9 ∧ (n < 1 ∨ 9 < n) then 2
  else if op = 10 ∧ (n < 0 ∨ 1073741824 < n) then 2
  else 0
def opFault (o : Op) : Int := opF o.op o.n o.data.length
/-- The first fault of ops. -/
def opsFault : List Op → Int
  | [] => 0
  | o :: r => if opFault o = 0 then opsFault r else opFault o
/-- Which Ifs are open behind ops, the innermost one first, and whether they had their Else. -/
def pairs : List Bool → List Op → Option (List Bool)
  | st, [] => some st
  | st, o :: r =>
    if o.op = 11 then pairs (false :: st) r
    else if o.op = 12 then
      match st with
      | [] => none
      | b :: st' => if b then none else pairs (true :: st') r
    else if o.op = 13 then
      match st with
      | [] => none
      | _ :: st' => pairs st' r
    else pairs st r
def check (l : List Op) : Int :=
  if 60 < l.length then 4 else if opsFault l = 0 then (if pairs [] l = some [] then 0 else 1) else opsFault l

def isTrue (b : List Int) : Bool := b.any (fun x => decide (x ≠ 0))

/-- What is at hand, the top one first; or what is wrong. -/
inductive Out where
  | ok (s : List (List Int))
  | err (e : Int)

def Out.bind : Out → (List (List Int) → Out) → Out
  | .ok s, f => f s
  | .err e, _ => .err e

def put (x : List Int) (s : List (List Int)) : Out := if s.length = 30 then .err 4 else .ok (x :: s)
def tell (b : Bool) (s : List (List Int)) : Out := put (if b then [1] else []) s

/-- The keys behind the first one that is this key. -/
def seek : Nat → List Int → List Int → Option (List Int)
  | 0, _, _ => none
  | k + 1, keys, by' => if keys.length = 0 then none else if keys.take 32 = by' then some (keys.drop 32) else seek k (keys.drop 32) by'
def among (m : List Int) : List Int → List (List Int) → Bool
  | _, [] => true
  | keys, sig :: r =>
    if sig.length = 2144 then
      match seek keys.length keys (Ky.recov m sig) with
      | none => false
      | some keys' => among m keys' r
    else false
def signed (m sig k : List Int) : Bool := decide (sig.length = 2144) && decide (Ky.recov m sig = k)
def many (m keys : List Int) (sigs : List (List Int)) : Bool := if keys.length = 0 ∨ keys.length % 32 ≠ 0 then false else among m keys sigs

/-- An op but If, Else and End. -/
def doOp (m : List Int) (h : Int) (o : Op) (s : List (List Int)) : Out :=
  if o.op = 1 then put o.data s
  else if o.op = 2 then match s with
    | [] => .err 7
    | t :: s' => put t (t :: s')
  else if o.op = 3 then match s with
    | [] => .err 7
    | _ :: s' => .ok s'
  else if o.op = 4 then match s with
    | t :: u :: s' => .ok (u :: t :: s')
    | _ => .err 7
  else if o.op = 5 then match s with
    | t :: u :: s' => tell (decide (t = u)) s'
    | _ => .err 7
  else if o.op = 6 then match s with
    | [] => .err 7
    | t :: s' => if isTrue t then .ok s' else .err 7
  else if o.op = 7 then match s with
    | [] => .err 7
    | t :: s' => put (Sh.sum t) s'
  else if o.op = 8 then match s with
    | k :: sig :: s' => tell (signed m sig k) s'
    | _ => .err 7
  else if o.op = 9 then match s with
    | [] => .err 7
    | k :: s' => if s'.length < o.n.toNat then .err 7 else tell (many m k (s'.take o.n.toNat).reverse) (s'.drop o.n.toNat)
  else if o.op = 10 then (if h < o.n then .err 8 else .ok s)
  else if o.op = 14 then match s with
    | [] => .err 7
    | t :: s' => tell (!isTrue t) s'
  else .ok s

/-- What stands behind the way that begins here: behind its Else, or its End; k more Ifs are open. -/
def skip : Nat → List Op → List Op
  | _, [] => []
  | k, o :: r =>
    if o.op = 11 then skip (k + 1) r
    else if o.op = 12 then (if k = 0 then r else skip k r)
    else if o.op = 13 then (if k = 0 then r else skip (k - 1) r)
    else skip k r
theorem skip_le (l : List Op) : ∀ k, (skip k l).length ≤ l.length := by
  induction l with
  | nil => intro k; simp [skip]
  | cons o r ih =>
    intro k
    have h1 := ih (k + 1)
    have h2 := ih k
    have h3 := ih (k - 1)
    unfold skip
    repeat' split
    all_goals (simp only [List.length_cons]; omega)

/-- Op by op, ways left out. -/
def exec (m : List Int) (h : Int) : List Op → List (List Int) → Out
  | [], s => .ok s
  | o :: r, s =>
    if o.op = 11 then
      match s with
      | [] => .err 7
      | t :: s' => if isTrue t then exec m h r s' else exec m h (skip 0 r) s'
    else if o.op = 12 then exec m h (skip 0 r) s
    else if o.op = 13 then exec m h r s
    else (doOp m h o s).bind (fun s' => exec m h r s')
termination_by l => l.length
decreasing_by all_goals (have := skip_le r 0; simp only [List.length_cons]; omega)

def ending : Out → Int
  | .err e => e
  | .ok s => match s with
    | [t] => if isTrue t then 0 else 7
    | _ => 7
def run (m : List Int) (h : Int) (l : List Op) (keys : List (List Int)) : Int :=
  if check l = 0 then
    if 30 < keys.length then 4
    else if keys.any (fun k => decide (3000 < k.length)) then 4
    else ending (exec m h l keys.reverse)
  else check l

theorem exec_nil (m : List Int) (h : Int) (s : List (List Int)) : exec m h [] s = .ok s := by rw [exec]
theorem exec_if (m : List Int) (h : Int) (o : Op) (r : List Op) (s : List (List Int)) (ho : o.op = 11) : exec m h (o :: r) s = match s with
    | [] => .err 7
    | t :: s' => if isTrue t then exec m h r s' else exec m h (skip 0 r) s' := by
  rw [exec.eq_def]; simp only [if_pos ho]
theorem exec_else (m : List Int) (h : Int) (o : Op) (r : List Op) (s : List (List Int)) (ho : o.op = 12) : exec m h (o :: r) s = exec m h (skip 0 r) s := by
  have h11 : ¬ o.op = 11 := by omega
  rw [exec.eq_def]; simp only [if_neg h11, if_pos ho]
theorem exec_end (m : List Int) (h : Int) (o : Op) (r : List Op) (s : List (List Int)) (ho : o.op = 13) : exec m h (o :: r) s = exec m h r s := by
  have h11 : ¬ o.op = 11 := by omega
  have h12 : ¬ o.op = 12 := by omega
  rw [exec.eq_def]; simp only [if_neg h11, if_neg h12, if_pos ho]
theorem exec_do (m : List Int) (h : Int) (o : Op) (r : List Op) (s : List (List Int)) (h1 : o.op ≠ 11) (h2 : o.op ≠ 12) (h3 : o.op ≠ 13) : exec m h (o :: r) s = (doOp m h o s).bind (fun s' => exec m h r s') := by
  rw [exec.eq_def]; simp only [if_neg h1, if_neg h2, if_neg h3]

theorem pairs_if (st : List Bool) (o : Op) (r : List Op) (ho : o.op = 11) : pairs st (o :: r) = pairs (false :: st) r := by rw [pairs.eq_def]; simp only [if_pos ho]
theorem pairs_else0 (o : Op) (r : List Op) (ho : o.op = 12) : pairs [] (o :: r) = none := by rw [pairs, if_neg (by omega), if_pos ho]
theorem pairs_else (b : Bool) (st : List Bool) (o : Op) (r : List Op) (ho : o.op = 12) : pairs (b :: st) (o :: r) = if b then none else pairs (true :: st) r := by rw [pairs, if_neg (by omega), if_pos ho]
theorem pairs_end0 (o : Op) (r : List Op) (ho : o.op = 13) : pairs [] (o :: r) = none := by rw [pairs, if_neg (by omega), if_neg (by omega), if_pos ho]
theorem pairs_end (b : Bool) (st : List Bool) (o : Op) (r : List Op) (ho : o.op = 13) : pairs (b :: st) (o :: r) = pairs st r := by rw [pairs, if_neg (by omega), if_neg (by omega), if_pos ho]
theorem pairs_do (st : List Bool) (o : Op) (r : List Op) (h1 : o.op ≠ 11) (h2 : o.op ≠ 12) (h3 : o.op ≠ 13) : pairs st (o :: r) = pairs st r := by rw [pairs.eq_def]; simp only [if_neg h1, if_neg h2, if_neg h3]

theorem skip_if (k : Nat) (o : Op) (r : List Op) (ho : o.op = 11) : skip k (o :: r) = skip (k + 1) r := by rw [skip, if_pos ho]
theorem skip_else (k : Nat) (o : Op) (r : List Op) (ho : o.op = 12) : skip k (o :: r) = if k = 0 then r else skip k r := by rw [skip, if_neg (by omega), if_pos ho]
theorem skip_end (k : Nat) (o : Op) (r : List Op) (ho : o.op = 13) : skip k (o :: r) = if k = 0 then r else skip (k - 1) r := by rw [skip, if_neg (by omega), if_neg (by omega), if_pos ho]
theorem skip_do (k : Nat) (o : Op) (r : List Op) (h1 : o.op ≠ 11) (h2 : o.op ≠ 12) (h3 : o.op ≠ 13) : skip k (o :: r) = skip k r := by rw [skip, if_neg h1, if_neg h2, if_neg h3]

theorem kind (o : Op) : o.op = 11 ∨ o.op = 12 ∨ o.op = 13 ∨ (o.op ≠ 11 ∧ o.op ≠ 12 ∧ o.op ≠ 13) := by omega

theorem pairs_append (a b : List Op) : ∀ st, pairs st (a ++ b) = (pairs st a).bind (fun st' => pairs st' b) := by
  induction a with
  | nil => intro st; simp [pairs]
  | cons o r ih =>
    intro st
    rw [List.cons_append]
    rcases kind o with h | h | h | ⟨h1, h2, h3⟩
    · rw [pairs_if _ _ _ h, pairs_if _ _ _ h, ih]
    · cases st with
      | nil => rw [pairs_else0 _ _ h, pairs_else0 _ _ h]; rfl
      | cons b st => rw [pairs_else _ _ _ _ h, pairs_else _ _ _ _ h]; cases b <;> simp [ih]
    · cases st with
      | nil => rw [pairs_end0 _ _ h, pairs_end0 _ _ h]; rfl
      | cons b st => rw [pairs_end _ _ _ _ h, pairs_end _ _ _ _ h, ih]
    · rw [pairs_do _ _ _ h1 h2 h3, pairs_do _ _ _ h1 h2 h3, ih]

/-- More Ifs open beneath change nothing for ops that stand in pairs. -/
theorem pairs_under (a : List Op) : ∀ st st' u, pairs st a = some st' → pairs (st ++ u) a = some (st' ++ u) := by
  induction a with
  | nil => intro st st' u h; simp [pairs] at h ⊢; rw [h]
  | cons o r ih =>
    intro st st' u h
    rcases kind o with k | k | k | ⟨h1, h2, h3⟩
    · rw [pairs_if _ _ _ k] at h ⊢; exact ih _ _ u h
    · cases st with
      | nil => rw [pairs_else0 _ _ k] at h; cases h
      | cons b st =>
        rw [pairs_else _ _ _ _ k] at h
        rw [List.cons_append, pairs_else _ _ _ _ k]
        cases b
        · simp only [Bool.false_eq_true, if_false] at h ⊢; exact ih _ _ u h
        · simp at h
    · cases st with
      | nil => rw [pairs_end0 _ _ k] at h; cases h
      | cons b st =>
        rw [pairs_end _ _ _ _ k] at h
        rw [List.cons_append, pairs_end _ _ _ _ k]
        exact ih _ _ u h
    · rw [pairs_do _ _ _ h1 h2 h3] at h ⊢; exact ih _ _ u h

/-- Past ops that stand in pairs. -/
theorem skip_past (a r : List Op) : ∀ (st st' : List Bool) (k : Nat), pairs st a = some st' → skip (k + st.length) (a ++ r) = skip (k + st'.length) r := by
  induction a with
  | nil => intro st st' k h; simp [pairs] at h; rw [h]; rfl
  | cons o a ih =>
    intro st st' k h
    rw [List.cons_append]
    rcases kind o with e | e | e | ⟨h1, h2, h3⟩
    · rw [pairs_if _ _ _ e] at h
      rw [skip_if _ _ _ e, ← ih _ _ k h]
      rfl
    · cases st with
      | nil => rw [pairs_else0 _ _ e] at h; cases h
      | cons b st =>
        rw [pairs_else _ _ _ _ e] at h
        cases b
        · simp only [Bool.false_eq_true, if_false] at h
          rw [skip_else _ _ _ e, if_neg (by simp), ← ih _ _ k h]
          rfl
        · simp at h
    · cases st with
      | nil => rw [pairs_end0 _ _ e] at h; cases h
      | cons b st =>
        rw [pairs_end _ _ _ _ e] at h
        rw [skip_end _ _ _ e, if_neg (by simp), ← ih _ _ k h]
        simp
    · rw [pairs_do _ _ _ h1 h2 h3] at h
      rw [skip_do _ _ _ h1 h2 h3]
      exact ih _ _ k h

/-- A way that ends within ops that close what is open. -/
theorem skip_in (a r : List Op) : ∀ (t st : List Bool) (b : Bool), pairs (t ++ b :: st) a = some [] → skip t.length (a ++ r) = skip t.length a ++ r ∧ ∃ st2, pairs st2 (skip t.length a) = some [] := by
  induction a with
  | nil => intro t st b h; simp [pairs] at h
  | cons o a ih =>
    intro t st b h
    rw [List.cons_append]
    rcases kind o with e | e | e | ⟨h1, h2, h3⟩
    · rw [pairs_if _ _ _ e] at h
      rw [skip_if _ _ _ e, skip_if _ _ _ e]
      exact ih (false :: t) st b h
    · cases t with
      | nil =>
        rw [List.nil_append, pairs_else _ _ _ _ e] at h
        rw [skip_else _ _ _ e, skip_else _ _ _ e, if_pos List.length_nil, if_pos List.length_nil]
        cases b
        · simp only [Bool.false_eq_true, if_false] at h; exact ⟨rfl, _, h⟩
        · simp at h
      | cons c t =>
        rw [List.cons_append, pairs_else _ _ _ _ e] at h
        rw [skip_else _ _ _ e, skip_else _ _ _ e, if_neg (by simp), if_neg (by simp)]
        cases c
        · simp only [Bool.false_eq_true, if_false] at h; exact ih (true :: t) st b h
        · simp at h
    · cases t with
      | nil =>
        rw [List.nil_append, pairs_end _ _ _ _ e] at h
        rw [skip_end _ _ _ e, skip_end _ _ _ e, if_pos List.length_nil, if_pos List.length_nil]
        exact ⟨rfl, _, h⟩
      | cons c t =>
        rw [List.cons_append, pairs_end _ _ _ _ e] at h
        rw [skip_end _ _ _ e, skip_end _ _ _ e, if_neg (by simp), if_neg (by simp)]
        exact ih t st b h
    · rw [pairs_do _ _ _ h1 h2 h3] at h
      rw [skip_do _ _ _ h1 h2 h3, skip_do _ _ _ h1 h2 h3]
      exact ih t st b h

theorem bind_bind (x : Out) (f g : List (List Int) → Out) : (x.bind f).bind g = x.bind (fun s => (f s).bind g) := by cases x <;> rfl

/-- One behind the other. -/
theorem exec_append (m : List Int) (h : Int) (r : List Op) : ∀ (n : Nat) (a : List Op) (st : List Bool) (s : List (List Int)), a.length ≤ n → pairs st a = some [] → exec m h (a ++ r) s = (exec m h a s).bind (fun s' => exec m h r s') := by
  intro n
  induction n with
  | zero =>
    intro a st s hn hp
    have : a = [] := List.eq_nil_of_length_eq_zero (by omega)
    subst this
    rw [List.nil_append, exec_nil]; rfl
  | succ n ih =>
    intro a st s hn hp
    cases a with
    | nil => rw [List.nil_append, exec_nil]; rfl
    | cons o a =>
      simp only [List.length_cons] at hn
      rw [List.cons_append]
      rcases kind o with e | e | e | ⟨h1, h2, h3⟩
      · rw [pairs_if _ _ _ e] at hp
        rw [exec_if _ _ _ _ _ e, exec_if _ _ _ _ _ e]
        cases s with
        | nil => rfl
        | cons t s =>
          simp only []
          split
          · exact ih a _ s (by omega) hp
          · obtain ⟨h1, st2, h2⟩ := skip_in a r [] st false hp
            simp only [List.length_nil] at h1 h2
            rw [h1]
            exact ih _ _ s (by have := skip_le a 0; omega) h2
      · cases st with
        | nil => rw [pairs_else0 _ _ e] at hp; cases hp
        | cons b st =>
          rw [pairs_else _ _ _ _ e] at hp
          cases b
          · simp only [Bool.false_eq_true, if_false] at hp
            rw [exec_else _ _ _ _ _ e, exec_else _ _ _ _ _ e]
            obtain ⟨h1, st2, h2⟩ := skip_in a r [] st true hp
            simp only [List.length_nil] at h1 h2
            rw [h1]
            exact ih _ _ s (by have := skip_le a 0; omega) h2
          · simp at hp
      · cases st with
        | nil => rw [pairs_end0 _ _ e] at hp; cases hp
        | cons b st =>
          rw [pairs_end _ _ _ _ e] at hp
          rw [exec_end _ _ _ _ _ e, exec_end _ _ _ _ _ e]
          exact ih a _ s (by omega) hp
      · rw [pairs_do _ _ _ h1 h2 h3] at hp
        rw [exec_do _ _ _ _ _ h1 h2 h3, exec_do _ _ _ _ _ h1 h2 h3, bind_bind]
        cases doOp m h o s with
        | ok s' => exact ih a _ s' (by omega) hp
        | err c => rfl
end Go.Proofs.YtphdnbflogobfaaDoor.Lk
