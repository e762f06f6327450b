/- The texts Kg, Lk, Mo, Lk2, Tm, one behind the other. -/
import Derived.Test.YtmjilohlchkicaaGreatDoorZMt
import Derived.Test.YtmjilohlchkicaaGreatDoorZSh
/- Signatures as functions of lists: what is signed tells the public key; chains that never meet end apart. -/
namespace Go.Proofs.YtmjilohlchkicaaGreatDoor.Ky
set_option linter.unusedVariables false

/-- The digest at a place of a signature. -/
def sigAt (sig : List Int) (i : Nat) : List Int := (sig.drop (32 * i)).take 32
/-- So many lists of 32, one behind the other. -/
def rowsOf (f : Nat → List Int) (n : Nat) : List Int := ((List.range n).map f).flatten
theorem rowsOf_succ (f : Nat → List Int) (n : Nat) : rowsOf f (n + 1) = rowsOf f n ++ f n := by simp [rowsOf, List.range_succ]
theorem rowsOf_length (f : Nat → List Int) (h : ∀ i, (f i).length = 32) (n : Nat) : (rowsOf f n).length = 32 * n := by
  induction n with
  | zero => rfl
  | succ n ih => rw [rowsOf_succ, List.length_append, ih, h]; omega
theorem rowsOf_at (f : Nat → List Int) (h : ∀ i, (f i).length = 32) (n i : Nat) (hi : i < n) : sigAt (rowsOf f n) i = f i := by
  induction n with
  | zero => omega
  | succ n ih =>
    rw [rowsOf_succ]
    unfold sigAt
    have hl := rowsOf_length f h n
    by_cases e : i = n
    · subst e
      rw [List.drop_append, List.drop_eq_nil_of_le (by omega), hl, Nat.sub_self, List.drop_zero, List.nil_append, List.take_of_length_le (by rw [h]; omega)]
    · have := ih (by omega)
      unfold sigAt at this
      rw [List.drop_append_of_le_length (by omega), List.take_append_of_le_length (by rw [List.length_drop]; omega)]
      exact this
theorem rowsOf_congr (f g : Nat → List Int) (n : Nat) (h : ∀ i, i < n → f i = g i) : rowsOf f n = rowsOf g n := by
  induction n with
  | zero => rfl
  | succ n ih => rw [rowsOf_succ, rowsOf_succ, ih (fun i hi => h i (by omega)), h n (by omega)]
theorem rowsOf_byt (f : Nat → List Int) (h : ∀ i, Sz.Byt (f i)) (n : Nat) : Sz.Byt (rowsOf f n) := by
  induction n with
  | zero => exact Sz.Byt.nil
  | succ n ih => rw [rowsOf_succ]; exact ih.append (h n)
theorem rowsOf_inj (f g : Nat → List Int) (n : Nat) (hf : ∀ i, (f i).length = 32) (hg : ∀ i, (g i).length = 32) (e : rowsOf f n = rowsOf g n) (i : Nat) (hi : i < n) : f i = g i := by
  rw [← rowsOf_at f hf n i hi, ← rowsOf_at g hg n i hi, e]

theorem steps_length (d : List Int) (h : d.length = 32) (n : Nat) : (steps d n).length = 32 := by
  cases n with
  | zero => exact h
  | succ n => exact step_length _
theorem steps_byt (d : List Int) (h : Sz.Byt d) (n : Nat) : Sz.Byt (steps d n) := by
  cases n with
  | zero => exact h
  | succ n => exact Mc.sum_byt _
theorem secret_length (seed : List Int) (i : Nat) : (secret seed i).length = 32 := Mc.mac_length _ _
theorem secret_byt (seed : List Int) (i : Nat) : Sz.Byt (secret seed i) := Mc.mac_byt _ _
theorem sigAt_length (sig : List Int) (i : Nat) (h : 32 * i + 32 ≤ sig.length) : (sigAt sig i).length = 32 := by
  unfold sigAt
  rw [List.length_take, List.length_drop]; omega
theorem sigAt_byt (sig : List Int) (i : Nat) (h : Sz.Byt sig) : Sz.Byt (sigAt sig i) := (h.drop _).take _
theorem sigAt_getD (sig : List Int) (i j : Nat) (h : j < 32) : (sigAt sig i).getD j 0 = sig.getD (32 * i + j) 0 := by
  simp only [sigAt, List.getD, List.getElem?_take, List.getElem?_drop]
  rw [if_pos h]

def dig (m : List Int) (i : Nat) : Nat := (digits m).getD i 0
def signed (seed m : List Int) (i : Nat) : List Int := steps (secret seed i) (dig m i)
def sign (seed m : List Int) : List Int := rowsOf (signed seed m) 67
def top (m sig : List Int) (i : Nat) : List Int := steps (sigAt sig i) (15 - dig m i)
def recov (m sig : List Int) : List Int := Sh.sum ((7 : Int) :: rowsOf (top m sig) 67)
theorem signed_length (seed m : List Int) (i : Nat) : (signed seed m i).length = 32 := steps_length _ (secret_length _ _) _
theorem sign_length (seed m : List Int) : (sign seed m).length = 2144 := rowsOf_length _ (signed_length seed m) 67
theorem sign_byt (seed m : List Int) : Sz.Byt (sign seed m) := rowsOf_byt _ (fun i => steps_byt _ (secret_byt _ _) _) 67
theorem sign_at (seed m : List Int) (i : Nat) (h : i < 67) : sigAt (sign seed m) i = signed seed m i := rowsOf_at _ (signed_length seed m) 67 i h
theorem pub_rows (seed : List Int) : pub seed = Sh.sum ((7 : Int) :: rowsOf (fun i => steps (secret seed i) 15) 67) := rfl
theorem pub_length (seed : List Int) : (pub seed).length = 32 := Mc.sum_length _
theorem recov_length (m sig : List Int) : (recov m sig).length = 32 := Mc.sum_length _
/-- What is signed is known. -/
theorem recov_sign (seed m : List Int) (hm : Sz.Byt m) : recov m (sign seed m) = pub seed := by
  rw [pub_rows]
  unfold recov
  rw [rowsOf_congr (top m (sign seed m)) (fun i => steps (secret seed i) 15) 67 (fun i hi => ?_)]
  have hd : dig m i ≤ 15 := digits_le m hm i
  unfold top
  rw [sign_at seed m i hi]
  unfold signed
  rw [steps_add, show dig m i + (15 - dig m i) = 15 by omega]

/-- Two chains that are apart, and never come to one digest from two, stay apart. -/
theorem chains_apart (x y : List Int) (n : Nat) (h : x ≠ y) (hs : ∀ k, k < n → steps x k ≠ steps y k → steps x (k + 1) ≠ steps y (k + 1)) : steps x n ≠ steps y n := by
  induction n with
  | zero => exact h
  | succ n ih => exact hs n (by omega) (ih (fun k hk => hs k (by omega)))
/-- Where another text's signature is the seed's own chain's, one goes on from it to what was shown. -/
theorem chain_on (seed : List Int) (i a b : Nat) (h : b ≤ a) (y : List Int) (e : steps (secret seed i) b = y) : steps y (a - b) = steps (secret seed i) a := by
  rw [← e, steps_add, show b + (a - b) = a by omega]

set_option maxRecDepth 100000 in
/-- One step from the digest of bytes 0 does not lead to it. -/
theorem step_zero : (step (List.replicate 32 0)).getD 0 0 ≠ 0 := by
  have h : ((step (List.replicate 32 0)).getD 0 0 == 0) = false := by kernel_rfl
  exact beq_eq_false_iff_ne.1 h
end Go.Proofs.YtmjilohlchkicaaGreatDoor.Ky

/- Locks as lists: what is wrong with one, what opens it; how it is cut into ways. -/
namespace Go.Proofs.YtmjilohlchkicaaGreatDoor.Lk
set_option linter.unusedVariables false

/-- An op: what it does, its number, its bytes. -/
structure Op where
  op : Int
  n : Int
  data : List Int

/-- What is wrong with an op by itself. -/
def opF (op n : Int) (len : Nat) : Int :=
  if op < 1 ∨ 14 < op then 1
  else if n ≠ 0 ∧ ¬ (op = 9 ∨ op = 10) then 1
  else if 0 < len ∧ op ≠ 1 then 1
  else if 300 < len then 4
  else if op = 9 ∧ (n < 1 ∨ 9 < n) then 2
  else if op = 10 ∧ (n < 0 ∨ 1073741824 < n) then 2
  else 0
def opFault (o : Op) : Int := opF o.op o.n o.data.length
/-- The first fault of ops. -/
def opsFault : List Op → Int
  | [] => 0
  | o :: r => if opFault o = 0 then opsFault r else opFault o
/-- Which Ifs are open behind ops, the innermost one first, and whether they had their Else. -/
def pairs : List Bool → List Op → Option (List Bool)
  | st, [] => some st
  | st, o :: r =>
    if o.op = 11 then pairs (false :: st) r
    else if o.op = 12 then
      match st with
      | [] => none
      | b :: st' => if b then none else pairs (true :: st') r
    else if o.op = 13 then
      match st with
      | [] => none
      | _ :: st' => pairs st' r
    else pairs st r
def check (l : List Op) : Int :=
  if 60 < l.length then 4 else if opsFault l = 0 then (if pairs [] l = some [] then 0 else 1) else opsFault l

def isTrue (b : List Int) : Bool := b.any (fun x => decide (x ≠ 0))

/-- What is at hand, the top one first; or what is wrong. -/
inductive Out where
  | ok (s : List (List Int))
  | err (e : Int)

def Out.bind : Out → (List (List Int) → Out) → Out
  | .ok s, f => f s
  | .err e, _ => .err e

def put (x : List Int) (s : List (List Int)) : Out := if s.length = 30 then .err 4 else .ok (x :: s)
def tell (b : Bool) (s : List (List Int)) : Out := put (if b then [1] else []) s

/-- The keys behind the first one that is this key. -/
def seek : Nat → List Int → List Int → Option (List Int)
  | 0, _, _ => none
  | k + 1, keys, by' => if keys.length = 0 then none else if keys.take 32 = by' then some (keys.drop 32) else seek k (keys.drop 32) by'
def among (m : List Int) : List Int → List (List Int) → Bool
  | _, [] => true
  | keys, sig :: r =>
    if sig.length = 2144 then
      match seek keys.length keys (Ky.recov m sig) with
      | none => false
      | some keys' => among m keys' r
    else false
def signed (m sig k : List Int) : Bool := decide (sig.length = 2144) && decide (Ky.recov m sig = k)
def many (m keys : List Int) (sigs : List (List Int)) : Bool := if keys.length = 0 ∨ keys.length % 32 ≠ 0 then false else among m keys sigs

/-- An op but If, Else and End. -/
def doOp (m : List Int) (h : Int) (o : Op) (s : List (List Int)) : Out :=
  if o.op = 1 then put o.data s
  else if o.op = 2 then match s with
    | [] => .err 7
    | t :: s' => put t (t :: s')
  else if o.op = 3 then match s with
    | [] => .err 7
    | _ :: s' => .ok s'
  else if o.op = 4 then match s with
    | t :: u :: s' => .ok (u :: t :: s')
    | _ => .err 7
  else if o.op = 5 then match s with
    | t :: u :: s' => tell (decide (t = u)) s'
    | _ => .err 7
  else if o.op = 6 then match s with
    | [] => .err 7
    | t :: s' => if isTrue t then .ok s' else .err 7
  else if o.op = 7 then match s with
    | [] => .err 7
    | t :: s' => put (Sh.sum t) s'
  else if o.op = 8 then match s with
    | k :: sig :: s' => tell (signed m sig k) s'
    | _ => .err 7
  else if o.op = 9 then match s with
    | [] => .err 7
    | k :: s' => if s'.length < o.n.toNat then .err 7 else tell (many m k (s'.take o.n.toNat).reverse) (s'.drop o.n.toNat)
  else if o.op = 10 then (if h < o.n then .err 8 else .ok s)
  else if o.op = 14 then match s with
    | [] => .err 7
    | t :: s' => tell (!isTrue t) s'
  else .ok s

/-- What stands behind the way that begins here: behind its Else, or its End; k more Ifs are open. -/
def skip : Nat → List Op → List Op
  | _, [] => []
  | k, o :: r =>
    if o.op = 11 then skip (k + 1) r
    else if o.op = 12 then (if k = 0 then r else skip k r)
    else if o.op = 13 then (if k = 0 then r else skip (k - 1) r)
    else skip k r
theorem skip_le (l : List Op) : ∀ k, (skip k l).length ≤ l.length := by
  induction l with
  | nil => intro k; simp [skip]
  | cons o r ih =>
    intro k
    have h1 := ih (k + 1)
    have h2 := ih k
    have h3 := ih (k - 1)
    unfold skip
    repeat' split
    all_goals (simp only [List.length_cons]; omega)

/-- Op by op, ways left out. -/
def exec (m : List Int) (h : Int) : List Op → List (List Int) → Out
  | [], s => .ok s
  | o :: r, s =>
    if o.op = 11 then
      match s with
      | [] => .err 7
      | t :: s' => if isTrue t then exec m h r s' else exec m h (skip 0 r) s'
    else if o.op = 12 then exec m h (skip 0 r) s
    else if o.op = 13 then exec m h r s
    else (doOp m h o s).bind (fun s' => exec m h r s')
termination_by l => l.length
decreasing_by all_goals (have := skip_le r 0; simp only [List.length_cons]; omega)

def ending : Out → Int
  | .err e => e
  | .ok s => match s with
    | [t] => if isTrue t then 0 else 7
    | _ => 7
def run (m : List Int) (h : Int) (l : List Op) (keys : List (List Int)) : Int :=
  if check l = 0 then
    if 30 < keys.length then 4
    else if keys.any (fun k => decide (3000 < k.length)) then 4
    else ending (exec m h l keys.reverse)
  else check l

theorem exec_nil (m : List Int) (h : Int) (s : List (List Int)) : exec m h [] s = .ok s := by rw [exec]
theorem exec_if (m : List Int) (h : Int) (o : Op) (r : List Op) (s : List (List Int)) (ho : o.op = 11) : exec m h (o :: r) s = match s with
    | [] => .err 7
    | t :: s' => if isTrue t then exec m h r s' else exec m h (skip 0 r) s' := by
  rw [exec.eq_def]; simp only [if_pos ho]
theorem exec_else (m : List Int) (h : Int) (o : Op) (r : List Op) (s : List (List Int)) (ho : o.op = 12) : exec m h (o :: r) s = exec m h (skip 0 r) s := by
  have h11 : ¬ o.op = 11 := by omega
  rw [exec.eq_def]; simp only [if_neg h11, if_pos ho]
theorem exec_end (m : List Int) (h : Int) (o : Op) (r : List Op) (s : List (List Int)) (ho : o.op = 13) : exec m h (o :: r) s = exec m h r s := by
  have h11 : ¬ o.op = 11 := by omega
  have h12 : ¬ o.op = 12 := by omega
  rw [exec.eq_def]; simp only [if_neg h11, if_neg h12, if_pos ho]
theorem exec_do (m : List Int) (h : Int) (o : Op) (r : List Op) (s : List (List Int)) (h1 : o.op ≠ 11) (h2 : o.op ≠ 12) (h3 : o.op ≠ 13) : exec m h (o :: r) s = (doOp m h o s).bind (fun s' => exec m h r s') := by
  rw [exec.eq_def]; simp only [if_neg h1, if_neg h2, if_neg h3]

theorem pairs_if (st : List Bool) (o : Op) (r : List Op) (ho : o.op = 11) : pairs st (o :: r) = pairs (false :: st) r := by rw [pairs.eq_def]; simp only [if_pos ho]
theorem pairs_else0 (o : Op) (r : List Op) (ho : o.op = 12) : pairs [] (o :: r) = none := by rw [pairs, if_neg (by omega), if_pos ho]
theorem pairs_else (b : Bool) (st : List Bool) (o : Op) (r : List Op) (ho : o.op = 12) : pairs (b :: st) (o :: r) = if b then none else pairs (true :: st) r := by rw [pairs, if_neg (by omega), if_pos ho]
theorem pairs_end0 (o : Op) (r : List Op) (ho : o.op = 13) : pairs [] (o :: r) = none := by rw [pairs, if_neg (by omega), if_neg (by omega), if_pos ho]
theorem pairs_end (b : Bool) (st : List Bool) (o : Op) (r : List Op) (ho : o.op = 13) : pairs (b :: st) (o :: r) = pairs st r := by rw [pairs, if_neg (by omega), if_neg (by omega), if_pos ho]
theorem pairs_do (st : List Bool) (o : Op) (r : List Op) (h1 : o.op ≠ 11) (h2 : o.op ≠ 12) (h3 : o.op ≠ 13) : pairs st (o :: r) = pairs st r := by rw [pairs.eq_def]; simp only [if_neg h1, if_neg h2, if_neg h3]

theorem skip_if (k : Nat) (o : Op) (r : List Op) (ho : o.op = 11) : skip k (o :: r) = skip (k + 1) r := by rw [skip, if_pos ho]
theorem skip_else (k : Nat) (o : Op) (r : List Op) (ho : o.op = 12) : skip k (o :: r) = if k = 0 then r else skip k r := by rw [skip, if_neg (by omega), if_pos ho]
theorem skip_end (k : Nat) (o : Op) (r : List Op) (ho : o.op = 13) : skip k (o :: r) = if k = 0 then r else skip (k - 1) r := by rw [skip, if_neg (by omega), if_neg (by omega), if_pos ho]
theorem skip_do (k : Nat) (o : Op) (r : List Op) (h1 : o.op ≠ 11) (h2 : o.op ≠ 12) (h3 : o.op ≠ 13) : skip k (o :: r) = skip k r := by rw [skip, if_neg h1, if_neg h2, if_neg h3]

theorem kind (o : Op) : o.op = 11 ∨ o.op = 12 ∨ o.op = 13 ∨ (o.op ≠ 11 ∧ o.op ≠ 12 ∧ o.op ≠ 13) := by omega

theorem pairs_append (a b : List Op) : ∀ st, pairs st (a ++ b) = (pairs st a).bind (fun st' => pairs st' b) := by
  induction a with
  | nil => intro st; simp [pairs]
  | cons o r ih =>
    intro st
    rw [List.cons_append]
    rcases kind o with h | h | h | ⟨h1, h2, h3⟩
    · rw [pairs_if _ _ _ h, pairs_if _ _ _ h, ih]
    · cases st with
      | nil => rw [pairs_else0 _ _ h, pairs_else0 _ _ h]; rfl
      | cons b st => rw [pairs_else _ _ _ _ h, pairs_else _ _ _ _ h]; cases b <;> simp [ih]
    · cases st with
      | nil => rw [pairs_end0 _ _ h, pairs_end0 _ _ h]; rfl
      | cons b st => rw [pairs_end _ _ _ _ h, pairs_end _ _ _ _ h, ih]
    · rw [pairs_do _ _ _ h1 h2 h3, pairs_do _ _ _ h1 h2 h3, ih]

/-- More Ifs open beneath change nothing for ops that stand in pairs. -/
theorem pairs_under (a : List Op) : ∀ st st' u, pairs st a = some st' → pairs (st ++ u) a = some (st' ++ u) := by
  induction a with
  | nil => intro st st' u h; simp [pairs] at h ⊢; rw [h]
  | cons o r ih =>
    intro st st' u h
    rcases kind o with k | k | k | ⟨h1, h2, h3⟩
    · rw [pairs_if _ _ _ k] at h ⊢; exact ih _ _ u h
    · cases st with
      | nil => rw [pairs_else0 _ _ k] at h; cases h
      | cons b st =>
        rw [pairs_else _ _ _ _ k] at h
        rw [List.cons_append, pairs_else _ _ _ _ k]
        cases b
        · simp only [Bool.false_eq_true, if_false] at h ⊢; exact ih _ _ u h
        · simp at h
    · cases st with
      | nil => rw [pairs_end0 _ _ k] at h; cases h
      | cons b st =>
        rw [pairs_end _ _ _ _ k] at h
        rw [List.cons_append, pairs_end _ _ _ _ k]
        exact ih _ _ u h
    · rw [pairs_do _ _ _ h1 h2 h3] at h ⊢; exact ih _ _ u h

/-- Past ops that stand in pairs. -/
theorem skip_past (a r : List Op) : ∀ (st st' : List Bool) (k : Nat), pairs st a = some st' → skip (k + st.length) (a ++ r) = skip (k + st'.length) r := by
  induction a with
  | nil => intro st st' k h; simp [pairs] at h; rw [h]; rfl
  | cons o a ih =>
    intro st st' k h
    rw [List.cons_append]
    rcases kind o with e | e | e | ⟨h1, h2, h3⟩
    · rw [pairs_if _ _ _ e] at h
      rw [skip_if _ _ _ e, ← ih _ _ k h]
      rfl
    · cases st with
      | nil => rw [pairs_else0 _ _ e] at h; cases h
      | cons b st =>
        rw [pairs_else _ _ _ _ e] at h
        cases b
        · simp only [Bool.false_eq_true, if_false] at h
          rw [skip_else _ _ _ e, if_neg (by simp), ← ih _ _ k h]
          rfl
        · simp at h
    · cases st with
      | nil => rw [pairs_end0 _ _ e] at h; cases h
      | cons b st =>
        rw [pairs_end _ _ _ _ e] at h
        rw [skip_end _ _ _ e, if_neg (by simp), ← ih _ _ k h]
        simp
    · rw [pairs_do _ _ _ h1 h2 h3] at h
      rw [skip_do _ _ _ h1 h2 h3]
      exact ih _ _ k h

/-- A way that ends within ops that close what is open. -/
theorem skip_in (a r : List Op) : ∀ (t st : List Bool) (b : Bool), pairs (t ++ b :: st) a = some [] → skip t.length (a ++ r) = skip t.length a ++ r ∧ ∃ st2, pairs st2 (skip t.length a) = some [] := by
  induction a with
  | nil => intro t st b h; simp [pairs] at h
  | cons o a ih =>
    intro t st b h
    rw [List.cons_append]
    rcases kind o with e | e | e | ⟨h1, h2, h3⟩
    · rw [pairs_if _ _ _ e] at h
      rw [skip_if _ _ _ e, skip_if _ _ _ e]
      exact ih (false :: t) st b h
    · cases t with
      | nil =>
        rw [List.nil_append, pairs_else _ _ _ _ e] at h
        rw [skip_else _ _ _ e, skip_else _ _ _ e, if_pos List.length_nil, if_pos List.length_nil]
        cases b
        · simp only [Bool.false_eq_true, if_false] at h; exact ⟨rfl, _, h⟩
        · simp at h
      | cons c t =>
        rw [List.cons_append, pairs_else _ _ _ _ e] at h
        rw [skip_else _ _ _ e, skip_else _ _ _ e, if_neg (by simp), if_neg (by simp)]
        cases c
        · simp only [Bool.false_eq_true, if_false] at h; exact ih (true :: t) st b h
        · simp at h
    · cases t with
      | nil =>
        rw [List.nil_append, pairs_end _ _ _ _ e] at h
        rw [skip_end _ _ _ e, skip_end _ _ _ e, if_pos List.length_nil, if_pos List.length_nil]
        exact ⟨rfl, _, h⟩
      | cons c t =>
        rw [List.cons_append, pairs_end _ _ _ _ e] at h
        rw [skip_end _ _ _ e, skip_end _ _ _ e, if_neg (by simp), if_neg (by simp)]
        exact ih t st b h
    · rw [pairs_do _ _ _ h1 h2 h3] at h
      rw [skip_do _ _ _ h1 h2 h3, skip_do _ _ _ h1 h2 h3]
      exact ih t st b h

theorem bind_bind (x : Out) (f g : List (List Int) → Out) : (x.bind f).bind g = x.bind (fun s => (f s).bind g) := by cases x <;> rfl

/-- One behind the other. -/
theorem exec_append (m : List Int) (h : Int) (r : List Op) : ∀ (n : Nat) (a : List Op) (st : List Bool) (s : List (List Int)), a.length ≤ n → pairs st a = some [] → exec m h (a ++ r) s = (exec m h a s).bind (fun s' => exec m h r s') := by
  intro n
  induction n with
  | zero =>
    intro a st s hn hp
    have : a = [] := List.eq_nil_of_length_eq_zero (by omega)
    subst this
    rw [List.nil_append, exec_nil]; rfl
  | succ n ih =>
    intro a st s hn hp
    cases a with
    | nil => rw [List.nil_append, exec_nil]; rfl
    | cons o a =>
      simp only [List.length_cons] at hn
      rw [List.cons_append]
      rcases kind o with e | e | e | ⟨h1, h2, h3⟩
      · rw [pairs_if _ _ _ e] at hp
        rw [exec_if _ _ _ _ _ e, exec_if _ _ _ _ _ e]
        cases s with
        | nil => rfl
        | cons t s =>
          simp only []
          split
          · exact ih a _ s (by omega) hp
          · obtain ⟨h1, st2, h2⟩ := skip_in a r [] st false hp
            simp only [List.length_nil] at h1 h2
            rw [h1]
            exact ih _ _ s (by have := skip_le a 0; omega) h2
      · cases st with
        | nil => rw [pairs_else0 _ _ e] at hp; cases hp
        | cons b st =>
          rw [pairs_else _ _ _ _ e] at hp
          cases b
          · simp only [Bool.false_eq_true, if_false] at hp
            rw [exec_else _ _ _ _ _ e, exec_else _ _ _ _ _ e]
            obtain ⟨h1, st2, h2⟩ := skip_in a r [] st true hp
            simp only [List.length_nil] at h1 h2
            rw [h1]
            exact ih _ _ s (by have := skip_le a 0; omega) h2
          · simp at hp
      · cases st with
        | nil => rw [pairs_end0 _ _ e] at hp; cases hp
        | cons b st =>
          rw [pairs_end _ _ _ _ e] at hp
          rw [exec_end _ _ _ _ _ e, exec_end _ _ _ _ _ e]
          exact ih a _ s (by omega) hp
      · rw [pairs_do _ _ _ h1 h2 h3] at hp
        rw [exec_do _ _ _ _ _ h1 h2 h3, exec_do _ _ _ _ _ h1 h2 h3, bind_bind]
        cases doOp m h o s with
        | ok s' => exact ih a _ s' (by omega) hp
        | err c => rfl
end Go.Proofs.YtmjilohlchkicaaGreatDoor.Lk

/- Plain facts on amounts: sums that are bounded, what a block makes, what all blocks make; with no program in sight. -/
namespace Go.Proofs.YtmjilohlchkicaaGreatDoor.Mo

/-- Is it an amount. -/
def ok (n : Int) : Prop := 0 ≤ n ∧ n ≤ 1125899906842624
instance (n : Int) : Decidable (ok n) := inferInstanceAs (Decidable (_ ∧ _))
/-- What is wrong with an amount. -/
def chk (n : Int) : Int := if ok n then 0 else 2
theorem chk_bad (n : Int) (h : ¬ ok n) : chk n = 2 := by unfold chk; rw [if_neg h]
theorem chk_good (n : Int) (h : ok n) : chk n = 0 := by unfold chk; rw [if_pos h]
/-- The sum of two. -/
def add (a b : Int) : Int × Int := if ok a ∧ ok b then (if a + b ≤ 1125899906842624 then (a + b, 0) else (0, 4)) else (0, 2)
/-- The sum of all, on from a sum. -/
def tot : Int → List Int → Int × Int
  | s, [] => (s, 0)
  | s, n :: l => if ok n then (if s + n ≤ 1125899906842624 then tot (s + n) l else (0, 4)) else (0, 2)

def sum : List Int → Int
  | [] => 0
  | n :: l => n + sum l

theorem tot_cons_of (s n : Int) (l : List Int) : tot s (n :: l) = if ok n then (if s + n ≤ 1125899906842624 then tot (s + n) l else (0, 4)) else (0, 2) := rfl
theorem tot_drop (s : Int) (l : List Int) (k : Nat) (h : k < l.length) : tot s (l.drop k) = if ok (l.getD k 0) then (if s + l.getD k 0 ≤ 1125899906842624 then tot (s + l.getD k 0) (l.drop (k + 1)) else (0, 4)) else (0, 2) := by
  have e : l.drop k = l.getD k 0 :: l.drop (k + 1) := by
    rw [List.drop_eq_getElem_cons h]; simp [List.getD, List.getElem?_eq_getElem h]
  rw [e]; rfl

theorem sum_append (a b : List Int) : sum (a ++ b) = sum a + sum b := by
  induction a with
  | nil => simp [sum]
  | cons n a ih => simp only [List.cons_append, sum, ih]; omega
theorem sum_reverse (a : List Int) : sum a.reverse = sum a := by
  induction a with
  | nil => rfl
  | cons n a ih => simp only [List.reverse_cons, sum_append, sum, ih]; omega
theorem sum_nonneg (l : List Int) (h : ∀ n ∈ l, ok n) : 0 ≤ sum l := by
  induction l with
  | nil => exact Int.le_refl _
  | cons n l ih =>
    have h1 := (h n (by simp)).1
    have h2 := ih (fun m hm => h m (by simp [hm]))
    simp only [sum]; omega
theorem sum_ge (l : List Int) (h : ∀ n ∈ l, ok n) : ∀ n ∈ l, n ≤ sum l := by
  induction l with
  | nil => intro n hn; cases hn
  | cons m l ih =>
    intro n hn
    have h1 := (h m (by simp)).1
    have h3 := sum_nonneg l (fun m hm => h m (by simp [hm]))
    rcases List.mem_cons.1 hn with rfl | hn
    · simp only [sum]; omega
    · have h2 := ih (fun m hm => h m (by simp [hm])) n hn
      simp only [sum]; omega

/-- What may be summed. -/
def fits (s : Int) (l : List Int) : Prop := (∀ n ∈ l, ok n) ∧ s + sum l ≤ 1125899906842624
theorem tot_fits (l : List Int) : ∀ s, 0 ≤ s → s ≤ 1125899906842624 → fits s l → tot s l = (s + sum l, 0) := by
  induction l with
  | nil => intro s _ _ _; simp [tot, sum]
  | cons n l ih =>
    intro s h0 h1 hf
    have hn := hf.1 n (by simp)
    have hl : ∀ m ∈ l, ok m := fun m hm => hf.1 m (by simp [hm])
    have hp := sum_nonneg l hl
    have hs := hf.2
    have hn0 := hn.1
    simp only [sum] at hs
    rw [tot_cons_of, if_pos hn, if_pos (by omega), ih _ (by omega) (by omega) ⟨hl, by omega⟩]
    simp only [sum, Prod.mk.injEq, and_true]; omega
theorem tot_misfit (l : List Int) : ∀ s, 0 ≤ s → s ≤ 1125899906842624 → ¬ fits s l → (tot s l).1 = 0 ∧ (tot s l).2 ≠ 0 := by
  induction l with
  | nil => intro s _ h1 hf; exact absurd ⟨fun n hn => (by cases hn), by simpa [sum] using h1⟩ hf
  | cons n l ih =>
    intro s h0 h1 hf
    rw [tot_cons_of]
    by_cases hn : ok n
    · rw [if_pos hn]
      have hn0 := hn.1
      by_cases hs : s + n ≤ 1125899906842624
      · rw [if_pos hs]
        refine ih _ (by omega) hs (fun hg => hf ⟨fun m hm => ?_, ?_⟩)
        · rcases List.mem_cons.1 hm with rfl | hm
          · exact hn
          · exact hg.1 m hm
        · have := hg.2; simp only [sum]; omega
      · rw [if_neg hs]; exact ⟨rfl, by decide⟩
    · rw [if_neg hn]; exact ⟨rfl, by decide⟩
theorem fits_rev (l : List Int) : fits 0 l.reverse ↔ fits 0 l := by
  unfold fits; rw [sum_reverse]; simp
theorem fits_parts (a b : List Int) (h : fits 0 (a ++ b)) : fits 0 a ∧ fits 0 b ∧ ok (sum a) ∧ ok (sum b) := by
  obtain ⟨h1, h2⟩ := h
  rw [sum_append] at h2
  have ha : ∀ n ∈ a, ok n := fun n hn => h1 n (by simp [hn])
  have hb : ∀ n ∈ b, ok n := fun n hn => h1 n (by simp [hn])
  have pa := sum_nonneg a ha
  have pb := sum_nonneg b hb
  exact ⟨⟨ha, by omega⟩, ⟨hb, by omega⟩, ⟨pa, by omega⟩, ⟨pb, by omega⟩⟩
theorem tot_two (a b : Int) : tot 0 [a, b] = add a b := by
  unfold add
  rw [tot_cons_of]
  by_cases ha : ok a
  · have h1 := ha.1
    have h2 := ha.2
    rw [if_pos ha, if_pos (by omega), tot_cons_of]
    by_cases hb : ok b
    · rw [if_pos hb, Int.zero_add, if_pos (show ok a ∧ ok b from ⟨ha, hb⟩)]; rfl
    · rw [if_neg hb, if_neg (fun h => hb h.2)]
  · rw [if_neg ha, if_neg (fun h => ha h.1)]

/-- What the blocks of the k-th thousand make, each. -/
def made (k : Nat) : Nat := 1073741824 / 2 ^ k
theorem made_zero : made 0 = 1073741824 := rfl
theorem made_succ (k : Nat) : made (k + 1) = made k / 2 := by
  unfold made; rw [Nat.pow_succ, Nat.div_div_eq_div_mul]
theorem made_le (k : Nat) : made (k + 1) ≤ made k := by rw [made_succ]; omega
theorem made_bd (k : Nat) : made k ≤ 1073741824 := Nat.div_le_self _ _
theorem made_31 (i : Nat) : made (31 + i) = 0 := by
  induction i with
  | zero => decide
  | succ i ih => rw [← Nat.add_assoc, made_succ, ih]
theorem made_small (k : Nat) (h : 0 < made k) : k < 31 := by
  apply Nat.lt_of_not_le
  intro h1
  obtain ⟨i, rfl⟩ := Nat.exists_eq_add_of_le h1
  rw [made_31] at h; omega
/-- What the first n blocks make. -/
def T : Nat → Nat
  | 0 => 0
  | n + 1 => T n + made (n / 1000)
theorem T_run (j r : Nat) (h : r ≤ 1000) : T (1000 * j + r) = T (1000 * j) + r * made j := by
  induction r with
  | zero => simp
  | succ r ih =>
    have e : 1000 * j + (r + 1) = (1000 * j + r) + 1 := by omega
    rw [e, T, ih (by omega)]
    have e2 : (1000 * j + r) / 1000 = j := by omega
    rw [e2, Nat.add_mul r 1 (made j), Nat.one_mul, Nat.add_assoc]
theorem T_thousand (j : Nat) : T (1000 * (j + 1)) = T (1000 * j) + 1000 * made j := by
  have := T_run j 1000 (Nat.le_refl _)
  rw [← this]; congr 1
theorem T_bd (j : Nat) : T (1000 * j) + 2000 * made j ≤ 2147483648000 := by
  induction j with
  | zero => decide
  | succ j ih => rw [T_thousand, made_succ]; omega
theorem T_late (i : Nat) : T (31000 + i) = T 31000 := by
  induction i with
  | zero => rfl
  | succ i ih =>
    rw [← Nat.add_assoc, T, ih]
    have e : (31000 + i) / 1000 = 31 + i / 1000 := by omega
    rw [e, made_31, Nat.add_zero]
theorem T_mono (a i : Nat) : T a ≤ T (a + i) := by
  induction i with
  | zero => exact Nat.le_refl _
  | succ i ih => rw [← Nat.add_assoc, T]; omega
theorem T_31 : T 31000 < 2147483648000 := by
  have h1 := T_bd 30
  have h2 := T_thousand 30
  have e : made 30 = 1 := by decide
  rw [e] at h1 h2
  have e3 : (1000 * (30 + 1)) = 31000 := rfl
  rw [e3] at h2
  omega
theorem T_lt (n : Nat) : T n < 2147483648000 := by
  have h := T_31
  by_cases hn : n ≤ 31000
  · obtain ⟨i, hi⟩ := Nat.exists_eq_add_of_le hn
    have := T_mono n i
    rw [← hi] at this; omega
  · obtain ⟨i, rfl⟩ := Nat.exists_eq_add_of_le (Nat.le_of_not_le hn)
    rw [T_late]; exact h
theorem T_none (j n : Nat) (h : made j = 0) (hn : 1000 * j ≤ n) : T n = T (1000 * j) := by
  obtain ⟨i, rfl⟩ := Nat.exists_eq_add_of_le hn
  clear hn
  induction i with
  | zero => rfl
  | succ i ih =>
    rw [← Nat.add_assoc, T, ih]
    have e : (1000 * j + i) / 1000 = j + i / 1000 := by omega
    rw [e]
    have : ∀ d, made (j + d) = 0 := by
      intro d
      induction d with
      | zero => exact h
      | succ d ihd => rw [← Nat.add_assoc, made_succ, ihd]
    rw [this, Nat.add_zero]
end Go.Proofs.YtmjilohlchkicaaGreatDoor.Mo

/- Locks as lists: what the laws on them say. -/
namespace Go.Proofs.YtmjilohlchkicaaGreatDoor.Lk
set_option linter.unusedVariables false

theorem opsFault_append (a b : List Op) : opsFault (a ++ b) = if opsFault a = 0 then opsFault b else opsFault a := by
  induction a with
  | nil => simp [opsFault]
  | cons o r ih =>
    rw [List.cons_append, opsFault, opsFault, ih]
    by_cases h : opFault o = 0
    · rw [if_pos h, if_pos h]
    · rw [if_neg h, if_neg h, if_neg h]
theorem opsFault_mem (l : List Op) (h : opsFault l = 0) : ∀ o ∈ l, opFault o = 0 := by
  induction l with
  | nil => intro o ho; cases ho
  | cons x r ih =>
    rw [opsFault] at h
    by_cases hx : opFault x = 0
    · rw [if_pos hx] at h
      intro o ho
      rcases List.mem_cons.1 ho with rfl | ho
      · exact hx
      · exact ih h o ho
    · rw [if_neg hx] at h; exact absurd h hx

theorem opFault_vals (o : Op) : opFault o = 0 ∨ opFault o = 1 ∨ opFault o = 2 ∨ opFault o = 4 := by
  unfold opFault opF
  repeat' split
  all_goals simp
theorem opsFault_vals (l : List Op) : opsFault l = 0 ∨ opsFault l = 1 ∨ opsFault l = 2 ∨ opsFault l = 4 := by
  induction l with
  | nil => exact .inl rfl
  | cons o r ih =>
    rw [opsFault]
    split
    · exact ih
    · exact opFault_vals o

theorem check_zero (l : List Op) : check l = 0 ↔ l.length ≤ 60 ∧ opsFault l = 0 ∧ pairs [] l = some [] := by
  unfold check
  by_cases h1 : 60 < l.length
  · rw [if_pos h1]; constructor
    · intro h; cases h
    · intro h; omega
  · rw [if_neg h1]
    by_cases h2 : opsFault l = 0
    · rw [if_pos h2]
      by_cases h3 : pairs [] l = some []
      · rw [if_pos h3]; exact ⟨fun _ => ⟨by omega, h2, h3⟩, fun _ => rfl⟩
      · rw [if_neg h3]; exact ⟨fun h => (by cases h), fun h => absurd h.2.2 h3⟩
    · rw [if_neg h2]; exact ⟨fun h => absurd h h2, fun h => absurd h.2.1 h2⟩

theorem run_checked (m : List Int) (h : Int) (l : List Op) (keys : List (List Int)) (hc : check l = 0) : run m h l keys = if 30 < keys.length then 4 else if keys.any (fun k => decide (3000 < k.length)) then 4 else ending (exec m h l keys.reverse) := by
  unfold run; rw [if_pos hc]

/-- Nothing but what the ops make is too much. -/
theorem put_le {x : List Int} {s s' : List (List Int)} (h : put x s = .ok s') (hs : s.length ≤ 30) : s'.length ≤ 30 := by
  unfold put at h
  split at h
  · cases h
  · injection h with h; subst h; simp only [List.length_cons]; omega
theorem doOp_le (m : List Int) (h : Int) (o : Op) (s s' : List (List Int)) (hs : s.length ≤ 30) (he : doOp m h o s = .ok s') : s'.length ≤ 30 := by
  unfold doOp at he
  by_cases h1 : o.op = 1
  · simp only [if_pos h1] at he
    exact put_le he hs
  by_cases h2 : o.op = 2
  · simp only [if_neg h1, if_pos h2] at he
    cases s with
    | nil => cases he
    | cons t s => (refine put_le he ?_; simp only [List.length_cons] at hs ⊢; omega)
  by_cases h3 : o.op = 3
  · simp only [if_neg h1, if_neg h2, if_pos h3] at he
    cases s with
    | nil => cases he
    | cons t s => (injection he with he; subst he; simp only [List.length_cons] at hs ⊢; omega)
  by_cases h4 : o.op = 4
  · simp only [if_neg h1, if_neg h2, if_neg h3, if_pos h4] at he
    rcases s with _ | ⟨t, _ | ⟨u, s⟩⟩
    · cases he
    · cases he
    · (injection he with he; subst he; simp only [List.length_cons] at hs ⊢; omega)
  by_cases h5 : o.op = 5
  · simp only [if_neg h1, if_neg h2, if_neg h3, if_neg h4, if_pos h5] at he
    rcases s with _ | ⟨t, _ | ⟨u, s⟩⟩
    · cases he
    · cases he
    · (refine put_le he ?_; simp only [List.length_cons] at hs ⊢; omega)
  by_cases h6 : o.op = 6
  · simp only [if_neg h1, if_neg h2, if_neg h3, if_neg h4, if_neg h5, if_pos h6] at he
    cases s with
    | nil => cases he
    | cons t s =>
      simp only [] at he
      split at he
      · (injection he with he; subst he; simp only [List.length_cons] at hs ⊢; omega)
      · cases he
  by_cases h7 : o.op = 7
  · simp only [if_neg h1, if_neg h2, if_neg h3, if_neg h4, if_neg h5, if_neg h6, if_pos h7] at he
    cases s with
    | nil => cases he
    | cons t s => (refine put_le he ?_; simp only [List.length_cons] at hs ⊢; omega)
  by_cases h8 : o.op = 8
  · simp only [if_neg h1, if_neg h2, if_neg h3, if_neg h4, if_neg h5, if_neg h6, if_neg h7, if_pos h8] at he
    rcases s with _ | ⟨t, _ | ⟨u, s⟩⟩
    · cases he
    · cases he
    · (refine put_le he ?_; simp only [List.length_cons] at hs ⊢; omega)
  by_cases h9 : o.op = 9
  · simp only [if_neg h1, if_neg h2, if_neg h3, if_neg h4, if_neg h5, if_neg h6, if_neg h7, if_neg h8, if_pos h9] at he
    cases s with
    | nil => cases he
    | cons t s =>
      simp only [] at he
      split at he
      · cases he
      · (refine put_le he ?_; simp only [List.length_cons, List.length_drop] at hs ⊢; omega)
  by_cases h10 : o.op = 10
  · simp only [if_neg h1, if_neg h2, if_neg h3, if_neg h4, if_neg h5, if_neg h6, if_neg h7, if_neg h8, if_neg h9, if_pos h10] at he
    split at he
    · cases he
    · (injection he with he; subst he; exact hs)
  by_cases h14 : o.op = 14
  · simp only [if_neg h1, if_neg h2, if_neg h3, if_neg h4, if_neg h5, if_neg h6, if_neg h7, if_neg h8, if_neg h9, if_neg h10, if_pos h14] at he
    cases s with
    | nil => cases he
    | cons t s => (refine put_le he ?_; simp only [List.length_cons] at hs ⊢; omega)
  simp only [if_neg h1, if_neg h2, if_neg h3, if_neg h4, if_neg h5, if_neg h6, if_neg h7, if_neg h8, if_neg h9, if_neg h10, if_neg h14] at he
  injection he with he; subst he; exact hs
theorem exec_le (m : List Int) (h : Int) : ∀ (n : Nat) (l : List Op) (s s' : List (List Int)), l.length ≤ n → s.length ≤ 30 → exec m h l s = .ok s' → s'.length ≤ 30 := by
  intro n
  induction n with
  | zero =>
    intro l s s' hn hs he
    have : l = [] := List.eq_nil_of_length_eq_zero (by omega)
    subst this
    rw [exec_nil] at he; injection he with he; subst he; exact hs
  | succ n ih =>
    intro l s s' hn hs he
    cases l with
    | nil => rw [exec_nil] at he; injection he with he; subst he; exact hs
    | cons o r =>
      have hsk := skip_le r 0
      simp only [List.length_cons] at hn
      rcases kind o with e | e | e | ⟨h1, h2, h3⟩
      · rw [exec_if _ _ _ _ _ e] at he
        cases s with
        | nil => cases he
        | cons t s =>
          simp only [List.length_cons] at he hs
          split at he
          · exact ih r s s' (by omega) (by omega) he
          · exact ih _ s s' (by omega) (by omega) he
      · rw [exec_else _ _ _ _ _ e] at he; exact ih _ s s' (by omega) hs he
      · rw [exec_end _ _ _ _ _ e] at he; exact ih r s s' (by omega) hs he
      · rw [exec_do _ _ _ _ _ h1 h2 h3] at he
        cases hd : doOp m h o s with
        | err c => rw [hd] at he; cases he
        | ok s1 =>
          rw [hd] at he
          exact ih r s1 s' (by omega) (doOp_le m h o s s1 hs hd) he

theorem exec_append0 (m : List Int) (h : Int) (a r : List Op) (s : List (List Int)) (hp : pairs [] a = some []) : exec m h (a ++ r) s = (exec m h a s).bind (fun s' => exec m h r s') :=
  exec_append m h r a.length a [] s (Nat.le_refl _) hp

/-- What is wrong within ops is never nothing. -/
theorem put_err {x : List Int} {s : List (List Int)} {c : Int} (h : put x s = .err c) : c = 4 := by
  unfold put at h
  split at h
  · injection h with h; exact h.symm
  · cases h
theorem doOp_err (m : List Int) (h : Int) (o : Op) (s : List (List Int)) (c : Int) (he : doOp m h o s = .err c) : c = 4 ∨ c = 7 ∨ c = 8 := by
  unfold doOp at he
  by_cases h1 : o.op = 1
  · simp only [if_pos h1] at he
    exact .inl (put_err he)
  by_cases h2 : o.op = 2
  · simp only [if_neg h1, if_pos h2] at he
    cases s with
    | nil => (injection he with he; subst he; simp)
    | cons t s => exact .inl (put_err he)
  by_cases h3 : o.op = 3
  · simp only [if_neg h1, if_neg h2, if_pos h3] at he
    cases s with
    | nil => (injection he with he; subst he; simp)
    | cons t s => cases he
  by_cases h4 : o.op = 4
  · simp only [if_neg h1, if_neg h2, if_neg h3, if_pos h4] at he
    rcases s with _ | ⟨t, _ | ⟨u, s⟩⟩
    · (injection he with he; subst he; simp)
    · (injection he with he; subst he; simp)
    · cases he
  by_cases h5 : o.op = 5
  · simp only [if_neg h1, if_neg h2, if_neg h3, if_neg h4, if_pos h5] at he
    rcases s with _ | ⟨t, _ | ⟨u, s⟩⟩
    · (injection he with he; subst he; simp)
    · (injection he with he; subst he; simp)
    · exact .inl (put_err he)
  by_cases h6 : o.op = 6
  · simp only [if_neg h1, if_neg h2, if_neg h3, if_neg h4, if_neg h5, if_pos h6] at he
    cases s with
    | nil => (injection he with he; subst he; simp)
    | cons t s =>
      simp only [] at he
      split at he
      · cases he
      · (injection he with he; subst he; simp)
  by_cases h7 : o.op = 7
  · simp only [if_neg h1, if_neg h2, if_neg h3, if_neg h4, if_neg h5, if_neg h6, if_pos h7] at he
    cases s with
    | nil => (injection he with he; subst he; simp)
    | cons t s => exact .inl (put_err he)
  by_cases h8 : o.op = 8
  · simp only [if_neg h1, if_neg h2, if_neg h3, if_neg h4, if_neg h5, if_neg h6, if_neg h7, if_pos h8] at he
    rcases s with _ | ⟨t, _ | ⟨u, s⟩⟩
    · (injection he with he; subst he; simp)
    · (injection he with he; subst he; simp)
    · exact .inl (put_err he)
  by_cases h9 : o.op = 9
  · simp only [if_neg h1, if_neg h2, if_neg h3, if_neg h4, if_neg h5, if_neg h6, if_neg h7, if_neg h8, if_pos h9] at he
    cases s with
    | nil => (injection he with he; subst he; simp)
    | cons t s =>
      simp only [] at he
      split at he
      · (injection he with he; subst he; simp)
      · exact .inl (put_err he)
  by_cases h10 : o.op = 10
  · simp only [if_neg h1, if_neg h2, if_neg h3, if_neg h4, if_neg h5, if_neg h6, if_neg h7, if_neg h8, if_neg h9, if_pos h10] at he
    split at he
    · (injection he with he; subst he; simp)
    · cases he
  by_cases h14 : o.op = 14
  · simp only [if_neg h1, if_neg h2, if_neg h3, if_neg h4, if_neg h5, if_neg h6, if_neg h7, if_neg h8, if_neg h9, if_neg h10, if_pos h14] at he
    cases s with
    | nil => (injection he with he; subst he; simp)
    | cons t s => exact .inl (put_err he)
  simp only [if_neg h1, if_neg h2, if_neg h3, if_neg h4, if_neg h5, if_neg h6, if_neg h7, if_neg h8, if_neg h9, if_neg h10, if_neg h14] at he
  cases he
theorem exec_err (m : List Int) (h : Int) : ∀ (n : Nat) (l : List Op) (s : List (List Int)) (c : Int), l.length ≤ n → exec m h l s = .err c → c = 4 ∨ c = 7 ∨ c = 8 := by
  intro n
  induction n with
  | zero =>
    intro l s c hn he
    have : l = [] := List.eq_nil_of_length_eq_zero (by omega)
    subst this
    rw [exec_nil] at he; cases he
  | succ n ih =>
    intro l s c hn he
    cases l with
    | nil => rw [exec_nil] at he; cases he
    | cons o r =>
      have hsk := skip_le r 0
      simp only [List.length_cons] at hn
      rcases kind o with e | e | e | ⟨h1, h2, h3⟩
      · rw [exec_if _ _ _ _ _ e] at he
        cases s with
        | nil => simp only [] at he; injection he with he; subst he; simp
        | cons t s =>
          simp only [] at he
          split at he
          · exact ih r s c (by omega) he
          · exact ih _ s c (by omega) he
      · rw [exec_else _ _ _ _ _ e] at he; exact ih _ s c (by omega) he
      · rw [exec_end _ _ _ _ _ e] at he; exact ih r s c (by omega) he
      · rw [exec_do _ _ _ _ _ h1 h2 h3] at he
        cases hd : doOp m h o s with
        | err c1 => rw [hd] at he; injection he with he; subst he; exact doOp_err m h o s _ hd
        | ok s1 => rw [hd] at he; exact ih r s1 c (by omega) he
/-! Not. -/
def notOp : Op := ⟨14, 0, []⟩
theorem notOp_fault : opFault notOp = 0 := by decide
theorem check_not (l : List Op) (hc : check l = 0) (hl : l.length + 1 ≤ 60) : check (l ++ [notOp]) = 0 := by
  obtain ⟨h1, h2, h3⟩ := (check_zero l).1 hc
  refine (check_zero _).2 ⟨by simp; omega, ?_, ?_⟩
  · rw [opsFault_append, if_pos h2]; decide
  · rw [pairs_append, h3]; rfl
def nots (s : List (List Int)) : Out := match s with
  | [] => .err 7
  | t :: s' => .ok ((if !isTrue t then [1] else []) :: s')
theorem exec_not (m : List Int) (h : Int) (l : List Op) (s : List (List Int)) (hp : pairs [] l = some []) (hs : s.length ≤ 30) : exec m h (l ++ [notOp]) s = (exec m h l s).bind nots := by
  rw [exec_append0 m h l _ s hp]
  cases he : exec m h l s with
  | err c => rfl
  | ok s' =>
    have hl := exec_le m h l.length l s s' (Nat.le_refl _) hs he
    show exec m h [notOp] s' = nots s'
    rw [exec_do _ _ _ _ _ (by decide) (by decide) (by decide)]
    cases s' with
    | nil => rfl
    | cons t s' =>
      have e : doOp m h notOp (t :: s') = tell (!isTrue t) s' := rfl
      simp only [List.length_cons] at hl
      rw [e]
      unfold tell put
      rw [if_neg (by omega)]
      show exec m h [] _ = _
      rw [exec_nil]; rfl
theorem isTrue_told (b : Bool) : isTrue (if b then [1] else []) = b := by cases b <;> rfl
theorem nots_end (o : Out) (hz : ∀ c, o = .err c → c ≠ 0) : (ending o = 0 → ending (o.bind nots) ≠ 0 ∧ ending ((o.bind nots).bind nots) = 0) ∧ (ending o ≠ 0 → ending (o.bind nots) = 0 → ending ((o.bind nots).bind nots) ≠ 0) ∧ (ending o ≠ 0 → ending (o.bind nots) ≠ 0 → ending (o.bind nots) = ending ((o.bind nots).bind nots)) := by
  cases o with
  | err c =>
    have hc := hz c rfl
    exact ⟨fun h => absurd h hc, fun h k => absurd k h, fun _ _ => rfl⟩
  | ok s =>
    cases s with
    | nil => refine ⟨fun h => (by cases h), fun h k => (by cases k), fun _ _ => rfl⟩
    | cons t s =>
      cases s with
      | cons u s => refine ⟨fun h => (by cases h), fun h k => (by cases k), fun _ _ => rfl⟩
      | nil =>
        have e1 : ending (.ok [t]) = if isTrue t then 0 else 7 := rfl
        have e2 : ending ((Out.ok [t]).bind nots) = if !isTrue t then 0 else 7 := by
          show (if isTrue (if !isTrue t then [1] else []) then (0 : Int) else 7) = _
          rw [isTrue_told]
        have e3 : ending (((Out.ok [t]).bind nots).bind nots) = if isTrue t then 0 else 7 := by
          show (if isTrue (if !isTrue (if !isTrue t then [1] else []) then [1] else []) then (0 : Int) else 7) = _
          rw [isTrue_told, isTrue_told, Bool.not_not]
        rw [e1, e2, e3]
        cases isTrue t <;> simp
/-- What LockNot says. -/
theorem law_not (m : List Int) (h : Int) (l : List Op) (keys : List (List Int)) (hc : check l = 0) (hl : l.length + 2 ≤ 60) :
    (run m h l keys = 0 → run m h (l ++ [notOp]) keys ≠ 0 ∧ run m h ((l ++ [notOp]) ++ [notOp]) keys = 0) ∧
    (run m h l keys ≠ 0 → run m h (l ++ [notOp]) keys = 0 → run m h ((l ++ [notOp]) ++ [notOp]) keys ≠ 0) ∧
    (run m h l keys ≠ 0 → run m h (l ++ [notOp]) keys ≠ 0 → run m h (l ++ [notOp]) keys = run m h ((l ++ [notOp]) ++ [notOp]) keys) := by
  have c1 := check_not l hc (by omega)
  have c2 := check_not (l ++ [notOp]) c1 (by simp; omega)
  have p0 := ((check_zero l).1 hc).2.2
  have p1 := ((check_zero _).1 c1).2.2
  rw [run_checked _ _ _ _ hc, run_checked _ _ _ _ c1, run_checked _ _ _ _ c2]
  by_cases k1 : 30 < keys.length
  · simp only [if_pos k1]; exact ⟨fun h => (by cases h), fun _ h => (by cases h), fun _ _ => trivial⟩
  · simp only [if_neg k1]
    by_cases k2 : keys.any (fun k => decide (3000 < k.length)) = true
    · simp only [if_pos k2]; exact ⟨fun h => (by cases h), fun _ h => (by cases h), fun _ _ => trivial⟩
    · simp only [if_neg k2]
      have hs : keys.reverse.length ≤ 30 := by simp; omega
      rw [exec_not m h _ _ p1 hs, exec_not m h _ _ p0 hs]
      exact nots_end _ (fun c hc => by have := exec_err m h l.length l _ c (Nat.le_refl _) hc; omega)

/-! Ahead of a lock. -/
theorem check_cons (o : Op) (l : List Op) (hc : check l = 0) (hl : l.length + 1 ≤ 60) (ho : opFault o = 0) (h1 : o.op ≠ 11) (h2 : o.op ≠ 12) (h3 : o.op ≠ 13) : check (o :: l) = 0 := by
  obtain ⟨k1, k2, k3⟩ := (check_zero l).1 hc
  refine (check_zero _).2 ⟨by simp; omega, ?_, ?_⟩
  · rw [opsFault, if_pos ho]; exact k2
  · rw [pairs_do _ _ _ h1 h2 h3]; exact k3
/-- What LockIdle says. -/
theorem law_push (m : List Int) (h : Int) (l : List Op) (keys : List (List Int)) (x : List Int) (hc : check l = 0) (hl : l.length + 2 ≤ 60) (hk : keys.length < 30) (hx : x.length ≤ 300) :
    run m h (⟨1, 0, x⟩ :: ⟨3, 0, []⟩ :: l) keys = run m h l keys := by
  have c1 : check (⟨3, 0, []⟩ :: l) = 0 := check_cons _ l hc (by omega) (by decide) (by simp) (by simp) (by simp)
  have c2 : check (⟨1, 0, x⟩ :: ⟨3, 0, []⟩ :: l) = 0 := check_cons _ _ c1 (by simp; omega) (by unfold opFault opF; simp; omega) (by simp) (by simp) (by simp)
  rw [run_checked _ _ _ _ hc, run_checked _ _ _ _ c2]
  have e : exec m h (⟨1, 0, x⟩ :: ⟨3, 0, []⟩ :: l) keys.reverse = exec m h l keys.reverse := by
    rw [exec_do _ _ _ _ _ (by simp) (by simp) (by simp)]
    have e1 : doOp m h ⟨1, 0, x⟩ keys.reverse = .ok (x :: keys.reverse) := by
      show put x keys.reverse = _
      unfold put; rw [if_neg (by simp; omega)]
    rw [e1]
    show exec m h (⟨3, 0, []⟩ :: l) (x :: keys.reverse) = _
    rw [exec_do _ _ _ _ _ (by simp) (by simp) (by simp)]
    rfl
  rw [e]
theorem law_dup (m : List Int) (h : Int) (l : List Op) (keys : List (List Int)) (hc : check l = 0) (hl : l.length + 2 ≤ 60) (hk : keys.length < 30) (h0 : keys.length ≠ 0) :
    run m h (⟨2, 0, []⟩ :: ⟨3, 0, []⟩ :: l) keys = run m h l keys := by
  have c1 : check (⟨3, 0, []⟩ :: l) = 0 := check_cons _ l hc (by omega) (by decide) (by simp) (by simp) (by simp)
  have c2 : check (⟨2, 0, []⟩ :: ⟨3, 0, []⟩ :: l) = 0 := check_cons _ _ c1 (by simp; omega) (by decide) (by simp) (by simp) (by simp)
  rw [run_checked _ _ _ _ hc, run_checked _ _ _ _ c2]
  have e : exec m h (⟨2, 0, []⟩ :: ⟨3, 0, []⟩ :: l) keys.reverse = exec m h l keys.reverse := by
    have hr : keys.reverse.length < 30 := by simp; omega
    have hr0 : keys.reverse.length ≠ 0 := by simpa using h0
    cases hk2 : keys.reverse with
    | nil => rw [hk2] at hr0; exact absurd rfl hr0
    | cons t s =>
      rw [hk2, List.length_cons] at hr
      rw [exec_do _ _ _ _ _ (by simp) (by simp) (by simp)]
      have e1 : doOp m h ⟨2, 0, []⟩ (t :: s) = .ok (t :: t :: s) := by
        show put t (t :: s) = _
        unfold put; rw [if_neg (by rw [List.length_cons]; omega)]
      rw [e1]
      show exec m h (⟨3, 0, []⟩ :: l) (t :: t :: s) = _
      rw [exec_do _ _ _ _ _ (by simp) (by simp) (by simp)]
      rfl
  rw [e]
/-- What LockSwaps says. -/
theorem exec_swap (m : List Int) (h : Int) (l : List Op) (t u : List Int) (s : List (List Int)) : exec m h (⟨4, 0, []⟩ :: l) (t :: u :: s) = exec m h l (u :: t :: s) := by
  rw [exec_do _ _ _ _ _ (by simp) (by simp) (by simp)]; rfl
theorem law_swap (m : List Int) (h : Int) (l : List Op) (ks : List (List Int)) (x y : List Int) (hc : check l = 0) (hl : l.length + 2 ≤ 60) :
    run m h (⟨4, 0, []⟩ :: ⟨4, 0, []⟩ :: l) (ks ++ [x, y]) = run m h l (ks ++ [x, y]) ∧ run m h (⟨4, 0, []⟩ :: l) (ks ++ [x, y]) = run m h l (ks ++ [y, x]) := by
  have c1 : check (⟨4, 0, []⟩ :: l) = 0 := check_cons _ l hc (by omega) (by decide) (by simp) (by simp) (by simp)
  have c2 : check (⟨4, 0, []⟩ :: ⟨4, 0, []⟩ :: l) = 0 := check_cons _ _ c1 (by simp; omega) (by decide) (by simp) (by simp) (by simp)
  rw [run_checked _ _ _ _ hc, run_checked _ _ _ _ c1, run_checked _ _ _ _ c2, run_checked _ _ _ _ hc]
  have r1 : (ks ++ [x, y]).reverse = y :: x :: ks.reverse := by simp
  have r2 : (ks ++ [y, x]).reverse = x :: y :: ks.reverse := by simp
  have a1 : (ks ++ [x, y]).any (fun k => decide (3000 < k.length)) = (ks ++ [y, x]).any (fun k => decide (3000 < k.length)) := by
    simp only [List.any_append, List.any_cons, List.any_nil, Bool.or_false]
    cases decide (3000 < x.length) <;> cases decide (3000 < y.length) <;> simp
  have l1 : (ks ++ [x, y]).length = (ks ++ [y, x]).length := by simp
  rw [r1, r2, exec_swap, exec_swap, exec_swap, a1, l1]
  exact ⟨rfl, rfl⟩

/-! After. -/
theorem doOp_later (m : List Int) (h h' : Int) (o : Op) (s s' : List (List Int)) (hh : h ≤ h') (he : doOp m h o s = .ok s') : doOp m h' o s = .ok s' := by
  by_cases h10 : o.op = 10
  · have e : ∀ g, doOp m g o s = if g < o.n then .err 8 else .ok s := fun g => by unfold doOp; simp [h10]
    rw [e] at he ⊢
    by_cases hn : h < o.n
    · rw [if_pos hn] at he; cases he
    · rw [if_neg hn] at he; rw [if_neg (by omega)]; exact he
  · have e : doOp m h' o s = doOp m h o s := by unfold doOp; simp only [if_neg h10]
    rw [e]; exact he
theorem exec_later (m : List Int) (h h' : Int) (hh : h ≤ h') : ∀ (n : Nat) (l : List Op) (s s' : List (List Int)), l.length ≤ n → exec m h l s = .ok s' → exec m h' l s = .ok s' := by
  intro n
  induction n with
  | zero =>
    intro l s s' hn he
    have : l = [] := List.eq_nil_of_length_eq_zero (by omega)
    subst this
    rw [exec_nil] at he ⊢; exact he
  | succ n ih =>
    intro l s s' hn he
    cases l with
    | nil => rw [exec_nil] at he ⊢; exact he
    | cons o r =>
      have hsk := skip_le r 0
      simp only [List.length_cons] at hn
      rcases kind o with e | e | e | ⟨h1, h2, h3⟩
      · rw [exec_if _ _ _ _ _ e] at he ⊢
        cases s with
        | nil => cases he
        | cons t s =>
          simp only [] at he ⊢
          split at he
          · rename_i ht; rw [if_pos ht]; exact ih r s s' (by omega) he
          · rename_i ht; rw [if_neg ht]; exact ih _ s s' (by omega) he
      · rw [exec_else _ _ _ _ _ e] at he ⊢; exact ih _ s s' (by omega) he
      · rw [exec_end _ _ _ _ _ e] at he ⊢; exact ih r s s' (by omega) he
      · rw [exec_do _ _ _ _ _ h1 h2 h3] at he ⊢
        cases hd : doOp m h o s with
        | err c => rw [hd] at he; cases he
        | ok s1 =>
          rw [hd] at he
          rw [doOp_later m h h' o s s1 hh hd]
          exact ih r s1 s' (by omega) he
/-- What LockAfter says. -/
theorem law_later (m : List Int) (h h' : Int) (l : List Op) (keys : List (List Int)) (hh : h ≤ h') (hr : run m h l keys = 0) : run m h' l keys = 0 := by
  by_cases hc : check l = 0
  · rw [run_checked _ _ _ _ hc] at hr ⊢
    by_cases k1 : 30 < keys.length
    · rw [if_pos k1] at hr; cases hr
    · rw [if_neg k1] at hr ⊢
      by_cases k2 : keys.any (fun k => decide (3000 < k.length)) = true
      · rw [if_pos k2] at hr; cases hr
      · rw [if_neg k2] at hr ⊢
        cases he : exec m h l keys.reverse with
        | err c =>
          rw [he] at hr
          have := exec_err m h l.length l _ c (Nat.le_refl _) he
          simp only [ending] at hr
          omega
        | ok s' => rw [he] at hr; rw [exec_later m h h' hh l.length l _ s' (Nat.le_refl _) he]; exact hr
  · unfold run at hr; rw [if_neg hc] at hr; exact absurd hr hc
theorem law_after (m : List Int) (h : Int) (l : List Op) (keys : List (List Int)) (n : Int) (hc : check l = 0) (hl : l.length < 60) (h0 : 0 ≤ n) (h1 : n ≤ 1073741824) :
    (h < n → run m h (⟨10, n, []⟩ :: l) keys ≠ 0) ∧ (n ≤ h → run m h (⟨10, n, []⟩ :: l) keys = run m h l keys) := by
  have c1 : check (⟨10, n, []⟩ :: l) = 0 := check_cons _ l hc (by omega) (by unfold opFault opF; simp; omega) (by simp) (by simp) (by simp)
  rw [run_checked _ _ _ _ hc, run_checked _ _ _ _ c1, exec_do _ _ _ _ _ (by simp) (by simp) (by simp)]
  have e : doOp m h ⟨10, n, []⟩ keys.reverse = if h < n then .err 8 else .ok keys.reverse := rfl
  rw [e]
  constructor
  · intro hn
    rw [if_pos hn]
    split
    · decide
    · split
      · decide
      · show (8 : Int) ≠ 0; decide
  · intro hn
    have hn' : ¬ h < n := by omega
    simp only [if_neg hn']; rfl

/-! Either. -/
def either (a b : List Op) : List Op := (⟨11, 0, []⟩ :: a) ++ [⟨12, 0, []⟩] ++ b ++ [⟨13, 0, []⟩]
theorem either_eq (a b : List Op) : either a b = ⟨11, 0, []⟩ :: (a ++ (⟨12, 0, []⟩ :: (b ++ [⟨13, 0, []⟩]))) := by simp [either]
theorem check_either (a b : List Op) (ha : check a = 0) (hb : check b = 0) (hl : a.length + b.length + 3 ≤ 60) : check (either a b) = 0 := by
  obtain ⟨a1, a2, a3⟩ := (check_zero a).1 ha
  obtain ⟨b1, b2, b3⟩ := (check_zero b).1 hb
  refine (check_zero _).2 ⟨by rw [either_eq]; simp; omega, ?_, ?_⟩
  · rw [either_eq, opsFault, if_pos (by decide), opsFault_append, if_pos a2, opsFault, if_pos (by decide), opsFault_append, if_pos b2]; decide
  · rw [either_eq, pairs_if _ _ _ rfl, pairs_append]
    have pa := pairs_under a [] [] [false] a3
    simp only [List.nil_append] at pa
    rw [pa]
    show pairs [false] (⟨12, 0, []⟩ :: (b ++ [⟨13, 0, []⟩])) = _
    rw [pairs_else _ _ _ _ rfl]
    simp only [Bool.false_eq_true, if_false]
    rw [pairs_append]
    have pb := pairs_under b [] [] [true] b3
    simp only [List.nil_append] at pb
    rw [pb]
    rfl
theorem exec_either (m : List Int) (h : Int) (a b : List Op) (t : List Int) (s : List (List Int)) (pa : pairs [] a = some []) (pb : pairs [] b = some []) : exec m h (either a b) (t :: s) = if isTrue t then exec m h a s else exec m h b s := by
  rw [either_eq, exec_if _ _ _ _ _ rfl]
  simp only []
  split
  · rw [exec_append0 m h a _ s pa]
    cases exec m h a s with
    | err c => rfl
    | ok s' =>
      show exec m h (⟨12, 0, []⟩ :: (b ++ [⟨13, 0, []⟩])) s' = _
      rw [exec_else _ _ _ _ _ rfl]
      have := skip_past b [⟨13, 0, []⟩] [] [] 0 pb
      simp only [List.length_nil, Nat.add_zero] at this
      rw [this, skip_end _ _ _ rfl, if_pos rfl, exec_nil]
  · have := skip_past a (⟨12, 0, []⟩ :: (b ++ [⟨13, 0, []⟩])) [] [] 0 pa
    simp only [List.length_nil, Nat.add_zero] at this
    rw [this, skip_else _ _ _ rfl, if_pos rfl, exec_append0 m h b _ s pb]
    cases exec m h b s with
    | err c => rfl
    | ok s' =>
      show exec m h [⟨13, 0, []⟩] s' = _
      rw [exec_end _ _ _ _ _ rfl, exec_nil]
/-- What LockEither says. -/
theorem law_either (m : List Int) (h : Int) (a b : List Op) (keys : List (List Int)) (way : List Int) (ha : check a = 0) (hb : check b = 0) (hl : a.length + b.length + 3 ≤ 60) (hk : keys.length < 30) (hw : way.length ≤ 3000) :
    run m h (either a b) (keys ++ [way]) = if isTrue way then run m h a keys else run m h b keys := by
  have pa := ((check_zero a).1 ha).2.2
  have pb := ((check_zero b).1 hb).2.2
  rw [run_checked _ _ _ _ (check_either a b ha hb hl), run_checked _ _ _ _ ha, run_checked _ _ _ _ hb]
  have e1 : (keys ++ [way]).reverse = way :: keys.reverse := by simp
  have e2 : (keys ++ [way]).any (fun k => decide (3000 < k.length)) = keys.any (fun k => decide (3000 < k.length)) := by
    have : decide (3000 < way.length) = false := decide_eq_false (by omega)
    simp [List.any_append, this]
  have k1 : ¬ 30 < (keys ++ [way]).length := by simp; omega
  have k2 : ¬ 30 < keys.length := by omega
  rw [e1, e2, exec_either m h a b way _ pa pb, if_neg k1, if_neg k2, if_neg k2]
  split
  · split <;> rfl
  · split <;> rfl

/-! A text, a key. -/
theorem law_hash (m : List Int) (h : Int) (d k : List Int) (hd : d.length = 32) (hk : k.length ≤ 3000) : run m h [⟨7, 0, []⟩, ⟨1, 0, d⟩, ⟨5, 0, []⟩] [k] = if d = Sh.sum k then 0 else 7 := by
  have hc : check [⟨7, 0, []⟩, ⟨1, 0, d⟩, ⟨5, 0, []⟩] = 0 := by
    refine (check_zero _).2 ⟨by simp, ?_, rfl⟩
    simp [opsFault, opFault, opF, hd]
  rw [run_checked _ _ _ _ hc, if_neg (by simp), if_neg (by simp; omega)]
  have e : exec m h [⟨7, 0, []⟩, ⟨1, 0, d⟩, ⟨5, 0, []⟩] [k] = .ok [if decide (d = Sh.sum k) then [1] else []] := by
    rw [exec_do _ _ _ _ _ (by simp) (by simp) (by simp)]
    show exec m h [⟨1, 0, d⟩, ⟨5, 0, []⟩] [Sh.sum k] = _
    rw [exec_do _ _ _ _ _ (by simp) (by simp) (by simp)]
    show exec m h [⟨5, 0, []⟩] [d, Sh.sum k] = _
    rw [exec_do _ _ _ _ _ (by simp) (by simp) (by simp)]
    show exec m h [] [if decide (d = Sh.sum k) then [1] else []] = _
    rw [exec_nil]
  rw [show ([k] : List (List Int)).reverse = [k] from rfl, e]
  show (if isTrue (if decide (d = Sh.sum k) then [1] else []) then (0 : Int) else 7) = _
  rw [isTrue_told]
  simp
theorem law_signed (m : List Int) (h : Int) (p sig : List Int) (hp : p.length = 32) : run m h [⟨1, 0, p⟩, ⟨8, 0, []⟩] [sig] = if 3000 < sig.length then 4 else if signed m sig p then 0 else 7 := by
  have hc : check [⟨1, 0, p⟩, ⟨8, 0, []⟩] = 0 := by
    refine (check_zero _).2 ⟨by simp, ?_, rfl⟩
    simp [opsFault, opFault, opF, hp]
  rw [run_checked _ _ _ _ hc, if_neg (by simp)]
  by_cases hs : 3000 < sig.length
  · rw [if_pos (by simp [hs]), if_pos hs]
  · rw [if_neg (by simp; omega), if_neg hs]
    have e : exec m h [⟨1, 0, p⟩, ⟨8, 0, []⟩] [sig] = .ok [if signed m sig p then [1] else []] := by
      rw [exec_do _ _ _ _ _ (by simp) (by simp) (by simp)]
      show exec m h [⟨8, 0, []⟩] [p, sig] = _
      rw [exec_do _ _ _ _ _ (by simp) (by simp) (by simp)]
      show exec m h [] [if signed m sig p then [1] else []] = _
      rw [exec_nil]
    rw [show ([sig] : List (List Int)).reverse = [sig] from rfl, e]
    show (if isTrue (if signed m sig p then [1] else []) then (0 : Int) else 7) = _
    rw [isTrue_told]
/-- No ops, one thing at hand. -/
theorem law_bare (m : List Int) (h : Int) (k : List Int) (hk : k.length ≤ 3000) : run m h [] [k] = if isTrue k then 0 else 7 := by
  have hc : check [] = 0 := by decide
  rw [run_checked _ _ _ _ hc, if_neg (by simp), if_neg (by simp; omega)]
  show ending (exec m h [] [k]) = _
  rw [exec_nil]; rfl
end Go.Proofs.YtmjilohlchkicaaGreatDoor.Lk

/- Payments as lists: what is wrong with one, its bytes, how bytes are read. -/
namespace Go.Proofs.YtmjilohlchkicaaGreatDoor.Tm
set_option linter.unusedVariables false

/-- What is spent: a place, and what opens it. -/
structure In where
  tx : List Int
  at' : Int
  keys : List (List Int)
/-- What is paid. -/
structure Out where
  amount : Int
  lock : List Lk.Op
structure Tx where
  ins : List In
  outs : List Out
  time : Int

def keysF (ks : List (List Int)) : Int := if 30 < ks.length then 4 else if ks.any (fun k => decide (3000 < k.length)) then 4 else 0
/-- The places of ins. -/
def places (l : List In) : List (List Int × Int) := l.map (fun i => (i.tx, i.at'))
def inF (ahead : List (List Int × Int)) (i : In) : Int :=
  if i.at' < 0 ∨ 40 ≤ i.at' then 2 else if (i.tx, i.at') ∈ ahead then 6 else keysF i.keys
def insF : List (List Int × Int) → List In → Int
  | _, [] => 0
  | ah, i :: r => if inF ah i = 0 then insF (ah ++ [(i.tx, i.at')]) r else inF ah i
def outF (o : Out) : Int := if Mo.chk o.amount = 0 then Lk.check o.lock else Mo.chk o.amount
def outsF : List Out → Int
  | [] => 0
  | o :: r => if outF o = 0 then outsF r else outF o
/-- What is wrong with a payment. -/
def check (t : Tx) : Int :=
  if 40 < t.ins.length ∨ 40 < t.outs.length then 4
  else if t.outs.length = 0 then 5
  else if t.time < 0 ∨ 1073741824 < t.time then 2
  else if insF [] t.ins = 0 then outsF t.outs else insF [] t.ins

def inB (i : In) : List Int := i.tx ++ (Sz.wr i.at' ++ (Sz.wr (i.keys.length : Nat) ++ (i.keys.map Sz.pk).flatten))
def opB (o : Lk.Op) : List Int := Sz.wr o.op ++ (Sz.wr o.n ++ Sz.pk o.data)
def outB (o : Out) : List Int := Sz.wr o.amount ++ (Sz.wr (o.lock.length : Nat) ++ (o.lock.map opB).flatten)
/-- A payment as it is sent. -/
def bytes (t : Tx) : List Int := Sz.wr (t.ins.length : Nat) ++ ((t.ins.map inB).flatten ++ (Sz.wr (t.outs.length : Nat) ++ ((t.outs.map outB).flatten ++ Sz.wr t.time)))
def bareI (i : In) : In := { i with keys := [] }
def bare (t : Tx) : Tx := { t with ins := t.ins.map bareI }
def idText (t : Tx) : List Int := 21 :: bytes (bare t)
def id (t : Tx) : List Int := Sh.sum (idText t)

/-- What is read at a place: it, and the place behind it. -/
def num (b : List Int) (p : Nat) : Option (Int × Nat) := if (Sz.rd b p).2.2 = 0 then some ((Sz.rd b p).1, (Sz.rd b p).2.1.toNat) else none
def thing (b : List Int) (p : Nat) : Option (List Int × Nat) := if (Sz.unp b p).2.2 = 0 then some ((Sz.unp b p).1, (Sz.unp b p).2.1.toNat) else none
def dig (b : List Int) (p : Nat) : Option (List Int × Nat) := if p + 32 ≤ b.length then some ((b.drop p).take 32, p + 32) else none
def cnt (most : Int) (b : List Int) (p : Nat) : Option (Nat × Nat) := (num b p).bind fun x => if x.1 ≤ most then some (x.1.toNat, x.2) else none
def rep {α : Type} (f : Nat → Option (α × Nat)) : Nat → Nat → Option (List α × Nat)
  | 0, p => some ([], p)
  | k + 1, p => (f p).bind fun x => (rep f k x.2).map fun y => (x.1 :: y.1, y.2)
def opR (b : List Int) (p : Nat) : Option (Lk.Op × Nat) := (num b p).bind fun x => (num b x.2).bind fun y => (thing b y.2).map fun z => ({ op := x.1, n := y.1, data := z.1 }, z.2)
def inR (b : List Int) (p : Nat) : Option (In × Nat) := (dig b p).bind fun x => (num b x.2).bind fun y => (cnt 30 b y.2).bind fun z => (rep (thing b) z.1 z.2).map fun k => ({ tx := x.1, at' := y.1, keys := k.1 }, k.2)
def outR (b : List Int) (p : Nat) : Option (Out × Nat) := (num b p).bind fun x => (cnt 60 b x.2).bind fun z => (rep (opR b) z.1 z.2).map fun k => ({ amount := x.1, lock := k.1 }, k.2)
def payR (b : List Int) : Option (Tx × Nat) := (cnt 40 b 0).bind fun x => (rep (inR b) x.1 x.2).bind fun i => (cnt 40 b i.2).bind fun y => (rep (outR b) y.1 y.2).bind fun o => (num b o.2).map fun z => ({ ins := i.1, outs := o.1, time := z.1 }, z.2)
/-- The payment of bytes. -/
def read (b : List Int) : Option Tx := (payR b).bind fun x => if x.2 = b.length ∧ check x.1 = 0 then some x.1 else none

/-- What is written is read. -/
def Comp {α : Type} (f : List Int → Nat → Option (α × Nat)) (s : α → List Int) (ok : α → Prop) : Prop :=
  ∀ x, ok x → ∀ a c, f (a ++ s x ++ c) a.length = some (x, a.length + (s x).length)
/-- What is read is written. -/
def Sound {α : Type} (f : List Int → Nat → Option (α × Nat)) (s : α → List Int) (ok : α → Prop) : Prop :=
  ∀ b, Sz.Byt b → ∀ p x q, f b p = some (x, q) → p + (s x).length = q ∧ (p ≤ b.length → q ≤ b.length) ∧ (b.drop p).take (s x).length = s x ∧ ok x

def nOk (n : Int) : Prop := 0 ≤ n ∧ n ≤ 9223372036854775807
theorem num_comp : Comp num Sz.wr nOk := fun x h a c => by
  unfold num
  rw [Sz.rd_wr a c x h.1 h.2]
  simp only [if_pos]
  congr 1
theorem num_sound : Sound num Sz.wr nOk := fun b hb p x q h => by
  unfold num at h
  by_cases e : (Sz.rd b p).2.2 = 0
  · rw [if_pos e] at h
    simp only [Option.some.injEq, Prod.mk.injEq] at h
    obtain ⟨rfl, rfl⟩ := h
    obtain ⟨h1, h2, h3, h4, h5⟩ := Sz.wr_rd b p (Sz.rd b p).1 (Sz.rd b p).2.1 hb (by rw [← e])
    refine ⟨by omega, fun _ => by omega, h5.symm, h1, h2⟩
  · rw [if_neg e] at h; cases h
theorem thing_comp : Comp thing Sz.pk (fun l => (l.length : Int) ≤ 9223372036854775807) := fun x h a c => by
  unfold thing
  rw [Sz.unp_pk a x c h]
  simp only [if_pos]
  congr 1
theorem thing_sound : Sound thing Sz.pk (fun l => (l.length : Int) ≤ 9223372036854775807 ∧ Sz.Byt l) := fun b hb p x q h => by
  unfold thing at h
  by_cases e : (Sz.unp b p).2.2 = 0
  · rw [if_pos e] at h
    simp only [Option.some.injEq, Prod.mk.injEq] at h
    obtain ⟨rfl, rfl⟩ := h
    unfold Sz.unp at e ⊢
    by_cases e1 : (Sz.rd b p).2.2 = 0
    · have en : ¬ (Sz.rd b p).2.2 ≠ 0 := fun h => h e1
      rw [if_neg en] at e ⊢
      obtain ⟨h1, h2, h3, h4, h5⟩ := Sz.wr_rd b p (Sz.rd b p).1 (Sz.rd b p).2.1 hb (by rw [← e1])
      by_cases e2 : (b.length : Int) - (Sz.rd b p).2.1 < (Sz.rd b p).1
      · rw [if_pos e2] at e; simp at e
      · rw [if_neg e2]
        generalize (Sz.rd b p).1 = n at *
        generalize (Sz.rd b p).2.1 = r at *
        obtain ⟨k, rfl⟩ := Int.eq_ofNat_of_zero_le h1
        subst h3
        simp only [Int.toNat_natCast]
        have er : ((p : Int) + ((Sz.wr (k : Int)).length : Nat)).toNat = p + (Sz.wr (k : Int)).length := by omega
        rw [er]
        have hl : ((b.drop (p + (Sz.wr (k : Int)).length)).take k).length = k := by rw [List.length_take, List.length_drop]; omega
        have hpk : Sz.pk ((b.drop (p + (Sz.wr (k : Int)).length)).take k) = Sz.wr (k : Int) ++ (b.drop (p + (Sz.wr (k : Int)).length)).take k := by unfold Sz.pk; rw [hl]
        rw [hpk]
        refine ⟨by rw [List.length_append, hl]; omega, fun _ => by omega, ?_, by rw [hl]; exact h2, (hb.drop _).take _⟩
        rw [List.length_append, hl, List.take_add, ← h5, List.drop_drop]
    · have en : (Sz.rd b p).2.2 ≠ 0 := e1
      rw [if_pos en] at e; exact absurd e e1
  · rw [if_neg e] at h; cases h
def dOk (l : List Int) : Prop := l.length = 32 ∧ Sz.Byt l
theorem dig_comp : Comp dig (fun x => x) dOk := fun x h a c => by
  unfold dig
  rw [if_pos (by rw [List.length_append, List.length_append, h.1]; omega), List.append_assoc, List.drop_left, ← h.1, List.take_left]
theorem dig_sound : Sound dig (fun x => x) dOk := fun b hb p x q h => by
  unfold dig at h
  by_cases e : p + 32 ≤ b.length
  · rw [if_pos e] at h
    simp only [Option.some.injEq, Prod.mk.injEq] at h
    obtain ⟨rfl, rfl⟩ := h
    have hl : ((b.drop p).take 32).length = 32 := by rw [List.length_take, List.length_drop]; omega
    exact ⟨by rw [hl], fun _ => e, by rw [hl], hl, (hb.drop _).take _⟩
  · rw [if_neg e] at h; cases h
theorem cnt_comp (most : Int) (hm : most ≤ 9223372036854775807) : Comp (cnt most) (fun n : Nat => Sz.wr (n : Int)) (fun n => (n : Int) ≤ most) := fun x h a c => by
  unfold cnt
  rw [num_comp (x : Int) ⟨by omega, by omega⟩ a c]
  simp [h]
theorem cnt_sound (most : Int) : Sound (cnt most) (fun n : Nat => Sz.wr (n : Int)) (fun n => (n : Int) ≤ most) := fun b hb p x q h => by
  unfold cnt at h
  cases hn : num b p with
  | none => rw [hn] at h; cases h
  | some y =>
    rw [hn] at h
    obtain ⟨y1, y2⟩ := y
    simp only [Option.bind_some] at h
    by_cases e : y1 ≤ most
    · rw [if_pos e] at h
      simp only [Option.some.injEq, Prod.mk.injEq] at h
      obtain ⟨rfl, rfl⟩ := h
      obtain ⟨h1, h2, h3, h4⟩ := num_sound b hb p y1 y2 hn
      have ex : ((y1.toNat : Nat) : Int) = y1 := Int.toNat_of_nonneg h4.1
      simp only [ex]
      exact ⟨h1, h2, h3, e⟩
    · rw [if_neg e] at h; cases h

/-- One behind the other. -/
theorem mid (a s1 s2 c : List Int) : a ++ (s1 ++ s2) ++ c = a ++ s1 ++ (s2 ++ c) := by simp [List.append_assoc]
theorem mid2 (a s1 s2 c : List Int) : a ++ (s1 ++ s2) ++ c = (a ++ s1) ++ s2 ++ c := by simp [List.append_assoc]
theorem Comp.at1 {α : Type} {f : List Int → Nat → Option (α × Nat)} {s : α → List Int} {ok : α → Prop} (h : Comp f s ok) (x : α) (hx : ok x) (a s2 c : List Int) : f (a ++ (s x ++ s2) ++ c) a.length = some (x, a.length + (s x).length) := by
  rw [mid]; exact h x hx a (s2 ++ c)
theorem Comp.at2 {α : Type} {f : List Int → Nat → Option (α × Nat)} {s : α → List Int} {ok : α → Prop} (h : Comp f s ok) (x : α) (hx : ok x) (a s1 s2 c : List Int) : f (a ++ (s1 ++ (s x ++ s2)) ++ c) (a.length + s1.length) = some (x, a.length + s1.length + (s x).length) := by
  have := h.at1 x hx (a ++ s1) s2 c
  rw [List.length_append] at this
  rw [mid2]; exact this
theorem Sound.two {b : List Int} {p q r : Nat} {s1 s2 : List Int} (h1 : p + s1.length = q) (h2 : q + s2.length = r) (e1 : (b.drop p).take s1.length = s1) (e2 : (b.drop q).take s2.length = s2) : p + (s1 ++ s2).length = r ∧ (b.drop p).take (s1 ++ s2).length = s1 ++ s2 := by
  refine ⟨by rw [List.length_append]; omega, ?_⟩
  rw [List.length_append, List.take_add, e1, List.drop_drop, h1, e2]

theorem rep_comp {α : Type} {f : List Int → Nat → Option (α × Nat)} {s : α → List Int} {ok : α → Prop} (h : Comp f s ok) : ∀ (l : List α), (∀ x ∈ l, ok x) → ∀ a c, rep (f (a ++ (l.map s).flatten ++ c)) l.length a.length = some (l, a.length + ((l.map s).flatten).length) := by
  intro l
  induction l with
  | nil => intro _ a c; simp [rep]
  | cons x r ih =>
    intro hl a c
    have h1 := h x (hl x (by simp)) a ((r.map s).flatten ++ c)
    have h2 := ih (fun y hy => hl y (by simp [hy])) (a ++ s x) c
    rw [List.map_cons, List.flatten_cons, List.length_cons, rep, mid, h1]
    simp only [Option.bind_some]
    rw [← mid, mid2, ← List.length_append, h2]
    simp only [Option.map_some, List.length_append]
    congr 2
    omega
theorem rep_sound {α : Type} {f : List Int → Nat → Option (α × Nat)} {s : α → List Int} {ok : α → Prop} (h : Sound f s ok) (b : List Int) (hb : Sz.Byt b) : ∀ (k p : Nat) (l : List α) (q : Nat), rep (f b) k p = some (l, q) → l.length = k ∧ p + ((l.map s).flatten).length = q ∧ (p ≤ b.length → q ≤ b.length) ∧ (b.drop p).take ((l.map s).flatten).length = (l.map s).flatten ∧ ∀ x ∈ l, ok x := by
  intro k
  induction k with
  | zero =>
    intro p l q hr
    rw [rep] at hr
    simp only [Option.some.injEq, Prod.mk.injEq] at hr
    obtain ⟨rfl, rfl⟩ := hr
    simp
  | succ k ih =>
    intro p l q hr
    rw [rep] at hr
    cases hf : f b p with
    | none => rw [hf] at hr; cases hr
    | some x =>
      rw [hf] at hr
      obtain ⟨x, q1⟩ := x
      simp only [Option.bind_some] at hr
      cases hg : rep (f b) k q1 with
      | none => rw [hg] at hr; cases hr
      | some y =>
        rw [hg] at hr
        obtain ⟨ys, q2⟩ := y
        simp only [Option.map_some, Option.some.injEq, Prod.mk.injEq] at hr
        obtain ⟨rfl, rfl⟩ := hr
        obtain ⟨a1, a2, a3, a4⟩ := h b hb p x q1 hf
        obtain ⟨b0, b1, b2, b3, b4⟩ := ih q1 ys q2 hg
        obtain ⟨c1, c2⟩ := Sound.two a1 b1 a3 b3
        rw [List.map_cons, List.flatten_cons]
        exact ⟨by simp [b0], c1, fun hp => b2 (a2 hp), c2, fun z hz => by
          rcases List.mem_cons.1 hz with rfl | hz
          · exact a4
          · exact b4 z hz⟩

def opOk (o : Lk.Op) : Prop := nOk o.op ∧ nOk o.n ∧ (o.data.length : Int) ≤ 9223372036854775807
def inOk (i : In) : Prop := dOk i.tx ∧ nOk i.at' ∧ i.keys.length ≤ 30 ∧ ∀ k ∈ i.keys, (k.length : Int) ≤ 9223372036854775807
def outOk (o : Out) : Prop := nOk o.amount ∧ o.lock.length ≤ 60 ∧ ∀ x ∈ o.lock, opOk x
def txOk (t : Tx) : Prop := t.ins.length ≤ 40 ∧ (∀ i ∈ t.ins, inOk i) ∧ t.outs.length ≤ 40 ∧ (∀ o ∈ t.outs, outOk o) ∧ nOk t.time
theorem op_comp : Comp opR opB opOk := fun o h a c => by
  unfold opR opB
  rw [num_comp.at1 o.op h.1]
  simp only [Option.bind_some]
  rw [num_comp.at2 o.n h.2.1]
  simp only [Option.bind_some]
  have h3 := thing_comp o.data h.2.2 (a ++ (Sz.wr o.op ++ Sz.wr o.n)) c
  have e : a ++ (Sz.wr o.op ++ (Sz.wr o.n ++ Sz.pk o.data)) ++ c = a ++ (Sz.wr o.op ++ Sz.wr o.n) ++ Sz.pk o.data ++ c := by simp [List.append_assoc]
  have el : (a ++ (Sz.wr o.op ++ Sz.wr o.n)).length = a.length + (Sz.wr o.op).length + (Sz.wr o.n).length := by simp only [List.length_append]; omega
  rw [el] at h3
  rw [e, h3]
  simp only [Option.map_some, List.length_append]
  exact congrArg (fun x => some (o, x)) (by omega)
theorem in_comp : Comp inR inB inOk := fun i h a c => by
  unfold inR inB
  rw [Comp.at1 (s := fun x => x) dig_comp i.tx h.1]
  simp only [Option.bind_some]
  rw [num_comp.at2 i.at' h.2.1]
  simp only [Option.bind_some]
  have h3 := cnt_comp 30 (by omega) i.keys.length (by have := h.2.2.1; omega) (a ++ (i.tx ++ Sz.wr i.at')) ((i.keys.map Sz.pk).flatten ++ c)
  have e3 : a ++ (i.tx ++ (Sz.wr i.at' ++ (Sz.wr (i.keys.length : Nat) ++ (i.keys.map Sz.pk).flatten))) ++ c = a ++ (i.tx ++ Sz.wr i.at') ++ Sz.wr (i.keys.length : Nat) ++ ((i.keys.map Sz.pk).flatten ++ c) := by simp [List.append_assoc]
  have el3 : (a ++ (i.tx ++ Sz.wr i.at')).length = a.length + i.tx.length + (Sz.wr i.at').length := by simp only [List.length_append]; omega
  rw [el3, ← e3] at h3
  rw [h3]
  simp only [Option.bind_some]
  have h4 := rep_comp thing_comp i.keys h.2.2.2 (a ++ (i.tx ++ (Sz.wr i.at' ++ Sz.wr (i.keys.length : Nat)))) c
  have e : a ++ (i.tx ++ (Sz.wr i.at' ++ (Sz.wr (i.keys.length : Nat) ++ (i.keys.map Sz.pk).flatten))) ++ c = a ++ (i.tx ++ (Sz.wr i.at' ++ Sz.wr (i.keys.length : Nat))) ++ (i.keys.map Sz.pk).flatten ++ c := by simp [List.append_assoc]
  have el : (a ++ (i.tx ++ (Sz.wr i.at' ++ Sz.wr (i.keys.length : Nat)))).length = a.length + i.tx.length + (Sz.wr i.at').length + (Sz.wr (i.keys.length : Nat)).length := by simp only [List.length_append]; omega
  rw [el] at h4
  rw [e, h4]
  simp only [Option.map_some, List.length_append]
  exact congrArg (fun x => some (i, x)) (by omega)
theorem out_comp : Comp outR outB outOk := fun o h a c => by
  unfold outR outB
  rw [num_comp.at1 o.amount h.1]
  simp only [Option.bind_some]
  rw [(cnt_comp 60 (by omega)).at2 o.lock.length (by have := h.2.1; omega)]
  simp only [Option.bind_some]
  have h4 := rep_comp op_comp o.lock h.2.2 (a ++ (Sz.wr o.amount ++ Sz.wr (o.lock.length : Nat))) c
  have e : a ++ (Sz.wr o.amount ++ (Sz.wr (o.lock.length : Nat) ++ (o.lock.map opB).flatten)) ++ c = a ++ (Sz.wr o.amount ++ Sz.wr (o.lock.length : Nat)) ++ (o.lock.map opB).flatten ++ c := by simp [List.append_assoc]
  have el : (a ++ (Sz.wr o.amount ++ Sz.wr (o.lock.length : Nat))).length = a.length + (Sz.wr o.amount).length + (Sz.wr (o.lock.length : Nat)).length := by simp only [List.length_append]; omega
  rw [el] at h4
  rw [e, h4]
  simp only [Option.map_some, List.length_append]
  exact congrArg (fun x => some (o, x)) (by omega)
/-- A payment's bytes, with any behind them, are read. -/
theorem pay_comp (t : Tx) (h : txOk t) (c : List Int) : payR (bytes t ++ c) = some (t, (bytes t).length) := by
  obtain ⟨h1, h2, h3, h4, h5⟩ := h
  unfold payR bytes
  have g1 := (cnt_comp 40 (by omega)).at1 t.ins.length (by omega) [] ((t.ins.map inB).flatten ++ (Sz.wr (t.outs.length : Nat) ++ ((t.outs.map outB).flatten ++ Sz.wr t.time))) c
  simp only [List.nil_append, List.length_nil, Nat.zero_add] at g1
  rw [g1]
  simp only [Option.bind_some]
  have g2 := rep_comp in_comp t.ins h2 (Sz.wr (t.ins.length : Nat)) (Sz.wr (t.outs.length : Nat) ++ ((t.outs.map outB).flatten ++ Sz.wr t.time) ++ c)
  have e2 : Sz.wr (t.ins.length : Nat) ++ ((t.ins.map inB).flatten ++ (Sz.wr (t.outs.length : Nat) ++ ((t.outs.map outB).flatten ++ Sz.wr t.time))) ++ c = Sz.wr (t.ins.length : Nat) ++ (t.ins.map inB).flatten ++ (Sz.wr (t.outs.length : Nat) ++ ((t.outs.map outB).flatten ++ Sz.wr t.time) ++ c) := by simp [List.append_assoc]
  rw [e2, g2]
  simp only [Option.bind_some]
  have g3 := (cnt_comp 40 (by omega)) t.outs.length (by omega) (Sz.wr (t.ins.length : Nat) ++ (t.ins.map inB).flatten) (((t.outs.map outB).flatten ++ Sz.wr t.time) ++ c)
  rw [List.length_append] at g3
  have e3 : Sz.wr (t.ins.length : Nat) ++ (t.ins.map inB).flatten ++ (Sz.wr (t.outs.length : Nat) ++ ((t.outs.map outB).flatten ++ Sz.wr t.time) ++ c) = Sz.wr (t.ins.length : Nat) ++ (t.ins.map inB).flatten ++ Sz.wr (t.outs.length : Nat) ++ (((t.outs.map outB).flatten ++ Sz.wr t.time) ++ c) := by simp [List.append_assoc]
  rw [e3, g3]
  simp only [Option.bind_some]
  have g4 := rep_comp out_comp t.outs h4 (Sz.wr (t.ins.length : Nat) ++ (t.ins.map inB).flatten ++ Sz.wr (t.outs.length : Nat)) (Sz.wr t.time ++ c)
  rw [List.length_append, List.length_append] at g4
  have e4 : Sz.wr (t.ins.length : Nat) ++ (t.ins.map inB).flatten ++ Sz.wr (t.outs.length : Nat) ++ (((t.outs.map outB).flatten ++ Sz.wr t.time) ++ c) = Sz.wr (t.ins.length : Nat) ++ (t.ins.map inB).flatten ++ Sz.wr (t.outs.length : Nat) ++ (t.outs.map outB).flatten ++ (Sz.wr t.time ++ c) := by simp [List.append_assoc]
  rw [e4, g4]
  simp only [Option.bind_some]
  have g5 := num_comp t.time h5 (Sz.wr (t.ins.length : Nat) ++ (t.ins.map inB).flatten ++ Sz.wr (t.outs.length : Nat) ++ (t.outs.map outB).flatten) c
  rw [List.length_append, List.length_append, List.length_append] at g5
  have e5 : Sz.wr (t.ins.length : Nat) ++ (t.ins.map inB).flatten ++ Sz.wr (t.outs.length : Nat) ++ (t.outs.map outB).flatten ++ (Sz.wr t.time ++ c) = Sz.wr (t.ins.length : Nat) ++ (t.ins.map inB).flatten ++ Sz.wr (t.outs.length : Nat) ++ (t.outs.map outB).flatten ++ Sz.wr t.time ++ c := by simp [List.append_assoc]
  rw [e5, g5]
  simp only [Option.map_some, List.length_append]
  exact congrArg (fun x => some (t, x)) (by omega)

theorem op_sound : Sound opR opB opOk := fun b hb p x q h => by
  unfold opR at h
  cases h1 : num b p with
  | none => rw [h1] at h; cases h
  | some x1 =>
  obtain ⟨x1, q1⟩ := x1
  rw [h1] at h
  simp only [Option.bind_some] at h
  cases h2 : num b q1 with
  | none => rw [h2] at h; cases h
  | some x2 =>
  obtain ⟨x2, q2⟩ := x2
  rw [h2] at h
  simp only [Option.bind_some] at h
  cases h3 : thing b q2 with
  | none => rw [h3] at h; cases h
  | some x3 =>
  obtain ⟨x3, q3⟩ := x3
  rw [h3] at h
  simp only [Option.map_some, Option.some.injEq, Prod.mk.injEq] at h
  obtain ⟨rfl, rfl⟩ := h
  obtain ⟨a1, a2, a3, a4⟩ := num_sound b hb p x1 q1 h1
  obtain ⟨b1, b2, b3, b4⟩ := num_sound b hb q1 x2 q2 h2
  obtain ⟨c1, c2, c3, c4⟩ := thing_sound b hb q2 x3 q3 h3
  obtain ⟨d1, d2⟩ := Sound.two b1 c1 b3 c3
  obtain ⟨e1, e2⟩ := Sound.two a1 d1 a3 d2
  exact ⟨e1, fun hp => c2 (b2 (a2 hp)), e2, a4, b4, c4.1⟩
theorem in_sound : Sound inR inB inOk := fun b hb p x q h => by
  unfold inR at h
  cases h1 : dig b p with
  | none => rw [h1] at h; cases h
  | some x1 =>
  obtain ⟨x1, q1⟩ := x1
  rw [h1] at h
  simp only [Option.bind_some] at h
  cases h2 : num b q1 with
  | none => rw [h2] at h; cases h
  | some x2 =>
  obtain ⟨x2, q2⟩ := x2
  rw [h2] at h
  simp only [Option.bind_some] at h
  cases h3 : cnt 30 b q2 with
  | none => rw [h3] at h; cases h
  | some x3 =>
  obtain ⟨x3, q3⟩ := x3
  rw [h3] at h
  simp only [Option.bind_some] at h
  cases h4 : rep (thing b) x3 q3 with
  | none => rw [h4] at h; cases h
  | some x4 =>
  obtain ⟨x4, q4⟩ := x4
  rw [h4] at h
  simp only [Option.map_some, Option.some.injEq, Prod.mk.injEq] at h
  obtain ⟨rfl, rfl⟩ := h
  obtain ⟨a1, a2, a3, a4⟩ := dig_sound b hb p x1 q1 h1
  obtain ⟨b1, b2, b3, b4⟩ := num_sound b hb q1 x2 q2 h2
  obtain ⟨c1, c2, c3, c4⟩ := cnt_sound 30 b hb q2 x3 q3 h3
  obtain ⟨d0, d1, d2, d3, d4⟩ := rep_sound thing_sound b hb x3 q3 x4 q4 h4
  subst d0
  obtain ⟨e1, e2⟩ := Sound.two c1 d1 c3 d3
  obtain ⟨f1, f2⟩ := Sound.two b1 e1 b3 e2
  obtain ⟨g1, g2⟩ := Sound.two a1 f1 a3 f2
  exact ⟨g1, fun hp => d2 (c2 (b2 (a2 hp))), g2, a4, b4, by dsimp only; omega, fun k hk => (d4 k hk).1⟩
theorem out_sound : Sound outR outB outOk := fun b hb p x q h => by
  unfold outR at h
  cases h1 : num b p with
  | none => rw [h1] at h; cases h
  | some x1 =>
  obtain ⟨x1, q1⟩ := x1
  rw [h1] at h
  simp only [Option.bind_some] at h
  cases h2 : cnt 60 b q1 with
  | none => rw [h2] at h; cases h
  | some x2 =>
  obtain ⟨x2, q2⟩ := x2
  rw [h2] at h
  simp only [Option.bind_some] at h
  cases h3 : rep (opR b) x2 q2 with
  | none => rw [h3] at h; cases h
  | some x3 =>
  obtain ⟨x3, q3⟩ := x3
  rw [h3] at h
  simp only [Option.map_some, Option.some.injEq, Prod.mk.injEq] at h
  obtain ⟨rfl, rfl⟩ := h
  obtain ⟨a1, a2, a3, a4⟩ := num_sound b hb p x1 q1 h1
  obtain ⟨b1, b2, b3, b4⟩ := cnt_sound 60 b hb q1 x2 q2 h2
  obtain ⟨d0, c1, c2, c3, c4⟩ := rep_sound op_sound b hb x2 q2 x3 q3 h3
  subst d0
  obtain ⟨d1, d2⟩ := Sound.two b1 c1 b3 c3
  obtain ⟨e1, e2⟩ := Sound.two a1 d1 a3 d2
  exact ⟨e1, fun hp => c2 (b2 (a2 hp)), e2, a4, by dsimp only; omega, c4⟩
/-- What is read of bytes is a payment whose bytes they begin with. -/
theorem pay_sound (b : List Int) (hb : Sz.Byt b) (t : Tx) (q : Nat) (h : payR b = some (t, q)) : (bytes t).length = q ∧ q ≤ b.length ∧ b.take (bytes t).length = bytes t ∧ txOk t := by
  unfold payR at h
  cases h1 : cnt 40 b 0 with
  | none => rw [h1] at h; cases h
  | some x1 =>
  obtain ⟨x1, q1⟩ := x1
  rw [h1] at h
  simp only [Option.bind_some] at h
  cases h2 : rep (inR b) x1 q1 with
  | none => rw [h2] at h; cases h
  | some x2 =>
  obtain ⟨x2, q2⟩ := x2
  rw [h2] at h
  simp only [Option.bind_some] at h
  cases h3 : cnt 40 b q2 with
  | none => rw [h3] at h; cases h
  | some x3 =>
  obtain ⟨x3, q3⟩ := x3
  rw [h3] at h
  simp only [Option.bind_some] at h
  cases h4 : rep (outR b) x3 q3 with
  | none => rw [h4] at h; cases h
  | some x4 =>
  obtain ⟨x4, q4⟩ := x4
  rw [h4] at h
  simp only [Option.bind_some] at h
  cases h5 : num b q4 with
  | none => rw [h5] at h; cases h
  | some x5 =>
  obtain ⟨x5, q5⟩ := x5
  rw [h5] at h
  simp only [Option.map_some, Option.some.injEq, Prod.mk.injEq] at h
  obtain ⟨rfl, rfl⟩ := h
  obtain ⟨a1, a2, a3, a4⟩ := cnt_sound 40 b hb 0 x1 q1 h1
  obtain ⟨b0, b1, b2, b3, b4⟩ := rep_sound in_sound b hb x1 q1 x2 q2 h2
  obtain ⟨c1, c2, c3, c4⟩ := cnt_sound 40 b hb q2 x3 q3 h3
  obtain ⟨d0, d1, d2, d3, d4⟩ := rep_sound out_sound b hb x3 q3 x4 q4 h4
  obtain ⟨e1, e2, e3, e4⟩ := num_sound b hb q4 x5 q5 h5
  subst b0
  subst d0
  obtain ⟨f1, f2⟩ := Sound.two d1 e1 d3 e3
  obtain ⟨g1, g2⟩ := Sound.two c1 f1 c3 f2
  obtain ⟨i1, i2⟩ := Sound.two b1 g1 b3 g2
  obtain ⟨j1, j2⟩ := Sound.two a1 i1 a3 i2
  rw [List.drop_zero] at j2
  exact ⟨by show (Sz.wr (x2.length : Nat) ++ ((x2.map inB).flatten ++ (Sz.wr (x4.length : Nat) ++ ((x4.map outB).flatten ++ Sz.wr x5)))).length = q5; rw [← j1, Nat.zero_add], e2 (d2 (c2 (b2 (a2 (Nat.zero_le _))))), j2, by dsimp only; omega, b4, by dsimp only; omega, d4, e4⟩

/-- What a payment without a fault has. -/
theorem keysF_zero (ks : List (List Int)) (h : keysF ks = 0) : ks.length ≤ 30 ∧ ∀ k ∈ ks, k.length ≤ 3000 := by
  unfold keysF at h
  by_cases h1 : 30 < ks.length
  · rw [if_pos h1] at h; cases h
  · rw [if_neg h1] at h
    cases h2 : ks.any (fun k => decide (3000 < k.length)) with
    | true => rw [h2] at h; simp at h
    | false =>
      refine ⟨by omega, fun k hk => ?_⟩
      have := (List.any_eq_false.1 h2) k hk
      simpa using this
theorem inF_zero (ah : List (List Int × Int)) (i : In) (h : inF ah i = 0) : 0 ≤ i.at' ∧ i.at' < 40 ∧ (i.tx, i.at') ∉ ah ∧ keysF i.keys = 0 := by
  unfold inF at h
  by_cases h1 : i.at' < 0 ∨ 40 ≤ i.at'
  · rw [if_pos h1] at h; cases h
  · rw [if_neg h1] at h
    by_cases h2 : (i.tx, i.at') ∈ ah
    · rw [if_pos h2] at h; cases h
    · rw [if_neg h2] at h; exact ⟨by omega, by omega, h2, h⟩
theorem insF_zero : ∀ (l : List In) (ah : List (List Int × Int)), insF ah l = 0 → ∀ i ∈ l, 0 ≤ i.at' ∧ i.at' < 40 ∧ keysF i.keys = 0 := by
  intro l
  induction l with
  | nil => intro ah _ i hi; cases hi
  | cons x r ih =>
    intro ah h i hi
    rw [insF] at h
    by_cases hx : inF ah x = 0
    · rw [if_pos hx] at h
      obtain ⟨h1, h2, _, h4⟩ := inF_zero ah x hx
      rcases List.mem_cons.1 hi with rfl | hi
      · exact ⟨h1, h2, h4⟩
      · exact ih _ h i hi
    · rw [if_neg hx] at h; exact absurd h hx
theorem outF_zero (o : Out) (h : outF o = 0) : Mo.ok o.amount ∧ Lk.check o.lock = 0 := by
  unfold outF at h
  by_cases h1 : Mo.ok o.amount
  · rw [Mo.chk_good _ h1, if_pos rfl] at h; exact ⟨h1, h⟩
  · rw [Mo.chk_bad _ h1, if_neg (by omega)] at h; cases h
theorem outsF_zero : ∀ (l : List Out), outsF l = 0 → ∀ o ∈ l, Mo.ok o.amount ∧ Lk.check o.lock = 0 := by
  intro l
  induction l with
  | nil => intro _ o ho; cases ho
  | cons x r ih =>
    intro h o ho
    rw [outsF] at h
    by_cases hx : outF x = 0
    · rw [if_pos hx] at h
      rcases List.mem_cons.1 ho with rfl | ho
      · exact outF_zero _ hx
      · exact ih h o ho
    · rw [if_neg hx] at h; exact absurd h hx
theorem check_zero (t : Tx) (h : check t = 0) : t.ins.length ≤ 40 ∧ t.outs.length ≤ 40 ∧ 0 < t.outs.length ∧ 0 ≤ t.time ∧ t.time ≤ 1073741824 ∧ insF [] t.ins = 0 ∧ outsF t.outs = 0 := by
  unfold check at h
  by_cases h1 : 40 < t.ins.length ∨ 40 < t.outs.length
  · rw [if_pos h1] at h; cases h
  rw [if_neg h1] at h
  by_cases h2 : t.outs.length = 0
  · rw [if_pos h2] at h; cases h
  rw [if_neg h2] at h
  by_cases h3 : t.time < 0 ∨ 1073741824 < t.time
  · rw [if_pos h3] at h; cases h
  rw [if_neg h3] at h
  by_cases h4 : insF [] t.ins = 0
  · rw [if_pos h4] at h; exact ⟨by omega, by omega, by omega, by omega, by omega, h4, h⟩
  · rw [if_neg h4] at h; exact absurd h h4
theorem opFault_zero (o : Lk.Op) (h : Lk.opFault o = 0) : 1 ≤ o.op ∧ o.op ≤ 14 ∧ 0 ≤ o.n ∧ o.n ≤ 1073741824 ∧ o.data.length ≤ 300 := by
  unfold Lk.opFault Lk.opF at h
  by_cases h1 : o.op < 1 ∨ 14 < o.op
  · rw [if_pos h1] at h; cases h
  rw [if_neg h1] at h
  by_cases h2 : o.n ≠ 0 ∧ ¬ (o.op = 9 ∨ o.op = 10)
  · rw [if_pos h2] at h; cases h
  rw [if_neg h2] at h
  by_cases h3 : 0 < o.data.length ∧ o.op ≠ 1
  · rw [if_pos h3] at h; cases h
  rw [if_neg h3] at h
  by_cases h4 : 300 < o.data.length
  · rw [if_pos h4] at h; cases h
  rw [if_neg h4] at h
  by_cases h5 : o.op = 9 ∧ (o.n < 1 ∨ 9 < o.n)
  · rw [if_pos h5] at h; cases h
  rw [if_neg h5] at h
  by_cases h6 : o.op = 10 ∧ (o.n < 0 ∨ 1073741824 < o.n)
  · rw [if_pos h6] at h; cases h
  refine ⟨by omega, by omega, ?_, ?_, by omega⟩
  all_goals
    by_cases h9 : o.op = 9
    · omega
    · by_cases h10 : o.op = 10
      · omega
      · have : o.n = 0 := by
          by_cases hn : o.n = 0
          · exact hn
          · exact absurd ⟨hn, fun h => by rcases h with h | h <;> omega⟩ h2
        omega
theorem lock_ok (l : List Lk.Op) (h : Lk.check l = 0) : l.length ≤ 60 ∧ ∀ x ∈ l, 1 ≤ x.op ∧ x.op ≤ 14 ∧ 0 ≤ x.n ∧ x.n ≤ 1073741824 ∧ x.data.length ≤ 300 := by
  obtain ⟨h1, h2, _⟩ := (Lk.check_zero l).1 h
  exact ⟨h1, fun x hx => opFault_zero x (Lk.opsFault_mem l h2 x hx)⟩
theorem check_ok (t : Tx) (h : check t = 0) (hd : ∀ i ∈ t.ins, dOk i.tx) : txOk t := by
  obtain ⟨h1, h2, h3, h4, h5, h6, h7⟩ := check_zero t h
  refine ⟨h1, fun i hi => ?_, h2, fun o ho => ?_, h4, by omega⟩
  · obtain ⟨a, b, c⟩ := insF_zero _ _ h6 i hi
    obtain ⟨d, e⟩ := keysF_zero _ c
    exact ⟨hd i hi, ⟨a, by omega⟩, d, fun k hk => by have := e k hk; omega⟩
  · obtain ⟨a, b⟩ := outsF_zero _ h7 o ho
    obtain ⟨c, d⟩ := lock_ok _ b
    refine ⟨⟨a.1, by have := a.2; omega⟩, c, fun x hx => ?_⟩
    obtain ⟨e1, e2, e3, e4, e5⟩ := d x hx
    exact ⟨⟨by omega, by omega⟩, ⟨e3, by omega⟩, by omega⟩
/-- What is sent is read. -/
theorem read_bytes (t : Tx) (h : check t = 0) (hd : ∀ i ∈ t.ins, dOk i.tx) : read (bytes t) = some t := by
  unfold read
  have := pay_comp t (check_ok t h hd) []
  rw [List.append_nil] at this
  rw [this]
  simp [h]
/-- What is read is those bytes. -/
theorem read_sound (b : List Int) (hb : Sz.Byt b) (t : Tx) (h : read b = some t) : bytes t = b ∧ check t = 0 ∧ txOk t := by
  unfold read at h
  cases hp : payR b with
  | none => rw [hp] at h; cases h
  | some x =>
    rw [hp] at h
    obtain ⟨x, q⟩ := x
    simp only [Option.bind_some] at h
    by_cases e : q = b.length ∧ check x = 0
    · rw [if_pos e] at h
      injection h with h
      subst h
      obtain ⟨h1, h2, h3, h4⟩ := pay_sound b hb x q hp
      rw [h1, e.1, List.take_length] at h3
      exact ⟨h3.symm, e.2, h4⟩
    · rw [if_neg e] at h; cases h
/-- No payment begins another one. -/
theorem read_torn (t : Tx) (h : check t = 0) (hd : ∀ i ∈ t.ins, dOk i.tx) (hb : Sz.Byt (bytes t)) (n : Nat) (hn : n < (bytes t).length) : read ((bytes t).take n) = none := by
  cases hr : read ((bytes t).take n) with
  | none => rfl
  | some y =>
    exfalso
    obtain ⟨h1, h2, h3⟩ := read_sound _ (hb.take n) y hr
    have h4 := pay_comp y h3 ((bytes t).drop n)
    rw [h1, List.take_append_drop] at h4
    have h5 := pay_comp t (check_ok t h hd) []
    rw [List.append_nil, h4] at h5
    simp only [Option.some.injEq, Prod.mk.injEq, List.length_take] at h5
    omega
theorem read_more (t : Tx) (h : check t = 0) (hd : ∀ i ∈ t.ins, dOk i.tx) (c : List Int) (hc : 0 < c.length) : read (bytes t ++ c) = none := by
  unfold read
  rw [pay_comp t (check_ok t h hd) c]
  simp only [Option.bind_some, List.length_append]
  rw [if_neg (by omega)]
end Go.Proofs.YtmjilohlchkicaaGreatDoor.Tm
