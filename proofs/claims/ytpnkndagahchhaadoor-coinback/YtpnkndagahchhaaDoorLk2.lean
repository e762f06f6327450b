/- Locks as lists: what the laws on them say. -/
import Derived.Test.YtpnkndagahchhaaDoorLk
namespace Go.Proofs.YtpnkndagahchhaaDoor.Lk
set_option linter.unusedVariables false

theorem opsFault_append (a b : List Op) : opsFault (a ++ b) = if opsFault a = 0 then opsFault b else opsFault a := by
  induction a with
  | nil => simp [opsFault]
  | cons o r ih =>
    rw [List.cons_append, opsFault, opsFault, ih]
    by_cases h : opFault o = 0
    · rw [if_pos h, if_pos h]
    · rw [if_neg h, if_neg h, if_neg h]
theorem opsFault_mem (l : List Op) (h : opsFault l = 0) : ∀ o ∈ l, opFault o = 0 := by
  induction l with
  | nil => intro o ho; cases ho
  | cons x r ih =>
    rw [opsFault] at h
    by_cases hx : opFault x = 0
    · rw [if_pos hx] at h
      intro o ho
      rcases List.mem_cons.1 ho with rfl | ho
      · exact hx
      · exact ih h o ho
    · rw [if_neg hx] at h; exact absurd h hx

theorem opFault_vals (o : Op) : opFault o = 0 ∨ opFault o = 1 ∨ opFault o = 2 ∨ opFault o = 4 := by
  unfold opFault opF
  repeat' split
  all_goals simp
theorem opsFault_vals (l : List Op) : opsFault l = 0 ∨ opsFault l = 1 ∨ opsFault l = 2 ∨ opsFault l = 4 := by
  induction l with
  | nil => exact .inl rfl
  | cons o r ih =>
    rw [opsFault]
    split
    · exact ih
    · exact opFault_vals o

theorem check_zero (l : List Op) : check l = 0 ↔ l.length ≤ 60 ∧ opsFault l = 0 ∧ pairs [] l = some [] := by
  unfold check
  by_cases h1 : 60 < l.length
  · rw [if_pos h1]; constructor
    · intro h; cases h
    · intro h; omega
  · rw [if_neg h1]
    by_cases h2 : opsFault l = 0
    · rw [if_pos h2]
      by_cases h3 : pairs [] l = some []
      · rw [if_pos h3]; exact ⟨fun _ => ⟨by omega, h2, h3⟩, fun _ => rfl⟩
      · rw [if_neg h3]; exact ⟨fun h => (by cases h), fun h => absurd h.2.2 h3⟩
    · rw [if_neg h2]; exact ⟨fun h => absurd h h2, fun h => absurd h.2.1 h2⟩

theorem run_checked (m : List Int) (h : Int) (l : List Op) (keys : List (List Int)) (hc : check l = 0) : run m h l keys = if 30 < keys.length then 4 else if keys.any (fun k => decide (3000 < k.length)) then 4 else ending (exec m h l keys.reverse) := by
  unfold run; rw [if_pos hc]

/-- Nothing but what the ops make is too much. -/
theorem put_le {x : List Int} {s s' : List (List Int)} (h : put x s = .ok s') (hs : s.length ≤ 30) : s'.length ≤ 30 := by
  unfold put at h
  split at h
  · cases h
  · injection h with h; subst h; simp only [List.length_cons]; omega
theorem doOp_le (m : List Int) (h : Int) (o : Op) (s s' : List (List Int)) (hs : s.length ≤ 30) (he : doOp m h o s = .ok s') : s'.length ≤ 30 := by
  unfold doOp at he
  by_cases h1 : o.op = 1
  · simp only [if_pos h1] at he
    exact put_le he hs
  by_cases h2 : o.op = 2
  · simp only [if_neg h1, if_pos h2] at he
    cases s with
    | nil => cases he
    | cons t s => (refine put_le he ?_; simp only [List.length_cons] at hs ⊢; omega)
  by_cases h3 : o.op = 3
  · simp only [if_neg h1, if_neg h2, if_pos h3] at he
    cases s with
    | nil => cases he
    | cons t s => (injection he with he; subst he; simp only [List.length_cons] at hs ⊢; omega)
  by_cases h4 : o.op = 4
  · simp only [if_neg h1, if_neg h2, if_neg h3, if_pos h4] at he
    rcases s with _ | ⟨t, _ | ⟨u, s⟩⟩
    · cases he
    · cases he
    · (injection he with he; subst he; simp only [List.length_cons] at hs ⊢; omega)
  by_cases h5 : o.op = 5
  · simp only [if_neg h1, if_neg h2, if_neg h3, if_neg h4, if_pos h5] at he
    rcases s with _ | ⟨t, _ | ⟨u, s⟩⟩
    · cases he
    · cases he
    · (refine put_le he ?_; simp only [List.length_cons] at hs ⊢; omega)
  by_cases h6 : o.op = 6
  · simp only [if_neg h1, if_neg h2, if_neg h3, if_neg h4, if_neg h5, if_pos h6] at he
    cases s with
    | nil => cases he
    | cons t s =>
      simp only [] at he
      split at he
      · (injection he with he; subst he; simp only [List.length_cons] at hs ⊢; omega)
      · cases he
  by_cases h7 : o.op = 7
  · simp only [if_neg h1, if_neg h2, if_neg h3, if_neg h4, if_neg h5, if_neg h6, if_pos h7] at he
    cases s with
    | nil => cases he
    | cons t s => (refine put_le he ?_; simp only [List.length_cons] at hs ⊢; omega)
  by_cases h8 : o.op = 8
  · simp only [if_neg h1, if_neg h2, if_neg h3, if_neg h4, if_neg h5, if_neg h6, if_neg h7, if_pos h8] at he
    rcases s with _ | ⟨t, _ | ⟨u, s⟩⟩
    · cases he
    · cases he
    · (refine put_le he ?_; simp only [List.length_cons] at hs ⊢; omega)
  by_cases h9 : o.op = 9
  · simp only [if_neg h1, if_neg h2, if_neg h3, if_neg h4, if_neg h5, if_neg h6, if_neg h7, if_neg h8, if_pos h9] at he
    cases s with
    | nil => cases he
    | cons t s =>
      simp only [] at he
      split at he
      · cases he
      · (refine put_le he ?_; simp only [List.length_cons, List.length_drop] at hs ⊢; omega)
  by_cases h10 : o.op = 10
  · simp only [if_neg h1, if_neg h2, if_neg h3, if_neg h4, if_neg h5, if_neg h6, if_neg h7, if_neg h8, if_neg h9, if_pos h10] at he
    split at he
    · cases he
    · (injection he with he; subst he; exact hs)
  by_cases h14 : o.op = 14
  · simp only [if_neg h1, if_neg h2, if_neg h3, if_neg h4, if_neg h5, if_neg h6, if_neg h7, if_neg h8, if_neg h9, if_neg h10, if_pos h14] at he
    cases s with
    | nil => cases he
    | cons t s => (refine put_le he ?_; simp only [List.length_cons] at hs ⊢; omega)
  simp only [if_neg h1, if_neg h2, if_neg h3, if_neg h4, if_neg h5, if_neg h6, if_neg h7, if_neg h8, if_neg h9, if_neg h10, if_neg h14] at he
  injection he with he; subst he; exact hs
theorem exec_le (m : List Int) (h : Int) : ∀ (n : Nat) (l : List Op) (s s' : List (List Int)), l.length ≤ n → s.length ≤ 30 → exec m h l s = .ok s' → s'.length ≤ 30 := by
  intro n
  induction n with
  | zero =>
    intro l s s' hn hs he
    have : l = [] := List.eq_nil_of_length_eq_zero (by omega)
    subst this
    rw [exec_nil] at he; injection he with he; subst he; exact hs
  | succ n ih =>
    intro l s s' hn hs he
    cases l with
    | nil => rw [exec_nil] at he; injection he with he; subst he; exact hs
    | cons o r =>
      have hsk := skip_le r 0
      simp only [List.length_cons] at hn
      rcases kind o with e | e | e | ⟨h1, h2, h3⟩
      · rw [exec_if _ _ _ _ _ e] at he
        cases s with
        | nil => cases he
        | cons t s =>
          simp only [List.length_cons] at he hs
          split at he
          · exact ih r s s' (by omega) (by omega) he
          · exact ih _ s s' (by omega) (by omega) he
      · rw [exec_else _ _ _ _ _ e] at he; exact ih _ s s' (by omega) hs he
      · rw [exec_end _ _ _ _ _ e] at he; exact ih r s s' (by omega) hs he
      · rw [exec_do _ _ _ _ _ h1 h2 h3] at he
        cases hd : doOp m h o s with
        | err c => rw [hd] at he; cases he
        | ok s1 =>
          rw [hd] at he
          exact ih r s1 s' (by omega) (doOp_le m h o s s1 hs hd) he

theorem exec_append0 (m : List Int) (h : Int) (a r : List Op) (s : List (List Int)) (hp : pairs [] a = some []) : exec m h (a ++ r) s = (exec m h a s).bind (fun s' => exec m h r s') :=
  exec_append m h r a.length a [] s (Nat.le_refl _) hp

/-- What is wrong within ops is never nothing. -/
theorem put_err {x : List Int} {s : List (List Int)} {c : Int} (h : put x s = .err c) : c = 4 := by
  unfold put at h
  split at h
  · injection h with h; exact h.symm
  · cases h
theorem doOp_err (m : List Int) (h : Int) (o : Op) (s : List (List Int)) (c : Int) (he : doOp m h o s = .err c) : c = 4 ∨ c = 7 ∨ c = 8 := by
  unfold doOp at he
  by_cases h1 : o.op = 1
  · simp only [if_pos h1] at he
    exact .inl (put_err he)
  by_cases h2 : o.op = 2
  · simp only [if_neg h1, if_pos h2] at he
    cases s with
    | nil => (injection he with he; subst he; simp)
    | cons t s => exact .inl (put_err he)
  by_cases h3 : o.op = 3
  · simp only [if_neg h1, if_neg h2, if_pos h3] at he
    cases s with
    | nil => (injection he with he; subst he; simp)
    | cons t s => cases he
  by_cases h4 : o.op = 4
  · simp only [if_neg h1, if_neg h2, if_neg h3, if_pos h4] at he
    rcases s with _ | ⟨t, _ | ⟨u, s⟩⟩
    · (injection he with he; subst he; simp)
    · (injection he with he; subst he; simp)
    · cases he
  by_cases h5 : o.op = 5
  · simp only [if_neg h1, if_neg h2, if_neg h3, if_neg h4, if_pos h5] at he
    rcases s with _ | ⟨t, _ | ⟨u, s⟩⟩
    · (injection he with he; subst he; simp)
    · (injection he with he; subst he; simp)
    · exact .inl (put_err he)
  by_cases h6 : o.op = 6
  · simp only [if_neg h1, if_neg h2, if_neg h3, if_neg h4, if_neg h5, if_pos h6] at he
    cases s with
    | nil => (injection he with he; subst he; simp)
    | cons t s =>
      simp only [] at he
      split at he
      · cases he
      · (injection he with he; subst he; simp)
  by_cases h7 : o.op = 7
  · simp only [if_neg h1, if_neg h2, if_neg h3, if_neg h4, if_neg h5, if_neg h6, if_pos h7] at he
    cases s with
    | nil => (injection he with he; subst he; simp)
    | cons t s => exact .inl (put_err he)
  by_cases h8 : o.op = 8
  · simp only [if_neg h1, if_neg h2, if_neg h3, if_neg h4, if_neg h5, if_neg h6, if_neg h7, if_pos h8] at he
    rcases s with _ | ⟨t, _ | ⟨u, s⟩⟩
    · (injection he with he; subst he; simp)
    · (injection he with he; subst he; simp)
    · exact .inl (put_err he)
  by_cases h9 : o.op = 9
  · simp only [if_neg h1, if_neg h2, if_neg h3, if_neg h4, if_neg h5, if_neg h6, if_neg h7, if_neg h8, if_pos h9] at he
    cases s with
    | nil => (injection he with he; subst he; simp)
    | cons t s =>
      simp only [] at he
      split at he
      · (injection he with he; subst he; simp)
      · exact .inl (put_err he)
  by_cases h10 : o.op = 10
  · simp only [if_neg h1, if_neg h2, if_neg h3, if_neg h4, if_neg h5, if_neg h6, if_neg h7, if_neg h8, if_neg h9, if_pos h10] at he
    split at he
    · (injection he with he; subst he; simp)
    · cases he
  by_cases h14 : o.op = 14
  · simp only [if_neg h1, if_neg h2, if_neg h3, if_neg h4, if_neg h5, if_neg h6, if_neg h7, if_neg h8, if_neg h9, if_neg h10, if_pos h14] at he
    cases s with
    | nil => (injection he with he; subst he; simp)
    | cons t s => exact .inl (put_err he)
  simp only [if_neg h1, if_neg h2, if_neg h3, if_neg h4, if_neg h5, if_neg h6, if_neg h7, if_neg h8, if_neg h9, if_neg h10, if_neg h14] at he
  cases he
theorem exec_err (m : List Int) (h : Int) : ∀ (n : Nat) (l : List Op) (s : List (List Int)) (c : Int), l.length ≤ n → exec m h l s = .err c → c = 4 ∨ c = 7 ∨ c = 8 := by
  intro n
  induction n with
  | zero =>
    intro l s c hn he
    have : l = [] := List.eq_nil_of_length_eq_zero (by omega)
    subst this
    rw [exec_nil] at he; cases he
  | succ n ih =>
    intro l s c hn he
    cases l with
    | nil => rw [exec_nil] at he; cases he
    | cons o r =>
      have hsk := skip_le r 0
      simp only [List.length_cons] at hn
      rcases kind o with e | e | e | ⟨h1, h2, h3⟩
      · rw [exec_if _ _ _ _ _ e] at he
        cases s with
        | nil => simp only [] at he; injection he with he; subst he; simp
        | cons t s =>
          simp only [] at he
          split at he
          · exact ih r s c (by omega) he
          · exact ih _ s c (by omega) he
      · rw [exec_else _ _ _ _ _ e] at he; exact ih _ s c (by omega) he
      · rw [exec_end _ _ _ _ _ e] at he; exact ih r s c (by omega) he
      · rw [exec_do _ _ _ _ _ h1 h2 h3] at he
        cases hd : doOp m h o s with
        | err c1 => rw [hd] at he; injection he with he; subst he; exact doOp_err m h o s _ hd
        | ok s1 => rw [hd] at he; exact ih r s1 c (by omega) he
/-! Not. -/
def notOp : Op := ⟨14, 0, []⟩
theorem notOp_fault : opFault notOp = 0 := by decide
theorem check_not (l : List Op) (hc : check l = 0) (hl : l.length + 1 ≤ 60) : check (l ++ [notOp]) = 0 := by
  obtain ⟨h1, h2, h3⟩ := (check_zero l).1 hc
  refine (check_zero _).2 ⟨by simp; omega, ?_, ?_⟩
  · rw [opsFault_append, if_pos h2]; decide
  · rw [pairs_append, h3]; rfl
def nots (s : List (List Int)) : Out := match s with
  | [] => .err 7
  | t :: s' => .ok ((if !isTrue t then [1] else []) :: s')
theorem exec_not (m : List Int) (h : Int) (l : List Op) (s : List (List Int)) (hp : pairs [] l = some []) (hs : s.length ≤ 30) : exec m h (l ++ [notOp]) s = (exec m h l s).bind nots := by
  rw [exec_append0 m h l _ s hp]
  cases he : exec m h l s with
  | err c => rfl
  | ok s' =>
    have hl := exec_le m h l.length l s s' (Nat.le_refl _) hs he
    show exec m h [notOp] s' = nots s'
    rw [exec_do _ _ _ _ _ (by decide) (by decide) (by decide)]
    cases s' with
    | nil => rfl
    | cons t s' =>
      have e : doOp m h notOp (t :: s') = tell (!isTrue t) s' := rfl
      simp only [List.length_cons] at hl
      rw [e]
      unfold tell put
      rw [if_neg (by omega)]
      show exec m h [] _ = _
      rw [exec_nil]; rfl
theorem isTrue_told (b : Bool) : isTrue (if b then [1] else []) = b := by cases b <;> rfl
theorem nots_end (o : Out) (hz : ∀ c, o = .err c → c ≠ 0) : (ending o = 0 → ending (o.bind nots) ≠ 0 ∧ ending ((o.bind nots).bind nots) = 0) ∧ (ending o ≠ 0 → ending (o.bind nots) = 0 → ending ((o.bind nots).bind nots) ≠ 0) ∧ (ending o ≠ 0 → ending (o.bind nots) ≠ 0 → ending (o.bind nots) = ending ((o.bind nots).bind nots)) := by
  cases o with
  | err c =>
    have hc := hz c rfl
    exact ⟨fun h => absurd h hc, fun h k => absurd k h, fun _ _ => rfl⟩
  | ok s =>
    cases s with
    | nil => refine ⟨fun h => (by cases h), fun h k => (by cases k), fun _ _ => rfl⟩
    | cons t s =>
      cases s with
      | cons u s => refine ⟨fun h => (by cases h), fun h k => (by cases k), fun _ _ => rfl⟩
      | nil =>
        have e1 : ending (.ok [t]) = if isTrue t then 0 else 7 := rfl
        have e2 : ending ((Out.ok [t]).bind nots) = if !isTrue t then 0 else 7 := by
          show (if isTrue (if !isTrue t then [1] else []) then (0 : Int) else 7) = _
          rw [isTrue_told]
        have e3 : ending (((Out.ok [t]).bind nots).bind nots) = if isTrue t then 0 else 7 := by
          show (if isTrue (if !isTrue (if !isTrue t then [1] else []) then [1] else []) then (0 : Int) else 7) = _
          rw [isTrue_told, isTrue_told, Bool.not_not]
        rw [e1, e2, e3]
        cases isTrue t <;> simp
/-- What LockNot says. -/
theorem law_not (m : List Int) (h : Int) (l : List Op) (keys : List (List Int)) (hc : check l = 0) (hl : l.length + 2 ≤ 60) :
    (run m h l keys = 0 → run m h (l ++ [notOp]) keys ≠ 0 ∧ run m h ((l ++ [notOp]) ++ [notOp]) keys = 0) ∧
    (run m h l keys ≠ 0 → run m h (l ++ [notOp]) keys = 0 → run m h ((l ++ [notOp]) ++ [notOp]) keys ≠ 0) ∧
    (run m h l keys ≠ 0 → run m h (l ++ [notOp]) keys ≠ 0 → run m h (l ++ [notOp]) keys = run m h ((l ++ [notOp]) ++ [notOp]) keys) := by
  have c1 := check_not l hc (by omega)
  have c2 := check_not (l ++ [notOp]) c1 (by simp; omega)
  have p0 := ((check_zero l).1 hc).2.2
  have p1 := ((check_zero _).1 c1).2.2
  rw [run_checked _ _ _ _ hc, run_checked _ _ _ _ c1, run_checked _ _ _ _ c2]
  by_cases k1 : 30 < keys.length
  · simp only [if_pos k1]; exact ⟨fun h => (by cases h), fun _ h => (by cases h), fun _ _ => trivial⟩
  · simp only [if_neg k1]
    by_cases k2 : keys.any (fun k => decide (3000 < k.length)) = true
    · simp only [if_pos k2]; exact ⟨fun h => (by cases h), fun _ h => (by cases h), fun _ _ => trivial⟩
    · simp only [if_neg k2]
      have hs : keys.reverse.length ≤ 30 := by simp; omega
      rw [exec_not m h _ _ p1 hs, exec_not m h _ _ p0 hs]
      exact nots_end _ (fun c hc => by have := exec_err m h l.length l _ c (Nat.le_refl _) hc; omega)

/-! Ahead of a lock. -/
theorem check_cons (o : Op) (l : List Op) (hc : check l = 0) (hl : l.length + 1 ≤ 60) (ho : opFault o = 0) (h1 : o.op ≠ 11) (h2 : o.op ≠ 12) (h3 : o.op ≠ 13) : check (o :: l) = 0 := by
  obtain ⟨k1, k2, k3⟩ := (check_zero l).1 hc
  refine (check_zero _).2 ⟨by simp; omega, ?_, ?_⟩
  · rw [opsFault, if_pos ho]; exact k2
  · rw [pairs_do _ _ _ h1 h2 h3]; exact k3
/-- What LockIdle says. -/
theorem law_push (m : List Int) (h : Int) (l : List Op) (keys : List (List Int)) (x : List Int) (hc : check l = 0) (hl : l.length + 2 ≤ 60) (hk : keys.length < 30) (hx : x.length ≤ 300) :
    run m h (⟨1, 0, x⟩ :: ⟨3, 0, []⟩ :: l) keys = run m h l keys := by
  have c1 : check (⟨3, 0, []⟩ :: l) = 0 := check_cons _ l hc (by omega) (by decide) (by simp) (by simp) (by simp)
  have c2 : check (⟨1, 0, x⟩ :: ⟨3, 0, []⟩ :: l) = 0 := check_cons _ _ c1 (by simp; omega) (by unfold opFault opF; simp; omega) (by simp) (by simp) (by simp)
  rw [run_checked _ _ _ _ hc, run_checked _ _ _ _ c2]
  have e : exec m h (⟨1, 0, x⟩ :: ⟨3, 0, []⟩ :: l) keys.reverse = exec m h l keys.reverse := by
    rw [exec_do _ _ _ _ _ (by simp) (by simp) (by simp)]
    have e1 : doOp m h ⟨1, 0, x⟩ keys.reverse = .ok (x :: keys.reverse) := by
      show put x keys.reverse = _
      unfold put; rw [if_neg (by simp; omega)]
    rw [e1]
    show exec m h (⟨3, 0, []⟩ :: l) (x :: keys.reverse) = _
    rw [exec_do _ _ _ _ _ (by simp) (by simp) (by simp)]
    rfl
  rw [e]
theorem law_dup (m : List Int) (h : Int) (l : List Op) (keys : List (List Int)) (hc : check l = 0) (hl : l.length + 2 ≤ 60) (hk : keys.length < 30) (h0 : keys.length ≠ 0) :
    run m h (⟨2, 0, []⟩ :: ⟨3, 0, []⟩ :: l) keys = run m h l keys := by
  have c1 : check (⟨3, 0, []⟩ :: l) = 0 := check_cons _ l hc (by omega) (by decide) (by simp) (by simp) (by simp)
  have c2 : check (⟨2, 0, []⟩ :: ⟨3, 0, []⟩ :: l) = 0 := check_cons _ _ c1 (by simp; omega) (by decide) (by simp) (by simp) (by simp)
  rw [run_checked _ _ _ _ hc, run_checked _ _ _ _ c2]
  have e : exec m h (⟨2, 0, []⟩ :: ⟨3, 0, []⟩ :: l) keys.reverse = exec m h l keys.reverse := by
    have hr : keys.reverse.length < 30 := by simp; omega
    have hr0 : keys.reverse.length ≠ 0 := by simpa using h0
    cases hk2 : keys.reverse with
    | nil => rw [hk2] at hr0; exact absurd rfl hr0
    | cons t s =>
      rw [hk2, List.length_cons] at hr
      rw [exec_do _ _ _ _ _ (by simp) (by simp) (by simp)]
      have e1 : doOp m h ⟨2, 0, []⟩ (t :: s) = .ok (t :: t :: s) := by
        show put t (t :: s) = _
        unfold put; rw [if_neg (by rw [List.length_cons]; omega)]
      rw [e1]
      show exec m h (⟨3, 0, []⟩ :: l) (t :: t :: s) = _
      rw [exec_do _ _ _ _ _ (by simp) (by simp) (by simp)]
      rfl
  rw [e]
/-- What LockSwaps says. -/
theorem exec_swap (m : List Int) (h : Int) (l : List Op) (t u : List Int) (s : List (List Int)) : exec m h (⟨4, 0, []⟩ :: l) (t :: u :: s) = exec m h l (u :: t :: s) := by
  rw [exec_do _ _ _ _ _ (by simp) (by simp) (by simp)]; rfl
theorem law_swap (m : List Int) (h : Int) (l : List Op) (ks : List (List Int)) (x y : List Int) (hc : check l = 0) (hl : l.length + 2 ≤ 60) :
    run m h (⟨4, 0, []⟩ :: ⟨4, 0, []⟩ :: l) (ks ++ [x, y]) = run m h l (ks ++ [x, y]) ∧ run m h (⟨4, 0, []⟩ :: l) (ks ++ [x, y]) = run m h l (ks ++ [y, x]) := by
  have c1 : check (⟨4, 0, []⟩ :: l) = 0 := check_cons _ l hc (by omega) (by decide) (by simp) (by simp) (by simp)
  have c2 : check (⟨4, 0, []⟩ :: ⟨4, 0, []⟩ :: l) = 0 := check_cons _ _ c1 (by simp; omega) (by decide) (by simp) (by simp) (by simp)
  rw [run_checked _ _ _ _ hc, run_checked _ _ _ _ c1, run_checked _ _ _ _ c2, run_checked _ _ _ _ hc]
  have r1 : (ks ++ [x, y]).reverse = y :: x :: ks.reverse := by simp
  have r2 : (ks ++ [y, x]).reverse = x :: y :: ks.reverse := by simp
  have a1 : (ks ++ [x, y]).any (fun k => decide (3000 < k.length)) = (ks ++ [y, x]).any (fun k => decide (3000 < k.length)) := by
    simp only [List.any_append, List.any_cons, List.any_nil, Bool.or_false]
    cases decide (3000 < x.length) <;> cases decide (3000 < y.length) <;> simp
  have l1 : (ks ++ [x, y]).length = (ks ++ [y, x]).length := by simp
  rw [r1, r2, exec_swap, exec_swap, exec_swap, a1, l1]
  exact ⟨rfl, rfl⟩

/-! After. -/
theorem doOp_later (m : List Int) (h h' : Int) (o : Op) (s s' : List (List Int)) (hh : h ≤ h') (he : doOp m h o s = .ok s') : doOp m h' o s = .ok s' := by
  by_cases h10 : o.op = 10
  · have e : ∀ g, doOp m g o s = if g < o.n then .err 8 else .ok s := fun g => by unfold doOp; simp [h10]
    rw [e] at he ⊢
    by_cases hn : h < o.n
    · rw [if_pos hn] at he; cases he
    · rw [if_neg hn] at he; rw [if_neg (by omega)]; exact he
  · have e : doOp m h' o s = doOp m h o s := by unfold doOp; simp only [if_neg h10]
    rw [e]; exact he
theorem exec_later (m : List Int) (h h' : Int) (hh : h ≤ h') : ∀ (n : Nat) (l : List Op) (s s' : List (List Int)), l.length ≤ n → exec m h l s = .ok s' → exec m h' l s = .ok s' := by
  intro n
  induction n with
  | zero =>
    intro l s s' hn he
    have : l = [] := List.eq_nil_of_length_eq_zero (by omega)
    subst this
    rw [exec_nil] at he ⊢; exact he
  | succ n ih =>
    intro l s s' hn he
    cases l with
    | nil => rw [exec_nil] at he ⊢; exact he
    | cons o r =>
      have hsk := skip_le r 0
      simp only [List.length_cons] at hn
      rcases kind o with e | e | e | ⟨h1, h2, h3⟩
      · rw [exec_if _ _ _ _ _ e] at he ⊢
        cases s with
        | nil => cases he
        | cons t s =>
          simp only [] at he ⊢
          split at he
          · rename_i ht; rw [if_pos ht]; exact ih r s s' (by omega) he
          · rename_i ht; rw [if_neg ht]; exact ih _ s s' (by omega) he
      · rw [exec_else _ _ _ _ _ e] at he ⊢; exact ih _ s s' (by omega) he
      · rw [exec_end _ _ _ _ _ e] at he ⊢; exact ih r s s' (by omega) he
      · rw [exec_do _ _ _ _ _ h1 h2 h3] at he ⊢
        cases hd : doOp m h o s with
        | err c => rw [hd] at he; cases he
        | ok s1 =>
          rw [hd] at he
          rw [doOp_later m h h' o s s1 hh hd]
          exact ih r s1 s' (by omega) he
/-- What LockAfter says. -/
theorem law_later (m : List Int) (h h' : Int) (l : List Op) (keys : List (List Int)) (hh : h ≤ h') (hr : run m h l keys = 0) : run m h' l keys = 0 := by
  by_cases hc : check l = 0
  · rw [run_checked _ _ _ _ hc] at hr ⊢
    by_cases k1 : 30 < keys.length
    · rw [if_pos k1] at hr; cases hr
    · rw [if_neg k1] at hr ⊢
      by_cases k2 : keys.any (fun k => decide (3000 < k.length)) = true
      · rw [if_pos k2] at hr; cases hr
      · rw [if_neg k2] at hr ⊢
        cases he : exec m h l keys.reverse with
        | err c =>
          rw [he] at hr
          have := exec_err m h l.length l _ c (Nat.le_refl _) he
          simp only [ending] at hr
          omega
        | ok s' => rw [he] at hr; rw [exec_later m h h' hh l.length l _ s' (Nat.le_refl _) he]; exact hr
  · unfold run at hr; rw [if_neg hc] at hr; exact absurd hr hc
theorem law_after (m : List Int) (h : Int) (l : List Op) (keys : List (List Int)) (n : Int) (hc : check l = 0) (hl : l.length < 60) (h0 : 0 ≤ n) (h1 : n ≤ 1073741824) :
    (h < n → run m h (⟨10, n, []⟩ :: l) keys ≠ 0) ∧ (n ≤ h → run m h (⟨10, n, []⟩ :: l) keys = run m h l keys) := by
  have c1 : check (⟨10, n, []⟩ :: l) = 0 := check_cons _ l hc (by omega) (by unfold opFault opF; simp; omega) (by simp) (by simp) (by simp)
  rw [run_checked _ _ _ _ hc, run_checked _ _ _ _ c1, exec_do _ _ _ _ _ (by simp) (by simp) (by simp)]
  have e : doOp m h ⟨10, n, []⟩ keys.reverse = if h < n then .err 8 else .ok keys.reverse := rfl
  rw [e]
  constructor
  · intro hn
    rw [if_pos hn]
    split
    · decide
    · split
      · decide
      · show (8 : Int) ≠ 0; decide
  · intro hn
    have hn' : ¬ h < n := by omega
    simp only [if_neg hn']; rfl

/-! Either. -/
def either (a b : List Op) : List Op := (⟨11, 0, []⟩ :: a) ++ [⟨12, 0, []⟩] ++ b ++ [⟨13, 0, []⟩]
theorem either_eq (a b : List Op) : either a b = ⟨11, 0, []⟩ :: (a ++ (⟨12, 0, []⟩ :: (b ++ [⟨13, 0, []⟩]))) := by simp [either]
theorem check_either (a b : List Op) (ha : check a = 0) (hb : check b = 0) (hl : a.length + b.length + 3 ≤ 60) : check (either a b) = 0 := by
  obtain ⟨a1, a2, a3⟩ := (check_zero a).1 ha
  obtain ⟨b1, b2, b3⟩ := (check_zero b).1 hb
  refine (check_zero _).2 ⟨by rw [either_eq]; simp; omega, ?_, ?_⟩
  · rw [either_eq, opsFault, if_pos (by decide), opsFault_append, if_pos a2, opsFault, if_pos (by decide), opsFault_append, if_pos b2]; decide
  · rw [either_eq, pairs_if _ _ _ rfl, pairs_append]
    have pa := pairs_under a [] [] [false] a3
    simp only [List.nil_append] at pa
    rw [pa]
    show pairs [false] (⟨12, 0, []⟩ :: (b ++ [⟨13, 0, []⟩])) = _
    rw [pairs_else _ _ _ _ rfl]
    simp only [Bool.false_eq_true, if_false]
    rw [pairs_append]
    have pb := pairs_under b [] [] [true] b3
    simp only [List.nil_append] at pb
    rw [pb]
    rfl
theorem exec_either (m : List Int) (h : Int) (a b : List Op) (t : List Int) (s : List (List Int)) (pa : pairs [] a = some []) (pb : pairs [] b = some []) : exec m h (either a b) (t :: s) = if isTrue t then exec m h a s else exec m h b s := by
  rw [either_eq, exec_if _ _ _ _ _ rfl]
  simp only []
  split
  · rw [exec_append0 m h a _ s pa]
    cases exec m h a s with
    | err c => rfl
    | ok s' =>
      show exec m h (⟨12, 0, []⟩ :: (b ++ [⟨13, 0, []⟩])) s' = _
      rw [exec_else _ _ _ _ _ rfl]
      have := skip_past b [⟨13, 0, []⟩] [] [] 0 pb
      simp only [List.length_nil, Nat.add_zero] at this
      rw [this, skip_end _ _ _ rfl, if_pos rfl, exec_nil]
  · have := skip_past a (⟨12, 0, []⟩ :: (b ++ [⟨13, 0, []⟩])) [] [] 0 pa
    simp only [List.length_nil, Nat.add_zero] at this
    rw [this, skip_else _ _ _ rfl, if_pos rfl, exec_append0 m h b _ s pb]
    cases exec m h b s with
    | err c => rfl
    | ok s' =>
      show exec m h [⟨13, 0, []⟩] s' = _
      rw [exec_end _ _ _ _ _ rfl, exec_nil]
/-- What LockEither says. -/
theorem law_either (m : List Int) (h : Int) (a b : List Op) (keys : List (List Int)) (way : List Int) (ha : check a = 0) (hb : check b = 0) (hl : a.length + b.length + 3 ≤ 60) (hk : keys.length < 30) (hw : way.length ≤ 3000) :
    run m h (either a b) (keys ++ [way]) = if isTrue way then run m h a keys else run m h b keys := by
  have pa := ((check_zero a).1 ha).2.2
  have pb := ((check_zero b).1 hb).2.2
  rw [run_checked _ _ _ _ (check_either a b ha hb hl), run_checked _ _ _ _ ha, run_checked _ _ _ _ hb]
  have e1 : (keys ++ [way]).reverse = way :: keys.reverse := by simp
  have e2 : (keys ++ [way]).any (fun k => decide (3000 < k.length)) = keys.any (fun k => decide (3000 < k.length)) := by
    have : decide (3000 < way.length) = false := decide_eq_false (by omega)
    simp [List.any_append, this]
  have k1 : ¬ 30 < (keys ++ [way]).length := by simp; omega
  have k2 : ¬ 30 < keys.length := by omega
  rw [e1, e2, exec_either m h a b way _ pa pb, if_neg k1, if_neg k2, if_neg k2]
  split
  · split <;> rfl
  · split <;> rfl

/-! A text, a key. -/
theorem law_hash (m : List Int) (h : Int) (d k : List Int) (hd : d.length = 32) (hk : k.length ≤ 3000) : run m h [⟨7, 0, []⟩, ⟨1, 0, d⟩, ⟨5, 0, []⟩] [k] = if d = Sh.sum k then 0 else 7 := by
  have hc : check [⟨7, 0, []⟩, ⟨1, 0, d⟩, ⟨5, 0, []⟩] = 0 := by
    refine (check_zero _).2 ⟨by simp, ?_, rfl⟩
    simp [opsFault, opFault, opF, hd]
  rw [run_checked _ _ _ _ hc, if_neg (by simp), if_neg (by simp; omega)]
  have e : exec m h [⟨7, 0, []⟩, ⟨1, 0, d⟩, ⟨5, 0, []⟩] [k] = .ok [if decide (d = Sh.sum k) then [1] else []] := by
    rw [exec_do _ _ _ _ _ (by simp) (by simp) (by simp)]
    show exec m h [⟨1, 0, d⟩, ⟨5, 0, []⟩] [Sh.sum k] = _
    rw [exec_do _ _ _ _ _ (by simp) (by simp) (by simp)]
    show exec m h [⟨5, 0, []⟩] [d, Sh.sum k] = _
    rw [exec_do _ _ _ _ _ (by simp) (by simp) (by simp)]
    show exec m h [] [if decide (d = Sh.sum k) then [1] else []] = _
    rw [exec_nil]
  rw [show ([k] : List (List Int)).reverse = [k] from rfl, e]
  show (if isTrue (if decide (d = Sh.sum k) then [1] else []) then (0 : Int) else 7) = _
  rw [isTrue_told]
  simp
theorem law_signed (m : List Int) (h : Int) (p sig : List Int) (hp : p.length = 32) : run m h [⟨1, 0, p⟩, ⟨8, 0, []⟩] [sig] = if 3000 < sig.length then 4 else if signed m sig p then 0 else 7 := by
  have hc : check [⟨1, 0, p⟩, ⟨8, 0, []⟩] = 0 := by
    refine (check_zero _).2 ⟨by simp, ?_, rfl⟩
    simp [opsFault, opFault, opF, hp]
  rw [run_checked _ _ _ _ hc, if_neg (by simp)]
  by_cases hs : 3000 < sig.length
  · rw [if_pos (by simp [hs]), if_pos hs]
  · rw [if_neg (by simp; omega), if_neg hs]
    have e : exec m h [⟨1, 0, p⟩, ⟨8, 0, []⟩] [sig] = .ok [if signed m sig p then [1] else []] := by
      rw [exec_do _ _ _ _ _ (by simp) (by simp) (by simp)]
      show exec m h [⟨8, 0, []⟩] [p, sig] = _
      rw [exec_do _ _ _ _ _ (by simp) (by simp) (by simp)]
      show exec m h [] [if signed m sig p then [1] else []] = _
      rw [exec_nil]
    rw [show ([sig] : List (List Int)).reverse = [sig] from rfl, e]
    show (if isTrue (if signed m sig p then [1] else []) then (0 : Int) else 7) = _
    rw [isTrue_told]
/-- No ops, one thing at hand. -/
theorem law_bare (m : List Int) (h : Int) (k : List Int) (hk : k.length ≤ 3000) : run m h [] [k] = if isTrue k then 0 else 7 := by
  have hc : check [] = 0 := by decide
  rw [run_checked _ _ _ _ hc, if_neg (by simp), if_neg (by simp; omega)]
  show ending (exec m h [] [k]) = _
  rw [exec_nil]; rfl
end Go.Proofs.YtpnkndagahchhaaDoor.Lk
