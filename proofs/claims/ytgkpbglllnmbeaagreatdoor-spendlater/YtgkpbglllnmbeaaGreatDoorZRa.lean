/- The texts LkRa, LkEnd, LkRb, LkRc, one behind the other. -/
import Derived.Test.YtgkpbglllnmbeaaGreatDoorZLk
import Derived.Test.YtgkpbglllnmbeaaGreatDoorZKg
/- The document's answer on locks: what is wrong with an op by itself. -/
namespace Go.Proofs.YtgkpbglllnmbeaaGreatDoor
open Go.RowKit
set_option linter.unusedVariables false

end Go.Proofs.YtgkpbglllnmbeaaGreatDoor

/- Where ops that are within one If end, as lists: and what that says of pairs. -/
namespace Go.Proofs.YtgkpbglllnmbeaaGreatDoor.Lk
set_option linter.unusedVariables false

/-- What stands from the Else or End on that is not of these ops' own Ifs; none: they do not stand in pairs. So many steps. -/
def endd : Nat → List Op → Option (List Op)
  | 0, _ => none
  | _ + 1, [] => some []
  | n + 1, o :: r =>
    if o.op = 12 ∨ o.op = 13 then some (o :: r)
    else if o.op ≠ 11 then endd n r
    else match behd (endd n r) (fun q => endd n q) with
      | none => none
      | some q => endd n q
where
  /-- What stands behind the End of an If, whose ops end so. -/
  behd (k : Option (List Op)) (again : List Op → Option (List Op)) : Option (List Op) :=
    match k with
    | none => none
    | some [] => none
    | some (o :: r) =>
      if o.op = 12 then
        match again r with
        | some (o2 :: r2) => if o2.op = 13 then some r2 else none
        | _ => none
      else if o.op = 13 then some r else none

theorem endd_le : ∀ (n : Nat) (l q : List Op), endd n l = some q → q.length ≤ l.length := by
  intro n
  induction n with
  | zero => intro l q h; cases h
  | succ n ih =>
    intro l q h
    cases l with
    | nil => rw [endd] at h; cases h; exact Nat.le_refl _
    | cons o r =>
      rw [endd] at h
      split at h
      · cases h; exact Nat.le_refl _
      · split at h
        · have := ih r q h; simp; omega
        · rename_i h1 h2
          cases hk : endd n r with
          | none => rw [hk] at h; simp [endd.behd] at h
          | some k =>
            have hk1 := ih r k hk
            rw [hk] at h
            cases k with
            | nil => simp [endd.behd] at h
            | cons o2 r2 =>
              simp only [endd.behd] at h
              simp only [List.length_cons] at hk1
              by_cases e12 : o2.op = 12
              · simp only [if_pos e12] at h
                cases hk2 : endd n r2 with
                | none => rw [hk2] at h; simp at h
                | some k2 =>
                  have hk3 := ih r2 k2 hk2
                  rw [hk2] at h
                  cases k2 with
                  | nil => simp at h
                  | cons o3 r3 =>
                    simp only [List.length_cons] at hk3
                    by_cases e13 : o3.op = 13
                    · simp only [if_pos e13] at h
                      have := ih r3 q h
                      simp; omega
                    · simp [if_neg e13] at h
              · simp only [if_neg e12] at h
                by_cases e13 : o2.op = 13
                · simp only [if_pos e13] at h
                  have := ih r2 q h
                  simp; omega
                · simp [if_neg e13] at h
/-- What is left begins with an Else or an End, or is nothing. -/
theorem endd_head : ∀ (n : Nat) (l q : List Op), endd n l = some q → q = [] ∨ ∃ o r, q = o :: r ∧ (o.op = 12 ∨ o.op = 13) := by
  intro n
  induction n with
  | zero => intro l q h; cases h
  | succ n ih =>
    intro l q h
    cases l with
    | nil => rw [endd] at h; cases h; exact .inl rfl
    | cons o r =>
      rw [endd] at h
      split at h
      · rename_i hh; cases h; exact .inr ⟨o, r, rfl, hh⟩
      · split at h
        · exact ih r q h
        · split at h
          · cases h
          · exact ih _ q h
/-- Enough steps: and what is said of pairs. -/
theorem endd_pairs : ∀ (n : Nat) (l : List Op), l.length < n → match endd n l with
    | some q => ∀ st, pairs st l = pairs st q
    | none => ∀ st, pairs st l ≠ some [] := by
  intro n
  induction n with
  | zero => intro l h; omega
  | succ n ih =>
    intro l hl
    cases l with
    | nil => rw [endd]; exact fun st => rfl
    | cons o r =>
      simp only [List.length_cons] at hl
      rw [endd]
      by_cases h1 : o.op = 12 ∨ o.op = 13
      · rw [if_pos h1]; exact fun st => rfl
      · rw [if_neg h1]
        by_cases h2 : o.op ≠ 11
        · rw [if_pos h2]
          have := ih r (by omega)
          split at this
          · rename_i q hq
            intro st
            rw [pairs_do _ _ _ h2 (by omega) (by omega)]; exact this st
          · rename_i hq
            intro st
            rw [pairs_do _ _ _ h2 (by omega) (by omega)]; exact this st
        · have h11 : o.op = 11 := by omega
          rw [if_neg h2]
          have i1 := ih r (by omega)
          cases hk : endd n r with
          | none =>
            rw [hk] at i1
            simp only [endd.behd]
            intro st
            rw [pairs_if _ _ _ h11]; exact i1 _
          | some k =>
            rw [hk] at i1
            have hkl := endd_le n r k hk
            rcases endd_head n r k hk with rfl | ⟨o2, r2, rfl, h2k⟩
            · simp only [endd.behd]
              intro st
              rw [pairs_if _ _ _ h11, i1]
              simp [pairs]
            · simp only [List.length_cons] at hkl
              simp only [endd.behd]
              by_cases e12 : o2.op = 12
              · simp only [if_pos e12]
                have i2 := ih r2 (by omega)
                cases hk2 : endd n r2 with
                | none =>
                  rw [hk2] at i2
                  simp only []
                  intro st
                  rw [pairs_if _ _ _ h11, i1, pairs_else _ _ _ _ e12]
                  simp only [Bool.false_eq_true, if_false]
                  exact i2 _
                | some k2 =>
                  rw [hk2] at i2
                  have hk2l := endd_le n r2 k2 hk2
                  rcases endd_head n r2 k2 hk2 with rfl | ⟨o3, r3, rfl, h3k⟩
                  · simp only []
                    intro st
                    rw [pairs_if _ _ _ h11, i1, pairs_else _ _ _ _ e12]
                    simp only [Bool.false_eq_true, if_false]
                    rw [i2]
                    simp [pairs]
                  · simp only [List.length_cons] at hk2l
                    by_cases e13 : o3.op = 13
                    · simp only [if_pos e13]
                      have i3 := ih r3 (by omega)
                      have red : ∀ st, pairs st (o :: r) = pairs st r3 := fun st => by
                        rw [pairs_if _ _ _ h11, i1, pairs_else _ _ _ _ e12]
                        simp only [Bool.false_eq_true, if_false]
                        rw [i2, pairs_end _ _ _ _ e13]
                      cases hk3 : endd n r3 with
                      | none =>
                        rw [hk3] at i3
                        simp only []
                        intro st; rw [red]; exact i3 st
                      | some k3 =>
                        rw [hk3] at i3
                        simp only []
                        intro st; rw [red]; exact i3 st
                    · have e3 : o3.op = 12 := by omega
                      simp only [if_neg e13]
                      intro st
                      rw [pairs_if _ _ _ h11, i1, pairs_else _ _ _ _ e12]
                      simp only [Bool.false_eq_true, if_false]
                      rw [i2, pairs_else _ _ _ _ e3]
                      simp
              · have e13 : o2.op = 13 := by omega
                simp only [if_neg e12, if_pos e13]
                have i3 := ih r2 (by omega)
                have red : ∀ st, pairs st (o :: r) = pairs st r2 := fun st => by
                  rw [pairs_if _ _ _ h11, i1, pairs_end _ _ _ _ e13]
                cases hk3 : endd n r2 with
                | none =>
                  rw [hk3] at i3
                  simp only []
                  intro st; rw [red]; exact i3 st
                | some k3 =>
                  rw [hk3] at i3
                  simp only []
                  intro st; rw [red]; exact i3 st
/-- More steps are no matter. -/
theorem endd_more : ∀ (n : Nat) (l : List Op) (k : Nat), l.length < n → endd (n + k) l = endd n l := by
  intro n
  induction n with
  | zero => intro l k h; omega
  | succ n ih =>
    intro l k hl
    rw [Nat.add_right_comm]
    cases l with
    | nil => rw [endd, endd]
    | cons o r =>
      simp only [List.length_cons] at hl
      rw [endd, endd, ih r k (by omega)]
      by_cases h1 : o.op = 12 ∨ o.op = 13
      · rw [if_pos h1, if_pos h1]
      · rw [if_neg h1, if_neg h1]
        by_cases h2 : o.op ≠ 11
        · rw [if_pos h2, if_pos h2]
        · rw [if_neg h2, if_neg h2]
          cases hk : endd n r with
          | none => rfl
          | some q =>
            have hql := endd_le n r q hk
            cases q with
            | nil => rfl
            | cons o2 r2 =>
              simp only [List.length_cons] at hql
              simp only [endd.behd]
              rw [ih r2 k (by omega)]
              by_cases e12 : o2.op = 12
              · simp only [if_pos e12]
                cases hk2 : endd n r2 with
                | none => rfl
                | some q2 =>
                  have hq2l := endd_le n r2 q2 hk2
                  cases q2 with
                  | nil => rfl
                  | cons o3 r3 =>
                    simp only [List.length_cons] at hq2l
                    by_cases e13 : o3.op = 13
                    · simp only [if_pos e13]
                      exact ih r3 k (by omega)
                    · simp only [if_neg e13]
              · simp only [if_neg e12]
                by_cases e13 : o2.op = 13
                · simp only [if_pos e13]
                  exact ih r2 k (by omega)
                · simp only [if_neg e13]
/-- Where they end. -/
def ended (l : List Op) : Option (List Op) := endd (l.length + 1) l
theorem ended_of (n : Nat) (l : List Op) (h : l.length < n) : endd n l = ended l := by
  unfold ended
  have := endd_more (l.length + 1) l (n - (l.length + 1)) (by omega)
  rwa [show l.length + 1 + (n - (l.length + 1)) = n by omega] at this
/-- What stands behind the End of an If, of what stands behind it. -/
def behind (r : List Op) : Option (List Op) :=
  match ended r with
  | none => none
  | some [] => none
  | some (o :: q) =>
    if o.op = 12 then
      match ended q with
      | some (o2 :: q2) => if o2.op = 13 then some q2 else none
      | _ => none
    else if o.op = 13 then some q else none
theorem ended_le (l q : List Op) (h : ended l = some q) : q.length ≤ l.length := endd_le _ l q h
theorem ended_head (l q : List Op) (h : ended l = some q) : q = [] ∨ ∃ o r, q = o :: r ∧ (o.op = 12 ∨ o.op = 13) := endd_head _ l q h
theorem behind_lt (r q : List Op) (h : behind r = some q) : q.length < r.length := by
  unfold behind at h
  cases hk : ended r with
  | none => rw [hk] at h; cases h
  | some k =>
    rw [hk] at h
    have hkl := ended_le r k hk
    cases k with
    | nil => cases h
    | cons o k =>
      simp only [List.length_cons] at hkl
      simp only [] at h
      by_cases e12 : o.op = 12
      · simp only [if_pos e12] at h
        cases hk2 : ended k with
        | none => rw [hk2] at h; simp at h
        | some k2 =>
          have hk2l := ended_le k k2 hk2
          rw [hk2] at h
          cases k2 with
          | nil => simp at h
          | cons o2 k2 =>
            simp only [List.length_cons] at hk2l
            by_cases e13 : o2.op = 13
            · simp only [if_pos e13, Option.some.injEq] at h; subst h; omega
            · simp [if_neg e13] at h
      · simp only [if_neg e12] at h
        by_cases e13 : o.op = 13
        · simp only [if_pos e13, Option.some.injEq] at h; subst h; omega
        · simp [if_neg e13] at h
theorem ended_nil : ended [] = some [] := rfl
theorem ended_stop (o : Op) (r : List Op) (h : o.op = 12 ∨ o.op = 13) : ended (o :: r) = some (o :: r) := by
  unfold ended; rw [List.length_cons, endd, if_pos h]
theorem ended_do (o : Op) (r : List Op) (h1 : o.op ≠ 11) (h2 : o.op ≠ 12) (h3 : o.op ≠ 13) : ended (o :: r) = ended r := by
  unfold ended; rw [List.length_cons, endd, if_neg (by omega), if_pos h1]
theorem ended_if (o : Op) (r : List Op) (h : o.op = 11) : ended (o :: r) = match behind r with
    | none => none
    | some q => ended q := by
  have hb : endd.behd (endd (r.length + 1) r) (fun q => endd (r.length + 1) q) = behind r := by
    unfold behind
    rw [show endd (r.length + 1) r = ended r from rfl]
    cases hk : ended r with
    | none => rfl
    | some k =>
      have hkl := ended_le r k hk
      cases k with
      | nil => rfl
      | cons o2 k =>
        simp only [List.length_cons] at hkl
        simp only [endd.behd]
        rw [ended_of (r.length + 1) k (by omega)]
  show endd ((o :: r).length + 1) (o :: r) = _
  rw [List.length_cons, endd, if_neg (by omega), if_neg (by omega), hb]
  cases hq : behind r with
  | none => rfl
  | some q =>
    have := behind_lt r q hq
    exact ended_of _ q (by omega)
/-- Ops that stand in pairs are those behind which nothing is left. -/
theorem pairs_endd (l : List Op) (n : Nat) (hn : l.length < n) : (pairs [] l = some []) ↔ endd n l = some [] := by
  have h := endd_pairs n l hn
  cases hk : endd n l with
  | none => rw [hk] at h; exact ⟨fun e => absurd e (h []), fun e => by cases e⟩
  | some q =>
    rw [hk] at h
    rcases endd_head n l q hk with rfl | ⟨o, r, rfl, ho⟩
    · exact ⟨fun _ => rfl, fun _ => by rw [h []]; rfl⟩
    · refine ⟨fun e => ?_, fun e => by cases e⟩
      rw [h []] at e
      rcases ho with ho | ho
      · rw [pairs_else0 _ _ ho] at e; cases e
      · rw [pairs_end0 _ _ ho] at e; cases e
theorem endd_suffix : ∀ (n : Nat) (l q : List Op), endd n l = some q → q <:+ l := by
  intro n
  induction n with
  | zero => intro l q h; cases h
  | succ n ih =>
    intro l q h
    cases l with
    | nil => rw [endd] at h; cases h; exact List.suffix_refl _
    | cons o r =>
      rw [endd] at h
      split at h
      · cases h; exact List.suffix_refl _
      · split at h
        · exact (ih r q h).trans (List.suffix_cons _ _)
        · cases hk : endd n r with
          | none => rw [hk] at h; simp [endd.behd] at h
          | some k =>
            have hk1 := ih r k hk
            rw [hk] at h
            cases k with
            | nil => simp [endd.behd] at h
            | cons o2 r2 =>
              simp only [endd.behd] at h
              by_cases e12 : o2.op = 12
              · simp only [if_pos e12] at h
                cases hk2 : endd n r2 with
                | none => rw [hk2] at h; simp at h
                | some k2 =>
                  have hk3 := ih r2 k2 hk2
                  rw [hk2] at h
                  cases k2 with
                  | nil => simp at h
                  | cons o3 r3 =>
                    by_cases e13 : o3.op = 13
                    · simp only [if_pos e13] at h
                      exact (((((ih r3 q h).trans (List.suffix_cons _ _)).trans hk3).trans (List.suffix_cons _ _)).trans hk1).trans (List.suffix_cons _ _)
                    · simp [if_neg e13] at h
              · simp only [if_neg e12] at h
                by_cases e13 : o2.op = 13
                · simp only [if_pos e13] at h
                  exact (((ih r2 q h).trans (List.suffix_cons _ _)).trans hk1).trans (List.suffix_cons _ _)
                · simp [if_neg e13] at h
theorem ended_suffix (l q : List Op) (h : ended l = some q) : q <:+ l := endd_suffix _ l q h
theorem suffix_drop {l q : List Op} (h : q <:+ l) : l.drop (l.length - q.length) = q := by
  obtain ⟨t, rfl⟩ := h
  simp
theorem behind_suffix (r q : List Op) (h : behind r = some q) : q <:+ r := by
  unfold behind at h
  cases hk : ended r with
  | none => rw [hk] at h; cases h
  | some k =>
    rw [hk] at h
    have hkl := ended_suffix r k hk
    cases k with
    | nil => cases h
    | cons o k =>
      simp only [] at h
      by_cases e12 : o.op = 12
      · simp only [if_pos e12] at h
        cases hk2 : ended k with
        | none => rw [hk2] at h; simp at h
        | some k2 =>
          have hk2l := ended_suffix k k2 hk2
          rw [hk2] at h
          cases k2 with
          | nil => simp at h
          | cons o2 k2 =>
            by_cases e13 : o2.op = 13
            · simp only [if_pos e13, Option.some.injEq] at h; subst h
              exact (((List.suffix_cons _ _).trans hk2l).trans (List.suffix_cons _ _)).trans hkl
            · simp [if_neg e13] at h
      · simp only [if_neg e12] at h
        by_cases e13 : o.op = 13
        · simp only [if_pos e13, Option.some.injEq] at h; subst h
          exact (List.suffix_cons _ _).trans hkl
        · simp [if_neg e13] at h
theorem pairs_ended (l : List Op) : (pairs [] l = some []) ↔ ended l = some [] := pairs_endd l _ (by omega)
end Go.Proofs.YtgkpbglllnmbeaaGreatDoor.Lk

/- The document's answer on locks: where ops end that are within one If (Ended, Behind). -/
namespace Go.Proofs.YtgkpbglllnmbeaaGreatDoor
open Go.RowKit
set_option linter.unusedVariables false

/-- The place where ops end. -/
def posOf (n : Nat) : Option (List Lk.Op) → Int
  | none => -1
  | some q => ((n - q.length : Nat) : Int)

section
variable (R : List (Lk.Op × Value)) (b off cap : Nat) (w : World)

theorem at_suffix {R : List (Lk.Op × Value)} {p : Nat} {o : Lk.Op} {q : List Lk.Op} (h : (o :: q) <:+ (opsOf R).drop p) : ∃ k, k + q.length + 1 = R.length ∧ p ≤ k ∧ (∃ hk : k < R.length, R[k].1 = o) ∧ (opsOf R).drop (k + 1) = q := by
  obtain ⟨t, ht⟩ := h
  have hl := congrArg List.length ht
  rw [List.length_append, List.length_cons, List.length_drop, opsOf_length] at hl
  have hlt : p + t.length < R.length := by omega
  have e1 : (opsOf R).drop (p + t.length) = o :: q := by rw [← List.drop_drop, ← ht, List.drop_left]
  rw [opsOf_drop R _ hlt] at e1
  injection e1 with e2 e3
  exact ⟨p + t.length, by omega, by omega, ⟨hlt, e2⟩, e3⟩

end
end Go.Proofs.YtgkpbglllnmbeaaGreatDoor

/- The document's answer on locks: what is wrong with one (LockFault). -/
namespace Go.Proofs.YtgkpbglllnmbeaaGreatDoor
open Go.RowKit
set_option linter.unusedVariables false

end Go.Proofs.YtgkpbglllnmbeaaGreatDoor
