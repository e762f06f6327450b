/- The texts LkRa, LkEnd, LkRb, LkRc, one behind the other. -/
import Derived.Test.YtmjilohlchkicaaGreatDoorZLk
import Derived.Test.YtmjilohlchkicaaGreatDoorZKg
/- The document's answer on locks: what is wrong with an op by itself. -/
namespace Go.Proofs.YtmjilohlchkicaaGreatDoor
open Go.RowKit
set_option linter.unusedVariables false

set_option maxRecDepth 100000 in
set_option maxHeartbeats 4000000 in
theorem rOpFault_any (o : Lk.Op) (a : Option Addr) (len cap : Nat) (w : World) (hl : o.data.length = len) (hm : len ≤ maxLen) :
    Calls Tryz.prog 44 #[opVal o (.slice a len cap)] w fun e w' => e = .returned (.int .i64 (Lk.opFault o)) ∧ Below w.heap.size w w' := by
  obtain ⟨op, n, data⟩ := o
  have e : Lk.opFault ⟨op, n, data⟩ = Lk.opF op n len := by rw [← hl]; rfl
  rw [e]
  unfold opVal Lk.opF
  simp only []
  unfold maxLen at hm
  clear hl e data
  have HB0 := hide (below_alloc w (.cells #[.int .i64 op, .int .i64 n, .slice a len cap] 95))
  by_cases c1 : op < 1
  · rw [if_pos (.inl c1)]
    have d1 : ¬ 14 < op := by omega
    have d2 : ¬ op = 9 := by omega
    have d3 : ¬ op = 10 := by omega
    go_enter Tryz.func44, Tryz.ntmps44
    go_wp2
    go_ret
    exact ⟨rfl, below_alloc _ _⟩
  by_cases c2 : 14 < op
  · rw [if_pos (.inr c2)]
    have d2 : ¬ op = 9 := by omega
    have d3 : ¬ op = 10 := by omega
    go_enter Tryz.func44, Tryz.ntmps44
    go_wp2
    go_ret
    exact ⟨rfl, below_alloc _ _⟩
  rw [if_neg (by omega)]
  by_cases c9 : op = 9
  · subst c9
    rw [if_neg (by simp)]
    by_cases cl : 0 < len
    · rw [if_pos ⟨cl, by decide⟩]
      go_enter Tryz.func44, Tryz.ntmps44
      go_wp2
      all_goals go_ret
      all_goals exact ⟨rfl, below_alloc _ _⟩
    · obtain rfl : len = 0 := by omega
      rw [if_neg (by simp), if_neg (by omega)]
      by_cases cn : n < 1
      · rw [if_pos ⟨rfl, .inl cn⟩]
        go_enter Tryz.func44, Tryz.ntmps44
        go_wp2
        all_goals go_ret
        all_goals exact ⟨rfl, below_alloc _ _⟩
      · by_cases cm : 9 < n
        · rw [if_pos ⟨rfl, .inr cm⟩]
          have hn0 : ¬ n = 0 := by omega
          go_enter Tryz.func44, Tryz.ntmps44
          go_wp2
          all_goals go_ret
          all_goals exact ⟨rfl, below_alloc _ _⟩
        · rw [if_neg (by omega), if_neg (by omega)]
          have hn0 : ¬ n = 0 := by omega
          go_enter Tryz.func44, Tryz.ntmps44
          go_wp2
          all_goals go_ret
          all_goals exact ⟨rfl, below_alloc _ _⟩
  by_cases c10 : op = 10
  · subst c10
    rw [if_neg (by simp)]
    by_cases cl : 0 < len
    · rw [if_pos ⟨cl, by decide⟩]
      go_enter Tryz.func44, Tryz.ntmps44
      go_wp2
      all_goals go_ret
      all_goals exact ⟨rfl, below_alloc _ _⟩
    · obtain rfl : len = 0 := by omega
      rw [if_neg (by simp), if_neg (by omega), if_neg (by omega)]
      by_cases cn : n < 0
      · rw [if_pos ⟨rfl, .inl cn⟩]
        have hn0 : ¬ n = 0 := by omega
        go_enter Tryz.func44, Tryz.ntmps44
        go_wp2
        all_goals go_ret
        all_goals exact ⟨rfl, below_alloc _ _⟩
      · by_cases cm : 1073741824 < n
        · rw [if_pos ⟨rfl, .inr cm⟩]
          have hn0 : ¬ n = 0 := by omega
          go_enter Tryz.func44, Tryz.ntmps44
          go_wp2
          all_goals go_ret
          all_goals exact ⟨rfl, below_alloc _ _⟩
        · rw [if_neg (by omega)]
          go_enter Tryz.func44, Tryz.ntmps44
          go_wp2
          all_goals go_ret
          all_goals exact ⟨rfl, below_alloc _ _⟩
  by_cases cn : n = 0
  · subst cn
    rw [if_neg (by simp)]
    by_cases co : op = 1
    · subst co
      rw [if_neg (by simp)]
      by_cases cl : 300 < len
      · rw [if_pos cl]
        have cl0 : 0 < len := by omega
        go_enter Tryz.func44, Tryz.ntmps44
        go_wp2
        all_goals go_ret
        all_goals exact ⟨rfl, below_alloc _ _⟩
      · rw [if_neg cl, if_neg (by omega), if_neg (by omega)]
        go_enter Tryz.func44, Tryz.ntmps44
        go_wp2
        all_goals go_ret
        all_goals exact ⟨rfl, below_alloc _ _⟩
    · by_cases cl : 0 < len
      · rw [if_pos ⟨cl, co⟩]
        go_enter Tryz.func44, Tryz.ntmps44
        go_wp2
        all_goals go_ret
        all_goals exact ⟨rfl, below_alloc _ _⟩
      · obtain rfl : len = 0 := by omega
        rw [if_neg (by simp), if_neg (by omega), if_neg (by omega), if_neg (by omega)]
        go_enter Tryz.func44, Tryz.ntmps44
        go_wp2
        all_goals go_ret
        all_goals exact ⟨rfl, below_alloc _ _⟩
  · rw [if_pos ⟨cn, by omega⟩]
    have e9 : (op == 9) = false := by simpa using c9
    have e10 : (op == 10) = false := by simpa using c10
    have en : (n != 0) = true := by simpa using cn
    go_enter Tryz.func44, Tryz.ntmps44
    go_wp2
    all_goals go_ret
    all_goals exact ⟨rfl, below_alloc _ _⟩
end Go.Proofs.YtmjilohlchkicaaGreatDoor

/- Where ops that are within one If end, as lists: and what that says of pairs. -/
namespace Go.Proofs.YtmjilohlchkicaaGreatDoor.Lk
set_option linter.unusedVariables false

/-- What stands from the Else or End on that is not of these ops' own Ifs; none: they do not stand in pairs. So many steps. -/
def endd : Nat → List Op → Option (List Op)
  | 0, _ => none
  | _ + 1, [] => some []
  | n + 1, o :: r =>
    if o.op = 12 ∨ o.op = 13 then some (o :: r)
    else if o.op ≠ 11 then endd n r
    else match behd (endd n r) (fun q => endd n q) with
      | none => none
      | some q => endd n q
where
  /-- What stands behind the End of an If, whose ops end so. -/
  behd (k : Option (List Op)) (again : List Op → Option (List Op)) : Option (List Op) :=
    match k with
    | none => none
    | some [] => none
    | some (o :: r) =>
      if o.op = 12 then
        match again r with
        | some (o2 :: r2) => if o2.op = 13 then some r2 else none
        | _ => none
      else if o.op = 13 then some r else none

theorem endd_le : ∀ (n : Nat) (l q : List Op), endd n l = some q → q.length ≤ l.length := by
  intro n
  induction n with
  | zero => intro l q h; cases h
  | succ n ih =>
    intro l q h
    cases l with
    | nil => rw [endd] at h; cases h; exact Nat.le_refl _
    | cons o r =>
      rw [endd] at h
      split at h
      · cases h; exact Nat.le_refl _
      · split at h
        · have := ih r q h; simp; omega
        · rename_i h1 h2
          cases hk : endd n r with
          | none => rw [hk] at h; simp [endd.behd] at h
          | some k =>
            have hk1 := ih r k hk
            rw [hk] at h
            cases k with
            | nil => simp [endd.behd] at h
            | cons o2 r2 =>
              simp only [endd.behd] at h
              simp only [List.length_cons] at hk1
              by_cases e12 : o2.op = 12
              · simp only [if_pos e12] at h
                cases hk2 : endd n r2 with
                | none => rw [hk2] at h; simp at h
                | some k2 =>
                  have hk3 := ih r2 k2 hk2
                  rw [hk2] at h
                  cases k2 with
                  | nil => simp at h
                  | cons o3 r3 =>
                    simp only [List.length_cons] at hk3
                    by_cases e13 : o3.op = 13
                    · simp only [if_pos e13] at h
                      have := ih r3 q h
                      simp; omega
                    · simp [if_neg e13] at h
              · simp only [if_neg e12] at h
                by_cases e13 : o2.op = 13
                · simp only [if_pos e13] at h
                  have := ih r2 q h
                  simp; omega
                · simp [if_neg e13] at h
/-- What is left begins with an Else or an End, or is nothing. -/
theorem endd_head : ∀ (n : Nat) (l q : List Op), endd n l = some q → q = [] ∨ ∃ o r, q = o :: r ∧ (o.op = 12 ∨ o.op = 13) := by
  intro n
  induction n with
  | zero => intro l q h; cases h
  | succ n ih =>
    intro l q h
    cases l with
    | nil => rw [endd] at h; cases h; exact .inl rfl
    | cons o r =>
      rw [endd] at h
      split at h
      · rename_i hh; cases h; exact .inr ⟨o, r, rfl, hh⟩
      · split at h
        · exact ih r q h
        · split at h
          · cases h
          · exact ih _ q h
/-- Enough steps: and what is said of pairs. -/
theorem endd_pairs : ∀ (n : Nat) (l : List Op), l.length < n → match endd n l with
    | some q => ∀ st, pairs st l = pairs st q
    | none => ∀ st, pairs st l ≠ some [] := by
  intro n
  induction n with
  | zero => intro l h; omega
  | succ n ih =>
    intro l hl
    cases l with
    | nil => rw [endd]; exact fun st => rfl
    | cons o r =>
      simp only [List.length_cons] at hl
      rw [endd]
      by_cases h1 : o.op = 12 ∨ o.op = 13
      · rw [if_pos h1]; exact fun st => rfl
      · rw [if_neg h1]
        by_cases h2 : o.op ≠ 11
        · rw [if_pos h2]
          have := ih r (by omega)
          split at this
          · rename_i q hq
            intro st
            rw [pairs_do _ _ _ h2 (by omega) (by omega)]; exact this st
          · rename_i hq
            intro st
            rw [pairs_do _ _ _ h2 (by omega) (by omega)]; exact this st
        · have h11 : o.op = 11 := by omega
          rw [if_neg h2]
          have i1 := ih r (by omega)
          cases hk : endd n r with
          | none =>
            rw [hk] at i1
            simp only [endd.behd]
            intro st
            rw [pairs_if _ _ _ h11]; exact i1 _
          | some k =>
            rw [hk] at i1
            have hkl := endd_le n r k hk
            rcases endd_head n r k hk with rfl | ⟨o2, r2, rfl, h2k⟩
            · simp only [endd.behd]
              intro st
              rw [pairs_if _ _ _ h11, i1]
              simp [pairs]
            · simp only [List.length_cons] at hkl
              simp only [endd.behd]
              by_cases e12 : o2.op = 12
              · simp only [if_pos e12]
                have i2 := ih r2 (by omega)
                cases hk2 : endd n r2 with
                | none =>
                  rw [hk2] at i2
                  simp only []
                  intro st
                  rw [pairs_if _ _ _ h11, i1, pairs_else _ _ _ _ e12]
                  simp only [Bool.false_eq_true, if_false]
                  exact i2 _
                | some k2 =>
                  rw [hk2] at i2
                  have hk2l := endd_le n r2 k2 hk2
                  rcases endd_head n r2 k2 hk2 with rfl | ⟨o3, r3, rfl, h3k⟩
                  · simp only []
                    intro st
                    rw [pairs_if _ _ _ h11, i1, pairs_else _ _ _ _ e12]
                    simp only [Bool.false_eq_true, if_false]
                    rw [i2]
                    simp [pairs]
                  · simp only [List.length_cons] at hk2l
                    by_cases e13 : o3.op = 13
                    · simp only [if_pos e13]
                      have i3 := ih r3 (by omega)
                      have red : ∀ st, pairs st (o :: r) = pairs st r3 := fun st => by
                        rw [pairs_if _ _ _ h11, i1, pairs_else _ _ _ _ e12]
                        simp only [Bool.false_eq_true, if_false]
                        rw [i2, pairs_end _ _ _ _ e13]
                      cases hk3 : endd n r3 with
                      | none =>
                        rw [hk3] at i3
                        simp only []
                        intro st; rw [red]; exact i3 st
                      | some k3 =>
                        rw [hk3] at i3
                        simp only []
                        intro st; rw [red]; exact i3 st
                    · have e3 : o3.op = 12 := by omega
                      simp only [if_neg e13]
                      intro st
                      rw [pairs_if _ _ _ h11, i1, pairs_else _ _ _ _ e12]
                      simp only [Bool.false_eq_true, if_false]
                      rw [i2, pairs_else _ _ _ _ e3]
                      simp
              · have e13 : o2.op = 13 := by omega
                simp only [if_neg e12, if_pos e13]
                have i3 := ih r2 (by omega)
                have red : ∀ st, pairs st (o :: r) = pairs st r2 := fun st => by
                  rw [pairs_if _ _ _ h11, i1, pairs_end _ _ _ _ e13]
                cases hk3 : endd n r2 with
                | none =>
                  rw [hk3] at i3
                  simp only []
                  intro st; rw [red]; exact i3 st
                | some k3 =>
                  rw [hk3] at i3
                  simp only []
                  intro st; rw [red]; exact i3 st
/-- More steps are no matter. -/
theorem endd_more : ∀ (n : Nat) (l : List Op) (k : Nat), l.length < n → endd (n + k) l = endd n l := by
  intro n
  induction n with
  | zero => intro l k h; omega
  | succ n ih =>
    intro l k hl
    rw [Nat.add_right_comm]
    cases l with
    | nil => rw [endd, endd]
    | cons o r =>
      simp only [List.length_cons] at hl
      rw [endd, endd, ih r k (by omega)]
      by_cases h1 : o.op = 12 ∨ o.op = 13
      · rw [if_pos h1, if_pos h1]
      · rw [if_neg h1, if_neg h1]
        by_cases h2 : o.op ≠ 11
        · rw [if_pos h2, if_pos h2]
        · rw [if_neg h2, if_neg h2]
          cases hk : endd n r with
          | none => rfl
          | some q =>
            have hql := endd_le n r q hk
            cases q with
            | nil => rfl
            | cons o2 r2 =>
              simp only [List.length_cons] at hql
              simp only [endd.behd]
              rw [ih r2 k (by omega)]
              by_cases e12 : o2.op = 12
              · simp only [if_pos e12]
                cases hk2 : endd n r2 with
                | none => rfl
                | some q2 =>
                  have hq2l := endd_le n r2 q2 hk2
                  cases q2 with
                  | nil => rfl
                  | cons o3 r3 =>
                    simp only [List.length_cons] at hq2l
                    by_cases e13 : o3.op = 13
                    · simp only [if_pos e13]
                      exact ih r3 k (by omega)
                    · simp only [if_neg e13]
              · simp only [if_neg e12]
                by_cases e13 : o2.op = 13
                · simp only [if_pos e13]
                  exact ih r2 k (by omega)
                · simp only [if_neg e13]
/-- Where they end. -/
def ended (l : List Op) : Option (List Op) := endd (l.length + 1) l
theorem ended_of (n : Nat) (l : List Op) (h : l.length < n) : endd n l = ended l := by
  unfold ended
  have := endd_more (l.length + 1) l (n - (l.length + 1)) (by omega)
  rwa [show l.length + 1 + (n - (l.length + 1)) = n by omega] at this
/-- What stands behind the End of an If, of what stands behind it. -/
def behind (r : List Op) : Option (List Op) :=
  match ended r with
  | none => none
  | some [] => none
  | some (o :: q) =>
    if o.op = 12 then
      match ended q with
      | some (o2 :: q2) => if o2.op = 13 then some q2 else none
      | _ => none
    else if o.op = 13 then some q else none
theorem ended_le (l q : List Op) (h : ended l = some q) : q.length ≤ l.length := endd_le _ l q h
theorem ended_head (l q : List Op) (h : ended l = some q) : q = [] ∨ ∃ o r, q = o :: r ∧ (o.op = 12 ∨ o.op = 13) := endd_head _ l q h
theorem behind_lt (r q : List Op) (h : behind r = some q) : q.length < r.length := by
  unfold behind at h
  cases hk : ended r with
  | none => rw [hk] at h; cases h
  | some k =>
    rw [hk] at h
    have hkl := ended_le r k hk
    cases k with
    | nil => cases h
    | cons o k =>
      simp only [List.length_cons] at hkl
      simp only [] at h
      by_cases e12 : o.op = 12
      · simp only [if_pos e12] at h
        cases hk2 : ended k with
        | none => rw [hk2] at h; simp at h
        | some k2 =>
          have hk2l := ended_le k k2 hk2
          rw [hk2] at h
          cases k2 with
          | nil => simp at h
          | cons o2 k2 =>
            simp only [List.length_cons] at hk2l
            by_cases e13 : o2.op = 13
            · simp only [if_pos e13, Option.some.injEq] at h; subst h; omega
            · simp [if_neg e13] at h
      · simp only [if_neg e12] at h
        by_cases e13 : o.op = 13
        · simp only [if_pos e13, Option.some.injEq] at h; subst h; omega
        · simp [if_neg e13] at h
theorem ended_nil : ended [] = some [] := rfl
theorem ended_stop (o : Op) (r : List Op) (h : o.op = 12 ∨ o.op = 13) : ended (o :: r) = some (o :: r) := by
  unfold ended; rw [List.length_cons, endd, if_pos h]
theorem ended_do (o : Op) (r : List Op) (h1 : o.op ≠ 11) (h2 : o.op ≠ 12) (h3 : o.op ≠ 13) : ended (o :: r) = ended r := by
  unfold ended; rw [List.length_cons, endd, if_neg (by omega), if_pos h1]
theorem ended_if (o : Op) (r : List Op) (h : o.op = 11) : ended (o :: r) = match behind r with
    | none => none
    | some q => ended q := by
  have hb : endd.behd (endd (r.length + 1) r) (fun q => endd (r.length + 1) q) = behind r := by
    unfold behind
    rw [show endd (r.length + 1) r = ended r from rfl]
    cases hk : ended r with
    | none => rfl
    | some k =>
      have hkl := ended_le r k hk
      cases k with
      | nil => rfl
      | cons o2 k =>
        simp only [List.length_cons] at hkl
        simp only [endd.behd]
        rw [ended_of (r.length + 1) k (by omega)]
  show endd ((o :: r).length + 1) (o :: r) = _
  rw [List.length_cons, endd, if_neg (by omega), if_neg (by omega), hb]
  cases hq : behind r with
  | none => rfl
  | some q =>
    have := behind_lt r q hq
    exact ended_of _ q (by omega)
/-- Ops that stand in pairs are those behind which nothing is left. -/
theorem pairs_endd (l : List Op) (n : Nat) (hn : l.length < n) : (pairs [] l = some []) ↔ endd n l = some [] := by
  have h := endd_pairs n l hn
  cases hk : endd n l with
  | none => rw [hk] at h; exact ⟨fun e => absurd e (h []), fun e => by cases e⟩
  | some q =>
    rw [hk] at h
    rcases endd_head n l q hk with rfl | ⟨o, r, rfl, ho⟩
    · exact ⟨fun _ => rfl, fun _ => by rw [h []]; rfl⟩
    · refine ⟨fun e => ?_, fun e => by cases e⟩
      rw [h []] at e
      rcases ho with ho | ho
      · rw [pairs_else0 _ _ ho] at e; cases e
      · rw [pairs_end0 _ _ ho] at e; cases e
theorem endd_suffix : ∀ (n : Nat) (l q : List Op), endd n l = some q → q <:+ l := by
  intro n
  induction n with
  | zero => intro l q h; cases h
  | succ n ih =>
    intro l q h
    cases l with
    | nil => rw [endd] at h; cases h; exact List.suffix_refl _
    | cons o r =>
      rw [endd] at h
      split at h
      · cases h; exact List.suffix_refl _
      · split at h
        · exact (ih r q h).trans (List.suffix_cons _ _)
        · cases hk : endd n r with
          | none => rw [hk] at h; simp [endd.behd] at h
          | some k =>
            have hk1 := ih r k hk
            rw [hk] at h
            cases k with
            | nil => simp [endd.behd] at h
            | cons o2 r2 =>
              simp only [endd.behd] at h
              by_cases e12 : o2.op = 12
              · simp only [if_pos e12] at h
                cases hk2 : endd n r2 with
                | none => rw [hk2] at h; simp at h
                | some k2 =>
                  have hk3 := ih r2 k2 hk2
                  rw [hk2] at h
                  cases k2 with
                  | nil => simp at h
                  | cons o3 r3 =>
                    by_cases e13 : o3.op = 13
                    · simp only [if_pos e13] at h
                      exact (((((ih r3 q h).trans (List.suffix_cons _ _)).trans hk3).trans (List.suffix_cons _ _)).trans hk1).trans (List.suffix_cons _ _)
                    · simp [if_neg e13] at h
              · simp only [if_neg e12] at h
                by_cases e13 : o2.op = 13
                · simp only [if_pos e13] at h
                  exact (((ih r2 q h).trans (List.suffix_cons _ _)).trans hk1).trans (List.suffix_cons _ _)
                · simp [if_neg e13] at h
theorem ended_suffix (l q : List Op) (h : ended l = some q) : q <:+ l := endd_suffix _ l q h
theorem suffix_drop {l q : List Op} (h : q <:+ l) : l.drop (l.length - q.length) = q := by
  obtain ⟨t, rfl⟩ := h
  simp
theorem behind_suffix (r q : List Op) (h : behind r = some q) : q <:+ r := by
  unfold behind at h
  cases hk : ended r with
  | none => rw [hk] at h; cases h
  | some k =>
    rw [hk] at h
    have hkl := ended_suffix r k hk
    cases k with
    | nil => cases h
    | cons o k =>
      simp only [] at h
      by_cases e12 : o.op = 12
      · simp only [if_pos e12] at h
        cases hk2 : ended k with
        | none => rw [hk2] at h; simp at h
        | some k2 =>
          have hk2l := ended_suffix k k2 hk2
          rw [hk2] at h
          cases k2 with
          | nil => simp at h
          | cons o2 k2 =>
            by_cases e13 : o2.op = 13
            · simp only [if_pos e13, Option.some.injEq] at h; subst h
              exact (((List.suffix_cons _ _).trans hk2l).trans (List.suffix_cons _ _)).trans hkl
            · simp [if_neg e13] at h
      · simp only [if_neg e12] at h
        by_cases e13 : o.op = 13
        · simp only [if_pos e13, Option.some.injEq] at h; subst h
          exact (List.suffix_cons _ _).trans hkl
        · simp [if_neg e13] at h
theorem pairs_ended (l : List Op) : (pairs [] l = some []) ↔ ended l = some [] := pairs_endd l _ (by omega)
end Go.Proofs.YtmjilohlchkicaaGreatDoor.Lk

/- The document's answer on locks: where ops end that are within one If (Ended, Behind). -/
namespace Go.Proofs.YtmjilohlchkicaaGreatDoor
open Go.RowKit
set_option linter.unusedVariables false

/-- The place where ops end. -/
def posOf (n : Nat) : Option (List Lk.Op) → Int
  | none => -1
  | some q => ((n - q.length : Nat) : Int)

section
variable (R : List (Lk.Op × Value)) (b off cap : Nat) (w : World)

/-- What Ended answers from one place on. -/
def EndsAt (p : Nat) : Prop := Calls Tryz.prog 45 #[.slice (some ⟨b, off, none⟩) R.length cap, .int .i64 p] w fun e w' => e = .returned (.int .i64 (posOf R.length (Lk.ended ((opsOf R).drop p)))) ∧ w = w'

theorem at_suffix {R : List (Lk.Op × Value)} {p : Nat} {o : Lk.Op} {q : List Lk.Op} (h : (o :: q) <:+ (opsOf R).drop p) : ∃ k, k + q.length + 1 = R.length ∧ p ≤ k ∧ (∃ hk : k < R.length, R[k].1 = o) ∧ (opsOf R).drop (k + 1) = q := by
  obtain ⟨t, ht⟩ := h
  have hl := congrArg List.length ht
  rw [List.length_append, List.length_cons, List.length_drop, opsOf_length] at hl
  have hlt : p + t.length < R.length := by omega
  have e1 : (opsOf R).drop (p + t.length) = o :: q := by rw [← List.drop_drop, ← ht, List.drop_left]
  rw [opsOf_drop R _ hlt] at e1
  injection e1 with e2 e3
  exact ⟨p + t.length, by omega, by omega, ⟨hlt, e2⟩, e3⟩

set_option maxRecDepth 100000 in
set_option maxHeartbeats 4000000 in
theorem behind_step (p : Nat) (hp : p < R.length) (hm : R.length ≤ 1000) (hr : w.rangeAt b off (opCells R)) (ih : ∀ p', p < p' → p' ≤ R.length → EndsAt R b off cap w p') :
    Calls Tryz.prog 70 #[.slice (some ⟨b, off, none⟩) R.length cap, .int .i64 p] w fun e w' => e = .returned (.int .i64 (posOf R.length (Lk.behind ((opsOf R).drop (p + 1))))) ∧ w = w' := by
  have HR := hide hr
  have HE1 := hide (ih (p + 1) (by omega) (by omega))
  unfold EndsAt at HE1
  have ep : ((p + 1 : Nat) : Int) = (p : Int) + 1 := by omega
  rw [ep] at HE1
  clear ep
  have HIH := hide ih
  unfold EndsAt at HIH
  clear hr ih
  obtain ⟨X, hX⟩ : ∃ X, X = Lk.behind ((opsOf R).drop (p + 1)) := ⟨_, rfl⟩
  rw [← hX]
  unfold Lk.behind at hX
  have hpm : (p : Int) ≤ 1000 := by omega
  generalize hn : R.length = n at *
  have HN := hide hn
  clear hn
  cases hk : Lk.ended ((opsOf R).drop (p + 1)) with
  | none =>
    rw [hk] at hX HE1
    have HX : Hid (X = none) := hide hX
    clear hX hk
    simp only [posOf] at HE1
    go_enter Tryz.func70, Tryz.ntmps70
    go_wp2_with fail
    refine HE1.out.mono ?_
    rintro e w1 ⟨rfl, rfl⟩
    go_wp2
    go_ret
    exact ⟨by rw [HX.out]; rfl, rfl⟩
  | some q =>
    have hsuf := Lk.ended_suffix _ _ hk
    rcases Lk.ended_head _ _ hk with rfl | ⟨o, q, rfl, ho⟩
    · rw [hk] at hX HE1
      have HX : Hid (X = none) := hide hX
      clear hX hk hsuf
      have e0 : posOf n (some []) = (n : Int) := rfl
      rw [e0] at HE1
      have hn1 : decide ((n : Int) < (n : Int)) = false := decide_eq_false (by omega)
      have hn2 : decide ((n : Int) ≤ (n : Int)) = true := decide_eq_true (by omega)
      have hn3 : decide ((0 : Int) ≤ (n : Int)) = true := decide_eq_true (by omega)
      have hn4 : decide ((n : Int) < 0) = false := decide_eq_false (by omega)
      clear e0
      go_enter Tryz.func70, Tryz.ntmps70
      go_wp2_with fail
      refine HE1.out.mono ?_
      rintro e w1 ⟨rfl, rfl⟩
      go_wp2
      go_ret
      exact ⟨by rw [HX.out]; rfl, rfl⟩
    · obtain ⟨k, hkn, hpk, ⟨hkR, hko⟩, hkd⟩ := at_suffix hsuf
      have hc0 := (range_op HR.out k hkR).1
      rw [hko] at hc0
      have ek : posOf n (some (o :: q)) = (k : Int) := by unfold posOf; simp only [List.length_cons]; rw [HN.out] at hkn; omega
      rw [hk] at hX HE1
      rw [ek] at HE1
      simp only [] at hX
      have hkn' : k < n := by rw [HN.out] at hkn; omega
      by_cases e12 : o.op = 12
      · rw [if_pos e12] at hX
        rw [e12] at hc0
        have HE2 := hide (HIH.out (k + 1) (by omega) (by omega))
        rw [hkd] at HE2
        have ek2 : ((k + 1 : Nat) : Int) = (k : Int) + 1 := by omega
        rw [ek2] at HE2
        clear ek2 ek hk hsuf hko ho e12
        have hk1000 : (k : Int) ≤ 1000 := by omega
        cases hk2 : Lk.ended q with
        | none =>
          rw [hk2] at hX HE2
          have HX : Hid (X = none) := hide hX
          clear hX hk2 hkn
          simp only [posOf] at HE2
          go_enter Tryz.func70, Tryz.ntmps70
          go_wp2_with fail
          refine HE1.out.mono ?_
          rintro e w1 ⟨rfl, rfl⟩
          go_wp2_with fail
          refine HE2.out.mono ?_
          rintro e w1 ⟨rfl, rfl⟩
          go_wp2
          go_ret
          exact ⟨by rw [HX.out]; rfl, rfl⟩
        | some q2 =>
          have hsuf2 := Lk.ended_suffix _ _ hk2
          rcases Lk.ended_head _ _ hk2 with rfl | ⟨o2, q2, rfl, ho2⟩
          · rw [hk2] at hX HE2
            have HX : Hid (X = none) := hide hX
            have e0 : posOf n (some []) = (n : Int) := rfl
            rw [e0] at HE2
            have hn2 : decide ((n : Int) ≤ (n : Int)) = true := decide_eq_true (by omega)
            have hn4 : decide ((n : Int) < 0) = false := decide_eq_false (by omega)
            clear hX hk2 hsuf2 hkn e0
            go_enter Tryz.func70, Tryz.ntmps70
            go_wp2_with fail
            refine HE1.out.mono ?_
            rintro e w1 ⟨rfl, rfl⟩
            go_wp2_with fail
            refine HE2.out.mono ?_
            rintro e w1 ⟨rfl, rfl⟩
            go_wp2
            go_ret
            exact ⟨by rw [HX.out]; rfl, rfl⟩
          · rw [← hkd] at hsuf2
            obtain ⟨k2, hkn2, hpk2, ⟨hkR2, hko2⟩, hkd2⟩ := at_suffix hsuf2
            have hc2 := (range_op HR.out k2 hkR2).1
            rw [hko2] at hc2
            have ek3 : posOf n (some (o2 :: q2)) = (k2 : Int) := by unfold posOf; simp only [List.length_cons]; rw [HN.out] at hkn2; omega
            rw [hk2] at hX HE2
            rw [ek3] at HE2
            simp only [] at hX
            have hk2n : k2 < n := by rw [HN.out] at hkn2; omega
            by_cases e13 : o2.op = 13
            · rw [if_pos e13] at hX
              rw [e13] at hc2
              have HX : Hid (posOf n X = (k2 : Int) + 1) := hide (by rw [hX]; unfold posOf; rw [HN.out] at hkn2; simp only []; omega)
              clear hX hk2 hsuf2 hko2 hkd2 ek3 hkn2 hkn ho2 e13 hkd
              go_enter Tryz.func70, Tryz.ntmps70
              go_wp2_with fail
              refine HE1.out.mono ?_
              rintro e w1 ⟨rfl, rfl⟩
              go_wp2_with fail
              refine HE2.out.mono ?_
              rintro e w1 ⟨rfl, rfl⟩
              go_wp2
              go_ret
              exact ⟨by rw [HX.out]; rfl, rfl⟩
            · have e2 : o2.op = 12 := by omega
              rw [if_neg e13] at hX
              rw [e2] at hc2
              have HX : Hid (X = none) := hide hX
              clear hX hk2 hsuf2 hko2 hkd2 ek3 hkn2 hkn ho2 e13 e2 hkd
              go_enter Tryz.func70, Tryz.ntmps70
              go_wp2_with fail
              refine HE1.out.mono ?_
              rintro e w1 ⟨rfl, rfl⟩
              go_wp2_with fail
              refine HE2.out.mono ?_
              rintro e w1 ⟨rfl, rfl⟩
              go_wp2
              go_ret
              exact ⟨by rw [HX.out]; rfl, rfl⟩
      · have e13 : o.op = 13 := by omega
        rw [if_neg e12, if_pos e13] at hX
        rw [e13] at hc0
        have HX : Hid (posOf n X = (k : Int) + 1) := hide (by rw [hX]; unfold posOf; rw [HN.out] at hkn; simp only []; omega)
        clear hX hk hsuf hko hkd ek hkn ho e12 e13
        go_enter Tryz.func70, Tryz.ntmps70
        go_wp2_with fail
        refine HE1.out.mono ?_
        rintro e w1 ⟨rfl, rfl⟩
        go_wp2
        go_ret
        exact ⟨by rw [HX.out]; rfl, rfl⟩

set_option maxRecDepth 100000 in
set_option maxHeartbeats 4000000 in
theorem ended_step (p : Nat) (hp : p ≤ R.length) (hm : R.length ≤ 1000) (hr : w.rangeAt b off (opCells R)) (ih : ∀ p', p < p' → p' ≤ R.length → EndsAt R b off cap w p') : EndsAt R b off cap w p := by
  have HBE : Hid (∀ k, p ≤ k → k < R.length → Calls Tryz.prog 70 #[.slice (some ⟨b, off, none⟩) R.length cap, .int .i64 k] w fun e w' => e = .returned (.int .i64 (posOf R.length (Lk.behind ((opsOf R).drop (k + 1))))) ∧ w = w') := hide (fun k hk hkl => behind_step R b off cap w k hkl hm hr (fun p' h1 h2 => ih p' (by omega) h2))
  have HR := hide hr
  clear hr ih
  unfold EndsAt
  obtain ⟨X, hX⟩ : ∃ X, X = Lk.ended ((opsOf R).drop p) := ⟨_, rfl⟩
  rw [← hX]
  have HX := hide hX
  clear hX
  generalize hn : R.length = n at *
  have HN := hide hn
  clear hn
  go_enter Tryz.func45, Tryz.ntmps45
  go_wp2
  go_loop [1] (fun i => ∃ k : Nat, p ≤ k ∧ k ≤ n ∧ i = .int .i64 k ∧ Lk.ended ((opsOf R).drop k) = X) (fun i => n - (intOf i).toNat)
  case atStart => exact ⟨p, by omega, by omega, rfl, HX.out.symm⟩
  case round =>
    obtain ⟨k, hpk, hkn, rfl, hx⟩ := hrel
    by_cases hlt : k < n
    · have hkR : k < R.length := by rw [HN.out]; exact hlt
      have hc0 := (range_op HR.out k hkR).1
      rw [opsOf_drop R k hkR] at hx
      by_cases h11 : R[k].1.op = 11
      · rw [Lk.ended_if _ _ h11] at hx
        rw [h11] at hc0
        have HB := hide (HBE.out k hpk hlt)
        cases hq : Lk.behind ((opsOf R).drop (k + 1)) with
        | none =>
          rw [hq] at hx HB
          have HX2 : Hid (X = none) := hide hx.symm
          simp only [posOf] at HB
          clear hx hq h11
          go_wp2_with fail
          refine HB.out.mono ?_
          rintro e w1 ⟨rfl, rfl⟩
          go_wp2
          go_ret
          exact ⟨by rw [HX2.out]; rfl, rfl⟩
        | some q =>
          rw [hq] at hx HB
          have hql := Lk.behind_lt _ _ hq
          have hqs := Lk.behind_suffix _ _ hq
          rw [List.length_drop, opsOf_length, HN.out] at hql
          have hd : (opsOf R).drop (n - q.length) = q := by
            have := Lk.suffix_drop (hqs.trans (List.drop_suffix _ _))
            rwa [opsOf_length, HN.out] at this
          obtain ⟨k2, hk2⟩ : ∃ k2, k2 = n - q.length := ⟨_, rfl⟩
          have e2 : posOf n (some q) = (k2 : Int) := by unfold posOf; rw [hk2]
          rw [e2] at HB
          rw [← hk2] at hd
          have HX2 : Hid (Lk.ended ((opsOf R).drop k2) = X) := hide (by rw [hd]; exact hx)
          have hk2n : k2 ≤ n := by omega
          have hk2k : k < k2 := by omega
          have hk20 : decide ((k2 : Int) < 0) = false := decide_eq_false (by omega)
          clear hx hq h11 hql hqs hd e2 hk2
          go_wp2_with fail
          refine HB.out.mono ?_
          rintro e w1 ⟨rfl, rfl⟩
          go_wp2
          go_round
          case rel => exact ⟨k2, by omega, by omega, rfl, HX2.out⟩
          case measure => simp [intOf]; omega
      by_cases h12 : R[k].1.op = 12
      · rw [Lk.ended_stop _ _ (.inl h12), ← opsOf_drop R k hkR] at hx
        have HX2 : Hid (posOf n X = (k : Int)) := hide (by rw [← hx]; unfold posOf; simp only [List.length_drop, opsOf_length]; rw [HN.out]; omega)
        rw [h12] at hc0
        clear hx h11 h12
        go_wp2
        go_ret
        exact ⟨by rw [HX2.out]; rfl, rfl⟩
      by_cases h13 : R[k].1.op = 13
      · rw [Lk.ended_stop _ _ (.inr h13), ← opsOf_drop R k hkR] at hx
        have HX2 : Hid (posOf n X = (k : Int)) := hide (by rw [← hx]; unfold posOf; simp only [List.length_drop, opsOf_length]; rw [HN.out]; omega)
        rw [h13] at hc0
        clear hx h11 h12 h13
        go_wp2
        go_ret
        exact ⟨by rw [HX2.out]; rfl, rfl⟩
      · rw [Lk.ended_do _ _ h11 h12 h13] at hx
        have HX2 := hide hx
        generalize R[k].1.op = op at *
        have e11 : (op != 11) = true := by simpa using h11
        have e12 : (op != 12) = true := by simpa using h12
        have e13 : (op != 13) = true := by simpa using h13
        clear hx
        go_wp2
        go_round
        case rel => exact ⟨k + 1, by omega, by omega, by go_num, HX2.out⟩
        case measure => simp [intOf]; omega
    · have hke : k = n := by omega
      have hkl : ¬ (k : Int) < n := by omega
      have hkl2 : decide ((k : Int) < (n : Int)) = false := decide_eq_false hkl
      rw [List.drop_eq_nil_of_le (by rw [opsOf_length, HN.out]; omega), Lk.ended_nil] at hx
      have HX2 : Hid (posOf n X = (k : Int)) := hide (by rw [← hx, hke]; rfl)
      clear hx hke
      go_wp2
      go_ret
      exact ⟨by rw [HX2.out]; rfl, rfl⟩
theorem ended_any (hm : R.length ≤ 1000) (hr : w.rangeAt b off (opCells R)) : ∀ (d p : Nat), p + d = R.length → EndsAt R b off cap w p := by
  intro d
  induction d using Nat.strongRecOn with
  | ind d ih =>
    intro p hp
    exact ended_step R b off cap w p (by omega) hm hr (fun p' h1 h2 => ih (R.length - p') (by omega) p' (by omega))
end
end Go.Proofs.YtmjilohlchkicaaGreatDoor

/- The document's answer on locks: what is wrong with one (LockFault). -/
namespace Go.Proofs.YtmjilohlchkicaaGreatDoor
open Go.RowKit
set_option linter.unusedVariables false

theorem rEnded_none (a : Option Addr) (cap : Nat) (w : World) : Calls Tryz.prog 45 #[.slice a 0 cap, .int .i64 0] w fun e w' => e = .returned (.int .i64 0) ∧ w = w' := by
  go_enter Tryz.func45, Tryz.ntmps45
  go_wp2
  refine wp_loop_rounds 1 ?_
  rw [rounds_succ]
  go_wp2
  go_ret
  exact ⟨rfl, rfl⟩

set_option maxRecDepth 100000 in
set_option maxHeartbeats 4000000 in
theorem rLockFault_some (R : List (Lk.Op × Value)) (b off cap : Nat) (w : World) (h0 : 0 < R.length) (hm : R.length ≤ 60) (h : HasOps w (.slice (some ⟨b, off, none⟩) R.length cap) R) (hr : w.rangeAt b off (opCells R)) (hb : b < w.heap.size) :
    Calls Tryz.prog 29 #[.slice (some ⟨b, off, none⟩) R.length cap] w fun e w' => e = .returned (.int .i64 (Lk.check (opsOf R))) ∧ Below w.heap.size w w' := by
  have HR := hide hr
  have HBW := hide hb
  have HH := hide h
  have HEN : Hid (∀ W, Below w.heap.size w W → Calls Tryz.prog 45 #[.slice (some ⟨b, off, none⟩) R.length cap, .int .i64 0] W fun e w' => e = .returned (.int .i64 (posOf R.length (Lk.ended (opsOf R)))) ∧ W = w') := hide (fun W hW => by
    have := ended_any R b off cap W (by omega) (range_keep hr hW hb) R.length 0 (by omega)
    unfold EndsAt at this
    rw [List.drop_zero] at this
    exact this)
  clear hr hb h0 h
  generalize hS : Lk.check (opsOf R) = S
  have hS2 : (if Lk.opsFault (opsOf R) = 0 then (if Lk.pairs [] (opsOf R) = some [] then 0 else 1) else Lk.opsFault (opsOf R)) = S := by
    have hl : ¬ 60 < (opsOf R).length := by rw [opsOf_length]; omega
    rw [← hS]; unfold Lk.check; rw [if_neg hl]
  have HS := hide hS2
  clear hS hS2
  generalize hn : R.length = n at *
  have HN := hide hn
  clear hn
  go_enter Tryz.func29, Tryz.ntmps29
  go_wp2
  go_loopw [3] (fun i wr => ∃ (k : Nat), k ≤ n ∧ i = .int .i64 k ∧ Lk.opsFault ((opsOf R).drop k) = Lk.opsFault (opsOf R) ∧ Below w.heap.size w wr) (fun i _ => n - (intOf i).toNat)
  case atStart => exact ⟨0, by omega, rfl, by simp, Below.refl _ _⟩
  case round =>
    obtain ⟨k, hk, rfl, ht, hbel⟩ := hrel
    have HBEL := hide hbel
    by_cases hlt : k < n
    · have hkR : k < R.length := by rw [HN.out]; exact hlt
      obtain ⟨hc0, hc1, hc2⟩ := range_op (range_keep HR.out hbel HBW.out) k hkR
      obtain ⟨oa, oc, hoe, hom, hol⟩ := (HH.out.2 R[k] (List.getElem_mem hkR)).1.shape
      rw [hoe] at hc2
      have HC : Hid (∀ W, Calls Tryz.prog 44 #[opVal R[k].1 (.slice oa R[k].1.data.length oc)] W fun e w' => e = .returned (.int .i64 (Lk.opFault R[k].1)) ∧ Below W.heap.size W w') := fun W => rOpFault_any R[k].1 oa _ oc W rfl hol
      rw [opsOf_drop R k hkR, Lk.opsFault] at ht
      clear hoe hbel hom hol
      unfold opVal at HC
      generalize Lk.opFault R[k].1 = F at *
      generalize R[k].1.data.length = ol at *
      generalize R[k].1.op = op at *
      generalize R[k].1.n = on at *
      by_cases hF : F = 0
      · subst hF
        rw [if_pos rfl] at ht
        have HT := hide ht
        clear ht
        go_wp2_with fail
        refine (HC.out _).mono ?_
        rintro e w1 ⟨rfl, hb1⟩
        have HB1 := hide (HBEL.out.trans (hb1.mono HBEL.out.size))
        clear hb1
        go_wp2
        go_roundw
        case rel => exact ⟨k + 1, by omega, by go_num, HT.out, HB1.out⟩
        case measure => simp [intOf]; omega
      · rw [if_neg hF] at ht
        have HT : Hid (F = S) := hide (by rw [← HS.out, ← ht, if_neg hF])
        have hF2 : (F != 0) = true := by simpa using hF
        clear ht
        go_wp2_with fail
        refine (HC.out _).mono ?_
        rintro e w1 ⟨rfl, hb1⟩
        have HB1 := hide (HBEL.out.trans (hb1.mono HBEL.out.size))
        clear hb1 hF
        go_wp2
        go_ret
        exact ⟨by rw [← HT.out]; rfl, HB1.out⟩
    · have hke : k = n := by omega
      have hkn : ¬ (k : Int) < n := by omega
      rw [List.drop_eq_nil_of_le (by rw [opsOf_length, HN.out]; omega)] at ht
      have h00 : Lk.opsFault (opsOf R) = 0 := by rw [← ht]; rfl
      have hs := HS.out
      rw [if_pos h00] at hs
      have HC := hide (HEN.out _ HBEL.out)
      clear ht h00 hbel hke
      by_cases hp : Lk.pairs [] (opsOf R) = some []
      · rw [if_pos hp] at hs
        rw [(Lk.pairs_ended _).1 hp] at HC
        have e0 : posOf n (some []) = (n : Int) := rfl
        rw [e0] at HC
        have HSS := hide hs
        clear hp e0 hs
        go_wp2_with fail
        refine HC.out.mono ?_
        rintro e w1 ⟨rfl, rfl⟩
        go_wp2
        go_ret
        exact ⟨by rw [← HSS.out]; rfl, HBEL.out⟩
      · rw [if_neg hp] at hs
        have hne : Lk.ended (opsOf R) ≠ some [] := fun e => hp ((Lk.pairs_ended _).2 e)
        obtain ⟨P, hP⟩ : ∃ P, P = posOf n (Lk.ended (opsOf R)) := ⟨_, rfl⟩
        rw [← hP] at HC
        have hPn : (P != (n : Int)) = true := by
          rw [bne_iff_ne]
          rw [hP]
          cases hq : Lk.ended (opsOf R) with
          | none => simp only [posOf]; omega
          | some q =>
            have hql := Lk.ended_le _ _ hq
            rw [opsOf_length, HN.out] at hql
            cases q with
            | nil => exact absurd hq hne
            | cons o q => simp only [posOf, List.length_cons] at hql ⊢; omega
        have HSS := hide hs
        clear hp hs hne hP
        go_wp2_with fail
        refine HC.out.mono ?_
        rintro e w1 ⟨rfl, rfl⟩
        go_wp2
        go_ret
        exact ⟨by rw [← HSS.out]; rfl, HBEL.out⟩
theorem rLockFault_any (v : Value) (R : List (Lk.Op × Value)) (w : World) (h : HasOps w v R) :
    Calls Tryz.prog 29 #[v] w fun e w' => e = .returned (.int .i64 (Lk.check (opsOf R))) ∧ Below w.heap.size w w' := by
  rcases h.1 with ⟨a, cap, rfl, rfl⟩ | ⟨b, off, cap, rfl, h0, h1, h2, h3, hc⟩
  · have e : Lk.check (opsOf []) = 0 := rfl
    rw [e]
    have HEN := hide (rEnded_none a cap w)
    clear h e
    go_enter Tryz.func29, Tryz.ntmps29
    go_wp2
    refine wp_loop_rounds 1 ?_
    rw [rounds_succ]
    go_wp2_with fail
    refine HEN.out.mono ?_
    rintro e w1 ⟨rfl, rfl⟩
    go_wp2
    go_ret
    exact ⟨rfl, Below.refl _ _⟩
  · by_cases hm : R.length ≤ 60
    · exact rLockFault_some R b off cap w h0 hm h hc h3
    · have e : Lk.check (opsOf R) = 4 := by unfold Lk.check; rw [if_pos (by rw [opsOf_length]; omega)]
      rw [e]
      have hi : (60 : Int) < (R.length : Int) := by omega
      unfold maxLen at h2
      clear hm e hc h
      generalize R.length = n at *
      go_enter Tryz.func29, Tryz.ntmps29
      go_wp2
      go_ret
      exact ⟨rfl, Below.refl _ _⟩
end Go.Proofs.YtmjilohlchkicaaGreatDoor
