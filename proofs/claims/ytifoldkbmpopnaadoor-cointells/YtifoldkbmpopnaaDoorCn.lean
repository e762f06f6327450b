/- Coins, over lists: what is ahead, what is wrong with a set. -/
import Derived.Test.YtifoldkbmpopnaaDoorLk
import Derived.Test.YtifoldkbmpopnaaDoorMo
namespace Go.Proofs.YtifoldkbmpopnaaDoor.Cn
set_option linter.unusedVariables false

structure Coin where
  tx : List Int
  at' : Int
  amount : Int
  lock : List Lk.Op
  height : Int

def cmpI (a b : Int) : Int := if a < b then -1 else if b < a then 1 else 0
def cmpB : List Int → List Int → Int
  | [], [] => 0
  | [], _ :: _ => -1
  | _ :: _, [] => 1
  | a :: l, b :: m => if a < b then -1 else if b < a then 1 else cmpB l m
def pl (a b : List Int × Int) : Int := if cmpB a.1 b.1 = 0 then cmpI a.2 b.2 else cmpB a.1 b.1
def place (c : Coin) : List Int × Int := (c.tx, c.at')
def coinF (c : Coin) : Int := if c.at' < 0 ∨ 40 ≤ c.at' ∨ ¬ (0 ≤ c.height ∧ c.height ≤ 1073741824) then 2 else if Mo.chk c.amount = 0 then Lk.check c.lock else Mo.chk c.amount
def behind (p : Option (List Int × Int)) (c : Coin) : Prop := ∀ q, p = some q → pl q (place c) < 0
instance (p : Option (List Int × Int)) (c : Coin) : Decidable (behind p c) := match p with
  | none => .isTrue (fun q h => by cases h)
  | some q => if h : pl q (place c) < 0 then .isTrue (fun r hr => by cases hr; exact h) else .isFalse (fun k => h (k q rfl))
def setG : Option (List Int × Int) → List Coin → Int
  | _, [] => 0
  | p, c :: r => if behind p c then (if coinF c = 0 then setG (some (place c)) r else coinF c) else 6
def setF (l : List Coin) : Int := if 1000 < l.length then 4 else setG none l

theorem cmpI_range (a b : Int) : cmpI a b = -1 ∨ cmpI a b = 0 ∨ cmpI a b = 1 := by unfold cmpI; split; · simp
                                                                                   · split <;> simp
theorem cmpI_lt {a b : Int} : cmpI a b < 0 ↔ a < b := by unfold cmpI; split; · simp; assumption
                                                         · split <;> simp <;> omega
theorem cmpI_zero {a b : Int} : cmpI a b = 0 ↔ a = b := by
  unfold cmpI
  by_cases h1 : a < b
  · rw [if_pos h1]; exact ⟨fun h => by simp at h, fun h => by omega⟩
  · rw [if_neg h1]
    by_cases h2 : b < a
    · rw [if_pos h2]; exact ⟨fun h => by simp at h, fun h => by omega⟩
    · rw [if_neg h2]; exact ⟨fun _ => by omega, fun _ => rfl⟩
theorem cmpB_range : ∀ (a b : List Int), cmpB a b = -1 ∨ cmpB a b = 0 ∨ cmpB a b = 1
  | [], [] => .inr (.inl rfl)
  | [], _ :: _ => .inl rfl
  | _ :: _, [] => .inr (.inr rfl)
  | a :: l, b :: m => by
    unfold cmpB
    split
    · exact .inl rfl
    · split
      · exact .inr (.inr rfl)
      · exact cmpB_range l m
theorem cmpB_self : ∀ (a : List Int), cmpB a a = 0
  | [] => rfl
  | a :: l => by unfold cmpB; rw [if_neg (by omega), if_neg (by omega)]; exact cmpB_self l
theorem cmpB_zero : ∀ {a b : List Int}, cmpB a b = 0 → a = b
  | [], [], _ => rfl
  | [], _ :: _, h => by simp [cmpB] at h
  | _ :: _, [], h => by simp [cmpB] at h
  | a :: l, b :: m, h => by
    unfold cmpB at h
    by_cases h1 : a < b
    · rw [if_pos h1] at h; simp at h
    · rw [if_neg h1] at h
      by_cases h2 : b < a
      · rw [if_pos h2] at h; simp at h
      · rw [if_neg h2] at h
        rw [show a = b from by omega, cmpB_zero h]
theorem cmpB_trans : ∀ {a b c : List Int}, cmpB a b < 0 → cmpB b c < 0 → cmpB a c < 0
  | [], [], c, h, _ => by simp [cmpB] at h
  | _ :: _, [], c, h, _ => by simp [cmpB] at h
  | [], _ :: _, [], _, h => by simp [cmpB] at h
  | _ :: _, _ :: _, [], _, h => by simp [cmpB] at h
  | [], _ :: _, _ :: _, _, _ => by simp [cmpB]
  | x :: a, y :: b, z :: c, h, k => by
    unfold cmpB at h k ⊢
    by_cases h1 : x < y
    · by_cases k1 : y < z
      · rw [if_pos (by omega)]; decide
      · rw [if_neg k1] at k
        by_cases k2 : z < y
        · rw [if_pos k2] at k; simp at k
        · rw [if_pos (by omega)]; decide
    · rw [if_neg h1] at h
      by_cases h2 : y < x
      · rw [if_pos h2] at h; simp at h
      · rw [if_neg h2] at h
        by_cases k1 : y < z
        · rw [if_pos (by omega)]; decide
        · rw [if_neg k1] at k
          by_cases k2 : z < y
          · rw [if_pos k2] at k; simp at k
          · rw [if_neg k2] at k
            rw [if_neg (by omega), if_neg (by omega)]
            exact cmpB_trans h k
theorem pl_range (a b : List Int × Int) : pl a b = -1 ∨ pl a b = 0 ∨ pl a b = 1 := by
  unfold pl
  split
  · exact cmpI_range _ _
  · exact cmpB_range _ _
theorem pl_zero {a b : List Int × Int} : pl a b = 0 ↔ a = b := by
  obtain ⟨a1, a2⟩ := a
  obtain ⟨b1, b2⟩ := b
  unfold pl
  constructor
  · intro h
    by_cases e : cmpB a1 b1 = 0
    · rw [if_pos e] at h
      have h1 := cmpB_zero e
      have h2 := cmpI_zero.1 h
      dsimp only at h2
      rw [h1, h2]
    · rw [if_neg e] at h; exact absurd h e
  · intro h
    cases h
    rw [if_pos (cmpB_self _)]
    exact cmpI_zero.2 rfl
theorem pl_trans {a b c : List Int × Int} (h : pl a b < 0) (k : pl b c < 0) : pl a c < 0 := by
  obtain ⟨a1, a2⟩ := a
  obtain ⟨b1, b2⟩ := b
  obtain ⟨c1, c2⟩ := c
  unfold pl at *
  dsimp only at *
  by_cases e : cmpB a1 b1 = 0
  · obtain rfl := cmpB_zero e
    rw [if_pos e] at h
    by_cases f : cmpB a1 c1 = 0
    · rw [if_pos f] at k ⊢
      have := cmpI_lt.1 h
      have := cmpI_lt.1 k
      exact cmpI_lt.2 (by omega)
    · rw [if_neg f] at k ⊢; exact k
  · rw [if_neg e] at h
    by_cases f : cmpB b1 c1 = 0
    · obtain rfl := cmpB_zero f
      rw [if_neg e]; exact h
    · rw [if_neg f] at k
      have t := cmpB_trans h k
      rw [if_neg (by omega)]; exact t
/-- A set is in order, and each of its coins is right. -/
theorem setG_zero : ∀ (l : List Coin) (p : Option (List Int × Int)), setG p l = 0 → (∀ c ∈ l, coinF c = 0 ∧ behind p c) ∧ ∀ i j (hi : i < j) (hj : j < l.length), pl (place (l[i]'(by omega))) (place l[j]) < 0
  | [], p, _ => ⟨fun c hc => (by cases hc), fun i j hi hj => absurd hj (by simp)⟩
  | c :: r, p, h => by
    unfold setG at h
    by_cases hb : behind p c
    · rw [if_pos hb] at h
      by_cases hc : coinF c = 0
      · rw [if_pos hc] at h
        obtain ⟨h1, h2⟩ := setG_zero r (some (place c)) h
        refine ⟨fun x hx => ?_, fun i j hi hj => ?_⟩
        · rcases List.mem_cons.1 hx with rfl | hx
          · exact ⟨hc, hb⟩
          · exact ⟨(h1 x hx).1, fun q hq => pl_trans (hb q hq) ((h1 x hx).2 (place c) rfl)⟩
        · cases j with
          | zero => omega
          | succ j =>
            cases i with
            | zero => exact (h1 _ (List.getElem_mem (by simpa using hj))).2 (place c) rfl
            | succ i => exact h2 i j (by omega) (by simpa using hj)
      · rw [if_neg hc] at h; exact absurd h hc
    · rw [if_neg hb] at h; simp at h
theorem setF_zero {l : List Coin} (h : setF l = 0) : l.length ≤ 1000 ∧ (∀ c ∈ l, coinF c = 0) ∧ ∀ i j (hi : i < j) (hj : j < l.length), pl (place (l[i]'(by omega))) (place l[j]) < 0 := by
  unfold setF at h
  by_cases e : 1000 < l.length
  · rw [if_pos e] at h; simp at h
  · rw [if_neg e] at h
    obtain ⟨h1, h2⟩ := setG_zero l none h
    exact ⟨by omega, fun c hc => (h1 c hc).1, h2⟩
theorem set_down {l : List Coin} (h : setF l = 0) {p : List Int × Int} {m : Nat} (hm : m < l.length) (hp : pl (place l[m]) p < 0) (t : Nat) (ht : t ≤ m) : pl (place (l[t]'(by omega))) p < 0 := by
  rcases Nat.lt_or_eq_of_le ht with h1 | h1
  · exact pl_trans ((setF_zero h).2.2 t m h1 hm) hp
  · subst h1; exact hp
theorem set_up {l : List Coin} (h : setF l = 0) {p : List Int × Int} {m : Nat} (hm : m < l.length) (hp : ¬ pl (place l[m]) p < 0) (t : Nat) (ht : m ≤ t) (hl : t < l.length) : ¬ pl (place l[t]) p < 0 := by
  rcases Nat.lt_or_eq_of_le ht with h1 | h1
  · intro k; exact hp (pl_trans ((setF_zero h).2.2 m t h1 hl) k)
  · subst h1; exact hp
theorem set_once {l : List Coin} (h : setF l = 0) {i j : Nat} (hi : i < l.length) (hj : j < l.length) (e : place l[i] = place l[j]) : i = j := by
  rcases Nat.lt_trichotomy i j with k | k | k
  · have := (setF_zero h).2.2 i j k hj; rw [pl_zero.2 e] at this; omega
  · exact k
  · have := (setF_zero h).2.2 j i k hi; rw [pl_zero.2 e.symm] at this; omega
/-- How the rest of a set is looked at. -/
theorem setG_next {p : Option (List Int × Int)} {l : List Coin} {k : Nat} (hk : k < l.length) (hb : behind p l[k]) (hc : coinF l[k] = 0) : setG p (l.drop k) = setG (some (place l[k])) (l.drop (k + 1)) := by
  rw [List.drop_eq_getElem_cons hk, setG, if_pos hb, if_pos hc]
theorem setG_twice {p : Option (List Int × Int)} {l : List Coin} {k : Nat} (hk : k < l.length) (hb : ¬ behind p l[k]) : setG p (l.drop k) = 6 := by
  rw [List.drop_eq_getElem_cons hk, setG, if_neg hb]
theorem setG_bad {p : Option (List Int × Int)} {l : List Coin} {k : Nat} (hk : k < l.length) (hb : behind p l[k]) (hc : coinF l[k] ≠ 0) : setG p (l.drop k) = coinF l[k] := by
  rw [List.drop_eq_getElem_cons hk, setG, if_pos hb, if_neg hc]
end Go.Proofs.YtifoldkbmpopnaaDoor.Cn
