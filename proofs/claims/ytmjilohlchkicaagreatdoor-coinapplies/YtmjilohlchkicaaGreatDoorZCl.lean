/- The texts Cn, CnA, CnLa, one behind the other. -/
import Derived.Test.YtmjilohlchkicaaGreatDoorZKg
/- Coins, over lists: what is ahead, what is wrong with a set. -/
namespace Go.Proofs.YtmjilohlchkicaaGreatDoor.Cn
set_option linter.unusedVariables false

structure Coin where
  tx : List Int
  at' : Int
  amount : Int
  lock : List Lk.Op
  height : Int

def cmpI (a b : Int) : Int := if a < b then -1 else if b < a then 1 else 0
def cmpB : List Int → List Int → Int
  | [], [] => 0
  | [], _ :: _ => -1
  | _ :: _, [] => 1
  | a :: l, b :: m => if a < b then -1 else if b < a then 1 else cmpB l m
def pl (a b : List Int × Int) : Int := if cmpB a.1 b.1 = 0 then cmpI a.2 b.2 else cmpB a.1 b.1
def place (c : Coin) : List Int × Int := (c.tx, c.at')
def coinF (c : Coin) : Int := if c.at' < 0 ∨ 40 ≤ c.at' ∨ ¬ (0 ≤ c.height ∧ c.height ≤ 1073741824) then 2 else if Mo.chk c.amount = 0 then Lk.check c.lock else Mo.chk c.amount
def behind (p : Option (List Int × Int)) (c : Coin) : Prop := ∀ q, p = some q → pl q (place c) < 0
instance (p : Option (List Int × Int)) (c : Coin) : Decidable (behind p c) := match p with
  | none => .isTrue (fun q h => by cases h)
  | some q => if h : pl q (place c) < 0 then .isTrue (fun r hr => by cases hr; exact h) else .isFalse (fun k => h (k q rfl))
def setG : Option (List Int × Int) → List Coin → Int
  | _, [] => 0
  | p, c :: r => if behind p c then (if coinF c = 0 then setG (some (place c)) r else coinF c) else 6
def setF (l : List Coin) : Int := if 1000 < l.length then 4 else setG none l

theorem cmpI_range (a b : Int) : cmpI a b = -1 ∨ cmpI a b = 0 ∨ cmpI a b = 1 := by unfold cmpI; split; · simp
                                                                                   · split <;> simp
theorem cmpI_lt {a b : Int} : cmpI a b < 0 ↔ a < b := by unfold cmpI; split; · simp; assumption
                                                         · split <;> simp <;> omega
theorem cmpI_zero {a b : Int} : cmpI a b = 0 ↔ a = b := by
  unfold cmpI
  by_cases h1 : a < b
  · rw [if_pos h1]; exact ⟨fun h => by simp at h, fun h => by omega⟩
  · rw [if_neg h1]
    by_cases h2 : b < a
    · rw [if_pos h2]; exact ⟨fun h => by simp at h, fun h => by omega⟩
    · rw [if_neg h2]; exact ⟨fun _ => by omega, fun _ => rfl⟩
theorem cmpB_range : ∀ (a b : List Int), cmpB a b = -1 ∨ cmpB a b = 0 ∨ cmpB a b = 1
  | [], [] => .inr (.inl rfl)
  | [], _ :: _ => .inl rfl
  | _ :: _, [] => .inr (.inr rfl)
  | a :: l, b :: m => by
    unfold cmpB
    split
    · exact .inl rfl
    · split
      · exact .inr (.inr rfl)
      · exact cmpB_range l m
theorem cmpB_self : ∀ (a : List Int), cmpB a a = 0
  | [] => rfl
  | a :: l => by unfold cmpB; rw [if_neg (by omega), if_neg (by omega)]; exact cmpB_self l
theorem cmpB_zero : ∀ {a b : List Int}, cmpB a b = 0 → a = b
  | [], [], _ => rfl
  | [], _ :: _, h => by simp [cmpB] at h
  | _ :: _, [], h => by simp [cmpB] at h
  | a :: l, b :: m, h => by
    unfold cmpB at h
    by_cases h1 : a < b
    · rw [if_pos h1] at h; simp at h
    · rw [if_neg h1] at h
      by_cases h2 : b < a
      · rw [if_pos h2] at h; simp at h
      · rw [if_neg h2] at h
        rw [show a = b from by omega, cmpB_zero h]
theorem cmpB_trans : ∀ {a b c : List Int}, cmpB a b < 0 → cmpB b c < 0 → cmpB a c < 0
  | [], [], c, h, _ => by simp [cmpB] at h
  | _ :: _, [], c, h, _ => by simp [cmpB] at h
  | [], _ :: _, [], _, h => by simp [cmpB] at h
  | _ :: _, _ :: _, [], _, h => by simp [cmpB] at h
  | [], _ :: _, _ :: _, _, _ => by simp [cmpB]
  | x :: a, y :: b, z :: c, h, k => by
    unfold cmpB at h k ⊢
    by_cases h1 : x < y
    · by_cases k1 : y < z
      · rw [if_pos (by omega)]; decide
      · rw [if_neg k1] at k
        by_cases k2 : z < y
        · rw [if_pos k2] at k; simp at k
        · rw [if_pos (by omega)]; decide
    · rw [if_neg h1] at h
      by_cases h2 : y < x
      · rw [if_pos h2] at h; simp at h
      · rw [if_neg h2] at h
        by_cases k1 : y < z
        · rw [if_pos (by omega)]; decide
        · rw [if_neg k1] at k
          by_cases k2 : z < y
          · rw [if_pos k2] at k; simp at k
          · rw [if_neg k2] at k
            rw [if_neg (by omega), if_neg (by omega)]
            exact cmpB_trans h k
theorem pl_range (a b : List Int × Int) : pl a b = -1 ∨ pl a b = 0 ∨ pl a b = 1 := by
  unfold pl
  split
  · exact cmpI_range _ _
  · exact cmpB_range _ _
theorem pl_zero {a b : List Int × Int} : pl a b = 0 ↔ a = b := by
  obtain ⟨a1, a2⟩ := a
  obtain ⟨b1, b2⟩ := b
  unfold pl
  constructor
  · intro h
    by_cases e : cmpB a1 b1 = 0
    · rw [if_pos e] at h
      have h1 := cmpB_zero e
      have h2 := cmpI_zero.1 h
      dsimp only at h2
      rw [h1, h2]
    · rw [if_neg e] at h; exact absurd h e
  · intro h
    cases h
    rw [if_pos (cmpB_self _)]
    exact cmpI_zero.2 rfl
theorem pl_trans {a b c : List Int × Int} (h : pl a b < 0) (k : pl b c < 0) : pl a c < 0 := by
  obtain ⟨a1, a2⟩ := a
  obtain ⟨b1, b2⟩ := b
  obtain ⟨c1, c2⟩ := c
  unfold pl at *
  dsimp only at *
  by_cases e : cmpB a1 b1 = 0
  · obtain rfl := cmpB_zero e
    rw [if_pos e] at h
    by_cases f : cmpB a1 c1 = 0
    · rw [if_pos f] at k ⊢
      have := cmpI_lt.1 h
      have := cmpI_lt.1 k
      exact cmpI_lt.2 (by omega)
    · rw [if_neg f] at k ⊢; exact k
  · rw [if_neg e] at h
    by_cases f : cmpB b1 c1 = 0
    · obtain rfl := cmpB_zero f
      rw [if_neg e]; exact h
    · rw [if_neg f] at k
      have t := cmpB_trans h k
      rw [if_neg (by omega)]; exact t
/-- A set is in order, and each of its coins is right. -/
theorem setG_zero : ∀ (l : List Coin) (p : Option (List Int × Int)), setG p l = 0 → (∀ c ∈ l, coinF c = 0 ∧ behind p c) ∧ ∀ i j (hi : i < j) (hj : j < l.length), pl (place (l[i]'(by omega))) (place l[j]) < 0
  | [], p, _ => ⟨fun c hc => (by cases hc), fun i j hi hj => absurd hj (by simp)⟩
  | c :: r, p, h => by
    unfold setG at h
    by_cases hb : behind p c
    · rw [if_pos hb] at h
      by_cases hc : coinF c = 0
      · rw [if_pos hc] at h
        obtain ⟨h1, h2⟩ := setG_zero r (some (place c)) h
        refine ⟨fun x hx => ?_, fun i j hi hj => ?_⟩
        · rcases List.mem_cons.1 hx with rfl | hx
          · exact ⟨hc, hb⟩
          · exact ⟨(h1 x hx).1, fun q hq => pl_trans (hb q hq) ((h1 x hx).2 (place c) rfl)⟩
        · cases j with
          | zero => omega
          | succ j =>
            cases i with
            | zero => exact (h1 _ (List.getElem_mem (by simpa using hj))).2 (place c) rfl
            | succ i => exact h2 i j (by omega) (by simpa using hj)
      · rw [if_neg hc] at h; exact absurd h hc
    · rw [if_neg hb] at h; simp at h
theorem setF_zero {l : List Coin} (h : setF l = 0) : l.length ≤ 1000 ∧ (∀ c ∈ l, coinF c = 0) ∧ ∀ i j (hi : i < j) (hj : j < l.length), pl (place (l[i]'(by omega))) (place l[j]) < 0 := by
  unfold setF at h
  by_cases e : 1000 < l.length
  · rw [if_pos e] at h; simp at h
  · rw [if_neg e] at h
    obtain ⟨h1, h2⟩ := setG_zero l none h
    exact ⟨by omega, fun c hc => (h1 c hc).1, h2⟩
theorem set_down {l : List Coin} (h : setF l = 0) {p : List Int × Int} {m : Nat} (hm : m < l.length) (hp : pl (place l[m]) p < 0) (t : Nat) (ht : t ≤ m) : pl (place (l[t]'(by omega))) p < 0 := by
  rcases Nat.lt_or_eq_of_le ht with h1 | h1
  · exact pl_trans ((setF_zero h).2.2 t m h1 hm) hp
  · subst h1; exact hp
theorem set_up {l : List Coin} (h : setF l = 0) {p : List Int × Int} {m : Nat} (hm : m < l.length) (hp : ¬ pl (place l[m]) p < 0) (t : Nat) (ht : m ≤ t) (hl : t < l.length) : ¬ pl (place l[t]) p < 0 := by
  rcases Nat.lt_or_eq_of_le ht with h1 | h1
  · intro k; exact hp (pl_trans ((setF_zero h).2.2 m t h1 hl) k)
  · subst h1; exact hp
theorem set_once {l : List Coin} (h : setF l = 0) {i j : Nat} (hi : i < l.length) (hj : j < l.length) (e : place l[i] = place l[j]) : i = j := by
  rcases Nat.lt_trichotomy i j with k | k | k
  · have := (setF_zero h).2.2 i j k hj; rw [pl_zero.2 e] at this; omega
  · exact k
  · have := (setF_zero h).2.2 j i k hi; rw [pl_zero.2 e.symm] at this; omega
/-- How the rest of a set is looked at. -/
theorem setG_next {p : Option (List Int × Int)} {l : List Coin} {k : Nat} (hk : k < l.length) (hb : behind p l[k]) (hc : coinF l[k] = 0) : setG p (l.drop k) = setG (some (place l[k])) (l.drop (k + 1)) := by
  rw [List.drop_eq_getElem_cons hk, setG, if_pos hb, if_pos hc]
theorem setG_twice {p : Option (List Int × Int)} {l : List Coin} {k : Nat} (hk : k < l.length) (hb : ¬ behind p l[k]) : setG p (l.drop k) = 6 := by
  rw [List.drop_eq_getElem_cons hk, setG, if_neg hb]
theorem setG_bad {p : Option (List Int × Int)} {l : List Coin} {k : Nat} (hk : k < l.length) (hb : behind p l[k]) (hc : coinF l[k] ≠ 0) : setG p (l.drop k) = coinF l[k] := by
  rw [List.drop_eq_getElem_cons hk, setG, if_pos hb, if_neg hc]
end Go.Proofs.YtmjilohlchkicaaGreatDoor.Cn

/- What a payment does to a set, over lists. -/
namespace Go.Proofs.YtmjilohlchkicaaGreatDoor.Cn
set_option linter.unusedVariables false

theorem cmpI_swap (a b : Int) : cmpI b a = - cmpI a b := by
  unfold cmpI
  by_cases h1 : a < b
  · rw [if_pos h1, if_neg (by omega), if_pos h1]; rfl
  · rw [if_neg h1]
    by_cases h2 : b < a
    · rw [if_pos h2, if_pos h2, if_neg h1]
    · rw [if_neg h2, if_neg h2, if_neg h1]; rfl
theorem cmpB_swap : ∀ (a b : List Int), cmpB b a = - cmpB a b
  | [], [] => rfl
  | [], _ :: _ => rfl
  | _ :: _, [] => rfl
  | a :: l, b :: m => by
    unfold cmpB
    by_cases h1 : a < b
    · rw [if_pos h1, if_neg (by omega), if_pos h1]; rfl
    · rw [if_neg h1]
      by_cases h2 : b < a
      · rw [if_pos h2, if_pos h2, if_neg h1]
      · rw [if_neg h2, if_neg h2, if_neg h1]; exact cmpB_swap l m
theorem pl_swap (a b : List Int × Int) : pl b a = - pl a b := by
  unfold pl
  rw [cmpB_swap a.1 b.1]
  by_cases h : cmpB a.1 b.1 = 0
  · rw [if_pos h, if_pos (by omega), cmpI_swap]
  · rw [if_neg h, if_neg (by omega)]
theorem pl_self (a : List Int × Int) : pl a a = 0 := pl_zero.2 rfl
theorem pl_total {a b : List Int × Int} (h : a ≠ b) : pl a b < 0 ∨ pl b a < 0 := by
  have h1 : pl a b ≠ 0 := fun e => h (pl_zero.1 e)
  rw [pl_swap a b]; omega
theorem pl_ntrans {a b c : List Int × Int} (h : ¬ pl a b < 0) (k : ¬ pl b c < 0) : ¬ pl a c < 0 := by
  intro l
  by_cases e : a = b
  · rw [e] at l; exact k l
  · rcases pl_total e with m | m
    · exact h m
    · exact k (pl_trans m l)
/-- In order, no two of one place. -/
def Ord (l : List Coin) : Prop := l.Pairwise fun x y => pl (place x) (place y) < 0
theorem ord_of_get {l : List Coin} (h : ∀ i j (hi : i < j) (hj : j < l.length), pl (place (l[i]'(by omega))) (place l[j]) < 0) : Ord l := List.pairwise_iff_getElem.2 (fun i j hi hj hij => h i j hij hj)
theorem set_ord {l : List Coin} (h : setF l = 0) : Ord l := ord_of_get (setF_zero h).2.2
/-- What is in order is told by what is in it. -/
theorem ord_unique : ∀ {a b : List Coin}, Ord a → Ord b → a.Perm b → a = b
  | [], b, _, _, h => (List.nil_perm.1 h).symm
  | x :: a, [], _, _, h => absurd (List.perm_nil.1 h) (by simp)
  | x :: a, y :: b, ha, hb, h => by
    have hx : x ∈ y :: b := h.mem_iff.1 (by simp)
    have hy : y ∈ x :: a := h.mem_iff.2 (by simp)
    have e : x = y := by
      rcases List.mem_cons.1 hx with e | hx
      · exact e
      · rcases List.mem_cons.1 hy with e | hy
        · exact e.symm
        · have h1 := (List.pairwise_cons.1 ha).1 y hy
          have h2 := (List.pairwise_cons.1 hb).1 x hx
          rw [pl_swap] at h2; omega
    subst e
    rw [ord_unique (List.pairwise_cons.1 ha).2 (List.pairwise_cons.1 hb).2 (List.Perm.cons_inv h)]
/-- In order, and places that are unlike: in strict order. -/
theorem ord_strict {l : List Coin} (h : ∀ i j (hi : i < j) (hj : j < l.length), ¬ pl (place l[j]) (place (l[i]'(by omega))) < 0) (hn : (l.map place).Nodup) : Ord l := by
  refine ord_of_get (fun i j hi hj => ?_)
  have hne : place (l[i]'(by omega)) ≠ place l[j] := by
    intro e
    have k := List.pairwise_iff_getElem.1 (show List.Pairwise (· ≠ ·) (l.map place) from hn) i j (by rw [List.length_map]; omega) (by rw [List.length_map]; exact hj) hi
    rw [List.getElem_map, List.getElem_map] at k
    exact k e
  rcases pl_total hne with m | m
  · exact m
  · exact absurd m (h i j hi hj)
theorem ord_nodup {l : List Coin} (h : Ord l) : (l.map place).Nodup := by
  refine List.pairwise_map.2 (h.imp (fun {x y} hxy e => ?_))
  rw [pl_zero.2 e] at hxy; omega
/-- The coin at a place. -/
def at? (l : List Coin) (p : List Int × Int) : Option Coin := l.find? (fun c => decide (place c = p))
theorem at?_some {l : List Coin} {p : List Int × Int} {c : Coin} (h : at? l p = some c) : c ∈ l ∧ place c = p := ⟨List.mem_of_find?_eq_some h, by simpa using List.find?_some h⟩
theorem at?_none {l : List Coin} {p : List Int × Int} : at? l p = none ↔ ∀ c ∈ l, place c ≠ p := by simp [at?, List.find?_eq_none]
theorem at?_mem {l : List Coin} (h : (l.map place).Nodup) {c : Coin} (hc : c ∈ l) : at? l (place c) = some c := by
  cases e : at? l (place c) with
  | none => exact absurd rfl (at?_none.1 e c hc)
  | some d =>
    obtain ⟨hd, hp⟩ := at?_some e
    obtain ⟨i, hi, rfl⟩ := List.getElem_of_mem hc
    obtain ⟨j, hj, rfl⟩ := List.getElem_of_mem hd
    have hij : i = j := by
      have k := List.pairwise_iff_getElem.1 (show List.Pairwise (· ≠ ·) (l.map place) from h)
      rcases Nat.lt_trichotomy i j with m | m | m
      · exact absurd (by rw [List.getElem_map, List.getElem_map]; exact hp.symm) (k i j (by simpa using hi) (by simpa using hj) m)
      · exact m
      · exact absurd (by rw [List.getElem_map, List.getElem_map]; exact hp) (k j i (by simpa using hj) (by simpa using hi) m)
    subst hij; rfl
/-- The coins at places, in their order; none if one isn't there. -/
def spentOf (l : List Coin) : List (List Int × Int) → Option (List Coin)
  | [] => some []
  | p :: r => (at? l p).bind fun c => (spentOf l r).map (c :: ·)
theorem spentOf_places {l : List Coin} : ∀ {ps : List (List Int × Int)} {s : List Coin}, spentOf l ps = some s → s.map place = ps ∧ ∀ c ∈ s, c ∈ l
  | [], s, h => by simp [spentOf] at h; subst h; simp
  | p :: r, s, h => by
    unfold spentOf at h
    cases e : at? l p with
    | none => rw [e] at h; simp at h
    | some c =>
      rw [e] at h
      cases f : spentOf l r with
      | none => rw [f] at h; simp at h
      | some t =>
        rw [f] at h
        simp at h
        subst h
        obtain ⟨h1, h2⟩ := at?_some e
        obtain ⟨k1, k2⟩ := spentOf_places f
        refine ⟨by simp [k1, h2], fun x hx => ?_⟩
        rcases List.mem_cons.1 hx with rfl | hx
        · exact h1
        · exact k2 x hx
theorem spentOf_snoc {l : List Coin} {p : List Int × Int} : ∀ {ps : List (List Int × Int)}, spentOf l (ps ++ [p]) = (spentOf l ps).bind fun s => (at? l p).map fun c => s ++ [c]
  | [] => by cases e : at? l p <;> simp [spentOf, e]
  | q :: r => by
    have ih := spentOf_snoc (l := l) (p := p) (ps := r)
    simp only [List.cons_append, spentOf, ih]
    cases e : at? l q <;> cases f : spentOf l r <;> cases g : at? l p <;> simp
/-- A set without what goes. -/
def less (l gone : List Coin) : List Coin := l.filter fun c => decide (∀ g ∈ gone, place g ≠ place c)
theorem less_mem {l gone : List Coin} {c : Coin} : c ∈ less l gone ↔ c ∈ l ∧ ∀ g ∈ gone, place g ≠ place c := by simp [less]
theorem less_ord {l gone : List Coin} (h : Ord l) : Ord (less l gone) := List.Pairwise.filter _ h
/-- The coins that a payment makes. -/
def newsFrom (id : List Int) (h : Int) : Nat → List Tm.Out → List Coin
  | _, [] => []
  | k, o :: r => ⟨id, k, o.amount, o.lock, h⟩ :: newsFrom id h (k + 1) r
def news (t : Tm.Tx) (h : Int) : List Coin := newsFrom (Tm.id t) h 0 t.outs
theorem newsFrom_length (id : List Int) (h : Int) : ∀ (k : Nat) (l : List Tm.Out), (newsFrom id h k l).length = l.length
  | _, [] => rfl
  | k, o :: r => by simp [newsFrom, newsFrom_length id h (k + 1) r]
theorem newsFrom_snoc (id : List Int) (h : Int) (o : Tm.Out) : ∀ (k : Nat) (l : List Tm.Out), newsFrom id h k (l ++ [o]) = newsFrom id h k l ++ [⟨id, (k + l.length : Nat), o.amount, o.lock, h⟩]
  | k, [] => by simp [newsFrom]
  | k, x :: r => by
    simp only [List.cons_append, newsFrom, newsFrom_snoc id h o (k + 1) r, List.length_cons]
    rw [show k + 1 + r.length = k + (r.length + 1) from by omega]
theorem newsFrom_mem {id : List Int} {h : Int} {c : Coin} : ∀ {k : Nat} {l : List Tm.Out}, c ∈ newsFrom id h k l → c.tx = id ∧ (k : Int) ≤ c.at' ∧ c.at' < (k + l.length : Nat)
  | k, [], hc => by cases hc
  | k, o :: r, hc => by
    rcases List.mem_cons.1 hc with rfl | hc
    · refine ⟨rfl, ?_, ?_⟩ <;> simp <;> omega
    · obtain ⟨h1, h2, h3⟩ := newsFrom_mem hc
      refine ⟨h1, ?_, ?_⟩ <;> simp at * <;> omega
theorem newsFrom_ord (id : List Int) (h : Int) : ∀ (k : Nat) (l : List Tm.Out), Ord (newsFrom id h k l)
  | k, [] => List.Pairwise.nil
  | k, o :: r => by
    refine List.pairwise_cons.2 ⟨fun c hc => ?_, newsFrom_ord id h (k + 1) r⟩
    obtain ⟨h1, h2, _⟩ := newsFrom_mem hc
    unfold pl place
    dsimp only
    rw [h1, if_pos (cmpB_self id)]
    exact cmpI_lt.2 (by omega)
theorem news_ord (t : Tm.Tx) (h : Int) : Ord (news t h) := newsFrom_ord _ _ _ _
/-- Put together, in order. -/
def merged : List Coin → List Coin → List Coin
  | [], b => b
  | a, [] => a
  | x :: a, y :: b => if pl (place x) (place y) < 0 then x :: merged a (y :: b) else y :: merged (x :: a) b
termination_by a b => a.length + b.length
theorem merged_nil (a : List Coin) : merged a [] = a := by cases a <;> simp [merged]
theorem merged_perm : ∀ (a b : List Coin), (merged a b).Perm (a ++ b)
  | [], b => by simp [merged]
  | x :: a, [] => by simp [merged]
  | x :: a, y :: b => by
    unfold merged
    split
    · exact (merged_perm a (y :: b)).cons x
    · refine ((merged_perm (x :: a) b).cons y).trans ?_
      exact (List.perm_middle (l₁ := x :: a) (l₂ := b) (a := y)).symm
termination_by a b => a.length + b.length
theorem merged_ord : ∀ {a b : List Coin}, Ord a → Ord b → (∀ x ∈ a, ∀ y ∈ b, place x ≠ place y) → Ord (merged a b)
  | [], b, _, hb, _ => by simpa [merged] using hb
  | x :: a, [], ha, _, _ => by simpa [merged] using ha
  | x :: a, y :: b, ha, hb, hn => by
    have ha' := List.pairwise_cons.1 ha
    have hb' := List.pairwise_cons.1 hb
    unfold merged
    split
    · rename_i hlt
      refine List.pairwise_cons.2 ⟨fun c hc => ?_, merged_ord ha'.2 hb (fun u hu v hv => hn u (by simp [hu]) v hv)⟩
      rcases List.mem_append.1 ((merged_perm a (y :: b)).mem_iff.1 hc) with hc | hc
      · exact ha'.1 c hc
      · rcases List.mem_cons.1 hc with rfl | hc
        · exact hlt
        · exact pl_trans hlt (hb'.1 c hc)
    · rename_i hlt
      have hyx : pl (place y) (place x) < 0 := by
        rcases pl_total (hn x (by simp) y (by simp)) with m | m
        · exact absurd m hlt
        · exact m
      refine List.pairwise_cons.2 ⟨fun c hc => ?_, merged_ord ha hb'.2 (fun u hu v hv => hn u hu v (by simp [hv]))⟩
      rcases List.mem_append.1 ((merged_perm (x :: a) b).mem_iff.1 hc) with hc | hc
      · rcases List.mem_cons.1 hc with rfl | hc
        · exact hyx
        · exact pl_trans hyx (ha'.1 c hc)
      · exact hb'.1 c hc
termination_by a b => a.length + b.length
/-- A row that has just these coins, in order: it is they put together. -/
theorem exchange_eq {l gone comes s : List Coin} (hl : Ord l) (hc : Ord comes) (hn : ∀ x ∈ less l gone, ∀ y ∈ comes, place x ≠ place y) (hp : s.Perm (less l gone ++ comes)) (hs : ∀ i j (hi : i < j) (hj : j < s.length), ¬ pl (place s[j]) (place (s[i]'(by omega))) < 0) : s = merged (less l gone) comes := by
  have ho := merged_ord (less_ord (gone := gone) hl) hc hn
  have hpm := hp.trans (merged_perm (less l gone) comes).symm
  refine ord_unique (ord_strict hs ?_) ho hpm
  exact ((hpm.map place).nodup_iff).2 (ord_nodup ho)
/-- What a payment does to a set: what is wrong, the set behind it, what was spent, what is left over. -/
structure Done where
  e : Int
  set : List Coin
  spent : List Coin
  left : Int
def bad (e : Int) : Done := ⟨e, [], [], 0⟩
def amounts' (l : List Coin) : List Int := l.map Coin.amount
def apply (l : List Coin) (t : Tm.Tx) (h : Int) : Done :=
  if setF l ≠ 0 then bad (setF l)
  else if Tm.check t ≠ 0 then bad (Tm.check t)
  else if ¬ (0 ≤ h ∧ h ≤ 1073741824) then bad 2
  else match spentOf l (Tm.places t.ins) with
    | none => bad 5
    | some s =>
      if (Mo.tot 0 (amounts' s)).2 ≠ 0 then bad (Mo.tot 0 (amounts' s)).2
      else if (Mo.tot 0 (amounts' (news t h))).2 ≠ 0 then bad (Mo.tot 0 (amounts' (news t h))).2
      else if t.ins ≠ [] ∧ (Mo.tot 0 (amounts' s)).1 < (Mo.tot 0 (amounts' (news t h))).1 then bad 9
      else if ∃ c ∈ news t h, ∃ d ∈ l, place d = place c then bad 6
      else if 1000 < (merged (less l s) (news t h)).length then bad 4
      else ⟨0, merged (less l s) (news t h), s, if t.ins = [] then 0 else (Mo.tot 0 (amounts' s)).1 - (Mo.tot 0 (amounts' (news t h))).1⟩
end Go.Proofs.YtmjilohlchkicaaGreatDoor.Cn

/- What the laws of coins say of payments that are done, over lists. -/
namespace Go.Proofs.YtmjilohlchkicaaGreatDoor.Cn
set_option linter.unusedVariables false

/-- A payment that is done. -/
structure Good (l : List Coin) (t : Tm.Tx) (h : Int) (s : List Coin) : Prop where
  hs : setF l = 0
  hk : Tm.check t = 0
  hh : 0 ≤ h ∧ h ≤ 1073741824
  sp : spentOf l (Tm.places t.ins) = some s
  t1 : (Mo.tot 0 (amounts' s)).2 = 0
  t2 : (Mo.tot 0 (amounts' (news t h))).2 = 0
  le : t.ins ≠ [] → (Mo.tot 0 (amounts' (news t h))).1 ≤ (Mo.tot 0 (amounts' s)).1
  nw : ∀ c ∈ news t h, ∀ d ∈ l, place d ≠ place c
  ln : (merged (less l s) (news t h)).length ≤ 1000
def leftOf (t : Tm.Tx) (h : Int) (s : List Coin) : Int := if t.ins = [] then 0 else (Mo.tot 0 (amounts' s)).1 - (Mo.tot 0 (amounts' (news t h))).1
def doneOf (l : List Coin) (t : Tm.Tx) (h : Int) (s : List Coin) : Done := ⟨0, merged (less l s) (news t h), s, leftOf t h s⟩
theorem Good.apply {l : List Coin} {t : Tm.Tx} {h : Int} {s : List Coin} (g : Good l t h s) : apply l t h = doneOf l t h s := by
  unfold Cn.apply
  rw [if_neg (fun e => e g.hs), if_neg (fun e => e g.hk), if_neg (fun e => e g.hh), g.sp]
  dsimp only
  rw [if_neg (fun e => e g.t1), if_neg (fun e => e g.t2), if_neg (fun e => by have := g.le e.1; omega), if_neg (fun ⟨c, hc, d, hd, e⟩ => g.nw c hc d hd e), if_neg (by have := g.ln; omega)]
  rfl
theorem bad_e {e : Int} (h : e ≠ 0) : (bad e).e ≠ 0 := h
theorem apply_good {l : List Coin} {t : Tm.Tx} {h : Int} (he : (apply l t h).e = 0) : ∃ s, Good l t h s ∧ apply l t h = doneOf l t h s := by
  unfold Cn.apply at he
  by_cases h1 : setF l = 0
  · rw [if_neg (fun e => e h1)] at he
    by_cases h2 : Tm.check t = 0
    · rw [if_neg (fun e => e h2)] at he
      by_cases h3 : 0 ≤ h ∧ h ≤ 1073741824
      · rw [if_neg (fun e => e h3)] at he
        cases h4 : spentOf l (Tm.places t.ins) with
        | none => rw [h4] at he; simp [bad] at he
        | some s =>
          rw [h4] at he
          dsimp only at he
          by_cases h5 : (Mo.tot 0 (amounts' s)).2 = 0
          · rw [if_neg (fun e => e h5)] at he
            by_cases h6 : (Mo.tot 0 (amounts' (news t h))).2 = 0
            · rw [if_neg (fun e => e h6)] at he
              by_cases h7 : t.ins ≠ [] ∧ (Mo.tot 0 (amounts' s)).1 < (Mo.tot 0 (amounts' (news t h))).1
              · rw [if_pos h7] at he; simp [bad] at he
              · rw [if_neg h7] at he
                by_cases h8 : ∃ c ∈ news t h, ∃ d ∈ l, place d = place c
                · rw [if_pos h8] at he; simp [bad] at he
                · rw [if_neg h8] at he
                  by_cases h9 : 1000 < (merged (less l s) (news t h)).length
                  · rw [if_pos h9] at he; simp [bad] at he
                  · have g : Good l t h s := ⟨h1, h2, h3, h4, h5, h6, fun e => Int.not_lt.1 (fun k => h7 ⟨e, k⟩), fun c hc d hd e => h8 ⟨c, hc, d, hd, e⟩, by omega⟩
                    exact ⟨s, g, g.apply⟩
            · rw [if_pos h6] at he; exact absurd he (bad_e h6)
          · rw [if_pos h5] at he; exact absurd he (bad_e h5)
      · rw [if_pos h3] at he; simp [bad] at he
    · rw [if_pos h2] at he; exact absurd he (bad_e h2)
  · rw [if_pos h1] at he; exact absurd he (bad_e h1)

/- Sets. -/
theorem setG_of : ∀ {l : List Coin} {p : Option (List Int × Int)}, (∀ c ∈ l, coinF c = 0 ∧ behind p c) → Ord l → setG p l = 0
  | [], p, _, _ => rfl
  | c :: r, p, h, ho => by
    unfold setG
    rw [if_pos (h c (by simp)).2, if_pos (h c (by simp)).1]
    refine setG_of (fun x hx => ⟨(h x (by simp [hx])).1, ?_⟩) (List.pairwise_cons.1 ho).2
    intro q hq
    cases hq
    exact (List.pairwise_cons.1 ho).1 x hx
theorem setF_of {l : List Coin} (hl : l.length ≤ 1000) (h : ∀ c ∈ l, coinF c = 0) (ho : Ord l) : setF l = 0 := by
  unfold setF
  rw [if_neg (by omega)]
  exact setG_of (fun c hc => ⟨h c hc, fun q hq => by cases hq⟩) ho
theorem newsFrom_in {id : List Int} {h : Int} {c : Coin} : ∀ {k : Nat} {l : List Tm.Out}, c ∈ newsFrom id h k l → ∃ o ∈ l, c.amount = o.amount ∧ c.lock = o.lock ∧ c.height = h
  | k, [], hc => by cases hc
  | k, o :: r, hc => by
    rcases List.mem_cons.1 hc with rfl | hc
    · exact ⟨o, by simp, rfl, rfl, rfl⟩
    · obtain ⟨x, hx, e⟩ := newsFrom_in hc
      exact ⟨x, by simp [hx], e⟩
theorem newsFrom_get {id : List Int} {h : Int} : ∀ {k : Nat} {l : List Tm.Out} {i : Nat} (hi : i < l.length), (⟨id, ((k + i : Nat) : Int), l[i].amount, l[i].lock, h⟩ : Coin) ∈ newsFrom id h k l
  | k, [], i, hi => absurd hi (by simp)
  | k, o :: r, 0, hi => by simp [newsFrom]
  | k, o :: r, i + 1, hi => by
    have := newsFrom_get (id := id) (h := h) (k := k + 1) (l := r) (i := i) (by simpa using hi)
    rw [show k + 1 + i = k + (i + 1) from by omega] at this
    simp only [newsFrom, List.getElem_cons_succ]
    exact List.mem_cons_of_mem _ this
theorem news_get {t : Tm.Tx} {h : Int} {i : Nat} (hi : i < t.outs.length) : (⟨Tm.id t, (i : Int), t.outs[i].amount, t.outs[i].lock, h⟩ : Coin) ∈ news t h := by
  have := newsFrom_get (id := Tm.id t) (h := h) (k := 0) (l := t.outs) hi
  rwa [Nat.zero_add] at this
theorem news_coinF {t : Tm.Tx} {h : Int} (hk : Tm.check t = 0) (hh : 0 ≤ h ∧ h ≤ 1073741824) : ∀ c ∈ news t h, coinF c = 0 := by
  intro c hc
  obtain ⟨_, h2, _, _, _, _, h7⟩ := Tm.check_zero t hk
  obtain ⟨_, a1, a2⟩ := newsFrom_mem hc
  obtain ⟨o, ho, e1, e2, e3⟩ := newsFrom_in hc
  obtain ⟨k1, k2⟩ := Tm.outsF_zero _ h7 o ho
  unfold coinF
  rw [if_neg (by rw [e3]; omega), e1, e2, if_pos (Mo.chk_good _ k1)]
  exact k2
theorem Good.apart {l : List Coin} {t : Tm.Tx} {h : Int} {s : List Coin} (g : Good l t h s) : ∀ x ∈ less l s, ∀ y ∈ news t h, place x ≠ place y := fun x hx y hy => g.nw y hy x (less_mem.1 hx).1
theorem Good.ord {l : List Coin} {t : Tm.Tx} {h : Int} {s : List Coin} (g : Good l t h s) : Ord (merged (less l s) (news t h)) := merged_ord (less_ord (set_ord g.hs)) (news_ord t h) g.apart
theorem Good.set {l : List Coin} {t : Tm.Tx} {h : Int} {s : List Coin} (g : Good l t h s) : setF (merged (less l s) (news t h)) = 0 := by
  refine setF_of g.ln (fun c hc => ?_) g.ord
  rcases List.mem_append.1 ((merged_perm _ _).mem_iff.1 hc) with hc | hc
  · exact (setF_zero g.hs).2.1 c (less_mem.1 hc).1
  · exact news_coinF g.hk g.hh c hc
theorem merged_mem {a b : List Coin} {c : Coin} : c ∈ merged a b ↔ c ∈ a ∨ c ∈ b := by rw [(merged_perm a b).mem_iff, List.mem_append]
/- What is spent. -/
theorem insF_nodup : ∀ {l : List Tm.In} {ah : List (List Int × Int)}, Tm.insF ah l = 0 → (Tm.places l).Nodup ∧ ∀ p ∈ Tm.places l, p ∉ ah
  | [], ah, _ => ⟨List.Pairwise.nil, fun p hp => by cases hp⟩
  | i :: r, ah, h => by
    unfold Tm.insF at h
    by_cases hi : Tm.inF ah i = 0
    · rw [if_pos hi] at h
      obtain ⟨h1, h2⟩ := insF_nodup h
      have h3 := (Tm.inF_zero ah i hi).2.2.1
      refine ⟨List.nodup_cons.2 ⟨fun hm => h2 _ hm (by simp), h1⟩, fun p hp => ?_⟩
      rcases List.mem_cons.1 hp with rfl | hp
      · exact h3
      · exact fun hm => h2 p hp (by simp [hm])
    · rw [if_neg hi] at h; exact absurd h hi
theorem ins_nodup {t : Tm.Tx} (hk : Tm.check t = 0) : (Tm.places t.ins).Nodup := (insF_nodup (Tm.check_zero t hk).2.2.2.2.2.1).1
theorem nodup_of_places {l : List Coin} (h : (l.map place).Nodup) : l.Nodup := by
  refine (List.pairwise_map.1 h).imp ?_
  intro a b hab e
  exact hab (by rw [e])
theorem same_of_place {l : List Coin} (h : (l.map place).Nodup) {a b : Coin} (ha : a ∈ l) (hb : b ∈ l) (e : place a = place b) : a = b := by
  have h1 := at?_mem h ha
  have h2 := at?_mem h hb
  rw [e, h2] at h1
  exact (Option.some.inj h1).symm
theorem perm_of_mem {a b : List Coin} (ha : a.Nodup) (hb : b.Nodup) (h : ∀ x, x ∈ a ↔ x ∈ b) : a.Perm b := (List.perm_ext_iff_of_nodup ha hb).2 h
theorem less_perm {l s : List Coin} (hl : (l.map place).Nodup) (hs : (s.map place).Nodup) (hm : ∀ c ∈ s, c ∈ l) : l.Perm (less l s ++ s) := by
  refine perm_of_mem (nodup_of_places hl) ?_ (fun x => ?_)
  · refine List.nodup_append.2 ⟨(nodup_of_places hl).sublist List.filter_sublist, nodup_of_places hs, fun a ha b hb e => ?_⟩
    subst e
    exact (less_mem.1 ha).2 a hb rfl
  · rw [List.mem_append]
    constructor
    · intro hx
      by_cases k : ∃ g ∈ s, place g = place x
      · obtain ⟨g, hg, e⟩ := k
        exact .inr (same_of_place hl (hm g hg) hx e ▸ hg)
      · exact .inl (less_mem.2 ⟨hx, fun g hg e => k ⟨g, hg, e⟩⟩)
    · rintro (hx | hx)
      · exact (less_mem.1 hx).1
      · exact hm x hx
theorem Good.places {l : List Coin} {t : Tm.Tx} {h : Int} {s : List Coin} (g : Good l t h s) : s.map place = Tm.places t.ins := (spentOf_places g.sp).1
theorem Good.inl {l : List Coin} {t : Tm.Tx} {h : Int} {s : List Coin} (g : Good l t h s) : ∀ c ∈ s, c ∈ l := (spentOf_places g.sp).2
theorem Good.nodup {l : List Coin} {t : Tm.Tx} {h : Int} {s : List Coin} (g : Good l t h s) : (s.map place).Nodup := by rw [g.places]; exact ins_nodup g.hk
theorem Good.perm {l : List Coin} {t : Tm.Tx} {h : Int} {s : List Coin} (g : Good l t h s) : l.Perm (less l s ++ s) := less_perm (ord_nodup (set_ord g.hs)) g.nodup g.inl
theorem Good.slen {l : List Coin} {t : Tm.Tx} {h : Int} {s : List Coin} (g : Good l t h s) : s.length = t.ins.length := by have := congrArg List.length g.places; simpa [Tm.places] using this
/- Sums. -/
theorem sum_perm {a b : List Int} (h : a.Perm b) : Mo.sum a = Mo.sum b := by
  induction h with
  | nil => rfl
  | cons x _ ih => simp only [Mo.sum, ih]
  | swap x y l => simp only [Mo.sum]; omega
  | trans _ _ h1 h2 => rw [h1, h2]
theorem tot_good {l : List Int} (h : (Mo.tot 0 l).2 = 0) : (Mo.tot 0 l).1 = Mo.sum l ∧ Mo.fits 0 l := by
  by_cases k : Mo.fits 0 l
  · rw [Mo.tot_fits l 0 (by omega) (by omega) k]; exact ⟨by simp, k⟩
  · exact absurd h (Mo.tot_misfit l 0 (by omega) (by omega) k).2
theorem amounts_append (a b : List Coin) : amounts' (a ++ b) = amounts' a ++ amounts' b := by simp [amounts']
theorem amounts_perm {a b : List Coin} (h : a.Perm b) : Mo.sum (amounts' a) = Mo.sum (amounts' b) := sum_perm (h.map Coin.amount)
theorem newsFrom_amounts (id : List Int) (h : Int) : ∀ (k : Nat) (l : List Tm.Out), amounts' (newsFrom id h k l) = l.map Tm.Out.amount
  | _, [] => rfl
  | k, o :: r => by have := newsFrom_amounts id h (k + 1) r; simp only [amounts'] at this ⊢; simp [newsFrom, this]
theorem Good.sums {l : List Coin} {t : Tm.Tx} {h : Int} {s : List Coin} (g : Good l t h s) : Mo.sum (amounts' (merged (less l s) (news t h))) = Mo.sum (amounts' l) - Mo.sum (amounts' s) + Mo.sum (t.outs.map Tm.Out.amount) := by
  rw [amounts_perm (merged_perm _ _), amounts_perm g.perm, amounts_append, amounts_append, Mo.sum_append, Mo.sum_append, show amounts' (news t h) = _ from newsFrom_amounts _ _ _ _]
  omega
theorem Good.lens {l : List Coin} {t : Tm.Tx} {h : Int} {s : List Coin} (g : Good l t h s) : (merged (less l s) (news t h)).length = l.length - s.length + t.outs.length ∧ s.length ≤ l.length := by
  have h1 := (merged_perm (less l s) (news t h)).length_eq
  have h2 := g.perm.length_eq
  rw [List.length_append] at h1 h2
  have h3 : (news t h).length = t.outs.length := newsFrom_length _ _ _ _
  omega
theorem Good.left {l : List Coin} {t : Tm.Tx} {h : Int} {s : List Coin} (g : Good l t h s) : 0 ≤ leftOf t h s ∧ (t.ins ≠ [] → leftOf t h s = Mo.sum (amounts' s) - Mo.sum (t.outs.map Tm.Out.amount)) ∧ (t.ins = [] → leftOf t h s = 0 ∧ Mo.sum (amounts' s) = 0) := by
  have h1 := (tot_good g.t1).1
  have h2 := (tot_good g.t2).1
  rw [show amounts' (news t h) = _ from newsFrom_amounts _ _ _ _] at h2
  have h3 : (Mo.tot 0 (amounts' (news t h))).1 = Mo.sum (t.outs.map Tm.Out.amount) := by rw [show amounts' (news t h) = _ from newsFrom_amounts _ _ _ _]; exact h2
  unfold leftOf
  refine ⟨?_, fun e => ?_, fun e => ?_⟩
  · by_cases e : t.ins = []
    · rw [if_pos e]; omega
    · rw [if_neg e]; have := g.le e; omega
  · rw [if_neg e, h1, h3]
  · rw [if_pos e]
    refine ⟨rfl, ?_⟩
    have := g.slen
    rw [e] at this
    rw [List.eq_nil_of_length_eq_zero this]; rfl
end Go.Proofs.YtmjilohlchkicaaGreatDoor.Cn
