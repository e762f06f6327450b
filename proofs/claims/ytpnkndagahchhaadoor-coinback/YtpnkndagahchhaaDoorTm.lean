/- Payments as lists: what is wrong with one, its bytes, how bytes are read. -/
import Derived.Test.YtpnkndagahchhaaDoorLk2
import Derived.Test.YtpnkndagahchhaaDoorMo
namespace Go.Proofs.YtpnkndagahchhaaDoor.Tm
set_option linter.unusedVariables false

/-- What is spent: a place, and what opens it. -/
structure In where
  tx : List Int
  at' : Int
  keys : List (List Int)
/-- What is paid. -/
structure Out where
  amount : Int
  lock : List Lk.Op
structure Tx where
  ins : List In
  outs : List Out
  time : Int

def keysF (ks : List (List Int)) : Int := if 30 < ks.length then 4 else if ks.any (fun k => decide (3000 < k.length)) then 4 else 0
/-- The places of ins. -/
def places (l : List In) : List (List Int × Int) := l.map (fun i => (i.tx, i.at'))
def inF (ahead : List (List Int × Int)) (i : In) : Int :=
  if i.at' < 0 ∨ 40 ≤ i.at' then 2 else if (i.tx, i.at') ∈ ahead then 6 else keysF i.keys
def insF : List (List Int × Int) → List In → Int
  | _, [] => 0
  | ah, i :: r => if inF ah i = 0 then insF (ah ++ [(i.tx, i.at')]) r else inF ah i
def outF (o : Out) : Int := if Mo.chk o.amount = 0 then Lk.check o.lock else Mo.chk o.amount
def outsF : List Out → Int
  | [] => 0
  | o :: r => if outF o = 0 then outsF r else outF o
/-- What is wrong with a payment. -/
def check (t : Tx) : Int :=
  if 40 < t.ins.length ∨ 40 < t.outs.length then 4
  else if t.outs.length = 0 then 5
  else if t.time < 0 ∨ 1073741824 < t.time then 2
  else if insF [] t.ins = 0 then outsF t.outs else insF [] t.ins

def inB (i : In) : List Int := i.tx ++ (Sz.wr i.at' ++ (Sz.wr (i.keys.length : Nat) ++ (i.keys.map Sz.pk).flatten))
def opB (o : Lk.Op) : List Int := Sz.wr o.op ++ (Sz.wr o.n ++ Sz.pk o.data)
def outB (o : Out) : List Int := Sz.wr o.amount ++ (Sz.wr (o.lock.length : Nat) ++ (o.lock.map opB).flatten)
/-- A payment as it is sent. -/
def bytes (t : Tx) : List Int := Sz.wr (t.ins.length : Nat) ++ ((t.ins.map inB).flatten ++ (Sz.wr (t.outs.length : Nat) ++ ((t.outs.map outB).flatten ++ Sz.wr t.time)))
def bareI (i : In) : In := { i with keys := [] }
def bare (t : Tx) : Tx := { t with ins := t.ins.map bareI }
def idText (t : Tx) : List Int := 21 :: bytes (bare t)
def id (t : Tx) : List Int := Sh.sum (idText t)

/-- What is read at a place: it, and the place behind it. -/
def num (b : List Int) (p : Nat) : Option (Int × Nat) := if (Sz.rd b p).2.2 = 0 then some ((Sz.rd b p).1, (Sz.rd b p).2.1.toNat) else none
def thing (b : List Int) (p : Nat) : Option (List Int × Nat) := if (Sz.unp b p).2.2 = 0 then some ((Sz.unp b p).1, (Sz.unp b p).2.1.toNat) else none
def dig (b : List Int) (p : Nat) : Option (List Int × Nat) := if p + 32 ≤ b.length then some ((b.drop p).take 32, p + 32) else none
def cnt (most : Int) (b : List Int) (p : Nat) : Option (Nat × Nat) := (num b p).bind fun x => if x.1 ≤ most then some (x.1.toNat, x.2) else none
def rep {α : Type} (f : Nat → Option (α × Nat)) : Nat → Nat → Option (List α × Nat)
  | 0, p => some ([], p)
  | k + 1, p => (f p).bind fun x => (rep f k x.2).map fun y => (x.1 :: y.1, y.2)
def opR (b : List Int) (p : Nat) : Option (Lk.Op × Nat) := (num b p).bind fun x => (num b x.2).bind fun y => (thing b y.2).map fun z => ({ op := x.1, n := y.1, data := z.1 }, z.2)
def inR (b : List Int) (p : Nat) : Option (In × Nat) := (dig b p).bind fun x => (num b x.2).bind fun y => (cnt 30 b y.2).bind fun z => (rep (thing b) z.1 z.2).map fun k => ({ tx := x.1, at' := y.1, keys := k.1 }, k.2)
def outR (b : List Int) (p : Nat) : Option (Out × Nat) := (num b p).bind fun x => (cnt 60 b x.2).bind fun z => (rep (opR b) z.1 z.2).map fun k => ({ amount := x.1, lock := k.1 }, k.2)
def payR (b : List Int) : Option (Tx × Nat) := (cnt 40 b 0).bind fun x => (rep (inR b) x.1 x.2).bind fun i => (cnt 40 b i.2).bind fun y => (rep (outR b) y.1 y.2).bind fun o => (num b o.2).map fun z => ({ ins := i.1, outs := o.1, time := z.1 }, z.2)
/-- The payment of bytes. -/
def read (b : List Int) : Option Tx := (payR b).bind fun x => if x.2 = b.length ∧ check x.1 = 0 then some x.1 else none

/-- What is written is read. -/
def Comp {α : Type} (f : List Int → Nat → Option (α × Nat)) (s : α → List Int) (ok : α → Prop) : Prop :=
  ∀ x, ok x → ∀ a c, f (a ++ s x ++ c) a.length = some (x, a.length + (s x).length)
/-- What is read is written. -/
def Sound {α : Type} (f : List Int → Nat → Option (α × Nat)) (s : α → List Int) (ok : α → Prop) : Prop :=
  ∀ b, Sz.Byt b → ∀ p x q, f b p = some (x, q) → p + (s x).length = q ∧ (p ≤ b.length → q ≤ b.length) ∧ (b.drop p).take (s x).length = s x ∧ ok x

def nOk (n : Int) : Prop := 0 ≤ n ∧ n ≤ 9223372036854775807
theorem num_comp : Comp num Sz.wr nOk := fun x h a c => by
  unfold num
  rw [Sz.rd_wr a c x h.1 h.2]
  simp only [if_pos]
  congr 1
theorem num_sound : Sound num Sz.wr nOk := fun b hb p x q h => by
  unfold num at h
  by_cases e : (Sz.rd b p).2.2 = 0
  · rw [if_pos e] at h
    simp only [Option.some.injEq, Prod.mk.injEq] at h
    obtain ⟨rfl, rfl⟩ := h
    obtain ⟨h1, h2, h3, h4, h5⟩ := Sz.wr_rd b p (Sz.rd b p).1 (Sz.rd b p).2.1 hb (by rw [← e])
    refine ⟨by omega, fun _ => by omega, h5.symm, h1, h2⟩
  · rw [if_neg e] at h; cases h
theorem thing_comp : Comp thing Sz.pk (fun l => (l.length : Int) ≤ 9223372036854775807) := fun x h a c => by
  unfold thing
  rw [Sz.unp_pk a x c h]
  simp only [if_pos]
  congr 1
theorem thing_sound : Sound thing Sz.pk (fun l => (l.length : Int) ≤ 9223372036854775807 ∧ Sz.Byt l) := fun b hb p x q h => by
  unfold thing at h
  by_cases e : (Sz.unp b p).2.2 = 0
  · rw [if_pos e] at h
    simp only [Option.some.injEq, Prod.mk.injEq] at h
    obtain ⟨rfl, rfl⟩ := h
    unfold Sz.unp at e ⊢
    by_cases e1 : (Sz.rd b p).2.2 = 0
    · have en : ¬ (Sz.rd b p).2.2 ≠ 0 := fun h => h e1
      rw [if_neg en] at e ⊢
      obtain ⟨h1, h2, h3, h4, h5⟩ := Sz.wr_rd b p (Sz.rd b p).1 (Sz.rd b p).2.1 hb (by rw [← e1])
      by_cases e2 : (b.length : Int) - (Sz.rd b p).2.1 < (Sz.rd b p).1
      · rw [if_pos e2] at e; simp at e
      · rw [if_neg e2]
        generalize (Sz.rd b p).1 = n at *
        generalize (Sz.rd b p).2.1 = r at *
        obtain ⟨k, rfl⟩ := Int.eq_ofNat_of_zero_le h1
        subst h3
        simp only [Int.toNat_natCast]
        have er : ((p : Int) + ((Sz.wr (k : Int)).length : Nat)).toNat = p + (Sz.wr (k : Int)).length := by omega
        rw [er]
        have hl : ((b.drop (p + (Sz.wr (k : Int)).length)).take k).length = k := by rw [List.length_take, List.length_drop]; omega
        have hpk : Sz.pk ((b.drop (p + (Sz.wr (k : Int)).length)).take k) = Sz.wr (k : Int) ++ (b.drop (p + (Sz.wr (k : Int)).length)).take k := by unfold Sz.pk; rw [hl]
        rw [hpk]
        refine ⟨by rw [List.length_append, hl]; omega, fun _ => by omega, ?_, by rw [hl]; exact h2, (hb.drop _).take _⟩
        rw [List.length_append, hl, List.take_add, ← h5, List.drop_drop]
    · have en : (Sz.rd b p).2.2 ≠ 0 := e1
      rw [if_pos en] at e; exact absurd e e1
  · rw [if_neg e] at h; cases h
def dOk (l : List Int) : Prop := l.length = 32 ∧ Sz.Byt l
theorem dig_comp : Comp dig (fun x => x) dOk := fun x h a c => by
  unfold dig
  rw [if_pos (by rw [List.length_append, List.length_append, h.1]; omega), List.append_assoc, List.drop_left, ← h.1, List.take_left]
theorem dig_sound : Sound dig (fun x => x) dOk := fun b hb p x q h => by
  unfold dig at h
  by_cases e : p + 32 ≤ b.length
  · rw [if_pos e] at h
    simp only [Option.some.injEq, Prod.mk.injEq] at h
    obtain ⟨rfl, rfl⟩ := h
    have hl : ((b.drop p).take 32).length = 32 := by rw [List.length_take, List.length_drop]; omega
    exact ⟨by rw [hl], fun _ => e, by rw [hl], hl, (hb.drop _).take _⟩
  · rw [if_neg e] at h; cases h
theorem cnt_comp (most : Int) (hm : most ≤ 9223372036854775807) : Comp (cnt most) (fun n : Nat => Sz.wr (n : Int)) (fun n => (n : Int) ≤ most) := fun x h a c => by
  unfold cnt
  rw [num_comp (x : Int) ⟨by omega, by omega⟩ a c]
  simp [h]
theorem cnt_sound (most : Int) : Sound (cnt most) (fun n : Nat => Sz.wr (n : Int)) (fun n => (n : Int) ≤ most) := fun b hb p x q h => by
  unfold cnt at h
  cases hn : num b p with
  | none => rw [hn] at h; cases h
  | some y =>
    rw [hn] at h
    obtain ⟨y1, y2⟩ := y
    simp only [Option.bind_some] at h
    by_cases e : y1 ≤ most
    · rw [if_pos e] at h
      simp only [Option.some.injEq, Prod.mk.injEq] at h
      obtain ⟨rfl, rfl⟩ := h
      obtain ⟨h1, h2, h3, h4⟩ := num_sound b hb p y1 y2 hn
      have ex : ((y1.toNat : Nat) : Int) = y1 := Int.toNat_of_nonneg h4.1
      simp only [ex]
      exact ⟨h1, h2, h3, e⟩
    · rw [if_neg e] at h; cases h

/-- One behind the other. -/
theorem mid (a s1 s2 c : List Int) : a ++ (s1 ++ s2) ++ c = a ++ s1 ++ (s2 ++ c) := by simp [List.append_assoc]
theorem mid2 (a s1 s2 c : List Int) : a ++ (s1 ++ s2) ++ c = (a ++ s1) ++ s2 ++ c := by simp [List.append_assoc]
theorem Comp.at1 {α : Type} {f : List Int → Nat → Option (α × Nat)} {s : α → List Int} {ok : α → Prop} (h : Comp f s ok) (x : α) (hx : ok x) (a s2 c : List Int) : f (a ++ (s x ++ s2) ++ c) a.length = some (x, a.length + (s x).length) := by
  rw [mid]; exact h x hx a (s2 ++ c)
theorem Comp.at2 {α : Type} {f : List Int → Nat → Option (α × Nat)} {s : α → List Int} {ok : α → Prop} (h : Comp f s ok) (x : α) (hx : ok x) (a s1 s2 c : List Int) : f (a ++ (s1 ++ (s x ++ s2)) ++ c) (a.length + s1.length) = some (x, a.length + s1.length + (s x).length) := by
  have := h.at1 x hx (a ++ s1) s2 c
  rw [List.length_append] at this
  rw [mid2]; exact this
theorem Sound.two {b : List Int} {p q r : Nat} {s1 s2 : List Int} (h1 : p + s1.length = q) (h2 : q + s2.length = r) (e1 : (b.drop p).take s1.length = s1) (e2 : (b.drop q).take s2.length = s2) : p + (s1 ++ s2).length = r ∧ (b.drop p).take (s1 ++ s2).length = s1 ++ s2 := by
  refine ⟨by rw [List.length_append]; omega, ?_⟩
  rw [List.length_append, List.take_add, e1, List.drop_drop, h1, e2]

theorem rep_comp {α : Type} {f : List Int → Nat → Option (α × Nat)} {s : α → List Int} {ok : α → Prop} (h : Comp f s ok) : ∀ (l : List α), (∀ x ∈ l, ok x) → ∀ a c, rep (f (a ++ (l.map s).flatten ++ c)) l.length a.length = some (l, a.length + ((l.map s).flatten).length) := by
  intro l
  induction l with
  | nil => intro _ a c; simp [rep]
  | cons x r ih =>
    intro hl a c
    have h1 := h x (hl x (by simp)) a ((r.map s).flatten ++ c)
    have h2 := ih (fun y hy => hl y (by simp [hy])) (a ++ s x) c
    rw [List.map_cons, List.flatten_cons, List.length_cons, rep, mid, h1]
    simp only [Option.bind_some]
    rw [← mid, mid2, ← List.length_append, h2]
    simp only [Option.map_some, List.length_append]
    congr 2
    omega
theorem rep_sound {α : Type} {f : List Int → Nat → Option (α × Nat)} {s : α → List Int} {ok : α → Prop} (h : Sound f s ok) (b : List Int) (hb : Sz.Byt b) : ∀ (k p : Nat) (l : List α) (q : Nat), rep (f b) k p = some (l, q) → l.length = k ∧ p + ((l.map s).flatten).length = q ∧ (p ≤ b.length → q ≤ b.length) ∧ (b.drop p).take ((l.map s).flatten).length = (l.map s).flatten ∧ ∀ x ∈ l, ok x := by
  intro k
  induction k with
  | zero =>
    intro p l q hr
    rw [rep] at hr
    simp only [Option.some.injEq, Prod.mk.injEq] at hr
    obtain ⟨rfl, rfl⟩ := hr
    simp
  | succ k ih =>
    intro p l q hr
    rw [rep] at hr
    cases hf : f b p with
    | none => rw [hf] at hr; cases hr
    | some x =>
      rw [hf] at hr
      obtain ⟨x, q1⟩ := x
      simp only [Option.bind_some] at hr
      cases hg : rep (f b) k q1 with
      | none => rw [hg] at hr; cases hr
      | some y =>
        rw [hg] at hr
        obtain ⟨ys, q2⟩ := y
        simp only [Option.map_some, Option.some.injEq, Prod.mk.injEq] at hr
        obtain ⟨rfl, rfl⟩ := hr
        obtain ⟨a1, a2, a3, a4⟩ := h b hb p x q1 hf
        obtain ⟨b0, b1, b2, b3, b4⟩ := ih q1 ys q2 hg
        obtain ⟨c1, c2⟩ := Sound.two a1 b1 a3 b3
        rw [List.map_cons, List.flatten_cons]
        exact ⟨by simp [b0], c1, fun hp => b2 (a2 hp), c2, fun z hz => by
          rcases List.mem_cons.1 hz with rfl | hz
          · exact a4
          · exact b4 z hz⟩

def opOk (o : Lk.Op) : Prop := nOk o.op ∧ nOk o.n ∧ (o.data.length : Int) ≤ 9223372036854775807
def inOk (i : In) : Prop := dOk i.tx ∧ nOk i.at' ∧ i.keys.length ≤ 30 ∧ ∀ k ∈ i.keys, (k.length : Int) ≤ 9223372036854775807
def outOk (o : Out) : Prop := nOk o.amount ∧ o.lock.length ≤ 60 ∧ ∀ x ∈ o.lock, opOk x
def txOk (t : Tx) : Prop := t.ins.length ≤ 40 ∧ (∀ i ∈ t.ins, inOk i) ∧ t.outs.length ≤ 40 ∧ (∀ o ∈ t.outs, outOk o) ∧ nOk t.time
theorem op_comp : Comp opR opB opOk := fun o h a c => by
  unfold opR opB
  rw [num_comp.at1 o.op h.1]
  simp only [Option.bind_some]
  rw [num_comp.at2 o.n h.2.1]
  simp only [Option.bind_some]
  have h3 := thing_comp o.data h.2.2 (a ++ (Sz.wr o.op ++ Sz.wr o.n)) c
  have e : a ++ (Sz.wr o.op ++ (Sz.wr o.n ++ Sz.pk o.data)) ++ c = a ++ (Sz.wr o.op ++ Sz.wr o.n) ++ Sz.pk o.data ++ c := by simp [List.append_assoc]
  have el : (a ++ (Sz.wr o.op ++ Sz.wr o.n)).length = a.length + (Sz.wr o.op).length + (Sz.wr o.n).length := by simp only [List.length_append]; omega
  rw [el] at h3
  rw [e, h3]
  simp only [Option.map_some, List.length_append]
  exact congrArg (fun x => some (o, x)) (by omega)
theorem in_comp : Comp inR inB inOk := fun i h a c => by
  unfold inR inB
  rw [Comp.at1 (s := fun x => x) dig_comp i.tx h.1]
  simp only [Option.bind_some]
  rw [num_comp.at2 i.at' h.2.1]
  simp only [Option.bind_some]
  have h3 := cnt_comp 30 (by omega) i.keys.length (by have := h.2.2.1; omega) (a ++ (i.tx ++ Sz.wr i.at')) ((i.keys.map Sz.pk).flatten ++ c)
  have e3 : a ++ (i.tx ++ (Sz.wr i.at' ++ (Sz.wr (i.keys.length : Nat) ++ (i.keys.map Sz.pk).flatten))) ++ c = a ++ (i.tx ++ Sz.wr i.at') ++ Sz.wr (i.keys.length : Nat) ++ ((i.keys.map Sz.pk).flatten ++ c) := by simp [List.append_assoc]
  have el3 : (a ++ (i.tx ++ Sz.wr i.at')).length = a.length + i.tx.length + (Sz.wr i.at').length := by simp only [List.length_append]; omega
  rw [el3, ← e3] at h3
  rw [h3]
  simp only [Option.bind_some]
  have h4 := rep_comp thing_comp i.keys h.2.2.2 (a ++ (i.tx ++ (Sz.wr i.at' ++ Sz.wr (i.keys.length : Nat)))) c
  have e : a ++ (i.tx ++ (Sz.wr i.at' ++ (Sz.wr (i.keys.length : Nat) ++ (i.keys.map Sz.pk).flatten))) ++ c = a ++ (i.tx ++ (Sz.wr i.at' ++ Sz.wr (i.keys.length : Nat))) ++ (i.keys.map Sz.pk).flatten ++ c := by simp [List.append_assoc]
  have el : (a ++ (i.tx ++ (Sz.wr i.at' ++ Sz.wr (i.keys.length : Nat)))).length = a.length + i.tx.length + (Sz.wr i.at').length + (Sz.wr (i.keys.length : Nat)).length := by simp only [List.length_append]; omega
  rw [el] at h4
  rw [e, h4]
  simp only [Option.map_some, List.length_append]
  exact congrArg (fun x => some (i, x)) (by omega)
theorem out_comp : Comp outR outB outOk := fun o h a c => by
  unfold outR outB
  rw [num_comp.at1 o.amount h.1]
  simp only [Option.bind_some]
  rw [(cnt_comp 60 (by omega)).at2 o.lock.length (by have := h.2.1; omega)]
  simp only [Option.bind_some]
  have h4 := rep_comp op_comp o.lock h.2.2 (a ++ (Sz.wr o.amount ++ Sz.wr (o.lock.length : Nat))) c
  have e : a ++ (Sz.wr o.amount ++ (Sz.wr (o.lock.length : Nat) ++ (o.lock.map opB).flatten)) ++ c = a ++ (Sz.wr o.amount ++ Sz.wr (o.lock.length : Nat)) ++ (o.lock.map opB).flatten ++ c := by simp [List.append_assoc]
  have el : (a ++ (Sz.wr o.amount ++ Sz.wr (o.lock.length : Nat))).length = a.length + (Sz.wr o.amount).length + (Sz.wr (o.lock.length : Nat)).length := by simp only [List.length_append]; omega
  rw [el] at h4
  rw [e, h4]
  simp only [Option.map_some, List.length_append]
  exact congrArg (fun x => some (o, x)) (by omega)
/-- A payment's bytes, with any behind them, are read. -/
theorem pay_comp (t : Tx) (h : txOk t) (c : List Int) : payR (bytes t ++ c) = some (t, (bytes t).length) := by
  obtain ⟨h1, h2, h3, h4, h5⟩ := h
  unfold payR bytes
  have g1 := (cnt_comp 40 (by omega)).at1 t.ins.length (by omega) [] ((t.ins.map inB).flatten ++ (Sz.wr (t.outs.length : Nat) ++ ((t.outs.map outB).flatten ++ Sz.wr t.time))) c
  simp only [List.nil_append, List.length_nil, Nat.zero_add] at g1
  rw [g1]
  simp only [Option.bind_some]
  have g2 := rep_comp in_comp t.ins h2 (Sz.wr (t.ins.length : Nat)) (Sz.wr (t.outs.length : Nat) ++ ((t.outs.map outB).flatten ++ Sz.wr t.time) ++ c)
  have e2 : Sz.wr (t.ins.length : Nat) ++ ((t.ins.map inB).flatten ++ (Sz.wr (t.outs.length : Nat) ++ ((t.outs.map outB).flatten ++ Sz.wr t.time))) ++ c = Sz.wr (t.ins.length : Nat) ++ (t.ins.map inB).flatten ++ (Sz.wr (t.outs.length : Nat) ++ ((t.outs.map outB).flatten ++ Sz.wr t.time) ++ c) := by simp [List.append_assoc]
  rw [e2, g2]
  simp only [Option.bind_some]
  have g3 := (cnt_comp 40 (by omega)) t.outs.length (by omega) (Sz.wr (t.ins.length : Nat) ++ (t.ins.map inB).flatten) (((t.outs.map outB).flatten ++ Sz.wr t.time) ++ c)
  rw [List.length_append] at g3
  have e3 : Sz.wr (t.ins.length : Nat) ++ (t.ins.map inB).flatten ++ (Sz.wr (t.outs.length : Nat) ++ ((t.outs.map outB).flatten ++ Sz.wr t.time) ++ c) = Sz.wr (t.ins.length : Nat) ++ (t.ins.map inB).flatten ++ Sz.wr (t.outs.length : Nat) ++ (((t.outs.map outB).flatten ++ Sz.wr t.time) ++ c) := by simp [List.append_assoc]
  rw [e3, g3]
  simp only [Option.bind_some]
  have g4 := rep_comp out_comp t.outs h4 (Sz.wr (t.ins.length : Nat) ++ (t.ins.map inB).flatten ++ Sz.wr (t.outs.length : Nat)) (Sz.wr t.time ++ c)
  rw [List.length_append, List.length_append] at g4
  have e4 : Sz.wr (t.ins.length : Nat) ++ (t.ins.map inB).flatten ++ Sz.wr (t.outs.length : Nat) ++ (((t.outs.map outB).flatten ++ Sz.wr t.time) ++ c) = Sz.wr (t.ins.length : Nat) ++ (t.ins.map inB).flatten ++ Sz.wr (t.outs.length : Nat) ++ (t.outs.map outB).flatten ++ (Sz.wr t.time ++ c) := by simp [List.append_assoc]
  rw [e4, g4]
  simp only [Option.bind_some]
  have g5 := num_comp t.time h5 (Sz.wr (t.ins.length : Nat) ++ (t.ins.map inB).flatten ++ Sz.wr (t.outs.length : Nat) ++ (t.outs.map outB).flatten) c
  rw [List.length_append, List.length_append, List.length_append] at g5
  have e5 : Sz.wr (t.ins.length : Nat) ++ (t.ins.map inB).flatten ++ Sz.wr (t.outs.length : Nat) ++ (t.outs.map outB).flatten ++ (Sz.wr t.time ++ c) = Sz.wr (t.ins.length : Nat) ++ (t.ins.map inB).flatten ++ Sz.wr (t.outs.length : Nat) ++ (t.outs.map outB).flatten ++ Sz.wr t.time ++ c := by simp [List.append_assoc]
  rw [e5, g5]
  simp only [Option.map_some, List.length_append]
  exact congrArg (fun x => some (t, x)) (by omega)

theorem op_sound : Sound opR opB opOk := fun b hb p x q h => by
  unfold opR at h
  cases h1 : num b p with
  | none => rw [h1] at h; cases h
  | some x1 =>
  obtain ⟨x1, q1⟩ := x1
  rw [h1] at h
  simp only [Option.bind_some] at h
  cases h2 : num b q1 with
  | none => rw [h2] at h; cases h
  | some x2 =>
  obtain ⟨x2, q2⟩ := x2
  rw [h2] at h
  simp only [Option.bind_some] at h
  cases h3 : thing b q2 with
  | none => rw [h3] at h; cases h
  | some x3 =>
  obtain ⟨x3, q3⟩ := x3
  rw [h3] at h
  simp only [Option.map_some, Option.some.injEq, Prod.mk.injEq] at h
  obtain ⟨rfl, rfl⟩ := h
  obtain ⟨a1, a2, a3, a4⟩ := num_sound b hb p x1 q1 h1
  obtain ⟨b1, b2, b3, b4⟩ := num_sound b hb q1 x2 q2 h2
  obtain ⟨c1, c2, c3, c4⟩ := thing_sound b hb q2 x3 q3 h3
  obtain ⟨d1, d2⟩ := Sound.two b1 c1 b3 c3
  obtain ⟨e1, e2⟩ := Sound.two a1 d1 a3 d2
  exact ⟨e1, fun hp => c2 (b2 (a2 hp)), e2, a4, b4, c4.1⟩
theorem in_sound : Sound inR inB inOk := fun b hb p x q h => by
  unfold inR at h
  cases h1 : dig b p with
  | none => rw [h1] at h; cases h
  | some x1 =>
  obtain ⟨x1, q1⟩ := x1
  rw [h1] at h
  simp only [Option.bind_some] at h
  cases h2 : num b q1 with
  | none => rw [h2] at h; cases h
  | some x2 =>
  obtain ⟨x2, q2⟩ := x2
  rw [h2] at h
  simp only [Option.bind_some] at h
  cases h3 : cnt 30 b q2 with
  | none => rw [h3] at h; cases h
  | some x3 =>
  obtain ⟨x3, q3⟩ := x3
  rw [h3] at h
  simp only [Option.bind_some] at h
  cases h4 : rep (thing b) x3 q3 with
  | none => rw [h4] at h; cases h
  | some x4 =>
  obtain ⟨x4, q4⟩ := x4
  rw [h4] at h
  simp only [Option.map_some, Option.some.injEq, Prod.mk.injEq] at h
  obtain ⟨rfl, rfl⟩ := h
  obtain ⟨a1, a2, a3, a4⟩ := dig_sound b hb p x1 q1 h1
  obtain ⟨b1, b2, b3, b4⟩ := num_sound b hb q1 x2 q2 h2
  obtain ⟨c1, c2, c3, c4⟩ := cnt_sound 30 b hb q2 x3 q3 h3
  obtain ⟨d0, d1, d2, d3, d4⟩ := rep_sound thing_sound b hb x3 q3 x4 q4 h4
  subst d0
  obtain ⟨e1, e2⟩ := Sound.two c1 d1 c3 d3
  obtain ⟨f1, f2⟩ := Sound.two b1 e1 b3 e2
  obtain ⟨g1, g2⟩ := Sound.two a1 f1 a3 f2
  exact ⟨g1, fun hp => d2 (c2 (b2 (a2 hp))), g2, a4, b4, by dsimp only; omega, fun k hk => (d4 k hk).1⟩
theorem out_sound : Sound outR outB outOk := fun b hb p x q h => by
  unfold outR at h
  cases h1 : num b p with
  | none => rw [h1] at h; cases h
  | some x1 =>
  obtain ⟨x1, q1⟩ := x1
  rw [h1] at h
  simp only [Option.bind_some] at h
  cases h2 : cnt 60 b q1 with
  | none => rw [h2] at h; cases h
  | some x2 =>
  obtain ⟨x2, q2⟩ := x2
  rw [h2] at h
  simp only [Option.bind_some] at h
  cases h3 : rep (opR b) x2 q2 with
  | none => rw [h3] at h; cases h
  | some x3 =>
  obtain ⟨x3, q3⟩ := x3
  rw [h3] at h
  simp only [Option.map_some, Option.some.injEq, Prod.mk.injEq] at h
  obtain ⟨rfl, rfl⟩ := h
  obtain ⟨a1, a2, a3, a4⟩ := num_sound b hb p x1 q1 h1
  obtain ⟨b1, b2, b3, b4⟩ := cnt_sound 60 b hb q1 x2 q2 h2
  obtain ⟨d0, c1, c2, c3, c4⟩ := rep_sound op_sound b hb x2 q2 x3 q3 h3
  subst d0
  obtain ⟨d1, d2⟩ := Sound.two b1 c1 b3 c3
  obtain ⟨e1, e2⟩ := Sound.two a1 d1 a3 d2
  exact ⟨e1, fun hp => c2 (b2 (a2 hp)), e2, a4, by dsimp only; omega, c4⟩
/-- What is read of bytes is a payment whose bytes they begin with. -/
theorem pay_sound (b : List Int) (hb : Sz.Byt b) (t : Tx) (q : Nat) (h : payR b = some (t, q)) : (bytes t).length = q ∧ q ≤ b.length ∧ b.take (bytes t).length = bytes t ∧ txOk t := by
  unfold payR at h
  cases h1 : cnt 40 b 0 with
  | none => rw [h1] at h; cases h
  | some x1 =>
  obtain ⟨x1, q1⟩ := x1
  rw [h1] at h
  simp only [Option.bind_some] at h
  cases h2 : rep (inR b) x1 q1 with
  | none => rw [h2] at h; cases h
  | some x2 =>
  obtain ⟨x2, q2⟩ := x2
  rw [h2] at h
  simp only [Option.bind_some] at h
  cases h3 : cnt 40 b q2 with
  | none => rw [h3] at h; cases h
  | some x3 =>
  obtain ⟨x3, q3⟩ := x3
  rw [h3] at h
  simp only [Option.bind_some] at h
  cases h4 : rep (outR b) x3 q3 with
  | none => rw [h4] at h; cases h
  | some x4 =>
  obtain ⟨x4, q4⟩ := x4
  rw [h4] at h
  simp only [Option.bind_some] at h
  cases h5 : num b q4 with
  | none => rw [h5] at h; cases h
  | some x5 =>
  obtain ⟨x5, q5⟩ := x5
  rw [h5] at h
  simp only [Option.map_some, Option.some.injEq, Prod.mk.injEq] at h
  obtain ⟨rfl, rfl⟩ := h
  obtain ⟨a1, a2, a3, a4⟩ := cnt_sound 40 b hb 0 x1 q1 h1
  obtain ⟨b0, b1, b2, b3, b4⟩ := rep_sound in_sound b hb x1 q1 x2 q2 h2
  obtain ⟨c1, c2, c3, c4⟩ := cnt_sound 40 b hb q2 x3 q3 h3
  obtain ⟨d0, d1, d2, d3, d4⟩ := rep_sound out_sound b hb x3 q3 x4 q4 h4
  obtain ⟨e1, e2, e3, e4⟩ := num_sound b hb q4 x5 q5 h5
  subst b0
  subst d0
  obtain ⟨f1, f2⟩ := Sound.two d1 e1 d3 e3
  obtain ⟨g1, g2⟩ := Sound.two c1 f1 c3 f2
  obtain ⟨i1, i2⟩ := Sound.two b1 g1 b3 g2
  obtain ⟨j1, j2⟩ := Sound.two a1 i1 a3 i2
  rw [List.drop_zero] at j2
  exact ⟨by show (Sz.wr (x2.length : Nat) ++ ((x2.map inB).flatten ++ (Sz.wr (x4.length : Nat) ++ ((x4.map outB).flatten ++ Sz.wr x5)))).length = q5; rw [← j1, Nat.zero_add], e2 (d2 (c2 (b2 (a2 (Nat.zero_le _))))), j2, by dsimp only; omega, b4, by dsimp only; omega, d4, e4⟩

/-- What a payment without a fault has. -/
theorem keysF_zero (ks : List (List Int)) (h : keysF ks = 0) : ks.length ≤ 30 ∧ ∀ k ∈ ks, k.length ≤ 3000 := by
  unfold keysF at h
  by_cases h1 : 30 < ks.length
  · rw [if_pos h1] at h; cases h
  · rw [if_neg h1] at h
    cases h2 : ks.any (fun k => decide (3000 < k.length)) with
    | true => rw [h2] at h; simp at h
    | false =>
      refine ⟨by omega, fun k hk => ?_⟩
      have := (List.any_eq_false.1 h2) k hk
      simpa using this
theorem inF_zero (ah : List (List Int × Int)) (i : In) (h : inF ah i = 0) : 0 ≤ i.at' ∧ i.at' < 40 ∧ (i.tx, i.at') ∉ ah ∧ keysF i.keys = 0 := by
  unfold inF at h
  by_cases h1 : i.at' < 0 ∨ 40 ≤ i.at'
  · rw [if_pos h1] at h; cases h
  · rw [if_neg h1] at h
    by_cases h2 : (i.tx, i.at') ∈ ah
    · rw [if_pos h2] at h; cases h
    · rw [if_neg h2] at h; exact ⟨by omega, by omega, h2, h⟩
theorem insF_zero : ∀ (l : List In) (ah : List (List Int × Int)), insF ah l = 0 → ∀ i ∈ l, 0 ≤ i.at' ∧ i.at' < 40 ∧ keysF i.keys = 0 := by
  intro l
  induction l with
  | nil => intro ah _ i hi; cases hi
  | cons x r ih =>
    intro ah h i hi
    rw [insF] at h
    by_cases hx : inF ah x = 0
    · rw [if_pos hx] at h
      obtain ⟨h1, h2, _, h4⟩ := inF_zero ah x hx
      rcases List.mem_cons.1 hi with rfl | hi
      · exact ⟨h1, h2, h4⟩
      · exact ih _ h i hi
    · rw [if_neg hx] at h; exact absurd h hx
theorem outF_zero (o : Out) (h : outF o = 0) : Mo.ok o.amount ∧ Lk.check o.lock = 0 := by
  unfold outF at h
  by_cases h1 : Mo.ok o.amount
  · rw [Mo.chk_good _ h1, if_pos rfl] at h; exact ⟨h1, h⟩
  · rw [Mo.chk_bad _ h1, if_neg (by omega)] at h; cases h
theorem outsF_zero : ∀ (l : List Out), outsF l = 0 → ∀ o ∈ l, Mo.ok o.amount ∧ Lk.check o.lock = 0 := by
  intro l
  induction l with
  | nil => intro _ o ho; cases ho
  | cons x r ih =>
    intro h o ho
    rw [outsF] at h
    by_cases hx : outF x = 0
    · rw [if_pos hx] at h
      rcases List.mem_cons.1 ho with rfl | ho
      · exact outF_zero _ hx
      · exact ih h o ho
    · rw [if_neg hx] at h; exact absurd h hx
theorem check_zero (t : Tx) (h : check t = 0) : t.ins.length ≤ 40 ∧ t.outs.length ≤ 40 ∧ 0 < t.outs.length ∧ 0 ≤ t.time ∧ t.time ≤ 1073741824 ∧ insF [] t.ins = 0 ∧ outsF t.outs = 0 := by
  unfold check at h
  by_cases h1 : 40 < t.ins.length ∨ 40 < t.outs.length
  · rw [if_pos h1] at h; cases h
  rw [if_neg h1] at h
  by_cases h2 : t.outs.length = 0
  · rw [if_pos h2] at h; cases h
  rw [if_neg h2] at h
  by_cases h3 : t.time < 0 ∨ 1073741824 < t.time
  · rw [if_pos h3] at h; cases h
  rw [if_neg h3] at h
  by_cases h4 : insF [] t.ins = 0
  · rw [if_pos h4] at h; exact ⟨by omega, by omega, by omega, by omega, by omega, h4, h⟩
  · rw [if_neg h4] at h; exact absurd h h4
theorem opFault_zero (o : Lk.Op) (h : Lk.opFault o = 0) : 1 ≤ o.op ∧ o.op ≤ 14 ∧ 0 ≤ o.n ∧ o.n ≤ 1073741824 ∧ o.data.length ≤ 300 := by
  unfold Lk.opFault Lk.opF at h
  by_cases h1 : o.op < 1 ∨ 14 < o.op
  · rw [if_pos h1] at h; cases h
  rw [if_neg h1] at h
  by_cases h2 : o.n ≠ 0 ∧ ¬ (o.op = 9 ∨ o.op = 10)
  · rw [if_pos h2] at h; cases h
  rw [if_neg h2] at h
  by_cases h3 : 0 < o.data.length ∧ o.op ≠ 1
  · rw [if_pos h3] at h; cases h
  rw [if_neg h3] at h
  by_cases h4 : 300 < o.data.length
  · rw [if_pos h4] at h; cases h
  rw [if_neg h4] at h
  by_cases h5 : o.op = 9 ∧ (o.n < 1 ∨ 9 < o.n)
  · rw [if_pos h5] at h; cases h
  rw [if_neg h5] at h
  by_cases h6 : o.op = 10 ∧ (o.n < 0 ∨ 1073741824 < o.n)
  · rw [if_pos h6] at h; cases h
  refine ⟨by omega, by omega, ?_, ?_, by omega⟩
  all_goals
    by_cases h9 : o.op = 9
    · omega
    · by_cases h10 : o.op = 10
      · omega
      · have : o.n = 0 := by
          by_cases hn : o.n = 0
          · exact hn
          · exact absurd ⟨hn, fun h => by rcases h with h | h <;> omega⟩ h2
        omega
theorem lock_ok (l : List Lk.Op) (h : Lk.check l = 0) : l.length ≤ 60 ∧ ∀ x ∈ l, 1 ≤ x.op ∧ x.op ≤ 14 ∧ 0 ≤ x.n ∧ x.n ≤ 1073741824 ∧ x.data.length ≤ 300 := by
  obtain ⟨h1, h2, _⟩ := (Lk.check_zero l).1 h
  exact ⟨h1, fun x hx => opFault_zero x (Lk.opsFault_mem l h2 x hx)⟩
theorem check_ok (t : Tx) (h : check t = 0) (hd : ∀ i ∈ t.ins, dOk i.tx) : txOk t := by
  obtain ⟨h1, h2, h3, h4, h5, h6, h7⟩ := check_zero t h
  refine ⟨h1, fun i hi => ?_, h2, fun o ho => ?_, h4, by omega⟩
  · obtain ⟨a, b, c⟩ := insF_zero _ _ h6 i hi
    obtain ⟨d, e⟩ := keysF_zero _ c
    exact ⟨hd i hi, ⟨a, by omega⟩, d, fun k hk => by have := e k hk; omega⟩
  · obtain ⟨a, b⟩ := outsF_zero _ h7 o ho
    obtain ⟨c, d⟩ := lock_ok _ b
    refine ⟨⟨a.1, by have := a.2; omega⟩, c, fun x hx => ?_⟩
    obtain ⟨e1, e2, e3, e4, e5⟩ := d x hx
    exact ⟨⟨by omega, by omega⟩, ⟨e3, by omega⟩, by omega⟩
/-- What is sent is read. -/
theorem read_bytes (t : Tx) (h : check t = 0) (hd : ∀ i ∈ t.ins, dOk i.tx) : read (bytes t) = some t := by
  unfold read
  have := pay_comp t (check_ok t h hd) []
  rw [List.append_nil] at this
  rw [this]
  simp [h]
/-- What is read is those bytes. -/
theorem read_sound (b : List Int) (hb : Sz.Byt b) (t : Tx) (h : read b = some t) : bytes t = b ∧ check t = 0 ∧ txOk t := by
  unfold read at h
  cases hp : payR b with
  | none => rw [hp] at h; cases h
  | some x =>
    rw [hp] at h
    obtain ⟨x, q⟩ := x
    simp only [Option.bind_some] at h
    by_cases e : q = b.length ∧ check x = 0
    · rw [if_pos e] at h
      injection h with h
      subst h
      obtain ⟨h1, h2, h3, h4⟩ := pay_sound b hb x q hp
      rw [h1, e.1, List.take_length] at h3
      exact ⟨h3.symm, e.2, h4⟩
    · rw [if_neg e] at h; cases h
/-- No payment begins another one. -/
theorem read_torn (t : Tx) (h : check t = 0) (hd : ∀ i ∈ t.ins, dOk i.tx) (hb : Sz.Byt (bytes t)) (n : Nat) (hn : n < (bytes t).length) : read ((bytes t).take n) = none := by
  cases hr : read ((bytes t).take n) with
  | none => rfl
  | some y =>
    exfalso
    obtain ⟨h1, h2, h3⟩ := read_sound _ (hb.take n) y hr
    have h4 := pay_comp y h3 ((bytes t).drop n)
    rw [h1, List.take_append_drop] at h4
    have h5 := pay_comp t (check_ok t h hd) []
    rw [List.append_nil, h4] at h5
    simp only [Option.some.injEq, Prod.mk.injEq, List.length_take] at h5
    omega
theorem read_more (t : Tx) (h : check t = 0) (hd : ∀ i ∈ t.ins, dOk i.tx) (c : List Int) (hc : 0 < c.length) : read (bytes t ++ c) = none := by
  unfold read
  rw [pay_comp t (check_ok t h hd) c]
  simp only [Option.bind_some, List.length_append]
  rw [if_neg (by omega)]
end Go.Proofs.YtpnkndagahchhaaDoor.Tm
