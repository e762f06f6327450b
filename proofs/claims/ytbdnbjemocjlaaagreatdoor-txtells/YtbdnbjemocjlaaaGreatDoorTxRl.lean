/- How the document's own answer reads a payment, over lists: it reads the same. -/
import Derived.Test.YtbdnbjemocjlaaaGreatDoorTm
namespace Go.Proofs.YtbdnbjemocjlaaaGreatDoor.Tm
set_option linter.unusedVariables false

def lim (most : Int) (b : List Int) (p : Nat) : Option (Int × Nat) := (num b p).bind fun x => if x.1 ≤ most then some x else none
def bts (n : Nat) (b : List Int) (p : Nat) : Option (List Int × Nat) := if p + n ≤ b.length then some ((b.drop p).take n, p + n) else none
def rThing (most : Int) (b : List Int) (p : Nat) : Option (List Int × Nat) := (lim most b p).bind fun x => bts x.1.toNat b x.2
def rOp (b : List Int) (p : Nat) : Option (Lk.Op × Nat) := (lim 14 b p).bind fun x => (lim 1073741824 b x.2).bind fun y => (rThing 300 b y.2).map fun z => ({ op := x.1, n := y.1, data := z.1 }, z.2)
def rIn (b : List Int) (p : Nat) : Option (In × Nat) := (bts 32 b p).bind fun x => (lim 40 b x.2).bind fun y => (lim 30 b y.2).bind fun z => (rep (rThing 3000 b) z.1.toNat z.2).map fun k => ({ tx := x.1, at' := y.1, keys := k.1 }, k.2)
def rOut (b : List Int) (p : Nat) : Option (Out × Nat) := (lim 1125899906842624 b p).bind fun x => (lim 60 b x.2).bind fun z => (rep (rOp b) z.1.toNat z.2).map fun k => ({ amount := x.1, lock := k.1 }, k.2)
def rPay (b : List Int) : Option Tx := (lim 40 b 0).bind fun x => (rep (rIn b) x.1.toNat x.2).bind fun i => (lim 40 b i.2).bind fun y => (rep (rOut b) y.1.toNat y.2).bind fun o => (lim 1073741824 b o.2).map fun z => { ins := i.1, outs := o.1, time := z.1 }
/-- The document's answer. -/
def rRead (b : List Int) : Option Tx := (rPay b).bind fun t => if check t = 0 ∧ bytes t = b then some t else none

theorem lim_comp (most : Int) (hm : most ≤ 9223372036854775807) : Comp (lim most) Sz.wr (fun n => 0 ≤ n ∧ n ≤ most) := fun x h a c => by
  unfold lim
  rw [num_comp x ⟨h.1, by omega⟩ a c]
  simp [h.2]
theorem bts_comp (n : Nat) : Comp (bts n) (fun x => x) (fun l => l.length = n) := fun x h a c => by
  unfold bts
  rw [if_pos (by rw [List.length_append, List.length_append, h]; omega), List.append_assoc, List.drop_left, ← h, List.take_left]
theorem rThing_comp (most : Nat) (hm : (most : Int) ≤ 9223372036854775807) : Comp (rThing most) Sz.pk (fun l => l.length ≤ most) := fun x h a c => by
  have e : Sz.pk x = Sz.wr (x.length : Nat) ++ x := rfl
  unfold rThing
  rw [e, (lim_comp most hm).at1 (x.length : Nat) ⟨by omega, by omega⟩]
  simp only [Option.bind_some, Int.toNat_natCast]
  have h2 := bts_comp x.length x rfl (a ++ Sz.wr (x.length : Nat)) c
  rw [List.length_append, ← mid2] at h2
  rw [h2, List.length_append, Nat.add_assoc]

def rOpOk (o : Lk.Op) : Prop := (0 ≤ o.op ∧ o.op ≤ 14) ∧ (0 ≤ o.n ∧ o.n ≤ 1073741824) ∧ o.data.length ≤ 300
def rInOk (i : In) : Prop := i.tx.length = 32 ∧ (0 ≤ i.at' ∧ i.at' ≤ 40) ∧ i.keys.length ≤ 30 ∧ ∀ k ∈ i.keys, k.length ≤ 3000
def rOutOk (o : Out) : Prop := (0 ≤ o.amount ∧ o.amount ≤ 1125899906842624) ∧ o.lock.length ≤ 60 ∧ ∀ x ∈ o.lock, rOpOk x
theorem rOp_comp : Comp rOp opB rOpOk := fun o h a c => by
  unfold rOp opB
  rw [(lim_comp 14 (by omega)).at1 o.op h.1]
  simp only [Option.bind_some]
  rw [(lim_comp 1073741824 (by omega)).at2 o.n h.2.1]
  simp only [Option.bind_some]
  have h3 := rThing_comp 300 (by omega) o.data h.2.2 (a ++ (Sz.wr o.op ++ Sz.wr o.n)) c
  have e : a ++ (Sz.wr o.op ++ (Sz.wr o.n ++ Sz.pk o.data)) ++ c = a ++ (Sz.wr o.op ++ Sz.wr o.n) ++ Sz.pk o.data ++ c := by simp [List.append_assoc]
  have el : (a ++ (Sz.wr o.op ++ Sz.wr o.n)).length = a.length + (Sz.wr o.op).length + (Sz.wr o.n).length := by simp only [List.length_append]; omega
  rw [el] at h3
  rw [e]
  have h4 : rThing 300 (a ++ (Sz.wr o.op ++ Sz.wr o.n) ++ Sz.pk o.data ++ c) (a.length + (Sz.wr o.op).length + (Sz.wr o.n).length) = some (o.data, a.length + (Sz.wr o.op).length + (Sz.wr o.n).length + (Sz.pk o.data).length) := h3
  rw [h4]
  simp only [Option.map_some, List.length_append]
  exact congrArg (fun x => some (o, x)) (by omega)
theorem rIn_comp : Comp rIn inB rInOk := fun i h a c => by
  unfold rIn inB
  rw [Comp.at1 (s := fun x => x) (bts_comp 32) i.tx h.1]
  simp only [Option.bind_some]
  rw [(lim_comp 40 (by omega)).at2 i.at' h.2.1]
  simp only [Option.bind_some]
  have h3 := lim_comp 30 (by omega) (i.keys.length : Nat) ⟨by omega, by have := h.2.2.1; omega⟩ (a ++ (i.tx ++ Sz.wr i.at')) ((i.keys.map Sz.pk).flatten ++ c)
  have e3 : a ++ (i.tx ++ (Sz.wr i.at' ++ (Sz.wr (i.keys.length : Nat) ++ (i.keys.map Sz.pk).flatten))) ++ c = a ++ (i.tx ++ Sz.wr i.at') ++ Sz.wr (i.keys.length : Nat) ++ ((i.keys.map Sz.pk).flatten ++ c) := by simp [List.append_assoc]
  have el3 : (a ++ (i.tx ++ Sz.wr i.at')).length = a.length + i.tx.length + (Sz.wr i.at').length := by simp only [List.length_append]; omega
  rw [el3, ← e3] at h3
  rw [h3]
  simp only [Option.bind_some, Int.toNat_natCast]
  have h4 := rep_comp (rThing_comp 3000 (by omega)) i.keys h.2.2.2 (a ++ (i.tx ++ (Sz.wr i.at' ++ Sz.wr (i.keys.length : Nat)))) c
  have e : a ++ (i.tx ++ (Sz.wr i.at' ++ (Sz.wr (i.keys.length : Nat) ++ (i.keys.map Sz.pk).flatten))) ++ c = a ++ (i.tx ++ (Sz.wr i.at' ++ Sz.wr (i.keys.length : Nat))) ++ (i.keys.map Sz.pk).flatten ++ c := by simp [List.append_assoc]
  have el : (a ++ (i.tx ++ (Sz.wr i.at' ++ Sz.wr (i.keys.length : Nat)))).length = a.length + i.tx.length + (Sz.wr i.at').length + (Sz.wr (i.keys.length : Nat)).length := by simp only [List.length_append]; omega
  rw [el] at h4
  rw [e]
  have h5 : rep (rThing 3000 (a ++ (i.tx ++ (Sz.wr i.at' ++ Sz.wr (i.keys.length : Nat))) ++ (i.keys.map Sz.pk).flatten ++ c)) i.keys.length (a.length + i.tx.length + (Sz.wr i.at').length + (Sz.wr (i.keys.length : Nat)).length) = some (i.keys, a.length + i.tx.length + (Sz.wr i.at').length + (Sz.wr (i.keys.length : Nat)).length + ((i.keys.map Sz.pk).flatten).length) := h4
  rw [h5]
  simp only [Option.map_some, List.length_append]
  exact congrArg (fun x => some (i, x)) (by omega)
theorem rOut_comp : Comp rOut outB rOutOk := fun o h a c => by
  unfold rOut outB
  rw [(lim_comp 1125899906842624 (by omega)).at1 o.amount h.1]
  simp only [Option.bind_some]
  rw [(lim_comp 60 (by omega)).at2 (o.lock.length : Nat) ⟨by omega, by have := h.2.1; omega⟩]
  simp only [Option.bind_some, Int.toNat_natCast]
  have h4 := rep_comp rOp_comp o.lock h.2.2 (a ++ (Sz.wr o.amount ++ Sz.wr (o.lock.length : Nat))) c
  have e : a ++ (Sz.wr o.amount ++ (Sz.wr (o.lock.length : Nat) ++ (o.lock.map opB).flatten)) ++ c = a ++ (Sz.wr o.amount ++ Sz.wr (o.lock.length : Nat)) ++ (o.lock.map opB).flatten ++ c := by simp [List.append_assoc]
  have el : (a ++ (Sz.wr o.amount ++ Sz.wr (o.lock.length : Nat))).length = a.length + (Sz.wr o.amount).length + (Sz.wr (o.lock.length : Nat)).length := by simp only [List.length_append]; omega
  rw [el] at h4
  rw [e, h4]
  simp only [Option.map_some, List.length_append]
  exact congrArg (fun x => some (o, x)) (by omega)
theorem rPay_comp (t : Tx) (h1 : t.ins.length ≤ 40) (h2 : ∀ i ∈ t.ins, rInOk i) (h3 : t.outs.length ≤ 40) (h4 : ∀ o ∈ t.outs, rOutOk o) (h5 : 0 ≤ t.time ∧ t.time ≤ 1073741824) : rPay (bytes t) = some t := by
  unfold rPay bytes
  have g1 := (lim_comp 40 (by omega)).at1 (t.ins.length : Nat) ⟨by omega, by omega⟩ [] ((t.ins.map inB).flatten ++ (Sz.wr (t.outs.length : Nat) ++ ((t.outs.map outB).flatten ++ Sz.wr t.time))) []
  simp only [List.nil_append, List.length_nil, Nat.zero_add, List.append_nil] at g1
  rw [g1]
  simp only [Option.bind_some, Int.toNat_natCast]
  have g2 := rep_comp rIn_comp t.ins h2 (Sz.wr (t.ins.length : Nat)) (Sz.wr (t.outs.length : Nat) ++ ((t.outs.map outB).flatten ++ Sz.wr t.time))
  have e2 : Sz.wr (t.ins.length : Nat) ++ ((t.ins.map inB).flatten ++ (Sz.wr (t.outs.length : Nat) ++ ((t.outs.map outB).flatten ++ Sz.wr t.time))) = Sz.wr (t.ins.length : Nat) ++ (t.ins.map inB).flatten ++ (Sz.wr (t.outs.length : Nat) ++ ((t.outs.map outB).flatten ++ Sz.wr t.time)) := by simp [List.append_assoc]
  rw [e2, g2]
  simp only [Option.bind_some]
  have g3 := (lim_comp 40 (by omega)) (t.outs.length : Nat) ⟨by omega, by omega⟩ (Sz.wr (t.ins.length : Nat) ++ (t.ins.map inB).flatten) (((t.outs.map outB).flatten ++ Sz.wr t.time))
  rw [List.length_append] at g3
  have e3 : Sz.wr (t.ins.length : Nat) ++ (t.ins.map inB).flatten ++ (Sz.wr (t.outs.length : Nat) ++ ((t.outs.map outB).flatten ++ Sz.wr t.time)) = Sz.wr (t.ins.length : Nat) ++ (t.ins.map inB).flatten ++ Sz.wr (t.outs.length : Nat) ++ (((t.outs.map outB).flatten ++ Sz.wr t.time)) := by simp [List.append_assoc]
  rw [e3, g3]
  simp only [Option.bind_some, Int.toNat_natCast]
  have g4 := rep_comp rOut_comp t.outs h4 (Sz.wr (t.ins.length : Nat) ++ (t.ins.map inB).flatten ++ Sz.wr (t.outs.length : Nat)) (Sz.wr t.time)
  rw [List.length_append, List.length_append] at g4
  have e4 : Sz.wr (t.ins.length : Nat) ++ (t.ins.map inB).flatten ++ Sz.wr (t.outs.length : Nat) ++ (((t.outs.map outB).flatten ++ Sz.wr t.time)) = Sz.wr (t.ins.length : Nat) ++ (t.ins.map inB).flatten ++ Sz.wr (t.outs.length : Nat) ++ (t.outs.map outB).flatten ++ (Sz.wr t.time) := by simp [List.append_assoc]
  rw [e4, g4]
  simp only [Option.bind_some]
  have g5 := lim_comp 1073741824 (by omega) t.time h5 (Sz.wr (t.ins.length : Nat) ++ (t.ins.map inB).flatten ++ Sz.wr (t.outs.length : Nat) ++ (t.outs.map outB).flatten) []
  rw [List.length_append, List.length_append, List.length_append, List.append_nil] at g5
  rw [g5]
  rfl
theorem rep_each {α : Type} {f : Nat → Option (α × Nat)} {P : α → Prop} (h : ∀ p x q, f p = some (x, q) → P x) : ∀ (k p : Nat) (l : List α) (q : Nat), rep f k p = some (l, q) → ∀ x ∈ l, P x := by
  intro k
  induction k with
  | zero =>
    intro p l q hr
    rw [rep] at hr
    simp only [Option.some.injEq, Prod.mk.injEq] at hr
    obtain ⟨rfl, rfl⟩ := hr
    intro x hx; cases hx
  | succ k ih =>
    intro p l q hr
    rw [rep] at hr
    cases hf : f p with
    | none => rw [hf] at hr; cases hr
    | some x =>
      rw [hf] at hr
      obtain ⟨x, q1⟩ := x
      simp only [Option.bind_some] at hr
      cases hg : rep f k q1 with
      | none => rw [hg] at hr; cases hr
      | some y =>
        rw [hg] at hr
        obtain ⟨ys, q2⟩ := y
        simp only [Option.map_some, Option.some.injEq, Prod.mk.injEq] at hr
        obtain ⟨rfl, rfl⟩ := hr
        intro z hz
        rcases List.mem_cons.1 hz with rfl | hz
        · exact h p _ q1 hf
        · exact ih q1 ys q2 hg z hz
theorem rIn_dig (b : List Int) (hb : Sz.Byt b) (p : Nat) (x : In) (q : Nat) (h : rIn b p = some (x, q)) : dOk x.tx := by
  unfold rIn at h
  cases h1 : bts 32 b p with
  | none => rw [h1] at h; cases h
  | some x1 =>
  obtain ⟨x1, q1⟩ := x1
  rw [h1] at h
  simp only [Option.bind_some] at h
  cases h2 : lim 40 b q1 with
  | none => rw [h2] at h; cases h
  | some x2 =>
  rw [h2] at h
  simp only [Option.bind_some] at h
  cases h3 : lim 30 b x2.2 with
  | none => rw [h3] at h; cases h
  | some x3 =>
  rw [h3] at h
  simp only [Option.bind_some] at h
  cases h4 : rep (rThing 3000 b) x3.1.toNat x3.2 with
  | none => rw [h4] at h; cases h
  | some x4 =>
  rw [h4] at h
  simp only [Option.map_some, Option.some.injEq, Prod.mk.injEq] at h
  obtain ⟨rfl, rfl⟩ := h
  unfold bts at h1
  by_cases e : p + 32 ≤ b.length
  · rw [if_pos e] at h1
    simp only [Option.some.injEq, Prod.mk.injEq] at h1
    obtain ⟨rfl, rfl⟩ := h1
    exact ⟨by dsimp only; rw [List.length_take, List.length_drop]; omega, (hb.drop _).take _⟩
  · rw [if_neg e] at h1; cases h1
theorem rPay_dig (b : List Int) (hb : Sz.Byt b) (t : Tx) (h : rPay b = some t) : ∀ i ∈ t.ins, dOk i.tx := by
  unfold rPay at h
  cases h1 : lim 40 b 0 with
  | none => rw [h1] at h; cases h
  | some x1 =>
  rw [h1] at h
  simp only [Option.bind_some] at h
  cases h2 : rep (rIn b) x1.1.toNat x1.2 with
  | none => rw [h2] at h; cases h
  | some x2 =>
  obtain ⟨x2, q2⟩ := x2
  rw [h2] at h
  simp only [Option.bind_some] at h
  cases h3 : lim 40 b q2 with
  | none => rw [h3] at h; cases h
  | some x3 =>
  rw [h3] at h
  simp only [Option.bind_some] at h
  cases h4 : rep (rOut b) x3.1.toNat x3.2 with
  | none => rw [h4] at h; cases h
  | some x4 =>
  rw [h4] at h
  simp only [Option.bind_some] at h
  cases h5 : lim 1073741824 b x4.2 with
  | none => rw [h5] at h; cases h
  | some x5 =>
  rw [h5] at h
  simp only [Option.map_some, Option.some.injEq] at h
  subst h
  exact rep_each (fun p x q hx => rIn_dig b hb p x q hx) _ _ _ _ h2
/-- The document's answer is what is read. -/
theorem rRead_eq (b : List Int) (hb : Sz.Byt b) : rRead b = read b := by
  cases hr : read b with
  | some t =>
    obtain ⟨h1, h2, h3⟩ := read_sound b hb t hr
    obtain ⟨k1, k2, k3, k4, k5, k6, k7⟩ := check_zero t h2
    have hp : rPay (bytes t) = some t := by
      refine rPay_comp t k1 (fun i hi => ?_) k2 (fun o ho => ?_) ⟨k4, k5⟩
      · obtain ⟨a, b, c⟩ := insF_zero _ _ k6 i hi
        obtain ⟨d, e⟩ := keysF_zero _ c
        exact ⟨(h3.2.1 i hi).1.1, ⟨a, by omega⟩, d, e⟩
      · obtain ⟨a, b⟩ := outsF_zero _ k7 o ho
        obtain ⟨c, d⟩ := lock_ok _ b
        refine ⟨⟨a.1, by have := a.2; omega⟩, c, fun x hx => ?_⟩
        obtain ⟨e1, e2, e3, e4, e5⟩ := d x hx
        exact ⟨⟨by omega, e2⟩, ⟨e3, e4⟩, e5⟩
    unfold rRead
    rw [h1] at hp
    rw [hp]
    simp [h1, h2]
  | none =>
    cases hq : rRead b with
    | none => rfl
    | some t =>
      exfalso
      unfold rRead at hq
      cases hp : rPay b with
      | none => rw [hp] at hq; cases hq
      | some x =>
        rw [hp] at hq
        simp only [Option.bind_some] at hq
        by_cases e : check x = 0 ∧ bytes x = b
        · have := read_bytes x e.1 (rPay_dig b hb x hp)
          rw [e.2, hr] at this
          cases this
        · rw [if_neg e] at hq; cases hq
end Go.Proofs.YtbdnbjemocjlaaaGreatDoor.Tm
