/- The texts LkRq, LkRr, LkRs, LkRu, one behind the other. -/
import Derived.Test.YtkdihbgjeanjdaaDoorZRj
import Derived.Test.YtkdihbgjeanjdaaDoorZRa
import Derived.Deep.RegionHeld2
/- The document's answer on locks: ops from one place to another (Tried): what is at hand. -/
namespace Go.Proofs.YtkdihbgjeanjdaaDoor
open Go.RowKit
set_option linter.unusedVariables false
set_option linter.unusedSimpArgs false

/-- Ops from one place to another. -/
def seg (R : List (Lk.Op × Value)) (p q : Nat) : List Lk.Op := ((opsOf R).drop p).take (q - p)
theorem seg_nil (R : List (Lk.Op × Value)) (p : Nat) : seg R p p = [] := by unfold seg; rw [Nat.sub_self, List.take_zero]
theorem seg_cons (R : List (Lk.Op × Value)) (p q : Nat) (h : p < q) (hp : p < R.length) : seg R p q = R[p].1 :: seg R (p + 1) q := by
  unfold seg
  rw [opsOf_drop R p hp, show q - p = (q - (p + 1)) + 1 by omega, List.take_succ_cons]
theorem seg_len (R : List (Lk.Op × Value)) (p q : Nat) (h : p ≤ q) (hq : q ≤ R.length) : (seg R p q).length = q - p := by
  unfold seg; rw [List.length_take, List.length_drop, opsOf_length]; omega
theorem seg_rest (R : List (Lk.Op × Value)) (p q : Nat) (h : p ≤ q) : (opsOf R).drop p = seg R p q ++ (opsOf R).drop q := by
  unfold seg
  conv => lhs; rw [← List.take_append_drop (q - p) ((opsOf R).drop p)]
  rw [List.drop_drop, show p + (q - p) = q by omega]
/-- A part of them. -/
theorem seg_mid (R : List (Lk.Op × Value)) (p q : Nat) (hp : p ≤ q) (hq : q ≤ R.length) (a b c : List Lk.Op) (h : seg R p q = a ++ (b ++ c)) : seg R (p + a.length) (p + a.length + b.length) = b ∧ seg R (p + a.length + b.length) q = c ∧ p + a.length + b.length + c.length = q := by
  have hl := congrArg List.length h
  rw [seg_len R p q hp hq, List.length_append, List.length_append] at hl
  have hr := seg_rest R p q hp
  rw [h] at hr
  have e1 : (opsOf R).drop (p + a.length) = b ++ c ++ (opsOf R).drop q := by
    rw [← List.drop_drop, hr, List.append_assoc, List.drop_left]
  have e2 : (opsOf R).drop (p + a.length + b.length) = c ++ (opsOf R).drop q := by
    rw [← List.drop_drop, e1, List.append_assoc, List.drop_left]
  refine ⟨?_, ?_, by omega⟩
  · unfold seg; rw [e1, Nat.add_sub_cancel_left, List.append_assoc, List.take_left]
  · unfold seg; rw [e2, show q - (p + a.length + b.length) = c.length by omega, List.take_left]
theorem seg_at (R : List (Lk.Op × Value)) (p q : Nat) (hp : p ≤ q) (hq : q ≤ R.length) (a : List Lk.Op) (e : Lk.Op) (c : List Lk.Op) (h : seg R p q = a ++ e :: c) : ∃ hk : p + a.length < R.length, R[p + a.length].1 = e := by
  have hl := congrArg List.length h
  rw [seg_len R p q hp hq, List.length_append, List.length_cons] at hl
  have hlt : p + a.length < R.length := by omega
  have hr := seg_rest R p q hp
  rw [h] at hr
  have e1 : (opsOf R).drop (p + a.length) = e :: (c ++ (opsOf R).drop q) := by
    rw [← List.drop_drop, hr, List.append_assoc, List.drop_left, List.cons_append]
  rw [opsOf_drop R _ hlt] at e1
  injection e1 with e2 _
  exact ⟨hlt, e2⟩

/-- An If's ways, by places. -/
theorem if_ways (m : List Int) (h : Int) (R : List (Lk.Op × Value)) (k q : Nat) (hlt : k < q) (hq : q ≤ R.length) (hkR : k < R.length) (h11 : R[k].1.op = 11) (hp : Lk.pairs [] (R[k].1 :: seg R (k + 1) q) = some []) :
    ∃ (ap bp : Nat) (hap : ap < R.length), k + 1 ≤ ap ∧ ap < bp ∧ bp ≤ q ∧ posOf R.length (Lk.ended ((opsOf R).drop (k + 1))) = (ap : Int) ∧ posOf R.length (Lk.behind ((opsOf R).drop (k + 1))) = (bp : Int) ∧ Lk.pairs [] (seg R (k + 1) ap) = some [] ∧ Lk.pairs [] (seg R bp q) = some [] ∧
      ((R[ap].1.op = 12 ∧ ap + 1 ≤ bp - 1 ∧ Lk.pairs [] (seg R (ap + 1) (bp - 1)) = some [] ∧ ∀ t s, Lk.exec m h (R[k].1 :: seg R (k + 1) q) (t :: s) = if Lk.isTrue t then (Lk.exec m h (seg R (k + 1) ap) s).bind (fun s => Lk.exec m h (seg R bp q) s) else (Lk.exec m h (seg R (ap + 1) (bp - 1)) s).bind (fun s => Lk.exec m h (seg R bp q) s)) ∨
       (R[ap].1.op = 13 ∧ ∀ t s, Lk.exec m h (R[k].1 :: seg R (k + 1) q) (t :: s) = if Lk.isTrue t then (Lk.exec m h (seg R (k + 1) ap) s).bind (fun s => Lk.exec m h (seg R bp q) s) else Lk.exec m h (seg R bp q) s)) := by
  have hw := Lk.ways R[k].1 (seg R (k + 1) q) ((opsOf R).drop q) h11 hp
  have hsr := seg_rest R (k + 1) q (by omega)
  have hlq : ((opsOf R).drop q).length = R.length - q := by rw [List.length_drop, opsOf_length]
  cases hw with
  | one b1 e qq hS he h1 hqq hE hB =>
    obtain ⟨hap, hae⟩ := seg_at R (k + 1) q (by omega) hq b1 e qq hS
    obtain ⟨s1, s2, s3⟩ := seg_mid R (k + 1) q (by omega) hq [] b1 (e :: qq) (by rw [List.nil_append]; exact hS)
    obtain ⟨t1, t2, t3⟩ := seg_mid R (k + 1) q (by omega) hq b1 [e] qq (by rw [hS]; rfl)
    simp only [List.length_nil, Nat.add_zero, List.length_cons, Nat.zero_add] at s1 s2 s3 t1 t2 t3
    refine ⟨k + 1 + b1.length, k + 1 + b1.length + 1, hap, by omega, by omega, by omega, ?_, ?_, by rw [s1]; exact h1, by rw [t2]; exact hqq, .inr ⟨by rw [hae]; exact he, fun t s => ?_⟩⟩
    · rw [hsr, hE]; unfold posOf; simp only [List.length_cons, List.length_append]; rw [hlq]; omega
    · rw [hsr, hB]; unfold posOf; simp only [List.length_append]; rw [hlq]; omega
    · rw [hS, Lk.exec_one m h _ e b1 qq t s h11 he h1, s1, t2]
  | two b1 e b2 e2 qq hS he he2 h1 h2 hqq hE hB =>
    obtain ⟨hap, hae⟩ := seg_at R (k + 1) q (by omega) hq b1 e _ hS
    obtain ⟨s1, s2, s3⟩ := seg_mid R (k + 1) q (by omega) hq [] b1 (e :: (b2 ++ e2 :: qq)) (by rw [List.nil_append]; exact hS)
    obtain ⟨t1, t2, t3⟩ := seg_mid R (k + 1) q (by omega) hq (b1 ++ [e]) b2 (e2 :: qq) (by rw [hS]; simp)
    obtain ⟨u1, u2, u3⟩ := seg_mid R (k + 1) q (by omega) hq (b1 ++ e :: b2) [e2] qq (by rw [hS]; simp)
    simp only [List.length_nil, Nat.add_zero, List.length_cons, Nat.zero_add, List.length_append] at s1 s2 s3 t1 t2 t3 u1 u2 u3
    have eb : k + 1 + (b1.length + (b2.length + 1)) + 1 = k + 1 + b1.length + 1 + b2.length + 1 := by omega
    have ea : k + 1 + (b1.length + 1) = k + 1 + b1.length + 1 := by omega
    rw [eb] at u2 u3
    rw [ea] at t1
    refine ⟨k + 1 + b1.length, k + 1 + b1.length + 1 + b2.length + 1, hap, by omega, by omega, by omega, ?_, ?_, by rw [s1]; exact h1, by rw [u2]; exact hqq, .inl ⟨by rw [hae]; exact he, by omega, by rw [Nat.add_sub_cancel, t1]; exact h2, fun t s => ?_⟩⟩
    · rw [hsr, hE]; unfold posOf; simp only [List.length_cons, List.length_append]; rw [hlq]; omega
    · rw [hsr, hB]; unfold posOf; simp only [List.length_append]; rw [hlq]; omega
    · rw [hS, Lk.exec_two m h _ e e2 b1 b2 qq t s h11 he he2 h1 h2, s1, u2, Nat.add_sub_cancel, t1]

/-- Ops in memory that is there whatever becomes of blocks of Z. -/
structure Stays (Z : Nat → Prop) (w : World) (R : List (Lk.Op × Value)) (b off : Nat) : Prop where
  hZ : ∀ b, Z b → b < w.heap.size
  hr : w.rangeAt b off (opCells R)
  hb : b < w.heap.size
  hd : ∀ x ∈ R, Lk.opFault x.1 = 0 ∧ BytZ Z w x.2 x.1.data ∧ Sz.Byt x.1.data
theorem Stays.more {Z : Nat → Prop} {w W : World} {R : List (Lk.Op × Value)} {b off B : Nat} (h : Stays Z w R b off) (hb : Below w.heap.size w W) (hB : B ≤ W.heap.size) : Stays (Zup Z w.heap.size B) W R b off :=
  ⟨zup_lt h.hZ hB hb.size, range_keep h.hr hb h.hb, Nat.lt_of_lt_of_le h.hb hb.size, fun x hx => ⟨(h.hd x hx).1, (h.hd x hx).2.1.more hb zup_in, (h.hd x hx).2.2⟩⟩
/-- An answer stays where it is behind stores into cells that are no matter. -/
theorem hand_kept {Z : Nat → Prop} {w w1 : World} {B c : Nat} {v u x : Value} {r : Lk.Out} (hh : HandZ (Zup Z w.heap.size B) w1 v r) (h1 : w.heap.size ≤ c) (h2 : c < B) : HandZ (Zup Z w.heap.size B) ((w1.setCell ⟨c, 0, none⟩ u).setCell ⟨c, 1, none⟩ x) v r :=
  hh.to (fun W hW => hW.stored (by simp [World.setCell]) (fun b hlt hn => by
    have hne : b ≠ c := fun e => hn (.inr (by omega))
    rw [Below.heap_setCell _ _ _ _ hne, Below.heap_setCell _ _ _ _ hne]) (fun b hb => hb))
theorem hand_out {Z : Nat → Prop} {w w1 : World} {B c : Nat} {v u x : Value} {r : Lk.Out} (hh : HandZ (Zup Z w.heap.size B) w1 v r) (h1 : w.heap.size ≤ c) (h2 : c < B) : HandZ Z ((w1.setCell ⟨c, 0, none⟩ u).setCell ⟨c, 1, none⟩ x) v r :=
  hh.to (fun W hW => hW.stored (by simp [World.setCell]) (fun b hlt hn => by
    have hne : b ≠ c := fun e => hn (.inr (by omega))
    rw [Below.heap_setCell _ _ _ _ hne, Below.heap_setCell _ _ _ _ hne]) (fun b hb => .inl hb))
theorem is_two {w1 : World} {c d : Nat} {u x : Value} {cs : List Value} {t : TypeId} (h : Is w1 d cs t) (hne : c ≠ d) : Is ((w1.setCell ⟨c, 0, none⟩ u).setCell ⟨c, 1, none⟩ x) d cs t := (h.other _ _ hne).other _ _ hne
theorem is_here {w1 : World} {c : Nat} {u x a b : Value} {t : TypeId} (h : Is w1 c [a, b] t) : Is ((w1.setCell ⟨c, 0, none⟩ u).setCell ⟨c, 1, none⟩ x) c [u, x] t := (h.set 0 u).set 1 x
theorem below_two {w w1 : World} {c : Nat} {u x : Value} (h : Below w.heap.size w w1) (hc : w.heap.size ≤ c) : Below w.heap.size w ((w1.setCell ⟨c, 0, none⟩ u).setCell ⟨c, 1, none⟩ x) := (h.setCell hc _).setCell hc _
/-- What is at hand is not too much. -/
def Good (r : Lk.Out) : Prop := ∀ s, r = .ok s → s.length ≤ 30 ∧ Lk.Short s

theorem boxes3 (w : World) (c1 c2 c3 : List Value) (t1 t2 t3 : TypeId) : Below w.heap.size w (((w.alloc (.cells c1.toArray t1)).alloc (.cells c2.toArray t2)).alloc (.cells c3.toArray t3)) ∧
    Is (((w.alloc (.cells c1.toArray t1)).alloc (.cells c2.toArray t2)).alloc (.cells c3.toArray t3)) w.heap.size c1 t1 ∧ Is (((w.alloc (.cells c1.toArray t1)).alloc (.cells c2.toArray t2)).alloc (.cells c3.toArray t3)) (w.heap.size + 1) c2 t2 ∧
    Is (((w.alloc (.cells c1.toArray t1)).alloc (.cells c2.toArray t2)).alloc (.cells c3.toArray t3)) (w.heap.size + 1 + 1) c3 t3 ∧ w.heap.size + 3 ≤ (((w.alloc (.cells c1.toArray t1)).alloc (.cells c2.toArray t2)).alloc (.cells c3.toArray t3)).heap.size :=
  ⟨below_alloc3 w _ _ _, ((Is.new w c1 t1).alloc _).alloc _, (Is.new' c2 t2 (by simp)).alloc _, Is.new' c3 t3 (by simp), by simp⟩
theorem opFault_len (o : Lk.Op) (h : Lk.opFault o = 0) : o.data.length ≤ 300 := by
  unfold Lk.opFault Lk.opF at h
  (repeat' split at h) <;> first | omega | skip

/-- What Tried's own cells hold, and what is at hand. -/
structure TryS (Z : Nat → Prop) (w wr : World) (M : List Value) (fa : Option Addr) (fn fc : Nat) (fe : Int) (r : Lk.Out) : Prop where
  hb : Below w.heap.size w wr
  hs : w.heap.size + 3 ≤ wr.heap.size
  h0 : Is wr w.heap.size [.slice fa fn fc, .int .i64 fe] 60
  h1 : Is wr (w.heap.size + 1) M 25
  h2 : ∃ x y, Is wr (w.heap.size + 1 + 1) [x, y] 60
  hh : HandZ (Zup Z w.heap.size (w.heap.size + 3)) wr (.agg #[.slice fa fn fc, .int .i64 fe]) r
  hg : Good r
/-- Behind a call that leaves what is at hand as it is. -/
theorem TryS.call {Z : Nat → Prop} {w wr w1 : World} {M : List Value} {fa : Option Addr} {fn fc : Nat} {fe : Int} {r : Lk.Out} (h : TryS Z w wr M fa fn fc fe r) (hb : Below wr.heap.size wr w1) : TryS Z w w1 M fa fn fc fe r := by
  obtain ⟨x, y, h2⟩ := h.h2
  exact ⟨h.hb.trans (hb.mono h.hb.size), Nat.le_trans h.hs hb.size, h.h0.below hb h.h0.lt, h.h1.below hb h.h1.lt, ⟨x, y, h2.below hb h2.lt⟩, h.hh.more hb (fun _ _ e => e), h.hg⟩
/-- Behind a call whose answer is stored as what is at hand. -/
theorem TryS.next {Z : Nat → Prop} {w wr w1 : World} {M : List Value} {fa ga : Option Addr} {fn fc gn gc : Nat} {fe ge : Int} {r r1 : Lk.Out} (h : TryS Z w wr M fa fn fc fe r) (hb : Below wr.heap.size wr w1) (hh : HandZ (Zup Z w.heap.size (w.heap.size + 3)) w1 (.agg #[.slice ga gn gc, .int .i64 ge]) r1) (hg : Good r1) :
    TryS Z w ((w1.setCell ⟨w.heap.size, 0, none⟩ (.slice ga gn gc)).setCell ⟨w.heap.size, 1, none⟩ (.int .i64 ge)) M ga gn gc ge r1 := by
  obtain ⟨x, y, h2⟩ := h.h2
  exact ⟨below_two (h.hb.trans (hb.mono h.hb.size)) (Nat.le_refl _), by simp [World.setCell]; exact Nat.le_trans h.hs hb.size, is_here (h.h0.below hb h.h0.lt), is_two (h.h1.below hb h.h1.lt) (by omega), ⟨x, y, is_two (h2.below hb h2.lt) (by omega)⟩, hand_kept hh (Nat.le_refl _) (by omega), hg⟩

/-- What holds within the region of Tried that draws its order. -/
theorem tS_below {w W W' : World} {B b o0 o1 o2 : Nat} {M : List Value} {v0 v1 v2 : Value} (h : Below w.heap.size w W ∧ B ≤ W.heap.size ∧ (∃ x y, Is W w.heap.size [x, y] 60) ∧ Is W (w.heap.size + 1) M 25 ∧ (∃ x y, Is W (w.heap.size + 1 + 1) [x, y] 60) ∧ W.cell? ⟨b, o0, none⟩ = some v0 ∧ W.cell? ⟨b, o1, none⟩ = some v1 ∧ W.cell? ⟨b, o2, none⟩ = some v2) (hb : Below W.heap.size W W') :
    Below w.heap.size w W' ∧ B ≤ W'.heap.size ∧ (∃ x y, Is W' w.heap.size [x, y] 60) ∧ Is W' (w.heap.size + 1) M 25 ∧ (∃ x y, Is W' (w.heap.size + 1 + 1) [x, y] 60) ∧ W'.cell? ⟨b, o0, none⟩ = some v0 ∧ W'.cell? ⟨b, o1, none⟩ = some v1 ∧ W'.cell? ⟨b, o2, none⟩ = some v2 := by
  obtain ⟨h1, h2, ⟨x, y, h3⟩, h4, ⟨x2, y2, h5⟩, h6, h7, h8⟩ := h
  exact ⟨h1.trans (hb.mono h1.size), Nat.le_trans h2 hb.size, ⟨x, y, h3.below hb h3.lt⟩, h4.below hb h4.lt, ⟨x2, y2, h5.below hb h5.lt⟩, cell_below h6 hb, cell_below h7 hb, cell_below h8 hb⟩
theorem tS_store {w W : World} {B b o0 o1 o2 : Nat} {M : List Value} {v0 v1 v2 : Value} (h : Below w.heap.size w W ∧ B ≤ W.heap.size ∧ (∃ x y, Is W w.heap.size [x, y] 60) ∧ Is W (w.heap.size + 1) M 25 ∧ (∃ x y, Is W (w.heap.size + 1 + 1) [x, y] 60) ∧ W.cell? ⟨b, o0, none⟩ = some v0 ∧ W.cell? ⟨b, o1, none⟩ = some v1 ∧ W.cell? ⟨b, o2, none⟩ = some v2) (hne : b ≠ w.heap.size) (u v : Value) :
    Below w.heap.size w ((W.setCell ⟨w.heap.size, 0, none⟩ u).setCell ⟨w.heap.size, 1, none⟩ v) ∧ B ≤ ((W.setCell ⟨w.heap.size, 0, none⟩ u).setCell ⟨w.heap.size, 1, none⟩ v).heap.size ∧ (∃ x y, Is ((W.setCell ⟨w.heap.size, 0, none⟩ u).setCell ⟨w.heap.size, 1, none⟩ v) w.heap.size [x, y] 60) ∧ Is ((W.setCell ⟨w.heap.size, 0, none⟩ u).setCell ⟨w.heap.size, 1, none⟩ v) (w.heap.size + 1) M 25 ∧ (∃ x y, Is ((W.setCell ⟨w.heap.size, 0, none⟩ u).setCell ⟨w.heap.size, 1, none⟩ v) (w.heap.size + 1 + 1) [x, y] 60) ∧ ((W.setCell ⟨w.heap.size, 0, none⟩ u).setCell ⟨w.heap.size, 1, none⟩ v).cell? ⟨b, o0, none⟩ = some v0 ∧ ((W.setCell ⟨w.heap.size, 0, none⟩ u).setCell ⟨w.heap.size, 1, none⟩ v).cell? ⟨b, o1, none⟩ = some v1 ∧ ((W.setCell ⟨w.heap.size, 0, none⟩ u).setCell ⟨w.heap.size, 1, none⟩ v).cell? ⟨b, o2, none⟩ = some v2 := by
  obtain ⟨h1, h2, ⟨x, y, h3⟩, h4, ⟨x2, y2, h5⟩, h6, h7, h8⟩ := h
  exact ⟨below_two h1 (Nat.le_refl _), by simp [World.setCell]; exact h2, ⟨u, v, is_here h3⟩, is_two h4 (by omega), ⟨x2, y2, is_two h5 (by omega)⟩, cell_two h6 hne, cell_two h7 hne, cell_two h8 hne⟩
end Go.Proofs.YtkdihbgjeanjdaaDoor

/- The document's answer on locks: ops from one place to another (Tried). -/
namespace Go.Proofs.YtkdihbgjeanjdaaDoor
open Go.RowKit
set_option linter.unusedVariables false
set_option linter.unusedSimpArgs false

section
variable (m : List Int) (h : Int) (R : List (Lk.Op × Value)) (b off cap : Nat)
/-- What Tried answers. -/
def TriedIs (Z : Nat → Prop) (W : World) (K : List (List Int × Value)) (sv : Value) (p q : Nat) : Prop :=
  Calls Tryd.prog 28 #[.agg #[sv, .int .i64 0], .slice (some ⟨b, off, none⟩) R.length cap, .int .i64 p, .int .i64 q, .agg (vals m).toArray, .int .i64 h] W fun e w' => ∃ ga gn gc ge, e = .returned (.agg #[.slice ga gn gc, .int .i64 ge]) ∧ HandZ (Z) w' (.agg #[.slice ga gn gc, .int .i64 ge]) (Lk.exec m h (seg R p q) (stk K)) ∧ Below W.heap.size W w'
/-- What it wants. -/
structure Wants (Z : Nat → Prop) (w : World) (K : List (List Int × Value)) (sv : Value) (p q : Nat) : Prop where
  st : Stays Z w R b off
  hk : KeysZ Z w sv K
  h30 : K.length ≤ 30
  hs : Lk.Short (stk K)
  hpq : p ≤ q
  hq : q ≤ R.length
  hp : Lk.pairs [] (seg R p q) = some []

set_option maxRecDepth 100000 in
set_option maxHeartbeats 8000000 in
theorem tried_step (hm : m.length = 32) (hmb : Sz.Byt m) (h60 : R.length ≤ 60) (Z : Nat → Prop) (w : World) (K : List (List Int × Value)) (sv : Value) (p q : Nat) (hw : Wants R b off Z w K sv p q)
    (ih : ∀ (Z' : Nat → Prop) (w' : World) (K' : List (List Int × Value)) (sv' : Value) (p' q' : Nat), q' - p' < q - p → Wants R b off Z' w' K' sv' p' q' → TriedIs m h R b off cap Z' w' K' sv' p' q') : TriedIs m h R b off cap Z w K sv p q := by
  obtain ⟨st, hk, h30, hs, hpq, hq, hp⟩ := hw
  obtain ⟨ka, kc, rfl, _, _, _⟩ := (hk w (SameZ.refl Z w)).form
  have HDN : Hid (∀ (W : World) (fa : Option Addr) (fn fc : Nat) (s : List (List Int)) (k : Nat) (hkR : k < R.length), Below w.heap.size w W → w.heap.size + 3 ≤ W.heap.size → HandZ (Zup Z w.heap.size (w.heap.size + 3)) W (.agg #[.slice fa fn fc, .int .i64 0]) (.ok s) → s.length ≤ 30 → Lk.Short s → R[k].1.op ≠ 11 → R[k].1.op ≠ 12 → R[k].1.op ≠ 13 →
      Calls Tryd.prog 47 #[.agg #[.slice fa fn fc, .int .i64 0], .agg #[.int .i64 R[k].1.op, .int .i64 R[k].1.n, R[k].2], .agg (vals m).toArray, .int .i64 h] W fun e w' => ∃ ga gn gc ge, e = .returned (.agg #[.slice ga gn gc, .int .i64 ge]) ∧ HandZ (Zup Z w.heap.size (w.heap.size + 3)) w' (.agg #[.slice ga gn gc, .int .i64 ge]) (Lk.doOp m h R[k].1 s) ∧ Below W.heap.size W w') := hide (fun W fa fn fc s k hkR hb hB hh h30 hs h11 h12 h13 => by
    obtain ⟨sv', K', e1, hk', rfl⟩ := hh
    have st' := st.more hb hB
    obtain ⟨d1, d2, d3⟩ := st'.hd R[k] (List.getElem_mem hkR)
    have e2 : sv' = .slice fa fn fc := by injection e1 with e1; injection e1 with e1; injection e1 with e1 _; exact e1.symm
    subst e2
    refine (rdone_any (Zup Z w.heap.size (w.heap.size + 3)) m h R[k].1 R[k].2 W hm hmb st'.hZ K' _ hk' (by rw [stk_length] at h30; exact h30) hs d2 d3 d1 h11 h12 h13).mono ?_
    rintro e w1 ⟨v1, rfl, hh1, hb1⟩
    obtain ⟨ga, gn, gc, ge, hge, -⟩ := hh1.form
    subst hge
    exact ⟨ga, gn, gc, ge, rfl, hh1, hb1⟩)
  have HTR : Hid (∀ (W : World) (fa : Option Addr) (fn fc : Nat) (s : List (List Int)) (p' q' : Nat), Below w.heap.size w W → w.heap.size + 3 ≤ W.heap.size → HandZ (Zup Z w.heap.size (w.heap.size + 3)) W (.agg #[.slice fa fn fc, .int .i64 0]) (.ok s) → s.length ≤ 30 → Lk.Short s → p' ≤ q' → q' ≤ R.length → q' - p' < q - p → Lk.pairs [] (seg R p' q') = some [] →
      Calls Tryd.prog 28 #[.agg #[.slice fa fn fc, .int .i64 0], .slice (some ⟨b, off, none⟩) R.length cap, .int .i64 p', .int .i64 q', .agg (vals m).toArray, .int .i64 h] W fun e w' => ∃ ga gn gc ge, e = .returned (.agg #[.slice ga gn gc, .int .i64 ge]) ∧ HandZ (Zup Z w.heap.size (w.heap.size + 3)) w' (.agg #[.slice ga gn gc, .int .i64 ge]) (Lk.exec m h (seg R p' q') s) ∧ Below W.heap.size W w') := hide (fun W fa fn fc s p' q' hb hB hh h30 hs h1 h2 h3 h4 => by
    obtain ⟨sv', K', e1, hk', rfl⟩ := hh
    have e2 : sv' = .slice fa fn fc := by injection e1 with e1; injection e1 with e1; injection e1 with e1 _; exact e1.symm
    subst e2
    exact ih (Zup Z w.heap.size (w.heap.size + 3)) W K' _ p' q' h3 ⟨st.more hb hB, hk', by rw [stk_length] at h30; exact h30, hs, h1, h2, h4⟩)
  have HEN : Hid (∀ (W : World) (p' : Nat), Below w.heap.size w W → p' ≤ R.length → Calls Tryd.prog 25 #[.slice (some ⟨b, off, none⟩) R.length cap, .int .i64 p'] W fun e w' => e = .returned (.int .i64 (posOf R.length (Lk.ended ((opsOf R).drop p')))) ∧ W = w') := hide (fun W p' hb hp' => ended_any R b off cap W (by omega) (range_keep st.hr hb st.hb) (R.length - p') p' (by omega))
  have HBE : Hid (∀ (W : World) (p' : Nat), Below w.heap.size w W → p' < R.length → Calls Tryd.prog 42 #[.slice (some ⟨b, off, none⟩) R.length cap, .int .i64 p'] W fun e w' => e = .returned (.int .i64 (posOf R.length (Lk.behind ((opsOf R).drop (p' + 1))))) ∧ W = w') := hide (fun W p' hb hp' => behind_step R b off cap W p' hp' (by omega) (range_keep st.hr hb st.hb) (fun p2 _ h2 => ended_any R b off cap W (by omega) (range_keep st.hr hb st.hb) (R.length - p2) p2 (by omega)))
  have HTT : Hid (∀ (W : World) (v : Value) (x : List Int), Has W v x → Calls Tryd.prog 19 #[v] W fun e w' => e = .returned (.bool (Lk.isTrue x)) ∧ W = w') := hide (fun W v x hx => rtrue_any v x W hx)
  have hbx := boxes3 w [.slice ka K.length kc, .int .i64 0] (vals m) [.slice none 0 0, .int .i64 0] 60 25 60
  have HT0 := hide (TryS.mk hbx.1 hbx.2.2.2.2 hbx.2.1 hbx.2.2.1 ⟨_, _, hbx.2.2.2.1⟩ (show HandZ (Zup Z w.heap.size (w.heap.size + 3)) _ (.agg #[.slice ka K.length kc, .int .i64 0]) (.ok (stk K)) from ⟨_, K, rfl, hk.more hbx.1 zup_in, rfl⟩) (fun s hs' => by injection hs' with hs'; subst hs'; exact ⟨by rw [stk_length]; exact h30, hs⟩))
  have hML : (vals m).length = 32 := by rw [vals_length]; exact hm
  have hszM : (Tryd.prog.info? 25).map (·.size) = some (vals m).length := by rw [hML]; exact size_dig
  have HML := hide hML
  have HR := hide st.hr
  have HBW := hide st.hb
  have HOV : Hid (∀ x ∈ R, ∃ a l c, x.2 = .slice a l c) := hide (fun x hx => by obtain ⟨a, c, e, _⟩ := ((st.hd x hx).2.1 w (SameZ.refl Z w)).shape; exact ⟨a, _, c, e⟩)
  have HDLEN : Hid (∀ k (hkR : k < R.length), R[k].1.data.length ≤ 3000) := hide (fun k hkR => by have := opFault_len _ (st.hd R[k] (List.getElem_mem hkR)).1; omega)
  have HDLEN2 : Hid (∀ p' q', ∀ o ∈ seg R p' q', o.data.length ≤ 3000) := hide (fun p' q' o ho => by
    have h1 := List.mem_of_mem_drop (List.mem_of_mem_take ho)
    simp only [opsOf, List.mem_map] at h1
    obtain ⟨x, hx, rfl⟩ := h1
    have := opFault_len _ (st.hd x hx).1; omega)
  have HP := hide hp
  unfold TriedIs
  clear st hk h30 hs hp hm hmb hbx hML ih
  obtain ⟨X, hX⟩ : ∃ X, Lk.exec m h (seg R p q) (stk K) = X := ⟨_, rfl⟩
  have HX := hide hX
  rw [hX]
  clear hX
  generalize vals m = M at *
  go_enter Tryd.func28, Tryd.ntmps28
  go_wp2
  go_loopw [13] (fun i wr => ∃ (k : Nat) (r : Lk.Out) (fa : Option Addr) (fn fc : Nat) (fe : Int), p ≤ k ∧ k ≤ q ∧ i = .int .i64 k ∧ TryS Z w wr M fa fn fc fe r ∧ Lk.pairs [] (seg R k q) = some [] ∧ r.bind (fun s => Lk.exec m h (seg R k q) s) = X) (fun i _ => q - (intOf i).toNat)
  case atStart => exact ⟨p, .ok (stk K), ka, K.length, kc, 0, by omega, by omega, rfl, HT0.out, HP.out, HX.out⟩
  case round =>
    obtain ⟨k, r, fa, fn, fc, fe, hpk, hkq, rfl, ht, hp, hx⟩ := hrel
    clear HX HP HT0
    cases r with
    | err c =>
      have hfe := ht.hh
      obtain ⟨hc, hv⟩ := hfe
      have e1 : fe = c := by injection hv with hv; injection hv with hv; injection hv with _ hv; injection hv with hv _; injection hv
      subst e1
      have hc1 : (fe == 0) = false := by rw [beq_eq_false_iff_ne]; exact hc
      have HX : Hid (X = .err fe) := hide hx.symm
      clear hx hp hc hv
      obtain ⟨x2, y2, h2⟩ := ht.h2
      have hc00 := ht.h0.cell 0
      have hc01 := ht.h0.cell 1
      have hf0 := ht.h0.frozen
      have hc20 := h2.cell 0
      have hc21 := h2.cell 1
      have hf2 := h2.frozen
      simp only [List.getElem?_cons_zero, List.getElem?_cons_succ] at hc00 hc01 hc20 hc21
      by_cases hlt : k < q
      · have hki : decide ((k : Int) < (q : Int)) = true := decide_eq_true (by omega)
        have HT := hide ht
        have H2 := hide h2
        clear ht h2
        go_wp2
        exact bodyPost_ret (v := .agg #[.slice fa fn fc, .int .i64 fe]) (results_cell1 Tryd.results28 rfl ((is_here H2.out).loadS Tryd.underlying60 (by kernel_rfl))) rfl ⟨_, _, _, _, rfl, by rw [HX.out]; exact hand_out HT.out.hh (by omega) (by omega), below_two HT.out.hb (by omega)⟩
      · have hki : decide ((k : Int) < (q : Int)) = false := decide_eq_false (by omega)
        have HT := hide ht
        have H2 := hide h2
        clear ht h2
        go_wp2
        exact bodyPost_ret (v := .agg #[.slice fa fn fc, .int .i64 fe]) (results_cell1 Tryd.results28 rfl ((is_here H2.out).loadS Tryd.underlying60 (by kernel_rfl))) rfl ⟨_, _, _, _, rfl, by rw [HX.out]; exact hand_out HT.out.hh (by omega) (by omega), below_two HT.out.hb (by omega)⟩
    | ok s =>
      have hfe := ht.hh
      obtain ⟨sv', K', hv, hk', hst⟩ := hfe
      have e1 : sv' = .slice fa fn fc ∧ fe = 0 := by injection hv with hv; injection hv with hv; injection hv with h1 hv; injection hv with hv _; injection hv with _ hv; exact ⟨h1.symm, hv⟩
      obtain ⟨rfl, rfl⟩ := e1
      clear hv
      by_cases hlt : k < q
      · have hkR : k < R.length := by omega
        obtain ⟨hc0, hc1, hc2⟩ := range_op (range_keep HR.out ht.hb HBW.out) k hkR
        obtain ⟨oa, ol, oc, hoe⟩ := HOV.out R[k] (List.getElem_mem hkR)
        rw [hoe] at hc2
        rw [seg_cons R k q hlt hkR] at hp hx
        have hki : decide ((k : Int) < (q : Int)) = true := decide_eq_true (by omega)
        have hkR2 : (k : Int) < (R.length : Int) := by omega
        by_cases h11 : R[k].1.op = 11
        · obtain ⟨ap, bp, hap, ha1, ha2, ha3, hea, heb, hp1, hp2, hways⟩ := if_ways m h R k q hlt hq hkR h11 hp
          rw [h11] at hc0
          have hne11 : ((11 : Int) != 11) = false := rfl
          rcases snoc_or K' with rfl | ⟨K1, p1, rfl⟩
          · have hfn : fn = 0 := by
              obtain ⟨a', c', e', _⟩ := (hk' wr (SameZ.refl _ wr)).form
              simp only [Value.slice.injEq] at e'; exact e'.2.1
            subst hfn
            have hst0 : s = [] := by rw [← hst]; rfl
            subst hst0
            have HX : Hid (X = .err 7) := hide (by
              rw [← hx]
              show Lk.exec m h (R[k].1 :: seg R (k + 1) q) [] = _
              rw [Lk.exec_if _ _ _ _ _ h11])
            clear hx hp hk' hst hways hea heb hp1 hp2 hoe h11
            have HT := hide ht
            obtain ⟨x2, y2, h2⟩ := ht.h2
            have hc00 := ht.h0.cell 0
            have hc01 := ht.h0.cell 1
            have hc20 := h2.cell 0
            have hc21 := h2.cell 1
            have hf2 := h2.frozen
            simp only [List.getElem?_cons_zero, List.getElem?_cons_succ] at hc00 hc01 hc20 hc21
            have H2 := hide h2
            clear ht h2
            go_wp2
            exact bodyPost_ret (v := .agg #[.slice none 0 0, .int .i64 7]) (results_cell1 Tryd.results28 rfl ((is_here H2.out).loadS Tryd.underlying60 (by kernel_rfl))) rfl ⟨_, _, _, _, rfl, by rw [HX.out]; exact ⟨by decide, rfl⟩, below_two HT.out.hb (by omega)⟩
          · have hfn : fn = K1.length + 1 := by
              obtain ⟨a', c', e', _⟩ := (hk' wr (SameZ.refl _ wr)).form
              injection e' with _ e'; rw [e']; simp
            subst hfn
            obtain ⟨b', off', rfl, hfc1, hfc2, hb', hcP, hpZ, hpB⟩ := KeysZ.at (K := K1) (L := []) (p := p1) hk'
            obtain ⟨pa, pc, hpe, _, _⟩ := (hpZ wr (SameZ.refl _ wr)).shape
            have hhas := hpZ wr (SameZ.refl _ wr)
            have hctop := hcP wr (SameZ.refl _ wr)
            rw [hpe] at hctop hhas
            unfold maxLen at hfc2
            have hsn : s = p1.1 :: stk K1 := by rw [← hst, stk_snoc']
            subst hsn
            have hgd := ht.hg _ rfl
            have hl29 : K1.length < 30 := by have := hgd.1; simp only [List.length_cons, stk_length] at this; omega
            have hT1 := hide (TryS.next ht (Below.refl _ _) (show HandZ (Zup Z w.heap.size (w.heap.size + 3)) wr (.agg #[.slice (some ⟨b', off', none⟩) K1.length fc, .int .i64 0]) (.ok (stk K1)) from ⟨_, K1, rfl, hk'.front, rfl⟩) (fun s' hs' => by injection hs' with hs'; subst hs'; exact ⟨by rw [stk_length]; omega, hgd.2.tail⟩))
            have HTR1 := hide (HTT.out wr _ p1.1 hhas)
            have HE1 := hide (HEN.out _ (k + 1) hT1.out.hb (by omega))
            have HB1 := hide (HBE.out _ k hT1.out.hb hkR)
            rw [hea, show ((k + 1 : Nat) : Int) = (k : Int) + 1 by omega] at HE1
            rw [heb] at HB1
            have hx' : Lk.exec m h (R[k].1 :: seg R (k + 1) q) (p1.1 :: stk K1) = X := hx
            obtain ⟨hca, _, _⟩ := range_op (range_keep HR.out hT1.out.hb HBW.out) ap hap
            have hapi : (ap : Int) < (R.length : Int) := by omega
            have hq60 : q ≤ 60 := by omega
            have hfi : (K1.length : Int) < (K1.length : Int) + 1 := by omega
            have HMD : Hid (∀ W, Below w.heap.size w W → True) := hide (fun _ _ => trivial)
            have hcM := hT1.out.h1
            have hd00 := hT1.out.h0.cell 0
            have hd01 := hT1.out.h0.cell 1
            have hdf0 := hT1.out.h0.frozen
            simp only [List.getElem?_cons_zero, List.getElem?_cons_succ] at hd00 hd01
            have HHM := hide hcM
            have hc00 := ht.h0.cell 0
            have hc01 := ht.h0.cell 1
            have hf0 := ht.h0.frozen
            simp only [List.getElem?_cons_zero, List.getElem?_cons_succ] at hc00 hc01
            obtain ⟨kl, hkl⟩ : ∃ n, n = K1.length := ⟨_, rfl⟩
            rw [← hkl] at *
            have HG29 := hide hl29
            clear hx hp hk' hst hoe h11 hea heb hcP hpZ hpB hpe hhas ht hcM hkl
            cases hd : Lk.isTrue p1.1 with
            | true =>
              have hx' : (Lk.exec m h (seg R (k + 1) ap) (stk K1)).bind (fun s => Lk.exec m h (seg R bp q) s) = X := by
                rw [← hx']
                rcases hways with ⟨_, _, _, hexec⟩ | ⟨_, hexec⟩
                · rw [hexec, if_pos hd]
                · rw [hexec, if_pos hd]
              have HRC := hide (HTR.out _ _ _ _ (stk K1) (k + 1) ap hT1.out.hb hT1.out.hs hT1.out.hh (by rw [stk_length]; have := HG29.out; omega) (hT1.out.hg _ rfl).2 (by omega) (by omega) (by omega) hp1)
              rw [show ((k + 1 : Nat) : Int) = (k : Int) + 1 by omega] at HRC
              have HG : Hid (Good (Lk.exec m h (seg R (k + 1) ap) (stk K1))) := hide (fun s' hs' => ⟨Lk.exec_le m h _ _ _ s' (Nat.le_refl _) (hT1.out.hg _ rfl).1 hs', Lk.exec_short m h _ _ _ s' (Nat.le_refl _) (HDLEN2.out _ _) (hT1.out.hg _ rfl).2 hs'⟩)
              generalize Lk.exec m h (seg R (k + 1) ap) (stk K1) = r1 at *
              have HX := hide hx'
              have HP2 := hide hp2
              clear hx' hp2 hways
              rw [hd] at HTR1
              go_wp2_with fail
              refine HTR1.out.mono ?_
              rintro e w1 ⟨rfl, rfl⟩
              go_wp2_with fail
              refine HE1.out.mono ?_
              rintro e w1 ⟨rfl, rfl⟩
              go_wp2_with fail
              refine HB1.out.mono ?_
              rintro e w1 ⟨rfl, rfl⟩
              go_wp2_with (refine wpList_load_arr2 25 M (w.heap.size + 1) rfl (.tmp 10) rfl rfl HHM.out Tryd.underlying25 size_dig HML.out ?_)
              refine HRC.out.mono ?_
              rintro e w2 ⟨ga, gn, gc, ge, rfl, hh2, hb2⟩
              have HN := hide (TryS.next hT1.out hb2 hh2 HG.out)
              have hi2 := hT1.out.h0.below hb2 hT1.out.h0.lt
              have he0 := hi2.cell 0
              have he1 := hi2.cell 1
              have hef := hi2.frozen
              simp only [List.getElem?_cons_zero, List.getElem?_cons_succ] at he0 he1
              clear hh2 hb2 hi2
              go_wp2
              go_roundw
              case rel => exact ⟨bp, _, ga, gn, gc, ge, by omega, by omega, rfl, HN.out, HP2.out, HX.out⟩
              case measure => simp [intOf]; omega
            | false =>
              rcases hways with ⟨ho12, hab, hp3, hexec⟩ | ⟨ho13, hexec⟩
              · rw [ho12] at hca
                have hx' : (Lk.exec m h (seg R (ap + 1) (bp - 1)) (stk K1)).bind (fun s => Lk.exec m h (seg R bp q) s) = X := by
                  rw [← hx', hexec, if_neg (by rw [hd]; simp)]
                have HRC := hide (HTR.out _ _ _ _ (stk K1) (ap + 1) (bp - 1) hT1.out.hb hT1.out.hs hT1.out.hh (by rw [stk_length]; have := HG29.out; omega) (hT1.out.hg _ rfl).2 hab (by omega) (by omega) hp3)
                rw [show ((ap + 1 : Nat) : Int) = (ap : Int) + 1 by omega, show ((bp - 1 : Nat) : Int) = (bp : Int) - 1 by omega] at HRC
                clear hexec hp3
                have HG : Hid (Good (Lk.exec m h (seg R (ap + 1) (bp - 1)) (stk K1))) := hide (fun s' hs' => ⟨Lk.exec_le m h _ _ _ s' (Nat.le_refl _) (hT1.out.hg _ rfl).1 hs', Lk.exec_short m h _ _ _ s' (Nat.le_refl _) (HDLEN2.out _ _) (hT1.out.hg _ rfl).2 hs'⟩)
                generalize Lk.exec m h (seg R (ap + 1) (bp - 1)) (stk K1) = r1 at *
                have HX := hide hx'
                have HP2 := hide hp2
                clear hx' hp2
                rw [hd] at HTR1
                go_wp2_with fail
                refine HTR1.out.mono ?_
                rintro e w1 ⟨rfl, rfl⟩
                go_wp2_with fail
                refine HE1.out.mono ?_
                rintro e w1 ⟨rfl, rfl⟩
                go_wp2_with fail
                refine HB1.out.mono ?_
                rintro e w1 ⟨rfl, rfl⟩
                go_wp2_with (refine wpList_load_arr2 25 M (w.heap.size + 1) rfl (.tmp 10) rfl rfl HHM.out Tryd.underlying25 size_dig HML.out ?_)
                refine HRC.out.mono ?_
                rintro e w2 ⟨ga, gn, gc, ge, rfl, hh2, hb2⟩
                have HN := hide (TryS.next hT1.out hb2 hh2 HG.out)
                have hi2 := hT1.out.h0.below hb2 hT1.out.h0.lt
                have he0 := hi2.cell 0
                have he1 := hi2.cell 1
                have hef := hi2.frozen
                simp only [List.getElem?_cons_zero, List.getElem?_cons_succ] at he0 he1
                clear hh2 hb2 hi2
                go_wp2
                go_roundw
                case rel => exact ⟨bp, _, ga, gn, gc, ge, by omega, by omega, rfl, HN.out, HP2.out, HX.out⟩
                case measure => simp [intOf]; omega
              · rw [ho13] at hca
                have hx' : Lk.exec m h (seg R bp q) (stk K1) = X := by
                  rw [← hx', hexec, if_neg (by rw [hd]; simp)]
                have HX := hide hx'
                have HP2 := hide hp2
                clear hx' hp2 hexec
                rw [hd] at HTR1
                go_wp2_with fail
                refine HTR1.out.mono ?_
                rintro e w1 ⟨rfl, rfl⟩
                go_wp2_with fail
                refine HE1.out.mono ?_
                rintro e w1 ⟨rfl, rfl⟩
                go_wp2_with fail
                refine HB1.out.mono ?_
                rintro e w1 ⟨rfl, rfl⟩
                go_wp2
                go_roundw
                case rel => exact ⟨bp, .ok (stk K1), some ⟨b', off', none⟩, K1.length, fc, 0, by omega, by omega, rfl, hT1.out, HP2.out, HX.out⟩
                case measure => simp [intOf]; omega
        · have hne : ¬ (R[k].1.op = 12 ∨ R[k].1.op = 13) := by
            intro e
            rcases e with e | e
            · rw [Lk.pairs_else0 _ _ e] at hp; cases hp
            · rw [Lk.pairs_end0 _ _ e] at hp; cases hp
          have h12 : R[k].1.op ≠ 12 := fun e => hne (.inl e)
          have h13 : R[k].1.op ≠ 13 := fun e => hne (.inr e)
          rw [Lk.pairs_do _ _ _ h11 h12 h13] at hp
          have hx2 : Lk.Out.bind (Lk.doOp m h R[k].1 s) (fun s => Lk.exec m h (seg R (k + 1) q) s) = X := by
            rw [← hx, ← Lk.exec_do _ _ _ _ _ h11 h12 h13]; rfl
          have HD : Hid (∀ W, Below w.heap.size w W → w.heap.size + 3 ≤ W.heap.size → HandZ (Zup Z w.heap.size (w.heap.size + 3)) W (.agg #[.slice fa fn fc, .int .i64 0]) (.ok s) → Calls Tryd.prog 47 #[.agg #[.slice fa fn fc, .int .i64 0], .agg #[.int .i64 R[k].1.op, .int .i64 R[k].1.n, .slice oa ol oc], .agg M.toArray, .int .i64 h] W fun e w' => ∃ ga gn gc ge, e = .returned (.agg #[.slice ga gn gc, .int .i64 ge]) ∧ HandZ (Zup Z w.heap.size (w.heap.size + 3)) w' (.agg #[.slice ga gn gc, .int .i64 ge]) (Lk.doOp m h R[k].1 s) ∧ Below W.heap.size W w') := hide (fun W hb hB hh => by
            have := HDN.out W fa fn fc s k hkR hb hB hh (ht.hg s rfl).1 (ht.hg s rfl).2 h11 h12 h13
            rw [hoe] at this
            exact this)
          have HG : Hid (Good (Lk.doOp m h R[k].1 s)) := hide (fun s' hs' => ⟨Lk.doOp_le m h _ s s' (ht.hg s rfl).1 hs', Lk.doOp_short m h _ s s' (HDLEN.out k hkR) (ht.hg s rfl).2 hs'⟩)
          have hhX := ht.hh
          have hneb : (R[k].1.op != 11) = true := by rw [bne_iff_ne]; exact h11
          have HBNE : Hid (b ≠ w.heap.size) := hide (by have := HBW.out; omega)
          have HP := hide hp
          have HX := hide hx2
          have HT := hide ht
          have hs0 := hide (show _ ∧ _ ∧ (∃ x y, Is _ w.heap.size [x, y] 60) ∧ _ ∧ (∃ x y, Is _ (w.heap.size + 1 + 1) [x, y] 60) ∧ _ ∧ _ ∧ _ from ⟨ht.hb, ht.hs, ⟨_, _, ht.h0⟩, ht.h1, ht.h2, hc0, hc1, hc2⟩)
          have HS0 : Hid ((fun W : World => Below w.heap.size w W ∧ w.heap.size + 3 ≤ W.heap.size ∧ (∃ x y, Is W w.heap.size [x, y] 60) ∧ Is W (w.heap.size + 1) M 25 ∧ (∃ x y, Is W (w.heap.size + 1 + 1) [x, y] 60) ∧ W.cell? ⟨b, off + k * 3, none⟩ = some (.int .i64 R[k].1.op) ∧ W.cell? ⟨b, off + k * 3 + 1, none⟩ = some (.int .i64 R[k].1.n) ∧ W.cell? ⟨b, off + k * 3 + 2, none⟩ = some (.slice oa ol oc)) wr.drew) := hide ⟨hs0.out.1.drew, hs0.out.2⟩
          have hc00 := ht.h0.cell 0
          have hc01 := ht.h0.cell 1
          simp only [List.getElem?_cons_zero, List.getElem?_cons_succ] at hc00 hc01
          clear ht hp hx hx2 hoe hs0 h11 h12 h13 hne hk' hst
          generalize Lk.doOp m h R[k].1 s = r1 at *
          generalize R[k].1.op = op at *
          generalize R[k].1.n = on at *
          go_wp2
          refine wp_region_held_drew (S := fun W : World => Below w.heap.size w W ∧ w.heap.size + 3 ≤ W.heap.size ∧ (∃ x y, Is W w.heap.size [x, y] 60) ∧ Is W (w.heap.size + 1) M 25 ∧ (∃ x y, Is W (w.heap.size + 1 + 1) [x, y] 60) ∧ W.cell? ⟨b, off + k * 3, none⟩ = some (.int .i64 op) ∧ W.cell? ⟨b, off + k * 3 + 1, none⟩ = some (.int .i64 on) ∧ W.cell? ⟨b, off + k * 3 + 2, none⟩ = some (.slice oa ol oc)) (by kernel_rfl) ?_ (fun hHeld0 => ?_)
          · exact HS0.out
          refine wpAnyH_take (i := 1) (v := ?_) rfl (by kernel_rfl) (by kernel_rfl) (by kernel_rfl) (fun _ _ _ h => h) (Or.inl ⟨by rfl, ?_⟩) hHeld0 ?_
          rotate_left
          · (intro w hSw; (try dsimp only at hSw); go_simp <;> (try with_reducible rfl))
          simp only [Act.put, List.getElem_toArray, List.getElem_cons_zero, List.getElem_cons_succ, List.setIfInBounds_toArray, List.set_cons_zero, List.set_cons_succ]
          refine wpAnyH_take (i := 2) (v := ?_) rfl (by kernel_rfl) (by kernel_rfl) (by kernel_rfl) (fun _ _ _ h => h) (Or.inl ⟨by rfl, ?_⟩) hHeld0 ?_
          rotate_left
          · (intro w hSw; (try dsimp only at hSw); go_simp <;> (try with_reducible rfl))
          simp only [Act.put, List.getElem_toArray, List.getElem_cons_zero, List.getElem_cons_succ, List.setIfInBounds_toArray, List.set_cons_zero, List.set_cons_succ]
          refine wpAnyH_take (i := 3) (v := ?_) rfl (by kernel_rfl) (by kernel_rfl) (by kernel_rfl) (fun _ _ _ h => h) (Or.inl ⟨by rfl, ?_⟩) hHeld0 ?_
          rotate_left
          · (intro w hSw; (try dsimp only at hSw); go_simp <;> (try with_reducible rfl))
          simp only [Act.put, List.getElem_toArray, List.getElem_cons_zero, List.getElem_cons_succ, List.setIfInBounds_toArray, List.set_cons_zero, List.set_cons_succ]
          refine wpAnyH_take (i := 4) (v := ?_) rfl (by kernel_rfl) (by kernel_rfl) (by kernel_rfl) (fun _ _ _ h => h) (Or.inl ⟨by rfl, ?_⟩) hHeld0 ?_
          rotate_left
          · (intro w hSw; (try dsimp only at hSw); go_simp <;> (try with_reducible rfl))
          simp only [Act.put, List.getElem_toArray, List.getElem_cons_zero, List.getElem_cons_succ, List.setIfInBounds_toArray, List.set_cons_zero, List.set_cons_succ]
          refine wpAnyH_take (i := 5) (v := .agg (M).toArray) rfl (by kernel_rfl) (by kernel_rfl) (by kernel_rfl) (fun _ _ _ h => h) (yieldsIf_load_mid (by rfl) _ _ rfl _ _ rfl (M) _ (fun w hSw => hSw.2.2.2.1.range) Tryd.underlying25 rfl hszM) hHeld0 ?_
          simp only [Act.put, List.getElem_toArray, List.getElem_cons_zero, List.getElem_cons_succ, List.setIfInBounds_toArray, List.set_cons_zero, List.set_cons_succ]
          refine wpAnyH_take (i := 6) (v := ?_) rfl (by kernel_rfl) (by kernel_rfl) (by kernel_rfl) (fun _ _ _ h => h) (Or.inl ⟨by rfl, ?_⟩) hHeld0 ?_
          rotate_left
          · (intro w hSw; (try dsimp only at hSw); go_simp <;> (try with_reducible rfl))
          simp only [Act.put, List.getElem_toArray, List.getElem_cons_zero, List.getElem_cons_succ, List.setIfInBounds_toArray, List.set_cons_zero, List.set_cons_succ]
          refine wpAnyH_ready (rs := [0]) (by kernel_rfl) (by simp) ?_
          refine AllReadyH.cons rfl (fun K hK => ?_) AllReadyH.nil
          go_simp
          refine hK.out _ _ (by exact hHeld0) (fun hHeld1 => ?_)
          clear hK K hHeld0
          try simp only [Act.put, List.getElem_toArray, List.getElem_cons_zero, List.getElem_cons_succ, List.setIfInBounds_toArray, List.set_cons_zero, List.set_cons_succ]
          refine wpAnyH_ready (rs := [7]) (by kernel_rfl) (by simp) ?_
          refine AllReadyH.cons rfl (fun K hK => ?_) AllReadyH.nil
          go_simp
          go_wp2_with ((go_at_call 47; refine (HD.out _ hHeld1.1 hHeld1.2.1 hhX).mono ?_; rintro e W1 ⟨ga, gn, gc, ge, rfl, hh1, hb1⟩))
          refine hK.out _ _ (by exact tS_below hHeld1 hb1) (fun hHeld2 => ?_)
          clear hK K hHeld1
          try simp only [Act.put, List.getElem_toArray, List.getElem_cons_zero, List.getElem_cons_succ, List.setIfInBounds_toArray, List.set_cons_zero, List.set_cons_succ]
          refine wpAnyH_ready (rs := [8]) (by kernel_rfl) (by simp) ?_
          refine AllReadyH.cons rfl (fun K hK => ?_) AllReadyH.nil
          obtain ⟨x0, y0, hI0⟩ := hHeld2.2.2.1
          have hd0 := hI0.cell 0
          have hd1 := hI0.cell 1
          have hdf := hI0.frozen
          simp only [List.getElem?_cons_zero, List.getElem?_cons_succ] at hd0 hd1
          go_simp
          refine hK.out _ _ (by exact tS_store hHeld2 HBNE.out _ _) (fun hHeld3 => ?_)
          clear hK K hHeld2
          try simp only [Act.put, List.getElem_toArray, List.getElem_cons_zero, List.getElem_cons_succ, List.setIfInBounds_toArray, List.set_cons_zero, List.set_cons_succ]
          refine wpAnyH_done (by kernel_rfl) ?_ _
          have HN := hide (TryS.next (HT.out.call ((Below.refl _ _).drew)) hb1 hh1 HG.out)
          clear hHeld3
          go_wp2
          go_roundw
          case rel => exact ⟨k + 1, _, ga, gn, gc, ge, by omega, by omega, by go_num, HN.out, HP.out, HX.out⟩
          case measure => simp [intOf]; omega
      · have hke : k = q := by omega
        subst hke
        have HX : Hid (X = .ok s) := hide (by rw [← hx, seg_nil]; show Lk.exec m h [] s = _; rw [Lk.exec_nil])
        have hki : decide ((k : Int) < (k : Int)) = false := decide_eq_false (by omega)
        clear hx hp hk' hst
        obtain ⟨x2, y2, h2⟩ := ht.h2
        have hc00 := ht.h0.cell 0
        have hc01 := ht.h0.cell 1
        have hf0 := ht.h0.frozen
        have hc20 := h2.cell 0
        have hc21 := h2.cell 1
        have hf2 := h2.frozen
        simp only [List.getElem?_cons_zero, List.getElem?_cons_succ] at hc00 hc01 hc20 hc21
        have HT := hide ht
        have H2 := hide h2
        clear ht h2
        go_wp2
        exact bodyPost_ret (v := .agg #[.slice fa fn fc, .int .i64 0]) (results_cell1 Tryd.results28 rfl ((is_here H2.out).loadS Tryd.underlying60 (by kernel_rfl))) rfl ⟨_, _, _, _, rfl, by rw [HX.out]; exact hand_out HT.out.hh (by omega) (by omega), below_two HT.out.hb (by omega)⟩
end
end Go.Proofs.YtkdihbgjeanjdaaDoor

/- The document's answer on locks: what is wrong with keys for a lock (Opened). -/
namespace Go.Proofs.YtkdihbgjeanjdaaDoor
open Go.RowKit
set_option linter.unusedVariables false
set_option linter.unusedSimpArgs false

theorem tried_any (m : List Int) (h : Int) (R : List (Lk.Op × Value)) (b off cap : Nat) (hm : m.length = 32) (hmb : Sz.Byt m) (h60 : R.length ≤ 60) : ∀ (d : Nat) (Z : Nat → Prop) (w : World) (K : List (List Int × Value)) (sv : Value) (p q : Nat), q - p ≤ d → Wants R b off Z w K sv p q → TriedIs m h R b off cap Z w K sv p q := by
  intro d
  induction d with
  | zero =>
    intro Z w K sv p q hd hw
    exact tried_step m h R b off cap hm hmb h60 Z w K sv p q hw (fun Z' w' K' sv' p' q' hlt _ => by omega)
  | succ d ih =>
    intro Z w K sv p q hd hw
    exact tried_step m h R b off cap hm hmb h60 Z w K sv p q hw (fun Z' w' K' sv' p' q' hlt hw' => ih Z' w' K' sv' p' q' (by omega) hw')

/-- Nobody's blocks. -/
def Non : Nat → Prop := fun _ => False
theorem Has.non {w W : World} {v : Value} {l : List Int} (h : Has w v l) (hs : SameZ Non w W) : Has W v l := by
  rcases h with h | ⟨b, off, cap, hv, h0, h1, h2, hc⟩
  · exact .inl h
  · refine .inr ⟨b, off, cap, hv, h0, h1, h2, fun j hj => ?_⟩
    have hlt : b < w.heap.size := World.block_lt_of_cell? w ⟨b, off + j, none⟩ (hc j hj)
    rw [World.cell?_of_block (a := ⟨b, off + j, none⟩) (hs.2 b hlt (fun e => e))]
    exact hc j hj
theorem HasKeys.non {w : World} {v : Value} {K : List (List Int × Value)} (h : HasKeys w v K) : KeysZ Non w v K := fun W hs => by
  refine ⟨?_, fun p hp => ⟨(h.2 p hp).1.non hs, (h.2 p hp).2⟩⟩
  rcases h.1 with e | ⟨b, off, cap, hv, h0, h1, h2, h3, hc⟩
  · exact .inl e
  · refine .inr ⟨b, off, cap, hv, h0, h1, h2, Nat.lt_of_lt_of_le h3 hs.1, fun j u hu => ?_⟩
    rw [World.cell?_of_block (a := ⟨b, off + j, none⟩) (hs.2 b h3 (fun e => e))]
    exact hc j u hu

set_option maxHeartbeats 1000000 in
/-- No op at all. -/
theorem tried_none (m : List Int) (h : Int) (lv : Value) (Z : Nat → Prop) (w : World) (K : List (List Int × Value)) (sv : Value) (hZ : ∀ b, Z b → b < w.heap.size) (hk : KeysZ Z w sv K) :
    Calls Tryd.prog 28 #[.agg #[sv, .int .i64 0], lv, .int .i64 0, .int .i64 0, .agg (vals m).toArray, .int .i64 h] w fun e w' => ∃ ga gn gc ge, e = .returned (.agg #[.slice ga gn gc, .int .i64 ge]) ∧ HandZ Z w' (.agg #[.slice ga gn gc, .int .i64 ge]) (.ok (stk K)) ∧ Below w.heap.size w w' := by
  obtain ⟨ka, kc, rfl, _, _, _⟩ := (hk w (SameZ.refl Z w)).form
  have HK : Hid (∀ W, Below w.heap.size w W → KeysZ Z W (.slice ka K.length kc) K) := hide (fun W hW => hk.more hW (fun _ _ h => h))
  have hb : Below w.heap.size w (((w.alloc (.cells #[.slice ka K.length kc, .int .i64 0] 60)).alloc (.cells (vals m).toArray 25)).alloc (.cells #[.slice ka K.length kc, .int .i64 0] 60)) := below_alloc3 w _ _ _
  have HB := hide hb
  clear hk hb
  generalize vals m = M at *
  generalize K.length = kl at *
  go_enter Tryd.func28, Tryd.ntmps28
  go_wp2
  refine wp_loop_rounds 1 ?_
  rw [rounds_succ]
  go_wp2
  exact bodyPost_ret (v := .agg #[.slice ka kl kc, .int .i64 0]) (by simp [results, Tryd.results28, go_sem]) rfl ⟨_, _, _, _, rfl, ⟨_, K, rfl, HK.out _ HB.out, rfl⟩, HB.out⟩
end Go.Proofs.YtkdihbgjeanjdaaDoor

/- The document's answer on locks: what is wrong with keys for a lock (Opened): the walk. -/
namespace Go.Proofs.YtkdihbgjeanjdaaDoor
open Go.RowKit
set_option linter.unusedVariables false
set_option linter.unusedSimpArgs false

theorem seg_all (R : List (Lk.Op × Value)) : seg R 0 R.length = opsOf R := by
  unfold seg; rw [List.drop_zero, Nat.sub_zero, ← opsOf_length, List.take_length]

/-- The whole lock is tried. -/
theorem tried_all (L : List (Lk.Op × Value)) (KS : List (List Int × Value)) (lv kv : Value) (m : List Int) (h : Int) (w W : World) (hl : HasOps w lv L) (hk : HasKeys w kv KS) (hm : m.length = 32) (hmb : Sz.Byt m) (hc : Lk.check (opsOf L) = 0) (hks : keysF (KS.map Prod.fst) = 0) (hW : Below w.heap.size w W) :
    Calls Tryd.prog 28 #[.agg #[kv, .int .i64 0], lv, .int .i64 0, .int .i64 L.length, .agg (vals m).toArray, .int .i64 h] W fun e w' => ∃ ga gn gc ge, e = .returned (.agg #[.slice ga gn gc, .int .i64 ge]) ∧ HandZ Non w' (.agg #[.slice ga gn gc, .int .i64 ge]) (Lk.exec m h (opsOf L) (KS.map Prod.fst).reverse) ∧ Below W.heap.size W w' := by
  have hkW := (hk.below hW).non
  obtain ⟨h30, h3000⟩ := (keysF_zero _).1 hks
  rw [List.length_map] at h30
  obtain ⟨h60, hof, hpr⟩ := (Lk.check_zero _).1 hc
  rw [opsOf_length] at h60
  rcases hl.1 with ⟨a, cap, rfl, rfl⟩ | ⟨b, off, cap, rfl, h0, h1, h2, h3, hr⟩
  · rw [show Lk.exec m h (opsOf []) (KS.map Prod.fst).reverse = .ok (stk KS) from Lk.exec_nil m h _]
    exact tried_none m h _ Non W KS kv (fun _ e => e.elim) hkW
  · have := tried_any m h L b off cap hm hmb h60 (L.length - 0) Non W KS kv 0 L.length (Nat.le_refl _) ⟨⟨fun _ e => e.elim, range_keep hr hW h3, Nat.lt_of_lt_of_le h3 hW.size, fun x hx => ⟨Lk.opsFault_mem _ hof x.1 (List.mem_map_of_mem hx), fun W2 hW2 => ((hl.2 x hx).1.below hW).non hW2, (hl.2 x hx).2⟩⟩, hkW, h30, fun x hx => h3000 x (by simpa [stk] using hx), Nat.zero_le _, Nat.le_refl _, by rw [seg_all]; exact hpr⟩
    unfold TriedIs at this
    rw [seg_all] at this
    exact this

set_option maxRecDepth 100000 in
set_option maxHeartbeats 4000000 in
theorem ropened_any (L : List (Lk.Op × Value)) (KS : List (List Int × Value)) (lv kv : Value) (m : List Int) (h : Int) (w : World) (hl : HasOps w lv L) (hk : HasKeys w kv KS) (hm : m.length = 32) (hmb : Sz.Byt m) :
    Calls Tryd.prog 13 #[lv, kv, .agg (vals m).toArray, .int .i64 h] w fun e w' => e = .returned (.int .i64 (Lk.run m h (opsOf L) (KS.map Prod.fst))) ∧ Below w.heap.size w w' := by
  obtain ⟨ka, kc, rfl, hkc, hkm, _⟩ := hk.form
  obtain ⟨la, lc, rfl⟩ : ∃ a c, lv = .slice a L.length c := by
    rcases hl.1 with ⟨a, cap, rfl, rfl⟩ | ⟨b, off, cap, rfl, _⟩
    · exact ⟨a, cap, rfl⟩
    · exact ⟨_, cap, rfl⟩
  have hLm := hl.length_le
  unfold maxLen at hkm hkc hLm
  have hb0 := below_alloc w (.cells (vals m).toArray 25)
  have HLF := hide (rLockFault_any _ L _ (hl.below hb0))
  have HB0 := hide hb0
  have HI0 := hide (Is.new w (vals m) 25)
  have HML : Hid ((vals m).length = 32) := hide (by rw [vals_length]; exact hm)
  obtain ⟨X, hX⟩ : ∃ X, X = Lk.run m h (opsOf L) (KS.map Prod.fst) := ⟨_, rfl⟩
  rw [← hX]
  rw [run_eq] at hX
  obtain ⟨c, hc⟩ : ∃ c, c = Lk.check (opsOf L) := ⟨_, rfl⟩
  rw [← hc] at HLF hX
  by_cases hc0 : c = 0
  · subst hc0
    rw [if_pos rfl] at hX
    have HTA : Hid (∀ W, keysF (KS.map Prod.fst) = 0 → Below w.heap.size w W → Calls Tryd.prog 28 #[.agg #[.slice ka KS.length kc, .int .i64 0], .slice la L.length lc, .int .i64 0, .int .i64 L.length, .agg (vals m).toArray, .int .i64 h] W fun e w' => ∃ ga gn gc ge, e = .returned (.agg #[.slice ga gn gc, .int .i64 ge]) ∧ HandZ Non w' (.agg #[.slice ga gn gc, .int .i64 ge]) (Lk.exec m h (opsOf L) (KS.map Prod.fst).reverse) ∧ Below W.heap.size W w') := hide (fun W hks hW => tried_all L KS _ _ m h w W hl hk hm hmb hc.symm hks hW)
    have HKH := hide hk
    clear hl hk hm hmb hb0 hc
    generalize Lk.exec m h (opsOf L) (KS.map Prod.fst).reverse = r at *
    obtain ⟨A, hA⟩ : ∃ A, A = (KS.map Prod.fst).any (fun k => decide (3000 < k.length)) := ⟨_, rfl⟩
    have hkf : keysF (KS.map Prod.fst) = if 30 < KS.length then 4 else if A then 4 else 0 := by unfold keysF; rw [List.length_map, hA]
    rw [hkf] at HTA hX
    have HA := hide hA
    have HX := hide hX
    clear hA hX hkf
    generalize vals m = M at *
    generalize hn : KS.length = n at *
    have HN := hide hn
    clear hn
    generalize L.length = ln at *
    go_enter Tryd.func13, Tryd.ntmps13
    go_wp2_with fail
    refine HLF.out.mono ?_
    rintro e w1 ⟨rfl, hb1⟩
    have HB1 := hide (HB0.out.trans (hb1.mono (by simp)))
    have HI1 := hide (HI0.out.below hb1 (by simp))
    have HK1 := hide (HKH.out.below HB1.out)
    clear hb1
    by_cases h30 : 30 < n
    · have hi : (30 : Int) < (n : Int) := by omega
      have HX2 : Hid (X = 4) := hide (by have := HX.out; rw [if_pos h30, if_neg (by omega)] at this; exact this)
      go_wp2
      go_ret
      exact ⟨by rw [HX2.out]; rfl, HB1.out⟩
    · have hi : ¬ (30 : Int) < (n : Int) := by omega
      have hn30 : n ≤ 30 := by omega
      rw [if_neg h30] at HTA HX
      obtain ⟨ka1, kc1, hkv, _, _, hkr⟩ := HK1.out.form
      have hka : ka = ka1 := by injection hkv
      subst hka
      have HKR := hide hkr
      have HKD := hide HK1.out.2
      clear hkv hkr
      go_wp2
      go_loop [10] (fun i => ∃ k : Nat, k ≤ n ∧ i = .int .i64 k ∧ ((KS.map Prod.fst).drop k).any (fun k => decide (3000 < k.length)) = A) (fun i => n - (intOf i).toNat)
      case atStart => exact ⟨0, by omega, rfl, HA.out.symm⟩
      case round =>
        obtain ⟨k, hk, rfl, ha⟩ := hrel
        by_cases hlt : k < n
        · have hkS : k < KS.length := by rw [HN.out]; exact hlt
          obtain ⟨kb, koff, rfl, hkb, hkr⟩ := HKR.out k hkS
          have hcell : w1.cell? ⟨kb, koff + k, none⟩ = some KS[k].2 := hkr k _ (by rw [List.getElem?_map, List.getElem?_eq_getElem hkS]; rfl)
          obtain ⟨hp1, hp2⟩ := HKD.out KS[k] (List.getElem_mem hkS)
          obtain ⟨sa, sc, hse, _, hsl⟩ := hp1.shape
          unfold maxLen at hsl
          rw [hse] at hcell
          have hkS2 : k < (KS.map Prod.fst).length := by rw [List.length_map]; exact hkS
          rw [List.drop_eq_getElem_cons hkS2, List.getElem_map, List.any_cons] at ha
          clear hkr hp1 hp2 hse
          generalize KS[k].1.length = kl at *
          by_cases h3 : 3000 < kl
          · rw [decide_eq_true h3, Bool.true_or] at ha
            have HX2 : Hid (X = 4) := hide (by have := HX.out; rw [← ha, if_pos rfl, if_neg (by omega)] at this; exact this)
            clear ha
            go_wp2
            go_ret
            exact ⟨by rw [HX2.out]; rfl, HB1.out⟩
          · rw [decide_eq_false h3, Bool.false_or] at ha
            have HF := hide ha
            have h3' : ¬ (3000 : Int) < (kl : Int) := by omega
            clear ha
            go_wp2
            go_round
            case rel => exact ⟨k + 1, by omega, by go_num, HF.out⟩
            case measure => simp [intOf]; omega
        · have hkn : ¬ (k : Int) < n := by omega
          rw [List.drop_eq_nil_of_le (by rw [List.length_map, HN.out]; omega)] at ha
          have hA0 : A = false := by rw [← ha]; rfl
          subst hA0
          have HC := hide (HTA.out w1 rfl HB1.out)
          have HX2 : Hid (X = Lk.ending r) := hide (by have := HX.out; simpa using this)
          clear ha HTA HX HKR HKD HK1
          go_wp2_with (refine wpList_load_arr2 25 M w.heap.size rfl (.tmp 6) rfl rfl HI1.out Tryd.underlying25 size_dig HML.out ?_)
          refine HC.out.mono ?_
          rintro e w2 ⟨ga, gn, gc, ge, rfl, hh2, hb2⟩
          have HB2 := hide (HB1.out.trans (hb2.mono HB1.out.size))
          clear hb2
          cases r with
          | err c =>
            obtain ⟨hc, hv⟩ := hh2
            have e1 : ge = c := by injection hv with hv; injection hv with hv; injection hv with _ hv; injection hv with hv _; injection hv
            subst e1
            have hc1 : (ge != 0) = true := by rw [bne_iff_ne]; exact hc
            clear hc hv
            go_wp2
            go_ret
            exact ⟨by rw [HX2.out]; rfl, HB2.out.alloc HB2.out.size _⟩
          | ok s =>
            obtain ⟨sv', K', hv, hk', hst⟩ := hh2
            have e1 : sv' = .slice ga gn gc ∧ ge = 0 := by injection hv with hv; injection hv with hv; injection hv with h1 hv; injection hv with hv _; injection hv with _ hv; exact ⟨h1.symm, hv⟩
            obtain ⟨rfl, rfl⟩ := e1
            have hgn : gn = K'.length := by
              obtain ⟨a', c', e', _⟩ := (hk' w2 (SameZ.refl _ w2)).form
              simp only [Value.slice.injEq] at e'; exact e'.2.1
            subst hgn
            clear hv
            match K' with
            | [] =>
              have hst0 : s = [] := by rw [← hst]; rfl
              subst hst0
              clear hk' hst
              go_wp2
              go_ret
              exact ⟨by rw [HX2.out]; rfl, HB2.out.alloc HB2.out.size _⟩
            | [p2] =>
              have hst0 : s = [p2.1] := by rw [← hst]; rfl
              subst hst0
              obtain ⟨b', off', rfl, hfc1, hfc2, hb', hcP, hpZ, hpB⟩ := KeysZ.at (K := []) (L := []) (p := p2) hk'
              rw [List.length_nil, Nat.add_zero] at hcP
              have hw3 : SameZ Non w2 (w2.alloc (.cells #[.slice (some ⟨b', off', none⟩) 1 gc, .int .i64 0] 60)) := SameZ.of_below (below_alloc w2 _)
              have hct := hcP _ hw3
              have HTT := hide (rtrue_any p2.2 p2.1 _ (hpZ _ hw3))
              obtain ⟨pa, pc, hpe, _, _⟩ := (hpZ w2 (SameZ.refl _ w2)).shape
              rw [hpe] at hct HTT
              clear hk' hst hcP hpZ hpB hpe hw3
              cases hd : Lk.isTrue p2.1 with
              | true =>
                rw [hd] at HTT
                have HX3 : Hid (X = 0) := hide (by rw [HX2.out]; show (if Lk.isTrue p2.1 then _ else _) = _; rw [if_pos hd])
                clear hd
                rw [show [p2].length = 1 from rfl]
                go_wp2_with fail
                refine HTT.out.mono ?_
                rintro e w3 ⟨rfl, rfl⟩
                go_wp2
                go_ret
                exact ⟨by rw [HX3.out]; rfl, HB2.out.alloc HB2.out.size _⟩
              | false =>
                rw [hd] at HTT
                have HX3 : Hid (X = 7) := hide (by rw [HX2.out]; show (if Lk.isTrue p2.1 then _ else _) = _; rw [if_neg (by rw [hd]; simp)])
                clear hd
                rw [show [p2].length = 1 from rfl]
                go_wp2_with fail
                refine HTT.out.mono ?_
                rintro e w3 ⟨rfl, rfl⟩
                go_wp2
                go_ret
                exact ⟨by rw [HX3.out]; rfl, HB2.out.alloc HB2.out.size _⟩
            | p2 :: p3 :: K2 =>
              have HX3 : Hid (X = 7) := hide (by
                rw [HX2.out, ← hst]
                have e : stk (p2 :: p3 :: K2) = (stk K2 ++ [p3.1]) ++ [p2.1] := by simp [stk]
                rw [e]
                cases hs3 : stk K2 ++ [p3.1] with
                | nil => simp at hs3
                | cons x y => cases y <;> rfl)
              have hl2 : ((p2 :: p3 :: K2).length : Int) != 1 := by rw [bne_iff_ne]; simp only [List.length_cons]; omega
              generalize (p2 :: p3 :: K2).length = l2 at *
              clear hk' hst
              go_wp2
              go_ret
              exact ⟨by rw [HX3.out]; rfl, HB2.out.alloc HB2.out.size _⟩
  · rw [if_neg hc0] at hX
    have hc1 : (c != 0) = true := by rw [bne_iff_ne]; exact hc0
    have HX : Hid (X = c) := hX
    clear hX hc0 hc hl hk hm hmb hb0
    generalize vals m = M at *
    generalize KS.length = n at *
    generalize L.length = ln at *
    go_enter Tryd.func13, Tryd.ntmps13
    go_wp2_with fail
    refine HLF.out.mono ?_
    rintro e w1 ⟨rfl, hb1⟩
    have HB1 := hide (HB0.out.trans (hb1.mono (by simp)))
    clear hb1
    go_wp2
    go_ret
    exact ⟨by rw [HX.out]; rfl, HB1.out⟩
end Go.Proofs.YtkdihbgjeanjdaaDoor
