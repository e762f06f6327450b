/- The texts TxF, TxOu, TxD, TxN, TxIn, TxY, TxQ, one behind the other. -/
import Derived.Test.YtmjilohlchkicaaGreatDoorZTr
import Derived.Test.YtmjilohlchkicaaGreatDoorZTw
import Derived.Test.YtmjilohlchkicaaGreatDoorShEq
import Derived.Laws.CopyOwn
import Derived.Deep.MidRow
import Derived.Defers
import Derived.Recover
/- tx's reader: a row in a box grows by a thing that was read. -/
namespace Go.Proofs.YtmjilohlchkicaaGreatDoor
open Go.RowKit
set_option linter.unusedVariables false
set_option linter.unusedSimpArgs false

theorem elemOps : Elem 50 95 3 := elem_of (.agg #[.int .i64 0, .int .i64 0, .slice none 0 0]) 40 Tryz.underlying50 (by kernel_rfl) (by omega) rfl (by omega)
/-- What an append of one leaves. -/
def AppG (W : World) (base : Nat) (e : TypeId) (s n : Nat) (v : Value) (cs news : List Value) (v' : Value) (W' : World) : Prop :=
  W'.ownsRow base e s v' (n + 1) (cs ++ news) ∧ W.grownBy W' v.ownBlock ∧ (v'.ownBlock = v.ownBlock ∨ v'.ownBlock = some W.heap.size)
theorem run_app1 {T e : TypeId} {s : Nat} (he : Elem T e s) (W : World) (base n : Nat) (v : Value) (cs news : List Value) (hown : W.ownsRow base e s v n cs) (b c : Nat) (hr : W.rangeAt b 0 news) (hl : news.length = s) (h1 : ∀ u ∈ news, u.oneCell' = true) (hbd : n + 1 ≤ 1000000) (hbase : base ≤ W.heap.size) (ty : TypeId) :
    ∃ v' W', (Builtin.append_ #[T, T] ty #[v, .slice (some ⟨b, 0, none⟩) 1 c]).run Tryz.prog W = .ok v' W' ∧ AppG W base e s n v cs news v' W' := by
  obtain ⟨v', W', h1, h2, h3, h4⟩ := run_append_gen W base T e s he v n cs hown ⟨b, 0, none⟩ 1 c (by omega) news (by omega) (fun j u hu => by rw [Addr.add_lit]; exact hr j u hu) h1 hbd hbase ty
  exact ⟨v', W', h1, h2, h3, h4⟩
theorem But.drew {R : Nat} {a w : World} (h : But R a w) : But R a w.drew := Only.drew h
theorem Acc.drew {W : World} {base s n : Nat} {e : TypeId} {v : Value} {cs : List Value} {F : World → Prop} (h : Acc W base e s n v cs F) : Acc W.drew base e s n v cs F := by
  obtain ⟨⟨S, h1, h2, h3⟩, ho⟩ := h
  exact ⟨⟨S, h1, h2, h3.step (Nat.le_refl _) (fun k _ => rfl)⟩, ho⟩
theorem But.grown {R : Nat} {W W' : World} {r : Option Nat} (hg : W.grownBy W' r) : Only (r.getD 0) W.heap.size W W' :=
  ⟨hg.os, hg.tape, hg.output, hg.size, fun k hk hn => hg.block k hk (fun e => hn (by rw [← e]; rfl))⟩
/-- How the rest of a repeated reading goes on. -/
theorem rep_zero {α : Type} (f : Nat → Option (α × Nat)) (p : Nat) : Tm.rep f 0 p = some ([], p) := rfl
theorem rep_some {α : Type} {f : Nat → Option (α × Nat)} {p q : Nat} {x : α} {d : Nat} (h : f p = some (x, q)) : Tm.rep f (d + 1) p = (Tm.rep f d q).map fun y => (x :: y.1, y.2) := by
  simp only [Tm.rep, h, Option.bind_some]
theorem rep_none {α : Type} {f : Nat → Option (α × Nat)} {p : Nat} {d : Nat} (h : f p = none) : Tm.rep f (d + 1) p = none := by
  simp only [Tm.rep, h, Option.bind_none]
/-- So far A was read, and d are left, at q. -/
def Todo {α : Type} (f : Nat → Option (α × Nat)) (all : Option (List α × Nat)) (A : List α) (d q : Nat) : Prop := all = (Tm.rep f d q).map fun y => (A ++ y.1, y.2)
theorem Todo.start {α : Type} (f : Nat → Option (α × Nat)) (m q : Nat) : Todo f (Tm.rep f m q) [] m q := by unfold Todo; cases Tm.rep f m q <;> simp
theorem Todo.next {α : Type} {f : Nat → Option (α × Nat)} {all : Option (List α × Nat)} {A : List α} {d q q' : Nat} {x : α} (h : Todo f all A (d + 1) q) (hx : f q = some (x, q')) : Todo f all (A ++ [x]) d q' := by
  unfold Todo at h ⊢
  rw [h, rep_some hx]
  cases Tm.rep f d q' <;> simp
theorem Todo.stop {α : Type} {f : Nat → Option (α × Nat)} {all : Option (List α × Nat)} {A : List α} {d q : Nat} (h : Todo f all A (d + 1) q) (hx : f q = none) : all = none := by
  unfold Todo at h
  rw [h, rep_none hx]; rfl
theorem Todo.end {α : Type} {f : Nat → Option (α × Nat)} {all : Option (List α × Nat)} {A : List α} {q : Nat} (h : Todo f all A 0 q) : all = some (A, q) := by
  unfold Todo at h
  rw [h, rep_zero]; simp
/-- Ops of one's own, their data told. -/
def FOps (L : List (Lk.Op × Value)) (W : World) : Prop := ∀ p ∈ L, Has W p.2 p.1.data ∧ Sz.Byt p.1.data
theorem row_hasOps {W : World} {base : Nat} {v : Value} {L : List (Lk.Op × Value)} (h : W.ownsRow base 95 3 v L.length (opCells L)) (hd : FOps L W) : HasOps W v L := by
  refine ⟨?_, hd⟩
  by_cases h0 : L.length = 0
  · have hL := List.eq_nil_of_length_eq_zero h0
    subst hL
    obtain ⟨a, cap, rfl⟩ := owns_form h
    exact .inl ⟨a, cap, rfl, rfl⟩
  · obtain ⟨g, cap, rfl, _, h2, h3, h4, hr⟩ := owns_some h (by omega)
    exact .inr ⟨g, 0, cap, rfl, by omega, h3, h4, h2, hr⟩
end Go.Proofs.YtmjilohlchkicaaGreatDoor

/- tx's reader: an out. -/
namespace Go.Proofs.YtmjilohlchkicaaGreatDoor
open Go.RowKit
set_option linter.unusedVariables false
set_option linter.unusedSimpArgs false

theorem Acc.map {W : World} {base s n : Nat} {e : TypeId} {v : Value} {cs : List Value} {F G : World → Prop} (h : Acc W base e s n v cs F) (hG : ∀ W, F W → G W) : Acc W base e s n v cs G := by
  obtain ⟨⟨S, h1, h2, h3⟩, ho⟩ := h
  exact ⟨⟨S, h1, h2, h3.map hG⟩, ho⟩
theorem fops_add {L : List (Lk.Op × Value)} {p : Lk.Op × Value} {W : World} (h : FOps L W) (hp : Has W p.2 p.1.data ∧ Sz.Byt p.1.data) : FOps (L ++ [p]) W := by
  intro x hx
  rcases List.mem_append.1 hx with hx | hx
  · exact h x hx
  · rw [List.mem_singleton.1 hx]; exact hp
theorem opsOf_add (L : List (Lk.Op × Value)) (p : Lk.Op × Value) : opsOf (L ++ [p]) = opsOf L ++ [p.1] := by simp [opsOf]
theorem cnt_le {most : Int} {b : List Int} {p m q : Nat} (h : Tm.cnt most b p = some (m, q)) : m ≤ most.toNat := by
  unfold Tm.cnt at h
  cases hx : Tm.num b p with
  | none => rw [hx] at h; cases h
  | some x =>
    rw [hx, Option.bind_some] at h
    split at h
    · cases h
      omega
    · cases h
theorem op_byt {b : List Int} (hb : Sz.Byt b) {p q : Nat} {x : Lk.Op} (h : Tm.opR b p = some (x, q)) : Sz.Byt x.data := by
  unfold Tm.opR at h
  cases h1 : Tm.num b p with
  | none => rw [h1] at h; cases h
  | some y1 =>
    rw [h1, Option.bind_some] at h
    cases h2 : Tm.num b y1.2 with
    | none => rw [h2] at h; cases h
    | some y2 =>
      rw [h2, Option.bind_some] at h
      cases h3 : Tm.thing b y2.2 with
      | none => rw [h3] at h; cases h
      | some y3 =>
        rw [h3] at h
        cases h
        exact (Tm.thing_sound b hb y2.2 y3.1 y3.2 (by rw [h3])).2.2.2.2

end Go.Proofs.YtmjilohlchkicaaGreatDoor

/- tx's reader: a digest. -/
namespace Go.Proofs.YtmjilohlchkicaaGreatDoor
open Go.RowKit
set_option linter.unusedVariables false
set_option linter.unusedSimpArgs false

theorem wpList_load_arrD (t : TypeId) (c : List Value) (b : Nat) {n m : Nat} {e : TypeId} {w : World} {ops : Array Oper} {rest : List Oper} {o : Oper} {a : Act} {Q : Exit → Act → World → Prop} (hgd : o.guard = none) (s : Operand) (ho : o.op = .load t s) (hs : a.eval s = .pointer (some ⟨b, 0, none⟩))
    (hi : Is w b c t) (hu : Tryz.prog.underlying t = some (.array n e)) (hz : Sized t m) (hc : c.length = m)
    (h : wpList Tryz.prog ops Q rest (a.put o.dst (.agg c.toArray)) w) : wpList Tryz.prog ops Q (o :: rest) a w := wpList_load_arr t c b hi hu hz hc hgd s ho hs h
theorem wpList_store_anyD (t : TypeId) (c c' : List Value) (b : Nat) {m : Nat} {w : World} {ops : Array Oper} {rest : List Oper} {o : Oper} {a : Act} {Q : Exit → Act → World → Prop} (hgd : o.guard = none) (s x : Operand) (ho : o.op = .store t s x) (hs : a.eval s = .pointer (some ⟨b, 0, none⟩)) (hx : a.eval x = .agg c'.toArray) (hd : o.dst = none)
    (hi : Is w b c t) (hz : Sized t m) (hc : c.length = m) (hc' : c'.length = m) (h1 : ∀ v ∈ c', v.oneCell' = true)
    (h : ∀ w2, Is w2 b c' t → (∀ B w0, Below B w0 w → B ≤ b → Below B w0 w2) → (∀ b' c2 t2, b' ≠ b → Is w b' c2 t2 → Is w2 b' c2 t2) → w2.heap.size = w.heap.size → wpList Tryz.prog ops Q rest a w2) : wpList Tryz.prog ops Q (o :: rest) a w := wpList_store_any t c c' b hi hz hc hc' h1 hgd s x ho hs hx hd h

end Go.Proofs.YtmjilohlchkicaaGreatDoor

/- tx's reader: many cells of a box stored; what an in's box holds. -/
namespace Go.Proofs.YtmjilohlchkicaaGreatDoor
open Go.RowKit
set_option linter.unusedVariables false
set_option linter.unusedSimpArgs false

theorem is_cells {b : Nat} {t : TypeId} : ∀ (cs : List Value) (off : Nat) (c : List Value) (w : World), Is w b c t → off + cs.length ≤ c.length → Is (w.setCells b off cs) b (c.take off ++ cs ++ c.drop (off + cs.length)) t
  | [], off, c, w, h, _ => by
    simp only [List.append_nil, List.length_nil, Nat.add_zero, List.take_append_drop]
    exact h
  | v :: r, off, c, w, h, hl => by
    rw [List.length_cons] at hl
    have h2 := is_cells r (off + 1) (c.set off v) _ (h.set off v) (by rw [List.length_set]; omega)
    have e : (c.set off v).take (off + 1) ++ r ++ (c.set off v).drop (off + 1 + r.length) = c.take off ++ (v :: r) ++ c.drop (off + (v :: r).length) := by
      rw [List.drop_set_of_lt (by omega), List.length_cons, show off + 1 + r.length = off + (r.length + 1) by omega]
      congr 1
      rw [List.take_succ_eq_append_getElem (by rw [List.length_set]; omega), List.getElem_set_self, List.take_set_of_le (Nat.le_refl _)]
      simp
    rw [e] at h2
    exact h2
theorem is_there {w : World} {b : Nat} {c : List Value} {t : TypeId} (h : Is w b c t) (off : Nat) {n : Nat} (hn : off + n ≤ c.length) : w.there b off n := fun j hj => by
  rw [h.cell, h.frozen, List.getElem?_eq_getElem (by omega)]
  exact ⟨rfl, rfl⟩
/-- A whole value into the midst of a box. -/
theorem wpList_store_part (t : TypeId) (c cs : List Value) (b off : Nat) {m : Nat} {tb : TypeId} {w : World} {ops : Array Oper} {rest : List Oper} {o : Oper} {a : Act} {Q : Exit → Act → World → Prop} (hgd : o.guard = none) (s x : Operand) (ho : o.op = .store t s x) (hs : a.eval s = .pointer (some ⟨b, off, none⟩)) (hx : a.eval x = .agg cs.toArray) (hd : o.dst = none)
    (hi : Is w b c tb) (hz : Sized t m) (hc : cs.length = m) (hl : off + m ≤ c.length) (h1 : ∀ v ∈ cs, v.oneCell' = true)
    (h : wpList Tryz.prog ops Q rest a (w.setCells b off cs)) : wpList Tryz.prog ops Q (o :: rest) a w := by
  refine wpList_store_mid hgd t s x ho b off cs.toArray hs hx (is_there hi off (by rw [List.size_toArray, hc]; exact hl)) (by rw [List.size_toArray, hc]; exact hz) (all_oneCell_toArray h1) ?_
  rw [hd]
  exact h
theorem in_set0 (Z V : List Value) (a v : Value) (hz : Z.length = 32) (hV : V.length = 32) : (Z ++ [a, v]).take 0 ++ V ++ (Z ++ [a, v]).drop (0 + V.length) = V ++ [a, v] := by
  rw [List.take_zero, List.nil_append, Nat.zero_add, hV, ← hz, List.drop_left]
theorem in_set32 (V : List Value) (a v x : Value) (hV : V.length = 32) : (V ++ [a, v]).set 32 x = V ++ [x, v] := by
  rw [← hV, List.set_append_right _ _ (Nat.le_refl _), Nat.sub_self]; rfl
theorem in_set33 (V : List Value) (a v x : Value) (hV : V.length = 32) : (V ++ [a, v]).set 33 x = V ++ [a, x] := by
  rw [show 33 = V.length + 1 by omega, List.set_append_right _ _ (by omega), show V.length + 1 - V.length = 1 by omega]; rfl
theorem in_get32 (V : List Value) (a v : Value) (hV : V.length = 32) : (V ++ [a, v])[32]? = some a := by
  rw [List.getElem?_append_right (by omega), hV]; rfl
theorem in_get33 (V : List Value) (a v : Value) (hV : V.length = 32) : (V ++ [a, v])[33]? = some v := by
  rw [List.getElem?_append_right (by omega), hV]; rfl
theorem in_one (D : List Int) (x : Int) (a : Option Addr) (n c : Nat) : ∀ v ∈ vals D ++ [.int .i64 x, .slice a n c], v.oneCell' = true := by
  intro v hv
  rcases List.mem_append.1 hv with hv | hv
  · exact vals_one _ v hv
  · simp only [List.mem_cons, List.not_mem_nil, or_false] at hv
    rcases hv with rfl | rfl <;> rfl
theorem elemKeys : Elem 47 73 1 := elem_of (.slice none 0 0) 24 Tryz.underlying47 (by kernel_rfl) (by omega) rfl (by omega)
/-- Keys of one's own, their bytes told. -/
def FKeys (K : List (List Int × Value)) (W : World) : Prop := ∀ p ∈ K, Has W p.2 p.1 ∧ Sz.Byt p.1
theorem fkeys_add {K : List (List Int × Value)} {p : List Int × Value} {W : World} (h : FKeys K W) (hp : Has W p.2 p.1 ∧ Sz.Byt p.1) : FKeys (K ++ [p]) W := by
  intro x hx
  rcases List.mem_append.1 hx with hx | hx
  · exact h x hx
  · rw [List.mem_singleton.1 hx]; exact hp
theorem row_hasKeys {W : World} {base : Nat} {v : Value} {K : List (List Int × Value)} (h : W.ownsRow base 73 1 v K.length (K.map Prod.snd)) (hd : FKeys K W) : HasKeys W v K := by
  refine ⟨?_, hd⟩
  by_cases h0 : K.length = 0
  · have hK := List.eq_nil_of_length_eq_zero h0
    subst hK
    rcases h.2 with ⟨rfl, _⟩ | ⟨g, cap, cur, rfl, _, _, hn, hc, _⟩
    · exact .inl ⟨none, 0, rfl, rfl, Nat.zero_le _⟩
    · exact .inl ⟨_, cap, rfl, rfl, hc⟩
  · obtain ⟨g, cap, rfl, _, h2, h3, h4, hr⟩ := owns_some h (by omega)
    exact .inr ⟨g, 0, cap, rfl, by omega, h3, h4, h2, hr⟩
end Go.Proofs.YtmjilohlchkicaaGreatDoor

/- tx's reader: an in. -/
namespace Go.Proofs.YtmjilohlchkicaaGreatDoor
open Go.RowKit
set_option linter.unusedVariables false
set_option linter.unusedSimpArgs false

end Go.Proofs.YtmjilohlchkicaaGreatDoor

/- tx's reader: a payment. -/
namespace Go.Proofs.YtmjilohlchkicaaGreatDoor
open Go.RowKit
set_option linter.unusedVariables false
set_option linter.unusedSimpArgs false

theorem elemIns : Elem 23 49 34 := elem_of (.agg (vals (List.replicate 32 0) ++ ([.int .i64 0, .slice none 0 0] : List Value)).toArray) 64 Tryz.underlying23 (by kernel_rfl) (by omega) (by simp [Value.cells, vals]) (by omega)
theorem elemOuts : Elem 24 52 2 := elem_of (.agg #[.int .i64 0, .slice none 0 0]) 32 Tryz.underlying24 (by kernel_rfl) (by omega) rfl (by omega)
theorem info_in : (Tryz.prog.info? 49).map (fun i => (i.zero, i.size)) = some (some (.agg (vals (List.replicate 32 0) ++ ([.int .i64 0, .slice none 0 0] : List Value)).toArray), 34) := by kernel_rfl
theorem inCells_add (L : List InV) (x : InV) : inCells (L ++ [x]) = inCells L ++ inCell x := by simp [inCells]
theorem outCells_add (L : List OutV) (x : OutV) : outCells (L ++ [x]) = outCells L ++ outCell x := by simp [outCells]
theorem in_ones (X : InV) (h : ∃ a n c, X.kv = .slice a n c) : ∀ v ∈ inCell X, v.oneCell' = true := by
  obtain ⟨a, n, c, e⟩ := h
  unfold inCell
  rw [e]
  exact in_one X.tx X.at' a n c
/-- Ins and outs of one's own, what they hold told. -/
def FIns (L : List InV) (W : World) : Prop := ∀ x ∈ L, x.tx.length = 32 ∧ Sz.Byt x.tx ∧ HasKeys W x.kv x.K
theorem fins_add {L : List InV} {p : InV} {W : World} (h : FIns L W) (hp : p.tx.length = 32 ∧ Sz.Byt p.tx ∧ HasKeys W p.kv p.K) : FIns (L ++ [p]) W := by
  intro x hx
  rcases List.mem_append.1 hx with hx | hx
  · exact h x hx
  · rw [List.mem_singleton.1 hx]; exact hp
def FOuts (L : List OutV) (W : World) : Prop := ∀ x ∈ L, HasOps W x.lv x.L
theorem fouts_add {L : List OutV} {p : OutV} {W : World} (h : FOuts L W) (hp : HasOps W p.lv p.L) : FOuts (L ++ [p]) W := by
  intro x hx
  rcases List.mem_append.1 hx with hx | hx
  · exact h x hx
  · rw [List.mem_singleton.1 hx]; exact hp
theorem row_hasIns {W : World} {base : Nat} {v : Value} {L : List InV} (h : W.ownsRow base 49 34 v L.length (inCells L)) (hd : FIns L W) : HasIns W v L := by
  refine ⟨?_, hd⟩
  by_cases h0 : L.length = 0
  · have hL := List.eq_nil_of_length_eq_zero h0
    subst hL
    obtain ⟨a, cap, rfl⟩ := owns_form h
    exact .inl ⟨a, cap, rfl, rfl⟩
  · obtain ⟨g, cap, rfl, _, h2, h3, h4, hr⟩ := owns_some h (by omega)
    exact .inr ⟨g, 0, cap, rfl, by omega, h3, h4, h2, hr⟩
theorem row_hasOuts {W : World} {base : Nat} {v : Value} {L : List OutV} (h : W.ownsRow base 52 2 v L.length (outCells L)) (hd : FOuts L W) : HasOuts W v L := by
  refine ⟨?_, hd⟩
  by_cases h0 : L.length = 0
  · have hL := List.eq_nil_of_length_eq_zero h0
    subst hL
    obtain ⟨a, cap, rfl⟩ := owns_form h
    exact .inl ⟨a, cap, rfl, rfl⟩
  · obtain ⟨g, cap, rfl, _, h2, h3, h4, hr⟩ := owns_some h (by omega)
    exact .inr ⟨g, 0, cap, rfl, by omega, h3, h4, h2, hr⟩
/-- A fact that rests on blocks from lo on, behind which hi is. -/
def Mid (lo hi : Nat) (W : World) (F : World → Prop) : Prop := ∃ S : Nat → Prop, (∀ k, S k → lo ≤ k ∧ k < hi) ∧ Dep S F W
theorem Itm.mid {lo : Nat} {W : World} {F : World → Prop} (h : Itm lo W F) : Mid lo W.heap.size W F := h
theorem Mid.itm {lo hi : Nat} {W : World} {F : World → Prop} (h : Mid lo hi W F) (hz : hi ≤ W.heap.size) : Itm lo W F := by
  obtain ⟨S, h1, h2⟩ := h
  exact ⟨S, fun k hk => ⟨(h1 k hk).1, Nat.lt_of_lt_of_le (h1 k hk).2 hz⟩, h2⟩
theorem Mid.drew {lo hi : Nat} {W : World} {F : World → Prop} (h : Mid lo hi W F) : Mid lo hi W.drew F := by
  obtain ⟨S, h1, h2⟩ := h
  exact ⟨S, h1, h2.step (Nat.le_refl _) (fun k _ => rfl)⟩
theorem Mid.but {lo hi R : Nat} {W W' : World} {F : World → Prop} (h : Mid lo hi W F) (hb : But R W W') (hR : R < lo) (hz : hi ≤ W.heap.size) : Mid lo hi W' F := by
  obtain ⟨S, h1, h2⟩ := h
  exact ⟨S, h1, h2.step hb.size (fun k hk => hb.block k (by have := (h1 k hk).2; omega) (by have := (h1 k hk).1; omega))⟩
theorem Mid.grown {lo hi : Nat} {W W' : World} {F : World → Prop} {r : Option Nat} (h : Mid lo hi W F) (hg : W.grownBy W' r) (hr : ∀ b, r = some b → hi ≤ b) (hz : hi ≤ W.heap.size) : Mid lo hi W' F := by
  obtain ⟨S, h1, h2⟩ := h
  exact ⟨S, h1, h2.step hg.size (fun k hk => hg.block k (by have := (h1 k hk).2; omega) (fun e => by have := hr k e.symm; have := (h1 k hk).2; omega))⟩
theorem hasOps_form {w : World} {v : Value} {R : List (Lk.Op × Value)} (h : HasOps w v R) : ∃ a n c, v = .slice a n c := by
  rcases h.1 with ⟨a, c, e, _⟩ | ⟨b, off, c, e, _⟩
  · exact ⟨a, 0, c, e⟩
  · exact ⟨_, _, c, e⟩
theorem hasKeys_form {w : World} {v : Value} {R : List (List Int × Value)} (h : HasKeys w v R) : ∃ a n c, v = .slice a n c := by
  rcases h.1 with ⟨a, c, e, _⟩ | ⟨b, off, c, e, _⟩
  · exact ⟨a, 0, c, e⟩
  · exact ⟨_, _, c, e⟩

theorem itm_and {lo : Nat} {W : World} {F G : World → Prop} (h : Itm lo W F) (k : Itm lo W G) : Itm lo W (fun W => F W ∧ G W) := by
  obtain ⟨S, h1, h2⟩ := h
  obtain ⟨S2, k1, k2⟩ := k
  exact ⟨fun k => S k ∨ S2 k, fun k hk => hk.elim (h1 k) (k1 k), (h2.more (fun k hk => .inl hk)).and (k2.more (fun k hk => .inr hk))⟩

end Go.Proofs.YtmjilohlchkicaaGreatDoor

/- tx.Read: what breaks a reading off is told as an error. -/
namespace Go.Proofs.YtmjilohlchkicaaGreatDoor
open Go.RowKit
set_option linter.unusedVariables false
set_option linter.unusedSimpArgs false

/-- What reading tells. -/
def ReadTold (w : World) (r : Option Tm.Tx) (e : Ending) (w' : World) : Prop :=
  Below w.heap.size w w' ∧ match r with
  | none => e = .returned (.tuple #[.agg #[.slice none 0 0, .slice none 0 0, .int .i64 0], errV 1])
  | some t => ∃ T : TxV, T.it = t ∧ e = .returned (.tuple #[T.val, .nilIface]) ∧ Itm w.heap.size w' (fun W => HasTx W T)
theorem hasIns_form {w : World} {v : Value} {L : List InV} (h : HasIns w v L) : ∃ a n c, v = .slice a n c := by
  rcases h.1 with ⟨a, c, e, _⟩ | ⟨b, off, c, e, _⟩
  · exact ⟨a, 0, c, e⟩
  · exact ⟨_, _, c, e⟩
theorem hasOuts_form {w : World} {v : Value} {L : List OutV} (h : HasOuts w v L) : ∃ a n c, v = .slice a n c := by
  rcases h.1 with ⟨a, c, e, _⟩ | ⟨b, off, c, e, _⟩
  · exact ⟨a, 0, c, e⟩
  · exact ⟨_, _, c, e⟩

/-- What lies in the two cells of results. -/
structure ResS (w : World) (W : World) : Prop where
  below : Below w.heap.size w W
  tx : Is W w.heap.size [.slice none 0 0, .slice none 0 0, .int .i64 0] 26
  err : Is W (w.heap.size + 1) [.nilIface] 32
theorem ResS.call {w W W' : World} (h : ResS w W) (hb : Below (w.heap.size + 2) W W') : ResS w W' :=
  ⟨h.below.trans (hb.mono (by omega)), h.tx.below hb (by omega), h.err.below hb (by omega)⟩
theorem ResS.but {w W W' : World} {R : Nat} (h : ResS w W) (hb : But R W W') (hR : w.heap.size + 2 ≤ R) : ResS w W' :=
  h.call (hb.under (by have := h.err.lt; omega) hR)

end Go.Proofs.YtmjilohlchkicaaGreatDoor
