/- The texts TxF, TxOu, TxD, TxN, TxIn, one behind the other. -/
import Derived.Test.YtpnkndagahchhaaDoorZTr
import Derived.Test.YtpnkndagahchhaaDoorZTw
import Derived.Test.YtpnkndagahchhaaDoorShEq
import Derived.Laws.CopyOwn
import Derived.Deep.MidRow
/- tx's reader: a row in a box grows by a thing that was read. -/
namespace Go.Proofs.YtpnkndagahchhaaDoor
open Go.RowKit
set_option linter.unusedVariables false
set_option linter.unusedSimpArgs false

theorem elemOps : Elem 34 108 3 := elem_of (.agg #[.int .i64 0, .int .i64 0, .slice none 0 0]) 40 Tryd.underlying34 (by kernel_rfl) (by omega) rfl (by omega)
/-- What an append of one leaves. -/
def AppG (W : World) (base : Nat) (e : TypeId) (s n : Nat) (v : Value) (cs news : List Value) (v' : Value) (W' : World) : Prop :=
  W'.ownsRow base e s v' (n + 1) (cs ++ news) ∧ W.grownBy W' v.ownBlock ∧ (v'.ownBlock = v.ownBlock ∨ v'.ownBlock = some W.heap.size)
theorem run_app1 {T e : TypeId} {s : Nat} (he : Elem T e s) (W : World) (base n : Nat) (v : Value) (cs news : List Value) (hown : W.ownsRow base e s v n cs) (b c : Nat) (hr : W.rangeAt b 0 news) (hl : news.length = s) (h1 : ∀ u ∈ news, u.oneCell' = true) (hbd : n + 1 ≤ 1000000) (hbase : base ≤ W.heap.size) (ty : TypeId) :
    ∃ v' W', (Builtin.append_ #[T, T] ty #[v, .slice (some ⟨b, 0, none⟩) 1 c]).run Tryd.prog W = .ok v' W' ∧ AppG W base e s n v cs news v' W' := by
  obtain ⟨v', W', h1, h2, h3, h4⟩ := run_append_gen W base T e s he v n cs hown ⟨b, 0, none⟩ 1 c (by omega) news (by omega) (fun j u hu => by rw [Addr.add_lit]; exact hr j u hu) h1 hbd hbase ty
  exact ⟨v', W', h1, h2, h3, h4⟩
theorem But.drew {R : Nat} {a w : World} (h : But R a w) : But R a w.drew := Only.drew h
theorem Acc.drew {W : World} {base s n : Nat} {e : TypeId} {v : Value} {cs : List Value} {F : World → Prop} (h : Acc W base e s n v cs F) : Acc W.drew base e s n v cs F := by
  obtain ⟨⟨S, h1, h2, h3⟩, ho⟩ := h
  exact ⟨⟨S, h1, h2, h3.step (Nat.le_refl _) (fun k _ => rfl)⟩, ho⟩
theorem But.grown {R : Nat} {W W' : World} {r : Option Nat} (hg : W.grownBy W' r) : Only (r.getD 0) W.heap.size W W' :=
  ⟨hg.os, hg.tape, hg.output, hg.size, fun k hk hn => hg.block k hk (fun e => hn (by rw [← e]; rfl))⟩
/-- How the rest of a repeated reading goes on. -/
theorem rep_zero {α : Type} (f : Nat → Option (α × Nat)) (p : Nat) : Tm.rep f 0 p = some ([], p) := rfl
theorem rep_some {α : Type} {f : Nat → Option (α × Nat)} {p q : Nat} {x : α} {d : Nat} (h : f p = some (x, q)) : Tm.rep f (d + 1) p = (Tm.rep f d q).map fun y => (x :: y.1, y.2) := by
  simp only [Tm.rep, h, Option.bind_some]
theorem rep_none {α : Type} {f : Nat → Option (α × Nat)} {p : Nat} {d : Nat} (h : f p = none) : Tm.rep f (d + 1) p = none := by
  simp only [Tm.rep, h, Option.bind_none]
/-- So far A was read, and d are left, at q. -/
def Todo {α : Type} (f : Nat → Option (α × Nat)) (all : Option (List α × Nat)) (A : List α) (d q : Nat) : Prop := all = (Tm.rep f d q).map fun y => (A ++ y.1, y.2)
theorem Todo.start {α : Type} (f : Nat → Option (α × Nat)) (m q : Nat) : Todo f (Tm.rep f m q) [] m q := by unfold Todo; cases Tm.rep f m q <;> simp
theorem Todo.next {α : Type} {f : Nat → Option (α × Nat)} {all : Option (List α × Nat)} {A : List α} {d q q' : Nat} {x : α} (h : Todo f all A (d + 1) q) (hx : f q = some (x, q')) : Todo f all (A ++ [x]) d q' := by
  unfold Todo at h ⊢
  rw [h, rep_some hx]
  cases Tm.rep f d q' <;> simp
theorem Todo.stop {α : Type} {f : Nat → Option (α × Nat)} {all : Option (List α × Nat)} {A : List α} {d q : Nat} (h : Todo f all A (d + 1) q) (hx : f q = none) : all = none := by
  unfold Todo at h
  rw [h, rep_none hx]; rfl
theorem Todo.end {α : Type} {f : Nat → Option (α × Nat)} {all : Option (List α × Nat)} {A : List α} {q : Nat} (h : Todo f all A 0 q) : all = some (A, q) := by
  unfold Todo at h
  rw [h, rep_zero]; simp
/-- Ops of one's own, their data told. -/
def FOps (L : List (Lk.Op × Value)) (W : World) : Prop := ∀ p ∈ L, Has W p.2 p.1.data ∧ Sz.Byt p.1.data
theorem row_hasOps {W : World} {base : Nat} {v : Value} {L : List (Lk.Op × Value)} (h : W.ownsRow base 108 3 v L.length (opCells L)) (hd : FOps L W) : HasOps W v L := by
  refine ⟨?_, hd⟩
  by_cases h0 : L.length = 0
  · have hL := List.eq_nil_of_length_eq_zero h0
    subst hL
    obtain ⟨a, cap, rfl⟩ := owns_form h
    exact .inl ⟨a, cap, rfl, rfl⟩
  · obtain ⟨g, cap, rfl, _, h2, h3, h4, hr⟩ := owns_some h (by omega)
    exact .inr ⟨g, 0, cap, rfl, by omega, h3, h4, h2, hr⟩
end Go.Proofs.YtpnkndagahchhaaDoor

/- tx's reader: an out. -/
namespace Go.Proofs.YtpnkndagahchhaaDoor
open Go.RowKit
set_option linter.unusedVariables false
set_option linter.unusedSimpArgs false

theorem Acc.map {W : World} {base s n : Nat} {e : TypeId} {v : Value} {cs : List Value} {F G : World → Prop} (h : Acc W base e s n v cs F) (hG : ∀ W, F W → G W) : Acc W base e s n v cs G := by
  obtain ⟨⟨S, h1, h2, h3⟩, ho⟩ := h
  exact ⟨⟨S, h1, h2, h3.map hG⟩, ho⟩
theorem fops_add {L : List (Lk.Op × Value)} {p : Lk.Op × Value} {W : World} (h : FOps L W) (hp : Has W p.2 p.1.data ∧ Sz.Byt p.1.data) : FOps (L ++ [p]) W := by
  intro x hx
  rcases List.mem_append.1 hx with hx | hx
  · exact h x hx
  · rw [List.mem_singleton.1 hx]; exact hp
theorem opsOf_add (L : List (Lk.Op × Value)) (p : Lk.Op × Value) : opsOf (L ++ [p]) = opsOf L ++ [p.1] := by simp [opsOf]
theorem cnt_le {most : Int} {b : List Int} {p m q : Nat} (h : Tm.cnt most b p = some (m, q)) : m ≤ most.toNat := by
  unfold Tm.cnt at h
  cases hx : Tm.num b p with
  | none => rw [hx] at h; cases h
  | some x =>
    rw [hx, Option.bind_some] at h
    split at h
    · cases h
      omega
    · cases h
theorem op_byt {b : List Int} (hb : Sz.Byt b) {p q : Nat} {x : Lk.Op} (h : Tm.opR b p = some (x, q)) : Sz.Byt x.data := by
  unfold Tm.opR at h
  cases h1 : Tm.num b p with
  | none => rw [h1] at h; cases h
  | some y1 =>
    rw [h1, Option.bind_some] at h
    cases h2 : Tm.num b y1.2 with
    | none => rw [h2] at h; cases h
    | some y2 =>
      rw [h2, Option.bind_some] at h
      cases h3 : Tm.thing b y2.2 with
      | none => rw [h3] at h; cases h
      | some y3 =>
        rw [h3] at h
        cases h
        exact (Tm.thing_sound b hb y2.2 y3.1 y3.2 (by rw [h3])).2.2.2.2

end Go.Proofs.YtpnkndagahchhaaDoor

/- tx's reader: a digest. -/
namespace Go.Proofs.YtpnkndagahchhaaDoor
open Go.RowKit
set_option linter.unusedVariables false
set_option linter.unusedSimpArgs false

theorem wpList_load_arrD (t : TypeId) (c : List Value) (b : Nat) {n m : Nat} {e : TypeId} {w : World} {ops : Array Oper} {rest : List Oper} {o : Oper} {a : Act} {Q : Exit → Act → World → Prop} (hgd : o.guard = none) (s : Operand) (ho : o.op = .load t s) (hs : a.eval s = .pointer (some ⟨b, 0, none⟩))
    (hi : Is w b c t) (hu : Tryd.prog.underlying t = some (.array n e)) (hz : Sized t m) (hc : c.length = m)
    (h : wpList Tryd.prog ops Q rest (a.put o.dst (.agg c.toArray)) w) : wpList Tryd.prog ops Q (o :: rest) a w := wpList_load_arr t c b hi hu hz hc hgd s ho hs h
theorem wpList_store_anyD (t : TypeId) (c c' : List Value) (b : Nat) {m : Nat} {w : World} {ops : Array Oper} {rest : List Oper} {o : Oper} {a : Act} {Q : Exit → Act → World → Prop} (hgd : o.guard = none) (s x : Operand) (ho : o.op = .store t s x) (hs : a.eval s = .pointer (some ⟨b, 0, none⟩)) (hx : a.eval x = .agg c'.toArray) (hd : o.dst = none)
    (hi : Is w b c t) (hz : Sized t m) (hc : c.length = m) (hc' : c'.length = m) (h1 : ∀ v ∈ c', v.oneCell' = true)
    (h : ∀ w2, Is w2 b c' t → (∀ B w0, Below B w0 w → B ≤ b → Below B w0 w2) → (∀ b' c2 t2, b' ≠ b → Is w b' c2 t2 → Is w2 b' c2 t2) → w2.heap.size = w.heap.size → wpList Tryd.prog ops Q rest a w2) : wpList Tryd.prog ops Q (o :: rest) a w := wpList_store_any t c c' b hi hz hc hc' h1 hgd s x ho hs hx hd h

end Go.Proofs.YtpnkndagahchhaaDoor

/- tx's reader: many cells of a box stored; what an in's box holds. -/
namespace Go.Proofs.YtpnkndagahchhaaDoor
open Go.RowKit
set_option linter.unusedVariables false
set_option linter.unusedSimpArgs false

theorem is_cells {b : Nat} {t : TypeId} : ∀ (cs : List Value) (off : Nat) (c : List Value) (w : World), Is w b c t → off + cs.length ≤ c.length → Is (w.setCells b off cs) b (c.take off ++ cs ++ c.drop (off + cs.length)) t
  | [], off, c, w, h, _ => by
    simp only [List.append_nil, List.length_nil, Nat.add_zero, List.take_append_drop]
    exact h
  | v :: r, off, c, w, h, hl => by
    rw [List.length_cons] at hl
    have h2 := is_cells r (off + 1) (c.set off v) _ (h.set off v) (by rw [List.length_set]; omega)
    have e : (c.set off v).take (off + 1) ++ r ++ (c.set off v).drop (off + 1 + r.length) = c.take off ++ (v :: r) ++ c.drop (off + (v :: r).length) := by
      rw [List.drop_set_of_lt (by omega), List.length_cons, show off + 1 + r.length = off + (r.length + 1) by omega]
      congr 1
      rw [List.take_succ_eq_append_getElem (by rw [List.length_set]; omega), List.getElem_set_self, List.take_set_of_le (Nat.le_refl _)]
      simp
    rw [e] at h2
    exact h2
theorem is_there {w : World} {b : Nat} {c : List Value} {t : TypeId} (h : Is w b c t) (off : Nat) {n : Nat} (hn : off + n ≤ c.length) : w.there b off n := fun j hj => by
  rw [h.cell, h.frozen, List.getElem?_eq_getElem (by omega)]
  exact ⟨rfl, rfl⟩
/-- A whole value into the midst of a box. -/
theorem wpList_store_part (t : TypeId) (c cs : List Value) (b off : Nat) {m : Nat} {tb : TypeId} {w : World} {ops : Array Oper} {rest : List Oper} {o : Oper} {a : Act} {Q : Exit → Act → World → Prop} (hgd : o.guard = none) (s x : Operand) (ho : o.op = .store t s x) (hs : a.eval s = .pointer (some ⟨b, off, none⟩)) (hx : a.eval x = .agg cs.toArray) (hd : o.dst = none)
    (hi : Is w b c tb) (hz : Sized t m) (hc : cs.length = m) (hl : off + m ≤ c.length) (h1 : ∀ v ∈ cs, v.oneCell' = true)
    (h : wpList Tryd.prog ops Q rest a (w.setCells b off cs)) : wpList Tryd.prog ops Q (o :: rest) a w := by
  refine wpList_store_mid hgd t s x ho b off cs.toArray hs hx (is_there hi off (by rw [List.size_toArray, hc]; exact hl)) (by rw [List.size_toArray, hc]; exact hz) (all_oneCell_toArray h1) ?_
  rw [hd]
  exact h
theorem in_set0 (Z V : List Value) (a v : Value) (hz : Z.length = 32) (hV : V.length = 32) : (Z ++ [a, v]).take 0 ++ V ++ (Z ++ [a, v]).drop (0 + V.length) = V ++ [a, v] := by
  rw [List.take_zero, List.nil_append, Nat.zero_add, hV, ← hz, List.drop_left]
theorem in_set32 (V : List Value) (a v x : Value) (hV : V.length = 32) : (V ++ [a, v]).set 32 x = V ++ [x, v] := by
  rw [← hV, List.set_append_right _ _ (Nat.le_refl _), Nat.sub_self]; rfl
theorem in_set33 (V : List Value) (a v x : Value) (hV : V.length = 32) : (V ++ [a, v]).set 33 x = V ++ [a, x] := by
  rw [show 33 = V.length + 1 by omega, List.set_append_right _ _ (by omega), show V.length + 1 - V.length = 1 by omega]; rfl
theorem in_get32 (V : List Value) (a v : Value) (hV : V.length = 32) : (V ++ [a, v])[32]? = some a := by
  rw [List.getElem?_append_right (by omega), hV]; rfl
theorem in_get33 (V : List Value) (a v : Value) (hV : V.length = 32) : (V ++ [a, v])[33]? = some v := by
  rw [List.getElem?_append_right (by omega), hV]; rfl
theorem in_one (D : List Int) (x : Int) (a : Option Addr) (n c : Nat) : ∀ v ∈ vals D ++ [.int .i64 x, .slice a n c], v.oneCell' = true := by
  intro v hv
  rcases List.mem_append.1 hv with hv | hv
  · exact vals_one _ v hv
  · simp only [List.mem_cons, List.not_mem_nil, or_false] at hv
    rcases hv with rfl | rfl <;> rfl
theorem elemKeys : Elem 44 67 1 := elem_of (.slice none 0 0) 24 Tryd.underlying44 (by kernel_rfl) (by omega) rfl (by omega)
/-- Keys of one's own, their bytes told. -/
def FKeys (K : List (List Int × Value)) (W : World) : Prop := ∀ p ∈ K, Has W p.2 p.1 ∧ Sz.Byt p.1
theorem fkeys_add {K : List (List Int × Value)} {p : List Int × Value} {W : World} (h : FKeys K W) (hp : Has W p.2 p.1 ∧ Sz.Byt p.1) : FKeys (K ++ [p]) W := by
  intro x hx
  rcases List.mem_append.1 hx with hx | hx
  · exact h x hx
  · rw [List.mem_singleton.1 hx]; exact hp
theorem row_hasKeys {W : World} {base : Nat} {v : Value} {K : List (List Int × Value)} (h : W.ownsRow base 67 1 v K.length (K.map Prod.snd)) (hd : FKeys K W) : HasKeys W v K := by
  refine ⟨?_, hd⟩
  by_cases h0 : K.length = 0
  · have hK := List.eq_nil_of_length_eq_zero h0
    subst hK
    rcases h.2 with ⟨rfl, _⟩ | ⟨g, cap, cur, rfl, _, _, hn, hc, _⟩
    · exact .inl ⟨none, 0, rfl, rfl, Nat.zero_le _⟩
    · exact .inl ⟨_, cap, rfl, rfl, hc⟩
  · obtain ⟨g, cap, rfl, _, h2, h3, h4, hr⟩ := owns_some h (by omega)
    exact .inr ⟨g, 0, cap, rfl, by omega, h3, h4, h2, hr⟩
end Go.Proofs.YtpnkndagahchhaaDoor

/- tx's reader: an in. -/
namespace Go.Proofs.YtpnkndagahchhaaDoor
open Go.RowKit
set_option linter.unusedVariables false
set_option linter.unusedSimpArgs false

end Go.Proofs.YtpnkndagahchhaaDoor
