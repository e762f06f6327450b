/- Slices of the call's own, of any element: an append leaves the block, or makes a new one. -/
import Derived.Test.YtphdnbflogobfaaDoorOwn2
import Derived.Test.YtphdnbflogobfaaDoorShEq
import Derived.Deep.RegionHeld2
namespace Go.Proofs.YtphdnbflogobfaaDoor
open Go.RowKit
set_option linter.unusedVariables false

/-- What the laws on appends ask of an element's type: its cells, its bytes. -/
def Elem (t e : TypeId) (size : Nat) : Prop := ∃ (i : TypeInfo) (z : Value), Tryd.prog.underlying t = some (.slice e) ∧ Tryd.prog.info? e = some i ∧ i.zero = some z ∧ i.size = size ∧ i.bytes ≤ 10000 ∧ z.cells.size = size ∧ 0 < size
theorem elem_of {t e : TypeId} {size : Nat} (z : Value) (bytes : Nat) (hu : Tryd.prog.underlying t = some (.slice e)) (h : (Tryd.prog.info? e).map (fun i => (i.zero, i.size, i.bytes)) = some (some z, size, bytes)) (hb : bytes ≤ 10000) (hz : z.cells.size = size) (h0 : 0 < size) : Elem t e size := by
  cases hi : Tryd.prog.info? e with
  | none => rw [hi] at h; cases h
  | some i =>
    rw [hi] at h
    simp only [Option.map_some, Option.some.injEq, Prod.mk.injEq] at h
    exact ⟨i, z, hu, hi, h.1, h.2.1, by rw [h.2.2]; exact hb, hz, h0⟩

theorem owns_below {w w' : World} {base n size : Nat} {e : TypeId} {v : Value} {xs : List Value} (h : w.ownsRow base e size v n xs) (hb : Below w.heap.size w w') : w'.ownsRow base e size v n xs := by
  refine ⟨h.1, ?_⟩
  rcases h.2 with h0 | ⟨g, cap, cur, rfl, hbg, hg, hn, hc, hs, ht⟩
  · exact .inl h0
  · have hlt : g < w.heap.size := (Array.getElem?_eq_some_iff.1 hg).1
    exact .inr ⟨g, cap, cur, rfl, hbg, by rw [hb.block g hlt]; exact hg, hn, hc, hs, ht⟩
theorem owns_grown {w w' : World} {base n size : Nat} {e : TypeId} {v : Value} {xs : List Value} {row : Option Nat} (h : w.ownsRow base e size v n xs) (k : w.grownBy w' row) (hne : ∀ b, v.ownBlock = some b → row ≠ some b) : w'.ownsRow base e size v n xs := by
  refine ⟨h.1, ?_⟩
  rcases h.2 with h0 | ⟨g, cap, cur, rfl, hbg, hg, hn, hc, hs, ht⟩
  · exact .inl h0
  · have hlt : g < w.heap.size := (Array.getElem?_eq_some_iff.1 hg).1
    exact .inr ⟨g, cap, cur, rfl, hbg, by rw [k.block g hlt (fun e => hne g rfl e.symm)]; exact hg, hn, hc, hs, ht⟩
theorem owns_form {w : World} {base n size : Nat} {e : TypeId} {v : Value} {xs : List Value} (h : w.ownsRow base e size v n xs) : ∃ a cap, v = .slice a n cap := by
  rcases h.2 with ⟨rfl, h0⟩ | ⟨g, cap, cur, rfl, _⟩
  · exact ⟨none, 0, by rw [h0]⟩
  · exact ⟨_, _, rfl⟩
/-- The cells of a slice of the call's own that is not empty. -/
theorem owns_some {w : World} {base n size : Nat} {e : TypeId} {v : Value} {xs : List Value} (h : w.ownsRow base e size v n xs) (h0 : 0 < n) : ∃ g cap, v = .slice (some ⟨g, 0, none⟩) n cap ∧ base ≤ g ∧ g < w.heap.size ∧ n ≤ cap ∧ cap ≤ maxLen ∧ w.rangeAt g 0 xs := by
  rcases h.2 with ⟨rfl, hn⟩ | ⟨g, cap, cur, rfl, hbg, hg, hn, hc, hs, ht⟩
  · omega
  · refine ⟨g, cap, rfl, hbg, (Array.getElem?_eq_some_iff.1 hg).1, hn, hc, fun j u hu => ?_⟩
    have := World.ownsRow.cells h (g := g) rfl j u hu
    rw [Addr.add_lit] at this
    exact this

set_option maxRecDepth 100000 in
theorem run_append_gen (w : World) (base : Nat) (t e : TypeId) (size : Nat) (he : Elem t e size) (v : Value) (n : Nat) (xs : List Value) (hown : w.ownsRow base e size v n xs) (a : Addr) (m c : Nat) (h0 : 0 < m) (news : List Value) (hl : news.length = m * size)
    (hnews : ∀ j u, news[j]? = some u → w.cell? (a.add j) = some u) (h1 : ∀ u ∈ news, u.oneCell' = true) (hbd : n + m ≤ 1000000) (hbase : base ≤ w.heap.size) (ty : TypeId) :
    ∃ v' w', (Builtin.append_ #[t, t] ty #[v, .slice (some a) m c]).run Tryd.prog w = .ok v' w' ∧ w'.ownsRow base e size v' (n + m) (xs ++ news) ∧ w.grownBy w' v.ownBlock ∧ (v'.ownBlock = v.ownBlock ∨ v'.ownBlock = some w.heap.size) := by
  obtain ⟨i, z, hu, hi, hz, hs, hby, hzs, hsz⟩ := he
  have hmul : (n + m) * i.bytes ≤ 10000000000 := Nat.le_trans (Nat.mul_le_mul hbd hby) (by omega)
  obtain ⟨v', w', hr, h2, h3, _⟩ := run_append_own (P := Tryd.prog) w base t ty e i z size i.bytes hu hi hz hs rfl hzs hsz v n xs hown a m c news hl hnews h1 (by unfold maxLen; omega) (by omega) hbase
  refine ⟨v', w', hr, h2, h3, ?_⟩
  rcases hown.2 with ⟨rfl, hx0⟩ | ⟨g, cap, cur, rfl, hbg, hg, hn, hc, hsz2, ht⟩
  · have hm2 : m * i.bytes ≤ 10000000000 := Nat.le_trans (Nat.mul_le_mul (show m ≤ 1000000 by omega) hby) (by omega)
    have hr2 := run_append_nil (P := Tryd.prog) w t ty e i z hu hi hz a m c news (by rw [hs]; exact hl) hnews h0 (by omega) (by omega)
    rw [hr2] at hr
    injection hr with e1 e2
    subst e1
    exact .inr rfl
  · by_cases hroom : n + m ≤ cap
    · obtain ⟨w2, hr2, _, _⟩ := run_append_fits (P := Tryd.prog) w base t ty e i size hu hi hs g n cap xs hown a m c news hl hnews h1 hroom
      rw [hr2] at hr
      injection hr with e1 e2
      subst e1
      exact .inl rfl
    · have holds : ∀ j u, xs[j]? = some u → w.cell? ((⟨g, 0, none⟩ : Addr).add j) = some u := World.ownsRow.cells hown (g := g) rfl
      have hnc := nextcap_two (need := n + m) (old := cap) (by omega)
      have hnb : Builtin.nextslicecap (n + m) cap * i.bytes ≤ (2 * (n + m) + 1024) * 10000 := Nat.mul_le_mul hnc hby
      have hr2 := run_append_grow (P := Tryd.prog) w t ty e i z hu hi hz ⟨g, 0, none⟩ n cap xs (by rw [hs]; exact hown.1) holds a m c news (by rw [hs]; exact hl) hnews (by omega) (by omega) (by omega)
      rw [hr2] at hr
      injection hr with e1 e2
      subst e1
      exact .inr rfl

theorem wpList_append_gen (w : World) (t e : TypeId) (size : Nat) {ops : Array Oper} {rest : List Oper} {o : Oper} {a : Act} {Q : Exit → Act → World → Prop} (hgd : o.guard = none) (s y : Operand)
    (ho : o.op = .call { callee := .builtin .append, args := #[s, y], argTypes := #[t, t] })
    (base : Nat) (v : Value) (n : Nat) (xs : List Value) (hs : a.eval s = v) (b off m c : Nat) (news : List Value) (hy : a.eval y = .slice (some ⟨b, off, none⟩) m c) (hown : w.ownsRow base e size v n xs) (he : Elem t e size) (h0 : 0 < m) (hl : news.length = m * size) (hr : w.rangeAt b off news) (h1 : ∀ u ∈ news, u.oneCell' = true) (hbd : n + m ≤ 1000000) (hbase : base ≤ w.heap.size)
    (h : ∀ v' w', w'.ownsRow base e size v' (n + m) (xs ++ news) → w.grownBy w' v.ownBlock → (v'.ownBlock = v.ownBlock ∨ v'.ownBlock = some w.heap.size) → wpList Tryd.prog ops Q rest (a.put o.dst v') w') : wpList Tryd.prog ops Q (o :: rest) a w := by
  refine wpList_plain hgd fun K hK => ?_
  obtain ⟨v', w', hr', h2, h3, h4⟩ := run_append_gen w base t e size he v n xs hown ⟨b, off, none⟩ m c h0 news hl (fun j u hu => by rw [Addr.add_lit]; exact hr j u hu) h1 hbd hbase o.type
  unfold Oper.wp
  simp only [execOp, ho, resolve, invoke, builtin, Sem.run_bind, Sem.run_pure, Result.andThen_ok, List.map_toArray, List.map_cons, List.map_nil, hs, hy, hr']
  exact hK _ _ (h v' w' h2 h3 h4)
/-- The same as one step of a region that draws its order. -/
theorem step_append_gen (w : World) (t e : TypeId) (size : Nat) {ops : Array Oper} {o : Oper} {a : Act} {K : Act → World → Prop} {Q : Exit → Act → World → Prop} {E : Prop} (hgd : o.guard = none) (s y : Operand)
    (ho : o.op = .call { callee := .builtin .append, args := #[s, y], argTypes := #[t, t] })
    (base : Nat) (v : Value) (n : Nat) (xs : List Value) (hs : a.eval s = v) (b off m c : Nat) (news : List Value) (hy : a.eval y = .slice (some ⟨b, off, none⟩) m c) (hown : w.ownsRow base e size v n xs) (he : Elem t e size) (h0 : 0 < m) (hl : news.length = m * size) (hr : w.rangeAt b off news) (h1 : ∀ u ∈ news, u.oneCell' = true) (hbd : n + m ≤ 1000000) (hbase : base ≤ w.heap.size)
    (h : ∀ v' w', w'.ownsRow base e size v' (n + m) (xs ++ news) → w.grownBy w' v.ownBlock → (v'.ownBlock = v.ownBlock ∨ v'.ownBlock = some w.heap.size) → K (a.put o.dst v') w') :
    if Region.wanted o (yielded ops a.tmps) = true then Oper.wp Tryd.prog o a w K Q else E := by
  have hw : Region.wanted o (yielded ops a.tmps) = true := by simp [Region.wanted, hgd]
  rw [if_pos hw]
  obtain ⟨v', w', hr', h2, h3, h4⟩ := run_append_gen w base t e size he v n xs hown ⟨b, off, none⟩ m c h0 news hl (fun j u hu => by rw [Addr.add_lit]; exact hr j u hu) h1 hbd hbase o.type
  unfold Oper.wp
  simp only [execOp, ho, resolve, invoke, builtin, Sem.run_bind, Sem.run_pure, Result.andThen_ok, List.map_toArray, List.map_cons, List.map_nil, hs, hy, hr']
  exact h v' w' h2 h3 h4
end Go.Proofs.YtphdnbflogobfaaDoor
