/- The texts LkRj, LkRk, LkRl, LkRo, LkRm, LkRn, LkSeg, LkRp, one behind the other. -/
import Derived.Test.YtkdihbgjeanjdaaDoorZRe
import Derived.Deep.RegionHeld2
import Derived.Test.YtkdihbgjeanjdaaDoorZRa
/- The document's answer on locks: one op (Done). -/
namespace Go.Proofs.YtkdihbgjeanjdaaDoor
open Go.RowKit
set_option linter.unusedVariables false
set_option linter.unusedSimpArgs false

theorem stk_snoc' (K : List (List Int × Value)) (p : List Int × Value) : stk (K ++ [p]) = p.1 :: stk K := by simp [stk]
theorem KeysZ.front {Z : Nat → Prop} {w : World} {a : Option Addr} {n kc : Nat} {K L : List (List Int × Value)} (h : KeysZ Z w (.slice a n kc) (K ++ L)) : KeysZ Z w (.slice a K.length kc) K := fun W hW => by
  obtain ⟨h1, h2⟩ := h W hW
  refine ⟨?_, fun p hp => h2 p (List.mem_append_left _ hp)⟩
  by_cases h0 : K = []
  · subst h0
    rcases h1 with ⟨a', c, e, _, hc⟩ | ⟨b, off, cap, e, g0, g1, g2, g3, hc⟩
    · injection e with _ _ e3
      subst e3
      exact .inl ⟨_, _, rfl, rfl, hc⟩
    · injection e with _ _ e3
      subst e3
      exact .inl ⟨_, _, rfl, rfl, g2⟩
  · rcases h1 with ⟨a', c, e, e2, _⟩ | ⟨b, off, cap, e, g0, g1, g2, g3, hc⟩
    · exact absurd (List.append_eq_nil_iff.1 e2).1 h0
    · injection e with e1 _ e3
      subst e1 e3
      rw [List.length_append] at g1
      refine .inr ⟨b, off, kc, rfl, List.length_pos_iff.2 h0, by omega, g2, g3, fun j v hv => hc j v ?_⟩
      rw [List.map_append]
      have hj := (List.getElem?_eq_some_iff.1 hv).1
      rw [List.getElem?_append_left hj]
      exact hv
theorem KeysZ.mid {Z : Nat → Prop} {w : World} {b off n kc : Nat} {K L R : List (List Int × Value)} (h : KeysZ Z w (.slice (some ⟨b, off, none⟩) n kc) (K ++ (L ++ R))) (h0 : 0 < L.length) : KeysZ Z w (.slice (some ⟨b, off + K.length, none⟩) L.length (kc - K.length)) L := fun W hW => by
  obtain ⟨h1, h2⟩ := h W hW
  refine ⟨?_, fun p hp => h2 p (List.mem_append_right _ (List.mem_append_left _ hp))⟩
  rcases h1 with ⟨a', c, e, e2, _⟩ | ⟨b', off', cap, e, g0, g1, g2, g3, hc⟩
  · have := congrArg List.length e2; simp only [List.length_append, List.length_nil] at this; omega
  · injection e with e1 _ e3
    injection e1 with e1
    injection e1 with e5 e6
    subst e5 e6 e3
    rw [List.length_append, List.length_append] at g1
    refine .inr ⟨b, off + K.length, kc - K.length, rfl, h0, by omega, by omega, g3, fun j v hv => ?_⟩
    have hj := (List.getElem?_eq_some_iff.1 hv).1
    rw [show off + K.length + j = off + (K.length + j) by omega]
    refine hc (K.length + j) v ?_
    rw [List.map_append, List.getElem?_append_right (by simp), List.length_map, Nat.add_sub_cancel_left, List.map_append, List.getElem?_append_left hj]
    exact hv
theorem KeysZ.at {Z : Nat → Prop} {w : World} {a : Option Addr} {n kc : Nat} {K L : List (List Int × Value)} {p : List Int × Value} (h : KeysZ Z w (.slice a n kc) (K ++ p :: L)) : ∃ b off, a = some ⟨b, off, none⟩ ∧ n ≤ kc ∧ kc ≤ maxLen ∧ b < w.heap.size ∧ (∀ W, SameZ Z w W → W.cell? ⟨b, off + K.length, none⟩ = some p.2) ∧ BytZ Z w p.2 p.1 ∧ Sz.Byt p.1 := by
  obtain ⟨h1, h2⟩ := h w (SameZ.refl Z w)
  rcases h1 with ⟨a', c, e, e2, _⟩ | ⟨b, off, cap, e, g0, g1, g2, g3, hc⟩
  · simp at e2
  · injection e with e1 e4 e3
    subst e1 e3 e4
    refine ⟨b, off, rfl, g1, g2, g3, fun W hW => ?_, fun W hW => ((h W hW).2 p (by simp)).1, (h2 p (by simp)).2⟩
    obtain ⟨k1, k2⟩ := h W hW
    rcases k1 with ⟨a', c, e, e2, _⟩ | ⟨b', off', cap', e, g0', g1', g2', g3', hc'⟩
    · simp at e2
    · injection e with e1 e4 e3
      injection e1 with e1
      injection e1 with e5 e6
      subst e5 e6
      exact hc' K.length p.2 (by simp)

theorem SameZ.of_below {Z : Nat → Prop} {w W : World} (hb : Below w.heap.size w W) : SameZ Z w W := ⟨hb.size, fun b hlt _ => hb.block b hlt⟩
theorem boxes4 (w : World) (c1 c2 c3 c4 : List Value) (t1 t2 t3 t4 : TypeId) : Below w.heap.size w ((((w.alloc (.cells c1.toArray t1)).alloc (.cells c2.toArray t2)).alloc (.cells c3.toArray t3)).alloc (.cells c4.toArray t4)) ∧
    Is ((((w.alloc (.cells c1.toArray t1)).alloc (.cells c2.toArray t2)).alloc (.cells c3.toArray t3)).alloc (.cells c4.toArray t4)) w.heap.size c1 t1 ∧ Is ((((w.alloc (.cells c1.toArray t1)).alloc (.cells c2.toArray t2)).alloc (.cells c3.toArray t3)).alloc (.cells c4.toArray t4)) (w.heap.size + 1 + 1) c3 t3 ∧
    Is ((((w.alloc (.cells c1.toArray t1)).alloc (.cells c2.toArray t2)).alloc (.cells c3.toArray t3)).alloc (.cells c4.toArray t4)) (w.heap.size + 1 + 1 + 1) c4 t4 ∧ w.heap.size + 4 ≤ ((((w.alloc (.cells c1.toArray t1)).alloc (.cells c2.toArray t2)).alloc (.cells c3.toArray t3)).alloc (.cells c4.toArray t4)).heap.size :=
  ⟨(below_alloc3 w _ _ _).alloc (by simp; omega) _, (((Is.new w c1 t1).alloc _).alloc _).alloc _, (Is.new' c3 t3 (by simp)).alloc _, Is.new' c4 t4 (by simp), by simp⟩
/-- What holds within a region of Done that draws its order. -/
theorem dS_below {w W W' : World} {B b o : Nat} {M : List Value} {r0 sv qv : Value} (h : Below w.heap.size w W ∧ B ≤ W.heap.size ∧ (∃ x y, Is W (w.heap.size + 1 + 1 + 1) [x, y] 60) ∧ Is W (w.heap.size + 1 + 1) M 25 ∧ W.cell? ⟨w.heap.size + 1 + 1 + 1 + 1, 0, none⟩ = some r0 ∧ W.cell? ⟨w.heap.size + 1 + 1 + 1 + 1, 1, none⟩ = some (.int .i64 0) ∧ W.cell? ⟨w.heap.size, 0, none⟩ = some sv ∧ W.cell? ⟨b, o, none⟩ = some qv) (hb : Below W.heap.size W W') :
    Below w.heap.size w W' ∧ B ≤ W'.heap.size ∧ (∃ x y, Is W' (w.heap.size + 1 + 1 + 1) [x, y] 60) ∧ Is W' (w.heap.size + 1 + 1) M 25 ∧ W'.cell? ⟨w.heap.size + 1 + 1 + 1 + 1, 0, none⟩ = some r0 ∧ W'.cell? ⟨w.heap.size + 1 + 1 + 1 + 1, 1, none⟩ = some (.int .i64 0) ∧ W'.cell? ⟨w.heap.size, 0, none⟩ = some sv ∧ W'.cell? ⟨b, o, none⟩ = some qv := by
  obtain ⟨h1, h2, ⟨x, y, h3⟩, h4, h5, h6, h7, h8⟩ := h
  exact ⟨h1.trans (hb.mono h1.size), Nat.le_trans h2 hb.size, ⟨x, y, h3.below hb h3.lt⟩, h4.below hb h4.lt, cell_below h5 hb, cell_below h6 hb, cell_below h7 hb, cell_below h8 hb⟩
theorem cell_two {W : World} {b o c : Nat} {v x y : Value} (h : W.cell? ⟨b, o, none⟩ = some v) (hne : b ≠ c) : ((W.setCell ⟨c, 0, none⟩ x).setCell ⟨c, 1, none⟩ y).cell? ⟨b, o, none⟩ = some v := by
  rw [World.cell?_setCell_other _ _ _ _ (by intro e; injection e with e; exact hne e.symm), World.cell?_setCell_other _ _ _ _ (by intro e; injection e with e; exact hne e.symm)]; exact h
theorem dS_store {w W : World} {B b o : Nat} {M : List Value} {r0 sv qv : Value} (h : Below w.heap.size w W ∧ B ≤ W.heap.size ∧ (∃ x y, Is W (w.heap.size + 1 + 1 + 1) [x, y] 60) ∧ Is W (w.heap.size + 1 + 1) M 25 ∧ W.cell? ⟨w.heap.size + 1 + 1 + 1 + 1, 0, none⟩ = some r0 ∧ W.cell? ⟨w.heap.size + 1 + 1 + 1 + 1, 1, none⟩ = some (.int .i64 0) ∧ W.cell? ⟨w.heap.size, 0, none⟩ = some sv ∧ W.cell? ⟨b, o, none⟩ = some qv) (hne : b ≠ w.heap.size + 1 + 1 + 1) (u v : Value) :
    Below w.heap.size w ((W.setCell ⟨w.heap.size + 1 + 1 + 1, 0, none⟩ u).setCell ⟨w.heap.size + 1 + 1 + 1, 1, none⟩ v) ∧ B ≤ ((W.setCell ⟨w.heap.size + 1 + 1 + 1, 0, none⟩ u).setCell ⟨w.heap.size + 1 + 1 + 1, 1, none⟩ v).heap.size ∧ (∃ x y, Is ((W.setCell ⟨w.heap.size + 1 + 1 + 1, 0, none⟩ u).setCell ⟨w.heap.size + 1 + 1 + 1, 1, none⟩ v) (w.heap.size + 1 + 1 + 1) [x, y] 60) ∧ Is ((W.setCell ⟨w.heap.size + 1 + 1 + 1, 0, none⟩ u).setCell ⟨w.heap.size + 1 + 1 + 1, 1, none⟩ v) (w.heap.size + 1 + 1) M 25 ∧ ((W.setCell ⟨w.heap.size + 1 + 1 + 1, 0, none⟩ u).setCell ⟨w.heap.size + 1 + 1 + 1, 1, none⟩ v).cell? ⟨w.heap.size + 1 + 1 + 1 + 1, 0, none⟩ = some r0 ∧ ((W.setCell ⟨w.heap.size + 1 + 1 + 1, 0, none⟩ u).setCell ⟨w.heap.size + 1 + 1 + 1, 1, none⟩ v).cell? ⟨w.heap.size + 1 + 1 + 1 + 1, 1, none⟩ = some (.int .i64 0) ∧ ((W.setCell ⟨w.heap.size + 1 + 1 + 1, 0, none⟩ u).setCell ⟨w.heap.size + 1 + 1 + 1, 1, none⟩ v).cell? ⟨w.heap.size, 0, none⟩ = some sv ∧ ((W.setCell ⟨w.heap.size + 1 + 1 + 1, 0, none⟩ u).setCell ⟨w.heap.size + 1 + 1 + 1, 1, none⟩ v).cell? ⟨b, o, none⟩ = some qv := by
  obtain ⟨h1, h2, ⟨x, y, h3⟩, h4, h5, h6, h7, h8⟩ := h
  refine ⟨(h1.setCell (by show _ ≤ w.heap.size + 1 + 1 + 1; omega) _).setCell (by show _ ≤ w.heap.size + 1 + 1 + 1; omega) _, by simp [World.setCell]; exact h2, ⟨u, v, (h3.set 0 u).set 1 v⟩, (h4.other _ _ (by show w.heap.size + 1 + 1 + 1 ≠ _; omega)).other _ _ (by show w.heap.size + 1 + 1 + 1 ≠ _; omega), cell_two h5 (by omega), cell_two h6 (by omega), cell_two h7 (by omega), cell_two h8 hne⟩

theorem boxes5 (w : World) (c1 c2 c3 c4 c5 : List Value) (t1 t2 t3 t4 t5 : TypeId) : Below w.heap.size w (((((w.alloc (.cells c1.toArray t1)).alloc (.cells c2.toArray t2)).alloc (.cells c3.toArray t3)).alloc (.cells c4.toArray t4)).alloc (.cells c5.toArray t5)) ∧
    Is (((((w.alloc (.cells c1.toArray t1)).alloc (.cells c2.toArray t2)).alloc (.cells c3.toArray t3)).alloc (.cells c4.toArray t4)).alloc (.cells c5.toArray t5)) w.heap.size c1 t1 ∧ Is (((((w.alloc (.cells c1.toArray t1)).alloc (.cells c2.toArray t2)).alloc (.cells c3.toArray t3)).alloc (.cells c4.toArray t4)).alloc (.cells c5.toArray t5)) (w.heap.size + 1 + 1) c3 t3 ∧
    Is (((((w.alloc (.cells c1.toArray t1)).alloc (.cells c2.toArray t2)).alloc (.cells c3.toArray t3)).alloc (.cells c4.toArray t4)).alloc (.cells c5.toArray t5)) (w.heap.size + 1 + 1 + 1) c4 t4 ∧ Is (((((w.alloc (.cells c1.toArray t1)).alloc (.cells c2.toArray t2)).alloc (.cells c3.toArray t3)).alloc (.cells c4.toArray t4)).alloc (.cells c5.toArray t5)) (w.heap.size + 1 + 1 + 1 + 1) c5 t5 ∧
    w.heap.size + 5 ≤ (((((w.alloc (.cells c1.toArray t1)).alloc (.cells c2.toArray t2)).alloc (.cells c3.toArray t3)).alloc (.cells c4.toArray t4)).alloc (.cells c5.toArray t5)).heap.size := by
  obtain ⟨h1, h2, h3, h4, h5⟩ := boxes4 w c1 c2 c3 c4 t1 t2 t3 t4
  exact ⟨h1.alloc h1.size _, h2.alloc _, h3.alloc _, h4.alloc _, Is.new' c5 t5 (by simp), by simp⟩

section
variable {Z : Nat → Prop} {w W : World} {B : Nat}
theorem zup_lt (hZ : ∀ b, Z b → b < w.heap.size) (hB2 : B ≤ W.heap.size) (hs : w.heap.size ≤ W.heap.size) : ∀ b, Zup Z w.heap.size B b → b < W.heap.size := fun b h => by
  rcases h with h | h
  · have := hZ b h; omega
  · omega
theorem zup_in : ∀ b, b < w.heap.size → Zup Z w.heap.size B b → Z b := fun b hlt h => by
  rcases h with h | h
  · exact h
  · omega
theorem with_up {K : List (List Int × Value)} {sv bv : Value} {x : List Int} (hZ : ∀ b, Z b → b < w.heap.size) (hb : Below w.heap.size w W) (hB2 : B ≤ W.heap.size) (hk : KeysZ Z w sv K) (h30 : K.length ≤ 30) (hx : BytZ (Zup Z w.heap.size B) W bv x) (hxb : Sz.Byt x) :
    Calls Tryd.prog 61 #[.agg #[sv, .int .i64 0], bv] W fun e w' => ∃ fa fn fc fe, e = .returned (.agg #[.slice fa fn fc, .int .i64 fe]) ∧ HandZ (Zup Z w.heap.size B) w' (.agg #[.slice fa fn fc, .int .i64 fe]) (Lk.put x (stk K)) ∧ Below W.heap.size W w' := by
  refine (rwith_z (Zup Z w.heap.size B) K sv bv x W (zup_lt hZ hB2 hb.size) (hk.more hb zup_in) h30 hx hxb).mono ?_
  rintro e w1 ⟨v1, rfl, hh1, hb1⟩
  obtain ⟨fa, fn, fc, fe, hfe, -⟩ := hh1.form
  subst hfe
  exact ⟨fa, fn, fc, fe, rfl, hh1, hb1⟩
theorem told_up {K : List (List Int × Value)} {sv : Value} (d : Bool) (hZ : ∀ b, Z b → b < w.heap.size) (hb : Below w.heap.size w W) (hB2 : B ≤ W.heap.size) (hk : KeysZ Z w sv K) (h30 : K.length ≤ 30) :
    Calls Tryd.prog 63 #[.agg #[sv, .int .i64 0], .bool d] W fun e w' => ∃ fa fn fc fe, e = .returned (.agg #[.slice fa fn fc, .int .i64 fe]) ∧ HandZ (Zup Z w.heap.size B) w' (.agg #[.slice fa fn fc, .int .i64 fe]) (Lk.tell d (stk K)) ∧ Below W.heap.size W w' := by
  refine (rtold_z (Zup Z w.heap.size B) K sv d W (zup_lt hZ hB2 hb.size) (hk.more hb zup_in) h30).mono ?_
  rintro e w1 ⟨v1, rfl, hh1, hb1⟩
  obtain ⟨fa, fn, fc, fe, hfe, -⟩ := hh1.form
  subst hfe
  exact ⟨fa, fn, fc, fe, rfl, hh1, hb1⟩
theorem then_up {o : Lk.Out} {hv bv : Value} {x : List Int} (hZ : ∀ b, Z b → b < w.heap.size) (hb : Below w.heap.size w W) (hB2 : B ≤ W.heap.size) (hh : HandZ (Zup Z w.heap.size B) W hv o) (h30 : ∀ s, o = .ok s → s.length ≤ 30) (hx : BytZ Z w bv x) (hxb : Sz.Byt x) :
    Calls Tryd.prog 62 #[hv, bv] W fun e w' => ∃ fa fn fc fe, e = .returned (.agg #[.slice fa fn fc, .int .i64 fe]) ∧ HandZ (Zup Z w.heap.size B) w' (.agg #[.slice fa fn fc, .int .i64 fe]) (o.bind (Lk.put x)) ∧ Below W.heap.size W w' := by
  refine (rthen_z (Zup Z w.heap.size B) o hv bv x W (zup_lt hZ hB2 hb.size) hh h30 (hx.more hb zup_in) hxb).mono ?_
  rintro e w1 ⟨v1, rfl, hh1, hb1⟩
  obtain ⟨fa, fn, fc, fe, hfe, -⟩ := hh1.form
  subst hfe
  exact ⟨fa, fn, fc, fe, rfl, hh1, hb1⟩
/-- An answer in the result's cells. -/
theorem done_end {w1 : World} {fa : Option Addr} {fn fc : Nat} {fe : Int} {r : Lk.Out} {x y : Value} (hh : HandZ (Zup Z w.heap.size B) w1 (.agg #[.slice fa fn fc, .int .i64 fe]) r) (hlt : w.heap.size + 4 ≤ B) (hb : Below w.heap.size w w1) (hI : Is w1 (w.heap.size + 1 + 1 + 1) [x, y] 60) :
    HandZ Z ((w1.setCell ⟨w.heap.size + 1 + 1 + 1, 0, none⟩ (.slice fa fn fc)).setCell ⟨w.heap.size + 1 + 1 + 1, 1, none⟩ (.int .i64 fe)) (.agg #[.slice fa fn fc, .int .i64 fe]) r ∧ Below w.heap.size w ((w1.setCell ⟨w.heap.size + 1 + 1 + 1, 0, none⟩ (.slice fa fn fc)).setCell ⟨w.heap.size + 1 + 1 + 1, 1, none⟩ (.int .i64 fe)) ∧
    Is ((w1.setCell ⟨w.heap.size + 1 + 1 + 1, 0, none⟩ (.slice fa fn fc)).setCell ⟨w.heap.size + 1 + 1 + 1, 1, none⟩ (.int .i64 fe)) (w.heap.size + 1 + 1 + 1) [.slice fa fn fc, .int .i64 fe] 60 := by
  refine ⟨hh.to (fun W hW => hW.stored (by simp [World.setCell]) (fun b hlt2 hn => ?_) (fun b hb => .inl hb)), (hb.setCell (by show _ ≤ w.heap.size + 1 + 1 + 1; omega) _).setCell (by show _ ≤ w.heap.size + 1 + 1 + 1; omega) _, (hI.set 0 _).set 1 _⟩
  have hne : b ≠ w.heap.size + 1 + 1 + 1 := fun e => hn (.inr (by omega))
  rw [Below.heap_setCell _ _ _ _ hne, Below.heap_setCell _ _ _ _ hne]
end

set_option maxRecDepth 100000 in
set_option maxHeartbeats 2000000 in
theorem done_push (Z : Nat → Prop) (m : List Int) (h n : Int) (w : World) (hm : m.length = 32) (hmb : Sz.Byt m) (hZ : ∀ b, Z b → b < w.heap.size) (K : List (List Int × Value)) (sv ov : Value) (x : List Int) (hk : KeysZ Z w sv K) (h30 : K.length ≤ 30) (hx : BytZ Z w ov x) (hxb : Sz.Byt x) :
    Calls Tryd.prog 47 #[.agg #[sv, .int .i64 0], .agg #[.int .i64 1, .int .i64 n, ov], .agg (vals m).toArray, .int .i64 h] w fun e w' => ∃ v', e = .returned v' ∧ HandZ Z w' v' (Lk.put x (stk K)) ∧ Below w.heap.size w w' := by
  obtain ⟨ka, kc, rfl, _, _, _⟩ := (hk w (SameZ.refl Z w)).form
  obtain ⟨xa, xc, rfl, _, _⟩ := (hx w (SameZ.refl Z w)).shape
  generalize vals m = M
  obtain ⟨hf1, hf2, hf3, hf4, hf5⟩ := boxes4 w [.slice ka K.length kc, .int .i64 0] [.int .i64 1, .int .i64 n, .slice xa x.length xc] M [.slice none 0 0, .int .i64 0] 60 38 25 60
  have HW := hide (with_up (B := w.heap.size + 4) hZ hf1 hf5 hk h30 (hx.more hf1 zup_in) hxb)
  have HIX := hide hf4
  have HBX := hide hf1
  clear hf1 hf2 hf3 hf4 hf5 hk hx
  generalize Lk.put x (stk K) = r at *
  generalize K.length = kl at *
  generalize x.length = xl at *
  go_enter Tryd.func47, Tryd.ntmps47
  go_wp2_with fail
  refine HW.out.mono ?_
  rintro e w1 ⟨fa, fn, fc, fe, rfl, hh1, hb1⟩
  have HI1 := hide (HIX.out.below hb1 HIX.out.lt)
  have HH1 := hide hh1
  have HB1 := hide (HBX.out.trans (hb1.mono HBX.out.size))
  have hc0 := HI1.out.cell 0
  have hc1 := HI1.out.cell 1
  have hf1 := HI1.out.frozen
  simp only [List.getElem?_cons_zero, List.getElem?_cons_succ] at hc0 hc1
  clear hh1 hb1
  go_wp2
  obtain ⟨hz, hbz, hiz⟩ := done_end HH1.out (by omega) HB1.out HI1.out
  exact bodyPost_ret (v := .agg #[.slice fa fn fc, .int .i64 fe]) (results_cell1 Tryd.results47 rfl (hiz.loadS Tryd.underlying60 (by kernel_rfl))) rfl ⟨_, rfl, hz, hbz⟩

set_option maxRecDepth 100000 in
set_option maxHeartbeats 2000000 in
theorem done_early (Z : Nat → Prop) (m : List Int) (h n : Int) (w : World) (hm : m.length = 32) (hmb : Sz.Byt m) (hZ : ∀ b, Z b → b < w.heap.size) (K : List (List Int × Value)) (sv ov : Value) (x : List Int) (hk : KeysZ Z w sv K) (hlt : h < n) (hx : Has w ov x) :
    Calls Tryd.prog 47 #[.agg #[sv, .int .i64 0], .agg #[.int .i64 10, .int .i64 n, ov], .agg (vals m).toArray, .int .i64 h] w fun e w' => ∃ v', e = .returned v' ∧ HandZ Z w' v' (.err 8) ∧ Below w.heap.size w w' := by
  obtain ⟨ka, kc, rfl, _, _, _⟩ := (hk w (SameZ.refl Z w)).form
  obtain ⟨xa, xc, rfl, _, _⟩ := hx.shape
  generalize vals m = M
  have HK : Hid (∀ W, Below w.heap.size w W → KeysZ Z W (.slice ka K.length kc) K) := hide (fun W hW => hk.more hW (fun _ _ h => h))
  clear hk hx
  generalize K.length = kl at *
  generalize x.length = xl at *
  go_enter Tryd.func47, Tryd.ntmps47
  go_wp2
  have hbz : Below w.heap.size w ((((w.alloc (.cells #[.slice ka kl kc, .int .i64 0] 60)).alloc (.cells #[.int .i64 10, .int .i64 n, .slice xa xl xc] 38)).alloc (.cells M.toArray 25)).alloc (.cells #[.slice none 0 0, .int .i64 8] 60)) := (below_alloc3 w _ _ _).alloc (by simp; omega) _
  exact bodyPost_ret (v := .agg #[.slice none 0 0, .int .i64 8]) (by simp [results, Tryd.results47, go_sem]) rfl ⟨_, rfl, ⟨by decide, rfl⟩, hbz⟩

set_option maxRecDepth 100000 in
set_option maxHeartbeats 2000000 in
theorem done_on (Z : Nat → Prop) (m : List Int) (h n : Int) (w : World) (hm : m.length = 32) (hmb : Sz.Byt m) (hZ : ∀ b, Z b → b < w.heap.size) (K : List (List Int × Value)) (sv ov : Value) (x : List Int) (hk : KeysZ Z w sv K) (hlt : ¬ h < n) (hx : Has w ov x) :
    Calls Tryd.prog 47 #[.agg #[sv, .int .i64 0], .agg #[.int .i64 10, .int .i64 n, ov], .agg (vals m).toArray, .int .i64 h] w fun e w' => ∃ v', e = .returned v' ∧ HandZ Z w' v' (.ok (stk K)) ∧ Below w.heap.size w w' := by
  obtain ⟨ka, kc, rfl, _, _, _⟩ := (hk w (SameZ.refl Z w)).form
  obtain ⟨xa, xc, rfl, _, _⟩ := hx.shape
  generalize vals m = M
  have HK : Hid (∀ W, Below w.heap.size w W → KeysZ Z W (.slice ka K.length kc) K) := hide (fun W hW => hk.more hW (fun _ _ h => h))
  clear hk hx
  generalize K.length = kl at *
  generalize x.length = xl at *
  go_enter Tryd.func47, Tryd.ntmps47
  go_wp2
  have hbz : Below w.heap.size w ((((w.alloc (.cells #[.slice ka kl kc, .int .i64 0] 60)).alloc (.cells #[.int .i64 10, .int .i64 n, .slice xa xl xc] 38)).alloc (.cells M.toArray 25)).alloc (.cells #[.slice ka kl kc, .int .i64 0] 60)) := (below_alloc3 w _ _ _).alloc (by simp; omega) _
  have hz := HK.out _ hbz
  exact bodyPost_ret (v := .agg #[.slice ka kl kc, .int .i64 0]) (by simp [results, Tryd.results47, go_sem]) rfl ⟨_, rfl, ⟨_, K, rfl, hz, rfl⟩, hbz⟩

set_option maxRecDepth 100000 in
set_option maxHeartbeats 2000000 in
theorem done_few2 (Z : Nat → Prop) (m : List Int) (h n : Int) (w : World) (hm : m.length = 32) (hmb : Sz.Byt m) (hZ : ∀ b, Z b → b < w.heap.size) (K : List (List Int × Value)) (sv ov : Value) (x : List Int) (hk : KeysZ Z w sv K) (hf : K = []) (hx : Has w ov x) :
    Calls Tryd.prog 47 #[.agg #[sv, .int .i64 0], .agg #[.int .i64 2, .int .i64 n, ov], .agg (vals m).toArray, .int .i64 h] w fun e w' => ∃ v', e = .returned v' ∧ HandZ Z w' v' (.err 7) ∧ Below w.heap.size w w' := by
  obtain ⟨ka, kc, rfl, _, hkm, _⟩ := (hk w (SameZ.refl Z w)).form
  unfold maxLen at hkm
  obtain ⟨xa, xc, rfl, _, _⟩ := hx.shape
  generalize vals m = M
  clear hk hx
  subst hf
  rw [List.length_nil]
  generalize x.length = xl at *
  go_enter Tryd.func47, Tryd.ntmps47
  go_wp2
  exact bodyPost_ret (v := .agg #[.slice none 0 0, .int .i64 7]) (by simp [results, Tryd.results47, go_sem]) rfl ⟨_, rfl, ⟨by decide, rfl⟩, (below_alloc3 w _ _ _).alloc (by simp; omega) _⟩

set_option maxRecDepth 100000 in
set_option maxHeartbeats 2000000 in
theorem done_few3 (Z : Nat → Prop) (m : List Int) (h n : Int) (w : World) (hm : m.length = 32) (hmb : Sz.Byt m) (hZ : ∀ b, Z b → b < w.heap.size) (K : List (List Int × Value)) (sv ov : Value) (x : List Int) (hk : KeysZ Z w sv K) (hf : K = []) (hx : Has w ov x) :
    Calls Tryd.prog 47 #[.agg #[sv, .int .i64 0], .agg #[.int .i64 3, .int .i64 n, ov], .agg (vals m).toArray, .int .i64 h] w fun e w' => ∃ v', e = .returned v' ∧ HandZ Z w' v' (.err 7) ∧ Below w.heap.size w w' := by
  obtain ⟨ka, kc, rfl, _, hkm, _⟩ := (hk w (SameZ.refl Z w)).form
  unfold maxLen at hkm
  obtain ⟨xa, xc, rfl, _, _⟩ := hx.shape
  generalize vals m = M
  clear hk hx
  subst hf
  rw [List.length_nil]
  generalize x.length = xl at *
  go_enter Tryd.func47, Tryd.ntmps47
  go_wp2
  exact bodyPost_ret (v := .agg #[.slice none 0 0, .int .i64 7]) (by simp [results, Tryd.results47, go_sem]) rfl ⟨_, rfl, ⟨by decide, rfl⟩, (below_alloc3 w _ _ _).alloc (by simp; omega) _⟩

set_option maxRecDepth 100000 in
set_option maxHeartbeats 2000000 in
theorem done_few6 (Z : Nat → Prop) (m : List Int) (h n : Int) (w : World) (hm : m.length = 32) (hmb : Sz.Byt m) (hZ : ∀ b, Z b → b < w.heap.size) (K : List (List Int × Value)) (sv ov : Value) (x : List Int) (hk : KeysZ Z w sv K) (hf : K = []) (hx : Has w ov x) :
    Calls Tryd.prog 47 #[.agg #[sv, .int .i64 0], .agg #[.int .i64 6, .int .i64 n, ov], .agg (vals m).toArray, .int .i64 h] w fun e w' => ∃ v', e = .returned v' ∧ HandZ Z w' v' (.err 7) ∧ Below w.heap.size w w' := by
  obtain ⟨ka, kc, rfl, _, hkm, _⟩ := (hk w (SameZ.refl Z w)).form
  unfold maxLen at hkm
  obtain ⟨xa, xc, rfl, _, _⟩ := hx.shape
  generalize vals m = M
  clear hk hx
  subst hf
  rw [List.length_nil]
  generalize x.length = xl at *
  go_enter Tryd.func47, Tryd.ntmps47
  go_wp2
  exact bodyPost_ret (v := .agg #[.slice none 0 0, .int .i64 7]) (by simp [results, Tryd.results47, go_sem]) rfl ⟨_, rfl, ⟨by decide, rfl⟩, (below_alloc3 w _ _ _).alloc (by simp; omega) _⟩

set_option maxRecDepth 100000 in
set_option maxHeartbeats 2000000 in
theorem done_few7 (Z : Nat → Prop) (m : List Int) (h n : Int) (w : World) (hm : m.length = 32) (hmb : Sz.Byt m) (hZ : ∀ b, Z b → b < w.heap.size) (K : List (List Int × Value)) (sv ov : Value) (x : List Int) (hk : KeysZ Z w sv K) (hf : K = []) (hx : Has w ov x) :
    Calls Tryd.prog 47 #[.agg #[sv, .int .i64 0], .agg #[.int .i64 7, .int .i64 n, ov], .agg (vals m).toArray, .int .i64 h] w fun e w' => ∃ v', e = .returned v' ∧ HandZ Z w' v' (.err 7) ∧ Below w.heap.size w w' := by
  obtain ⟨ka, kc, rfl, _, hkm, _⟩ := (hk w (SameZ.refl Z w)).form
  unfold maxLen at hkm
  obtain ⟨xa, xc, rfl, _, _⟩ := hx.shape
  generalize vals m = M
  clear hk hx
  subst hf
  rw [List.length_nil]
  generalize x.length = xl at *
  go_enter Tryd.func47, Tryd.ntmps47
  go_wp2
  exact bodyPost_ret (v := .agg #[.slice none 0 0, .int .i64 7]) (by simp [results, Tryd.results47, go_sem]) rfl ⟨_, rfl, ⟨by decide, rfl⟩, (below_alloc3 w _ _ _).alloc (by simp; omega) _⟩

set_option maxRecDepth 100000 in
set_option maxHeartbeats 2000000 in
theorem done_few14 (Z : Nat → Prop) (m : List Int) (h n : Int) (w : World) (hm : m.length = 32) (hmb : Sz.Byt m) (hZ : ∀ b, Z b → b < w.heap.size) (K : List (List Int × Value)) (sv ov : Value) (x : List Int) (hk : KeysZ Z w sv K) (hf : K = []) (hx : Has w ov x) :
    Calls Tryd.prog 47 #[.agg #[sv, .int .i64 0], .agg #[.int .i64 14, .int .i64 n, ov], .agg (vals m).toArray, .int .i64 h] w fun e w' => ∃ v', e = .returned v' ∧ HandZ Z w' v' (.err 7) ∧ Below w.heap.size w w' := by
  obtain ⟨ka, kc, rfl, _, hkm, _⟩ := (hk w (SameZ.refl Z w)).form
  unfold maxLen at hkm
  obtain ⟨xa, xc, rfl, _, _⟩ := hx.shape
  generalize vals m = M
  clear hk hx
  subst hf
  rw [List.length_nil]
  generalize x.length = xl at *
  go_enter Tryd.func47, Tryd.ntmps47
  go_wp2
  exact bodyPost_ret (v := .agg #[.slice none 0 0, .int .i64 7]) (by simp [results, Tryd.results47, go_sem]) rfl ⟨_, rfl, ⟨by decide, rfl⟩, (below_alloc3 w _ _ _).alloc (by simp; omega) _⟩

set_option maxRecDepth 100000 in
set_option maxHeartbeats 2000000 in
theorem done_few4 (Z : Nat → Prop) (m : List Int) (h n : Int) (w : World) (hm : m.length = 32) (hmb : Sz.Byt m) (hZ : ∀ b, Z b → b < w.heap.size) (K : List (List Int × Value)) (sv ov : Value) (x : List Int) (hk : KeysZ Z w sv K) (hf : K.length < 2) (hx : Has w ov x) :
    Calls Tryd.prog 47 #[.agg #[sv, .int .i64 0], .agg #[.int .i64 4, .int .i64 n, ov], .agg (vals m).toArray, .int .i64 h] w fun e w' => ∃ v', e = .returned v' ∧ HandZ Z w' v' (.err 7) ∧ Below w.heap.size w w' := by
  obtain ⟨ka, kc, rfl, _, hkm, _⟩ := (hk w (SameZ.refl Z w)).form
  unfold maxLen at hkm
  obtain ⟨xa, xc, rfl, _, _⟩ := hx.shape
  generalize vals m = M
  clear hk hx
  generalize K.length = kl at *
  have hlt : (kl : Int) - (2 : Int) < 0 := by omega
  have hlt2 : decide ((kl : Int) - (2 : Int) < 0) = true := decide_eq_true hlt
  generalize x.length = xl at *
  go_enter Tryd.func47, Tryd.ntmps47
  go_wp2
  exact bodyPost_ret (v := .agg #[.slice none 0 0, .int .i64 7]) (by simp [results, Tryd.results47, go_sem]) rfl ⟨_, rfl, ⟨by decide, rfl⟩, (below_alloc3 w _ _ _).alloc (by simp; omega) _⟩

set_option maxRecDepth 100000 in
set_option maxHeartbeats 2000000 in
theorem done_few5 (Z : Nat → Prop) (m : List Int) (h n : Int) (w : World) (hm : m.length = 32) (hmb : Sz.Byt m) (hZ : ∀ b, Z b → b < w.heap.size) (K : List (List Int × Value)) (sv ov : Value) (x : List Int) (hk : KeysZ Z w sv K) (hf : K.length < 2) (hx : Has w ov x) :
    Calls Tryd.prog 47 #[.agg #[sv, .int .i64 0], .agg #[.int .i64 5, .int .i64 n, ov], .agg (vals m).toArray, .int .i64 h] w fun e w' => ∃ v', e = .returned v' ∧ HandZ Z w' v' (.err 7) ∧ Below w.heap.size w w' := by
  obtain ⟨ka, kc, rfl, _, hkm, _⟩ := (hk w (SameZ.refl Z w)).form
  unfold maxLen at hkm
  obtain ⟨xa, xc, rfl, _, _⟩ := hx.shape
  generalize vals m = M
  clear hk hx
  generalize K.length = kl at *
  have hlt : (kl : Int) - (2 : Int) < 0 := by omega
  have hlt2 : decide ((kl : Int) - (2 : Int) < 0) = true := decide_eq_true hlt
  generalize x.length = xl at *
  go_enter Tryd.func47, Tryd.ntmps47
  go_wp2
  exact bodyPost_ret (v := .agg #[.slice none 0 0, .int .i64 7]) (by simp [results, Tryd.results47, go_sem]) rfl ⟨_, rfl, ⟨by decide, rfl⟩, (below_alloc3 w _ _ _).alloc (by simp; omega) _⟩

set_option maxRecDepth 100000 in
set_option maxHeartbeats 2000000 in
theorem done_few8 (Z : Nat → Prop) (m : List Int) (h n : Int) (w : World) (hm : m.length = 32) (hmb : Sz.Byt m) (hZ : ∀ b, Z b → b < w.heap.size) (K : List (List Int × Value)) (sv ov : Value) (x : List Int) (hk : KeysZ Z w sv K) (hf : K.length < 2) (hx : Has w ov x) :
    Calls Tryd.prog 47 #[.agg #[sv, .int .i64 0], .agg #[.int .i64 8, .int .i64 n, ov], .agg (vals m).toArray, .int .i64 h] w fun e w' => ∃ v', e = .returned v' ∧ HandZ Z w' v' (.err 7) ∧ Below w.heap.size w w' := by
  obtain ⟨ka, kc, rfl, _, hkm, _⟩ := (hk w (SameZ.refl Z w)).form
  unfold maxLen at hkm
  obtain ⟨xa, xc, rfl, _, _⟩ := hx.shape
  generalize vals m = M
  clear hk hx
  generalize K.length = kl at *
  have hlt : (kl : Int) - (2 : Int) < 0 := by omega
  have hlt2 : decide ((kl : Int) - (2 : Int) < 0) = true := decide_eq_true hlt
  generalize x.length = xl at *
  go_enter Tryd.func47, Tryd.ntmps47
  go_wp2
  exact bodyPost_ret (v := .agg #[.slice none 0 0, .int .i64 7]) (by simp [results, Tryd.results47, go_sem]) rfl ⟨_, rfl, ⟨by decide, rfl⟩, (below_alloc3 w _ _ _).alloc (by simp; omega) _⟩

set_option maxRecDepth 100000 in
set_option maxHeartbeats 2000000 in
theorem done_few9 (Z : Nat → Prop) (m : List Int) (h n : Int) (w : World) (hm : m.length = 32) (hmb : Sz.Byt m) (hZ : ∀ b, Z b → b < w.heap.size) (K : List (List Int × Value)) (sv ov : Value) (x : List Int) (hk : KeysZ Z w sv K) (hn1 : 1 ≤ n) (hn9 : n ≤ 9) (hf : (K.length : Int) < 1 + n) (hx : Has w ov x) :
    Calls Tryd.prog 47 #[.agg #[sv, .int .i64 0], .agg #[.int .i64 9, .int .i64 n, ov], .agg (vals m).toArray, .int .i64 h] w fun e w' => ∃ v', e = .returned v' ∧ HandZ Z w' v' (.err 7) ∧ Below w.heap.size w w' := by
  obtain ⟨ka, kc, rfl, _, hkm, _⟩ := (hk w (SameZ.refl Z w)).form
  unfold maxLen at hkm
  obtain ⟨xa, xc, rfl, _, _⟩ := hx.shape
  generalize vals m = M
  clear hk hx
  generalize K.length = kl at *
  have hlt : (kl : Int) - (1 + n) < 0 := by omega
  have hlt2 : decide ((kl : Int) - (1 + n) < 0) = true := decide_eq_true hlt
  generalize x.length = xl at *
  go_enter Tryd.func47, Tryd.ntmps47
  go_wp2
  exact bodyPost_ret (v := .agg #[.slice none 0 0, .int .i64 7]) (by simp [results, Tryd.results47, go_sem]) rfl ⟨_, rfl, ⟨by decide, rfl⟩, (below_alloc3 w _ _ _).alloc (by simp; omega) _⟩
end Go.Proofs.YtkdihbgjeanjdaaDoor

/- The document's answer on locks: one op (Done) that takes from what is at hand. -/
namespace Go.Proofs.YtkdihbgjeanjdaaDoor
open Go.RowKit
set_option linter.unusedVariables false
set_option linter.unusedSimpArgs false

theorem put_then (x y : List Int) (s : List (List Int)) (h : s.length < 30) : (Lk.put x s).bind (Lk.put y) = Lk.put y (x :: s) := by
  unfold Lk.put
  rw [if_neg (by omega)]
  rfl
theorem isP {w W : World} {b : Nat} {x y : Value} (h : Is W b [x, y] 60) : W.cell? ⟨b, 0, none⟩ = some x ∧ W.cell? ⟨b, 1, none⟩ = some y := ⟨h.cell 0, h.cell 1⟩

set_option maxRecDepth 100000 in
set_option maxHeartbeats 2000000 in
theorem done_drop (Z : Nat → Prop) (m : List Int) (h n : Int) (w : World) (hm : m.length = 32) (hmb : Sz.Byt m) (hZ : ∀ b, Z b → b < w.heap.size) (K : List (List Int × Value)) (p : List Int × Value) (sv ov : Value) (x : List Int) (hk : KeysZ Z w sv (K ++ [p])) (h30 : (K ++ [p]).length ≤ 30) (hx : Has w ov x) :
    Calls Tryd.prog 47 #[.agg #[sv, .int .i64 0], .agg #[.int .i64 3, .int .i64 n, ov], .agg (vals m).toArray, .int .i64 h] w fun e w' => ∃ v', e = .returned v' ∧ HandZ Z w' v' (.ok (stk K)) ∧ Below w.heap.size w w' := by
  obtain ⟨ka, kc, rfl, _, _, _⟩ := (hk w (SameZ.refl Z w)).form
  obtain ⟨xa, xc, rfl, _, _⟩ := hx.shape
  have hkl : (K ++ [p]).length = K.length + 1 := by simp
  rw [hkl] at hk h30 ⊢
  have hML : (vals m).length = 32 := by rw [vals_length]; exact hm
  have hszM : (Tryd.prog.info? 25).map (·.size) = some (vals m).length := by rw [hML]; exact size_dig
  obtain ⟨b, off, rfl, hkc1, hkc2, hblt, hcP, hpZ, hpB⟩ := KeysZ.at (K := K) (L := []) (p := p) hk
  obtain ⟨pa, pc, hpe, _, hpm⟩ := (hpZ w (SameZ.refl Z w)).shape
  rw [hpe] at hcP hpZ
  have hfront := hk.front
  unfold maxLen at hkc2 hpm
  have hk29 : K.length < 30 := by omega
  have HSN : Hid (stk (K ++ [p]) = p.1 :: stk K) := hide (by simp [stk])
  have HSL : Hid ((stk K).length = K.length) := hide (stk_length K)
  obtain ⟨M, hM⟩ : ∃ M, M = vals m := ⟨_, rfl⟩
  rw [← hM] at hML hszM ⊢
  clear hM
  obtain ⟨hg1, hg2, hg3, hg4, hg5⟩ := boxes4 w [.slice (some ⟨b, off, none⟩) (K.length + 1) kc, .int .i64 0] [.int .i64 3, .int .i64 n, .slice xa x.length xc] M [.slice none 0 0, .int .i64 0] 60 38 25 60
  obtain ⟨hf1, hf2, hf3, hf4, hf5, hf6⟩ := boxes5 w [.slice (some ⟨b, off, none⟩) (K.length + 1) kc, .int .i64 0] [.int .i64 3, .int .i64 n, .slice xa x.length xc] M [.slice none 0 0, .int .i64 0] [.slice (some ⟨b, off, none⟩) K.length kc, .int .i64 0] 60 38 25 60 60
  have hctop := hcP _ (SameZ.of_below hg1)
  have HH : Hid (∀ W, Below w.heap.size w W → HandZ Z W (.agg #[.slice (some ⟨b, off, none⟩) K.length kc, .int .i64 0]) (.ok (stk K))) := hide (fun W hW => ⟨_, K, rfl, hfront.more hW (fun _ _ h => h), rfl⟩)
  clear hg1 hg2 hg3 hg4 hg5 hf1 hf2 hf3 hf4 hf5 hf6 hk hx hcP hkl hfront
  generalize K.length = kl at *
  generalize x.length = xl at *
  go_enter Tryd.func47, Tryd.ntmps47
  go_wp2
  have hbz := fun c4 : List Value => ((below_alloc3 w (.cells #[.slice (some ⟨b, off, none⟩) (kl + 1) kc, .int .i64 0] 60) (.cells #[.int .i64 3, .int .i64 n, .slice xa xl xc] 38) (.cells M.toArray 25)).alloc (by simp; omega) (.cells c4.toArray 60)).alloc (by simp; omega) (.cells #[.slice (some ⟨b, off, none⟩) kl kc, .int .i64 0] 60)
  exact bodyPost_ret (v := .agg #[.slice (some ⟨b, off, none⟩) kl kc, .int .i64 0]) (by simp [results, Tryd.results47, go_sem]) rfl ⟨_, rfl, HH.out _ (hbz [.slice (some ⟨b, off, none⟩) kl kc, .int .i64 0]), hbz [.slice (some ⟨b, off, none⟩) kl kc, .int .i64 0]⟩

set_option maxRecDepth 100000 in
set_option maxHeartbeats 2000000 in
theorem done_must1 (Z : Nat → Prop) (m : List Int) (h n : Int) (w : World) (hm : m.length = 32) (hmb : Sz.Byt m) (hZ : ∀ b, Z b → b < w.heap.size) (K : List (List Int × Value)) (p : List Int × Value) (sv ov : Value) (x : List Int) (hk : KeysZ Z w sv (K ++ [p])) (h30 : (K ++ [p]).length ≤ 30) (hx : Has w ov x) (hd : Lk.isTrue p.1 = true) :
    Calls Tryd.prog 47 #[.agg #[sv, .int .i64 0], .agg #[.int .i64 6, .int .i64 n, ov], .agg (vals m).toArray, .int .i64 h] w fun e w' => ∃ v', e = .returned v' ∧ HandZ Z w' v' (.ok (stk K)) ∧ Below w.heap.size w w' := by
  obtain ⟨ka, kc, rfl, _, _, _⟩ := (hk w (SameZ.refl Z w)).form
  obtain ⟨xa, xc, rfl, _, _⟩ := hx.shape
  have hkl : (K ++ [p]).length = K.length + 1 := by simp
  rw [hkl] at hk h30 ⊢
  have hML : (vals m).length = 32 := by rw [vals_length]; exact hm
  have hszM : (Tryd.prog.info? 25).map (·.size) = some (vals m).length := by rw [hML]; exact size_dig
  obtain ⟨b, off, rfl, hkc1, hkc2, hblt, hcP, hpZ, hpB⟩ := KeysZ.at (K := K) (L := []) (p := p) hk
  obtain ⟨pa, pc, hpe, _, hpm⟩ := (hpZ w (SameZ.refl Z w)).shape
  rw [hpe] at hcP hpZ
  have hfront := hk.front
  unfold maxLen at hkc2 hpm
  have hk29 : K.length < 30 := by omega
  have HSN : Hid (stk (K ++ [p]) = p.1 :: stk K) := hide (by simp [stk])
  have HSL : Hid ((stk K).length = K.length) := hide (stk_length K)
  obtain ⟨M, hM⟩ : ∃ M, M = vals m := ⟨_, rfl⟩
  rw [← hM] at hML hszM ⊢
  clear hM
  obtain ⟨hg1, hg2, hg3, hg4, hg5⟩ := boxes4 w [.slice (some ⟨b, off, none⟩) (K.length + 1) kc, .int .i64 0] [.int .i64 6, .int .i64 n, .slice xa x.length xc] M [.slice none 0 0, .int .i64 0] 60 38 25 60
  obtain ⟨hf1, hf2, hf3, hf4, hf5, hf6⟩ := boxes5 w [.slice (some ⟨b, off, none⟩) (K.length + 1) kc, .int .i64 0] [.int .i64 6, .int .i64 n, .slice xa x.length xc] M [.slice none 0 0, .int .i64 0] [.slice (some ⟨b, off, none⟩) K.length kc, .int .i64 0] 60 38 25 60 60
  have hctop := hcP _ (SameZ.of_below hg1)
  have HH : Hid (∀ W, Below w.heap.size w W → HandZ Z W (.agg #[.slice (some ⟨b, off, none⟩) K.length kc, .int .i64 0]) (.ok (stk K))) := hide (fun W hW => ⟨_, K, rfl, hfront.more hW (fun _ _ h => h), rfl⟩)
  have HT := hide (rtrue_any (.slice pa p.1.length pc) p.1 _ (hpZ _ (SameZ.of_below hf1)))
  rw [hd] at HT
  clear hg1 hg2 hg3 hg4 hg5 hf1 hf2 hf3 hf4 hf5 hf6 hk hx hcP hkl hfront hd
  generalize K.length = kl at *
  generalize x.length = xl at *
  generalize p.1.length = pl at *
  go_enter Tryd.func47, Tryd.ntmps47
  go_wp2_with fail
  refine HT.out.mono ?_
  rintro e w1 ⟨rfl, rfl⟩
  go_wp2
  have hbz := fun c4 : List Value => ((below_alloc3 w (.cells #[.slice (some ⟨b, off, none⟩) (kl + 1) kc, .int .i64 0] 60) (.cells #[.int .i64 6, .int .i64 n, .slice xa xl xc] 38) (.cells M.toArray 25)).alloc (by simp; omega) (.cells c4.toArray 60)).alloc (by simp; omega) (.cells #[.slice (some ⟨b, off, none⟩) kl kc, .int .i64 0] 60)
  exact bodyPost_ret (v := .agg #[.slice (some ⟨b, off, none⟩) kl kc, .int .i64 0]) (by simp [results, Tryd.results47, go_sem]) rfl ⟨_, rfl, HH.out _ (hbz [.slice (some ⟨b, off, none⟩) kl kc, .int .i64 0]), hbz [.slice (some ⟨b, off, none⟩) kl kc, .int .i64 0]⟩

set_option maxRecDepth 100000 in
set_option maxHeartbeats 2000000 in
theorem done_must0 (Z : Nat → Prop) (m : List Int) (h n : Int) (w : World) (hm : m.length = 32) (hmb : Sz.Byt m) (hZ : ∀ b, Z b → b < w.heap.size) (K : List (List Int × Value)) (p : List Int × Value) (sv ov : Value) (x : List Int) (hk : KeysZ Z w sv (K ++ [p])) (h30 : (K ++ [p]).length ≤ 30) (hx : Has w ov x) (hd : Lk.isTrue p.1 = false) :
    Calls Tryd.prog 47 #[.agg #[sv, .int .i64 0], .agg #[.int .i64 6, .int .i64 n, ov], .agg (vals m).toArray, .int .i64 h] w fun e w' => ∃ v', e = .returned v' ∧ HandZ Z w' v' (.err 7) ∧ Below w.heap.size w w' := by
  obtain ⟨ka, kc, rfl, _, _, _⟩ := (hk w (SameZ.refl Z w)).form
  obtain ⟨xa, xc, rfl, _, _⟩ := hx.shape
  have hkl : (K ++ [p]).length = K.length + 1 := by simp
  rw [hkl] at hk h30 ⊢
  have hML : (vals m).length = 32 := by rw [vals_length]; exact hm
  have hszM : (Tryd.prog.info? 25).map (·.size) = some (vals m).length := by rw [hML]; exact size_dig
  obtain ⟨b, off, rfl, hkc1, hkc2, hblt, hcP, hpZ, hpB⟩ := KeysZ.at (K := K) (L := []) (p := p) hk
  obtain ⟨pa, pc, hpe, _, hpm⟩ := (hpZ w (SameZ.refl Z w)).shape
  rw [hpe] at hcP hpZ
  have hfront := hk.front
  unfold maxLen at hkc2 hpm
  have hk29 : K.length < 30 := by omega
  have HSN : Hid (stk (K ++ [p]) = p.1 :: stk K) := hide (by simp [stk])
  have HSL : Hid ((stk K).length = K.length) := hide (stk_length K)
  obtain ⟨M, hM⟩ : ∃ M, M = vals m := ⟨_, rfl⟩
  rw [← hM] at hML hszM ⊢
  clear hM
  obtain ⟨hg1, hg2, hg3, hg4, hg5⟩ := boxes4 w [.slice (some ⟨b, off, none⟩) (K.length + 1) kc, .int .i64 0] [.int .i64 6, .int .i64 n, .slice xa x.length xc] M [.slice none 0 0, .int .i64 0] 60 38 25 60
  obtain ⟨hf1, hf2, hf3, hf4, hf5, hf6⟩ := boxes5 w [.slice (some ⟨b, off, none⟩) (K.length + 1) kc, .int .i64 0] [.int .i64 6, .int .i64 n, .slice xa x.length xc] M [.slice none 0 0, .int .i64 0] [.slice (some ⟨b, off, none⟩) K.length kc, .int .i64 0] 60 38 25 60 60
  have hctop := hcP _ (SameZ.of_below hg1)
  have HH : Hid (∀ W, Below w.heap.size w W → HandZ Z W (.agg #[.slice none 0 0, .int .i64 7]) (.err 7)) := hide (fun W hW => ⟨by decide, rfl⟩)
  have HT := hide (rtrue_any (.slice pa p.1.length pc) p.1 _ (hpZ _ (SameZ.of_below hf1)))
  rw [hd] at HT
  clear hg1 hg2 hg3 hg4 hg5 hf1 hf2 hf3 hf4 hf5 hf6 hk hx hcP hkl hfront hd
  generalize K.length = kl at *
  generalize x.length = xl at *
  generalize p.1.length = pl at *
  go_enter Tryd.func47, Tryd.ntmps47
  go_wp2_with fail
  refine HT.out.mono ?_
  rintro e w1 ⟨rfl, rfl⟩
  go_wp2
  have hbz := fun c4 : List Value => ((below_alloc3 w (.cells #[.slice (some ⟨b, off, none⟩) (kl + 1) kc, .int .i64 0] 60) (.cells #[.int .i64 6, .int .i64 n, .slice xa xl xc] 38) (.cells M.toArray 25)).alloc (by simp; omega) (.cells c4.toArray 60)).alloc (by simp; omega) (.cells #[.slice (some ⟨b, off, none⟩) kl kc, .int .i64 0] 60)
  exact bodyPost_ret (v := .agg #[.slice none 0 0, .int .i64 7]) (by simp [results, Tryd.results47, go_sem]) rfl ⟨_, rfl, HH.out _ (hbz [.slice none 0 0, .int .i64 7]), hbz [.slice none 0 0, .int .i64 7]⟩

set_option maxRecDepth 100000 in
set_option maxHeartbeats 2000000 in
theorem done_dup (Z : Nat → Prop) (m : List Int) (h n : Int) (w : World) (hm : m.length = 32) (hmb : Sz.Byt m) (hZ : ∀ b, Z b → b < w.heap.size) (K : List (List Int × Value)) (p : List Int × Value) (sv ov : Value) (x : List Int) (hk : KeysZ Z w sv (K ++ [p])) (h30 : (K ++ [p]).length ≤ 30) (hx : Has w ov x) :
    Calls Tryd.prog 47 #[.agg #[sv, .int .i64 0], .agg #[.int .i64 2, .int .i64 n, ov], .agg (vals m).toArray, .int .i64 h] w fun e w' => ∃ v', e = .returned v' ∧ HandZ Z w' v' (Lk.put p.1 (p.1 :: stk K)) ∧ Below w.heap.size w w' := by
  obtain ⟨ka, kc, rfl, _, _, _⟩ := (hk w (SameZ.refl Z w)).form
  obtain ⟨xa, xc, rfl, _, _⟩ := hx.shape
  have hkl : (K ++ [p]).length = K.length + 1 := by simp
  rw [hkl] at hk h30 ⊢
  have hML : (vals m).length = 32 := by rw [vals_length]; exact hm
  have hszM : (Tryd.prog.info? 25).map (·.size) = some (vals m).length := by rw [hML]; exact size_dig
  obtain ⟨b, off, rfl, hkc1, hkc2, hblt, hcP, hpZ, hpB⟩ := KeysZ.at (K := K) (L := []) (p := p) hk
  obtain ⟨pa, pc, hpe, _, hpm⟩ := (hpZ w (SameZ.refl Z w)).shape
  rw [hpe] at hcP hpZ
  have hfront := hk.front
  unfold maxLen at hkc2 hpm
  have hk29 : K.length < 30 := by omega
  have HSN : Hid (stk (K ++ [p]) = p.1 :: stk K) := hide (by simp [stk])
  have HSL : Hid ((stk K).length = K.length) := hide (stk_length K)
  obtain ⟨M, hM⟩ : ∃ M, M = vals m := ⟨_, rfl⟩
  rw [← hM] at hML hszM ⊢
  clear hM
  obtain ⟨hg1, hg2, hg3, hg4, hg5⟩ := boxes4 w [.slice (some ⟨b, off, none⟩) (K.length + 1) kc, .int .i64 0] [.int .i64 2, .int .i64 n, .slice xa x.length xc] M [.slice none 0 0, .int .i64 0] 60 38 25 60
  obtain ⟨hf1, hf2, hf3, hf4, hf5, hf6⟩ := boxes5 w [.slice (some ⟨b, off, none⟩) (K.length + 1) kc, .int .i64 0] [.int .i64 2, .int .i64 n, .slice xa x.length xc] M [.slice none 0 0, .int .i64 0] [.slice (some ⟨b, off, none⟩) K.length kc, .int .i64 0] 60 38 25 60 60
  have hctop := hcP _ (SameZ.of_below hg1)
  have HW := hide (with_up (B := w.heap.size + 5) hZ hf1 hf6 hfront (by omega) (hpZ.more hf1 zup_in) hpB)
  have HTH : Hid (∀ W hv, Below w.heap.size w W → w.heap.size + 5 ≤ W.heap.size → HandZ (Zup Z w.heap.size (w.heap.size + 5)) W hv (Lk.put p.1 (stk K)) → Calls Tryd.prog 62 #[hv, .slice pa p.1.length pc] W fun e w' => ∃ fa fn fc fe, e = .returned (.agg #[.slice fa fn fc, .int .i64 fe]) ∧ HandZ (Zup Z w.heap.size (w.heap.size + 5)) w' (.agg #[.slice fa fn fc, .int .i64 fe]) (Lk.put p.1 (p.1 :: stk K)) ∧ Below W.heap.size W w') := hide (fun W hv hb hB hh => by
    have := then_up hZ hb hB hh (fun s hs => Lk.put_le hs (by rw [stk_length]; omega)) hpZ hpB
    rw [put_then _ _ _ (by rw [stk_length]; exact hk29)] at this
    exact this)
  have HIX := hide hf4
  have HBX := hide hf1
  have HSZ := hide hf6
  clear hg1 hg2 hg3 hg4 hg5 hf1 hf2 hf3 hf4 hf5 hf6 hk hx hcP hkl hfront
  generalize Lk.put p.1 (stk K) = r0 at *
  generalize Lk.put p.1 (p.1 :: stk K) = r at *
  generalize K.length = kl at *
  generalize x.length = xl at *
  generalize p.1.length = pl at *
  go_enter Tryd.func47, Tryd.ntmps47
  go_wp2_with fail
  refine HW.out.mono ?_
  rintro e w0 ⟨ga, gn, gc, ge, rfl, hh0, hb0⟩
  have HIX0 := hide (HIX.out.below hb0 HIX.out.lt)
  have HBX0 := hide (HBX.out.trans (hb0.mono HBX.out.size))
  have HTH0 := hide (HTH.out _ _ HBX0.out (Nat.le_trans HSZ.out hb0.size) hh0)
  clear hh0 hb0
  go_wp2_with fail
  refine HTH0.out.mono ?_
  rintro e w1 ⟨fa, fn, fc, fe, rfl, hh1, hb1⟩
  have HI1 := hide (HIX0.out.below hb1 HIX0.out.lt)
  have HH1 := hide hh1
  have HB1 := hide (HBX0.out.trans (hb1.mono HBX0.out.size))
  have hc0 := HI1.out.cell 0
  have hc1 := HI1.out.cell 1
  have hf1 := HI1.out.frozen
  simp only [List.getElem?_cons_zero, List.getElem?_cons_succ] at hc0 hc1
  clear hh1 hb1
  go_wp2
  obtain ⟨hz, hbz, hiz⟩ := done_end HH1.out (by omega) HB1.out HI1.out
  exact bodyPost_ret (v := .agg #[.slice fa fn fc, .int .i64 fe]) (results_cell1 Tryd.results47 rfl (hiz.loadS Tryd.underlying60 (by kernel_rfl))) rfl ⟨_, rfl, hz, hbz⟩
end Go.Proofs.YtkdihbgjeanjdaaDoor

/- The document's answer on locks: one op (Done) whose last statement leaves its order open. -/
namespace Go.Proofs.YtkdihbgjeanjdaaDoor
open Go.RowKit
set_option linter.unusedVariables false
set_option linter.unusedSimpArgs false

theorem put_two (x y : List Int) (s : List (List Int)) (h : s.length < 29) : (Lk.put x s).bind (Lk.put y) = .ok (y :: x :: s) := by
  unfold Lk.put
  rw [if_neg (by omega)]
  show (if (x :: s).length = 30 then _ else _) = _
  rw [if_neg (by simp only [List.length_cons]; omega)]

set_option maxRecDepth 100000 in
set_option maxHeartbeats 2000000 in
theorem done_swap (Z : Nat → Prop) (m : List Int) (h n : Int) (w : World) (hm : m.length = 32) (hmb : Sz.Byt m) (hZ : ∀ b, Z b → b < w.heap.size) (K : List (List Int × Value)) (q : List Int × Value) (p : List Int × Value) (sv ov : Value) (x : List Int) (hk : KeysZ Z w sv (K ++ [q, p])) (h30 : (K ++ [q, p]).length ≤ 30) (hx : Has w ov x) :
    Calls Tryd.prog 47 #[.agg #[sv, .int .i64 0], .agg #[.int .i64 4, .int .i64 n, ov], .agg (vals m).toArray, .int .i64 h] w fun e w' => ∃ v', e = .returned v' ∧ HandZ Z w' v' (.ok (q.1 :: p.1 :: stk K)) ∧ Below w.heap.size w w' := by
  obtain ⟨ka, kc, rfl, _, _, _⟩ := (hk w (SameZ.refl Z w)).form
  obtain ⟨xa, xc, rfl, _, _⟩ := hx.shape
  have hkl : (K ++ [q, p]).length = K.length + 2 := by simp
  rw [hkl] at hk h30 ⊢
  have hML : (vals m).length = 32 := by rw [vals_length]; exact hm
  have hszM : (Tryd.prog.info? 25).map (·.size) = some (vals m).length := by rw [hML]; exact size_dig
  obtain ⟨b, off, rfl, hkc1, hkc2, hblt, hcQ, hqZ, hqB⟩ := KeysZ.at (K := K) (L := [p]) (p := q) hk
  obtain ⟨b', off', e', _, _, _, hcP, hpZ, hpB⟩ := KeysZ.at (K := K ++ [q]) (L := []) (p := p) (by rw [List.append_assoc]; exact hk)
  simp only [Option.some.injEq, Addr.mk.injEq, and_true] at e'
  obtain ⟨rfl, rfl⟩ := e'
  rw [List.length_append, show [q].length = 1 from rfl] at hcP
  obtain ⟨pa, pc, hpe, _, hpm⟩ := (hpZ w (SameZ.refl Z w)).shape
  rw [hpe] at hcP hpZ
  obtain ⟨qa, qc, hqe, _, hqm⟩ := (hqZ w (SameZ.refl Z w)).shape
  rw [hqe] at hcQ hqZ
  unfold maxLen at hqm
  have hfront := hk.front
  unfold maxLen at hkc2 hpm
  have hk29 : K.length < 30 := by omega
  have HSN : Hid (stk (K ++ [q, p]) = p.1 :: q.1 :: stk K) := hide (by simp [stk])
  have HSL : Hid ((stk K).length = K.length) := hide (stk_length K)
  obtain ⟨M, hM⟩ : ∃ M, M = vals m := ⟨_, rfl⟩
  rw [← hM] at hML hszM ⊢
  clear hM
  obtain ⟨hg1, hg2, hg3, hg4, hg5⟩ := boxes4 w [.slice (some ⟨b, off, none⟩) (K.length + 2) kc, .int .i64 0] [.int .i64 4, .int .i64 n, .slice xa x.length xc] M [.slice none 0 0, .int .i64 0] 60 38 25 60
  obtain ⟨hf1, hf2, hf3, hf4, hf5, hf6⟩ := boxes5 w [.slice (some ⟨b, off, none⟩) (K.length + 2) kc, .int .i64 0] [.int .i64 4, .int .i64 n, .slice xa x.length xc] M [.slice none 0 0, .int .i64 0] [.slice (some ⟨b, off, none⟩) K.length kc, .int .i64 0] 60 38 25 60 60
  have hctop := hcP _ (SameZ.of_below hg1)
  have HW : Hid (∀ W, Below w.heap.size w W → w.heap.size + 5 ≤ W.heap.size → Calls Tryd.prog 61 #[.agg #[.slice (some ⟨b, off, none⟩) K.length kc, .int .i64 0], .slice pa p.1.length pc] W fun e w' => ∃ fa fn fc fe, e = .returned (.agg #[.slice fa fn fc, .int .i64 fe]) ∧ HandZ (Zup Z w.heap.size (w.heap.size + 5)) w' (.agg #[.slice fa fn fc, .int .i64 fe]) (Lk.put p.1 (stk K)) ∧ Below W.heap.size W w') := hide (fun W hb hB => with_up hZ hb hB hfront (by omega) (hpZ.more hb zup_in) hpB)
  have HTH : Hid (∀ W hv, Below w.heap.size w W → w.heap.size + 5 ≤ W.heap.size → HandZ (Zup Z w.heap.size (w.heap.size + 5)) W hv (Lk.put p.1 (stk K)) → Calls Tryd.prog 62 #[hv, .slice qa q.1.length qc] W fun e w' => ∃ fa fn fc fe, e = .returned (.agg #[.slice fa fn fc, .int .i64 fe]) ∧ HandZ (Zup Z w.heap.size (w.heap.size + 5)) w' (.agg #[.slice fa fn fc, .int .i64 fe]) (.ok (q.1 :: p.1 :: stk K)) ∧ Below W.heap.size W w') := hide (fun W hv hb hB hh => by
    have := then_up hZ hb hB hh (fun s hs => Lk.put_le hs (by rw [stk_length]; omega)) hqZ hqB
    rw [put_two _ _ _ (by rw [stk_length]; omega)] at this
    exact this)
  have HS0 := hide (show _ ∧ _ ∧ (∃ x y, Is _ (w.heap.size + 1 + 1 + 1) [x, y] 60) ∧ _ ∧ _ ∧ _ ∧ _ ∧ _ from ⟨hf1, hf6, ⟨_, _, hf4⟩, hf3, hf5.cell 0, hf5.cell 1, hf2.cell 0, hcQ _ (SameZ.of_below hf1)⟩)
  have HBLT : Hid (b ≠ w.heap.size + 1 + 1 + 1) := hide (by omega)
  have hix : (K.length : Int) < (K.length : Int) + 2 := by omega
  clear hg1 hg2 hg3 hg4 hg5 hf1 hf2 hf3 hf4 hf5 hf6 hk hx hcP hkl hfront hcQ
  generalize Lk.put p.1 (stk K) = r0 at *
  generalize Lk.Out.ok (q.1 :: p.1 :: stk K) = r at *
  generalize K.length = kl at *
  generalize x.length = xl at *
  generalize p.1.length = pl at *
  generalize q.1.length = ql at *
  go_enter Tryd.func47, Tryd.ntmps47
  go_wp2
  refine wp_region_held_drew (S := fun W : World => Below w.heap.size w W ∧ w.heap.size + 5 ≤ W.heap.size ∧ (∃ x y, Is W (w.heap.size + 1 + 1 + 1) [x, y] 60) ∧ Is W (w.heap.size + 1 + 1) M 25 ∧ W.cell? ⟨w.heap.size + 1 + 1 + 1 + 1, 0, none⟩ = some (.slice (some ⟨b, off, none⟩) kl kc) ∧ W.cell? ⟨w.heap.size + 1 + 1 + 1 + 1, 1, none⟩ = some (.int .i64 0) ∧ W.cell? ⟨w.heap.size, 0, none⟩ = some (.slice (some ⟨b, off, none⟩) (kl + 2) kc) ∧ W.cell? ⟨b, off + kl, none⟩ = some (.slice qa ql qc)) (by kernel_rfl) ?_ (fun hHeld0 => ?_)
  · exact ⟨HS0.out.1.drew, HS0.out.2⟩
  refine wpAnyH_take (i := 0) (v := ?_) rfl (by kernel_rfl) (by kernel_rfl) (by kernel_rfl) (fun _ _ _ h => h) (Or.inl ⟨by rfl, ?_⟩) hHeld0 ?_
  rotate_left
  · (intro w hSw; (try dsimp only at hSw); go_simp <;> (try with_reducible rfl))
  simp only [Act.put, List.getElem_toArray, List.getElem_cons_zero, List.getElem_cons_succ, List.setIfInBounds_toArray, List.set_cons_zero, List.set_cons_succ]
  refine wpAnyH_take (i := 1) (v := ?_) rfl (by kernel_rfl) (by kernel_rfl) (by kernel_rfl) (fun _ _ _ h => h) (Or.inl ⟨by rfl, ?_⟩) hHeld0 ?_
  rotate_left
  · (intro w hSw; (try dsimp only at hSw); go_simp <;> (try with_reducible rfl))
  simp only [Act.put, List.getElem_toArray, List.getElem_cons_zero, List.getElem_cons_succ, List.setIfInBounds_toArray, List.set_cons_zero, List.set_cons_succ]
  refine wpAnyH_take (i := 3) (v := ?_) rfl (by kernel_rfl) (by kernel_rfl) (by kernel_rfl) (fun _ _ _ h => h) (Or.inl ⟨by rfl, ?_⟩) hHeld0 ?_
  rotate_left
  · (intro w hSw; (try dsimp only at hSw); go_simp <;> (try with_reducible rfl))
  simp only [Act.put, List.getElem_toArray, List.getElem_cons_zero, List.getElem_cons_succ, List.setIfInBounds_toArray, List.set_cons_zero, List.set_cons_succ]
  refine wpAnyH_take (i := 4) (v := ?_) rfl (by kernel_rfl) (by kernel_rfl) (by kernel_rfl) (fun _ _ _ h => h) (Or.inl ⟨by rfl, ?_⟩) hHeld0 ?_
  rotate_left
  · (intro w hSw; (try dsimp only at hSw); go_simp <;> (try with_reducible rfl))
  simp only [Act.put, List.getElem_toArray, List.getElem_cons_zero, List.getElem_cons_succ, List.setIfInBounds_toArray, List.set_cons_zero, List.set_cons_succ]
  refine wpAnyH_take (i := 5) (v := ?_) rfl (by kernel_rfl) (by kernel_rfl) (by kernel_rfl) (fun _ _ _ h => h) (Or.inl ⟨by rfl, ?_⟩) hHeld0 ?_
  rotate_left
  · (intro w hSw; (try dsimp only at hSw); go_simp <;> (try with_reducible rfl))
  simp only [Act.put, List.getElem_toArray, List.getElem_cons_zero, List.getElem_cons_succ, List.setIfInBounds_toArray, List.set_cons_zero, List.set_cons_succ]
  refine wpAnyH_take (i := 6) (v := ?_) rfl (by kernel_rfl) (by kernel_rfl) (by kernel_rfl) (fun _ _ _ h => h) (Or.inl ⟨by rfl, ?_⟩) hHeld0 ?_
  rotate_left
  · (intro w hSw; (try dsimp only at hSw); go_simp <;> (try with_reducible rfl))
  simp only [Act.put, List.getElem_toArray, List.getElem_cons_zero, List.getElem_cons_succ, List.setIfInBounds_toArray, List.set_cons_zero, List.set_cons_succ]
  refine wpAnyH_take (i := 7) (v := ?_) rfl (by kernel_rfl) (by kernel_rfl) (by kernel_rfl) (fun _ _ _ h => h) (Or.inl ⟨by rfl, ?_⟩) hHeld0 ?_
  rotate_left
  · (intro w hSw; (try dsimp only at hSw); go_simp <;> (try with_reducible rfl))
  simp only [Act.put, List.getElem_toArray, List.getElem_cons_zero, List.getElem_cons_succ, List.setIfInBounds_toArray, List.set_cons_zero, List.set_cons_succ]
  refine wpAnyH_ready (rs := [2]) (by kernel_rfl) (by simp) ?_
  refine AllReadyH.cons rfl (fun K hK => ?_) AllReadyH.nil
  go_simp
  go_wp2_with ((go_at_call 61; refine (HW.out _ hHeld0.1 hHeld0.2.1).mono ?_; rintro e W1 ⟨ga, gn, gc, ge, rfl, hh1, hb1⟩))
  refine hK.out _ _ (by exact dS_below hHeld0 hb1) (fun hHeld1 => ?_)
  clear hK K hHeld0
  try simp only [Act.put, List.getElem_toArray, List.getElem_cons_zero, List.getElem_cons_succ, List.setIfInBounds_toArray, List.set_cons_zero, List.set_cons_succ]
  refine wpAnyH_ready (rs := [8]) (by kernel_rfl) (by simp) ?_
  refine AllReadyH.cons rfl (fun K hK => ?_) AllReadyH.nil
  go_simp
  go_wp2_with ((go_at_call 62; refine (HTH.out _ _ hHeld1.1 hHeld1.2.1 hh1).mono ?_; rintro e W2 ⟨fa, fn, fc, fe, rfl, hh2, hb2⟩))
  refine hK.out _ _ (by exact dS_below hHeld1 hb2) (fun hHeld2 => ?_)
  clear hK K hHeld1
  try simp only [Act.put, List.getElem_toArray, List.getElem_cons_zero, List.getElem_cons_succ, List.setIfInBounds_toArray, List.set_cons_zero, List.set_cons_succ]
  refine wpAnyH_ready (rs := [9]) (by kernel_rfl) (by simp) ?_
  refine AllReadyH.cons rfl (fun K hK => ?_) AllReadyH.nil
  obtain ⟨x0, y0, hI0⟩ := hHeld2.2.2.1
  have HEND := done_end hh2 (Nat.le_succ _) hHeld2.1 hI0
  have hc0 := hI0.cell 0
  have hc1 := hI0.cell 1
  have hfz := hI0.frozen
  simp only [List.getElem?_cons_zero, List.getElem?_cons_succ] at hc0 hc1
  go_simp
  refine hK.out _ _ (by exact dS_store hHeld2 HBLT.out _ _) (fun hHeld3 => ?_)
  clear hK K hHeld2
  try simp only [Act.put, List.getElem_toArray, List.getElem_cons_zero, List.getElem_cons_succ, List.setIfInBounds_toArray, List.set_cons_zero, List.set_cons_succ]
  refine wpAnyH_done (by kernel_rfl) ?_ _
  obtain ⟨hz, hbz, hiz⟩ := HEND
  clear hHeld3
  go_wp2
  exact bodyPost_ret (v := .agg #[.slice fa fn fc, .int .i64 fe]) (results_cell1 Tryd.results47 rfl (hiz.loadS Tryd.underlying60 (by kernel_rfl))) rfl ⟨_, rfl, hz, hbz⟩

set_option maxRecDepth 100000 in
set_option maxHeartbeats 2000000 in
theorem done_equal (Z : Nat → Prop) (m : List Int) (h n : Int) (w : World) (hm : m.length = 32) (hmb : Sz.Byt m) (hZ : ∀ b, Z b → b < w.heap.size) (K : List (List Int × Value)) (q : List Int × Value) (p : List Int × Value) (sv ov : Value) (x : List Int) (hk : KeysZ Z w sv (K ++ [q, p])) (h30 : (K ++ [q, p]).length ≤ 30) (hx : Has w ov x) :
    Calls Tryd.prog 47 #[.agg #[sv, .int .i64 0], .agg #[.int .i64 5, .int .i64 n, ov], .agg (vals m).toArray, .int .i64 h] w fun e w' => ∃ v', e = .returned v' ∧ HandZ Z w' v' (Lk.tell (rs_same p.1 q.1) (stk K)) ∧ Below w.heap.size w w' := by
  obtain ⟨ka, kc, rfl, _, _, _⟩ := (hk w (SameZ.refl Z w)).form
  obtain ⟨xa, xc, rfl, _, _⟩ := hx.shape
  have hkl : (K ++ [q, p]).length = K.length + 2 := by simp
  rw [hkl] at hk h30 ⊢
  have hML : (vals m).length = 32 := by rw [vals_length]; exact hm
  have hszM : (Tryd.prog.info? 25).map (·.size) = some (vals m).length := by rw [hML]; exact size_dig
  obtain ⟨b, off, rfl, hkc1, hkc2, hblt, hcQ, hqZ, hqB⟩ := KeysZ.at (K := K) (L := [p]) (p := q) hk
  obtain ⟨b', off', e', _, _, _, hcP, hpZ, hpB⟩ := KeysZ.at (K := K ++ [q]) (L := []) (p := p) (by rw [List.append_assoc]; exact hk)
  simp only [Option.some.injEq, Addr.mk.injEq, and_true] at e'
  obtain ⟨rfl, rfl⟩ := e'
  rw [List.length_append, show [q].length = 1 from rfl] at hcP
  obtain ⟨pa, pc, hpe, _, hpm⟩ := (hpZ w (SameZ.refl Z w)).shape
  rw [hpe] at hcP hpZ
  obtain ⟨qa, qc, hqe, _, hqm⟩ := (hqZ w (SameZ.refl Z w)).shape
  rw [hqe] at hcQ hqZ
  unfold maxLen at hqm
  have hfront := hk.front
  unfold maxLen at hkc2 hpm
  have hk29 : K.length < 30 := by omega
  have HSN : Hid (stk (K ++ [q, p]) = p.1 :: q.1 :: stk K) := hide (by simp [stk])
  have HSL : Hid ((stk K).length = K.length) := hide (stk_length K)
  obtain ⟨M, hM⟩ : ∃ M, M = vals m := ⟨_, rfl⟩
  rw [← hM] at hML hszM ⊢
  clear hM
  obtain ⟨hg1, hg2, hg3, hg4, hg5⟩ := boxes4 w [.slice (some ⟨b, off, none⟩) (K.length + 2) kc, .int .i64 0] [.int .i64 5, .int .i64 n, .slice xa x.length xc] M [.slice none 0 0, .int .i64 0] 60 38 25 60
  obtain ⟨hf1, hf2, hf3, hf4, hf5, hf6⟩ := boxes5 w [.slice (some ⟨b, off, none⟩) (K.length + 2) kc, .int .i64 0] [.int .i64 5, .int .i64 n, .slice xa x.length xc] M [.slice none 0 0, .int .i64 0] [.slice (some ⟨b, off, none⟩) K.length kc, .int .i64 0] 60 38 25 60 60
  have hctop := hcP _ (SameZ.of_below hg1)
  have HT : Hid (∀ W, Below w.heap.size w W → w.heap.size + 5 ≤ W.heap.size → Calls Tryd.prog 63 #[.agg #[.slice (some ⟨b, off, none⟩) K.length kc, .int .i64 0], .bool (rs_same p.1 q.1)] W fun e w' => ∃ fa fn fc fe, e = .returned (.agg #[.slice fa fn fc, .int .i64 fe]) ∧ HandZ (Zup Z w.heap.size (w.heap.size + 5)) w' (.agg #[.slice fa fn fc, .int .i64 fe]) (Lk.tell (rs_same p.1 q.1) (stk K)) ∧ Below W.heap.size W w') := hide (fun W hb hB => told_up _ hZ hb hB hfront (by omega))
  have HSM : Hid (∀ W, Below w.heap.size w W → Calls Tryd.prog 64 #[.slice pa p.1.length pc, .slice qa q.1.length qc] W fun e w' => e = .returned (.bool (rs_same p.1 q.1)) ∧ Below W.heap.size W w') := hide (fun W hW => rsame_any _ _ _ _ W (hpZ W (SameZ.of_below hW)) (hqZ W (SameZ.of_below hW)))
  have HS0 := hide (show _ ∧ _ ∧ (∃ x y, Is _ (w.heap.size + 1 + 1 + 1) [x, y] 60) ∧ _ ∧ _ ∧ _ ∧ _ ∧ _ from ⟨hf1, hf6, ⟨_, _, hf4⟩, hf3, hf5.cell 0, hf5.cell 1, hf2.cell 0, hcQ _ (SameZ.of_below hf1)⟩)
  have HBLT : Hid (b ≠ w.heap.size + 1 + 1 + 1) := hide (by omega)
  have hix : (K.length : Int) < (K.length : Int) + 2 := by omega
  clear hg1 hg2 hg3 hg4 hg5 hf1 hf2 hf3 hf4 hf5 hf6 hk hx hcP hkl hfront hcQ
  generalize rs_same p.1 q.1 = d at *
  generalize Lk.tell d (stk K) = r at *
  generalize K.length = kl at *
  generalize x.length = xl at *
  generalize p.1.length = pl at *
  generalize q.1.length = ql at *
  go_enter Tryd.func47, Tryd.ntmps47
  go_wp2
  refine wp_region_held_drew (S := fun W : World => Below w.heap.size w W ∧ w.heap.size + 5 ≤ W.heap.size ∧ (∃ x y, Is W (w.heap.size + 1 + 1 + 1) [x, y] 60) ∧ Is W (w.heap.size + 1 + 1) M 25 ∧ W.cell? ⟨w.heap.size + 1 + 1 + 1 + 1, 0, none⟩ = some (.slice (some ⟨b, off, none⟩) kl kc) ∧ W.cell? ⟨w.heap.size + 1 + 1 + 1 + 1, 1, none⟩ = some (.int .i64 0) ∧ W.cell? ⟨w.heap.size, 0, none⟩ = some (.slice (some ⟨b, off, none⟩) (kl + 2) kc) ∧ W.cell? ⟨b, off + kl, none⟩ = some (.slice qa ql qc)) (by kernel_rfl) ?_ (fun hHeld0 => ?_)
  · exact ⟨HS0.out.1.drew, HS0.out.2⟩
  refine wpAnyH_take (i := 0) (v := ?_) rfl (by kernel_rfl) (by kernel_rfl) (by kernel_rfl) (fun _ _ _ h => h) (Or.inl ⟨by rfl, ?_⟩) hHeld0 ?_
  rotate_left
  · (intro w hSw; (try dsimp only at hSw); go_simp <;> (try with_reducible rfl))
  simp only [Act.put, List.getElem_toArray, List.getElem_cons_zero, List.getElem_cons_succ, List.setIfInBounds_toArray, List.set_cons_zero, List.set_cons_succ]
  refine wpAnyH_take (i := 1) (v := ?_) rfl (by kernel_rfl) (by kernel_rfl) (by kernel_rfl) (fun _ _ _ h => h) (Or.inl ⟨by rfl, ?_⟩) hHeld0 ?_
  rotate_left
  · (intro w hSw; (try dsimp only at hSw); go_simp <;> (try with_reducible rfl))
  simp only [Act.put, List.getElem_toArray, List.getElem_cons_zero, List.getElem_cons_succ, List.setIfInBounds_toArray, List.set_cons_zero, List.set_cons_succ]
  refine wpAnyH_take (i := 2) (v := ?_) rfl (by kernel_rfl) (by kernel_rfl) (by kernel_rfl) (fun _ _ _ h => h) (Or.inl ⟨by rfl, ?_⟩) hHeld0 ?_
  rotate_left
  · (intro w hSw; (try dsimp only at hSw); go_simp <;> (try with_reducible rfl))
  simp only [Act.put, List.getElem_toArray, List.getElem_cons_zero, List.getElem_cons_succ, List.setIfInBounds_toArray, List.set_cons_zero, List.set_cons_succ]
  refine wpAnyH_take (i := 3) (v := ?_) rfl (by kernel_rfl) (by kernel_rfl) (by kernel_rfl) (fun _ _ _ h => h) (Or.inl ⟨by rfl, ?_⟩) hHeld0 ?_
  rotate_left
  · (intro w hSw; (try dsimp only at hSw); go_simp <;> (try with_reducible rfl))
  simp only [Act.put, List.getElem_toArray, List.getElem_cons_zero, List.getElem_cons_succ, List.setIfInBounds_toArray, List.set_cons_zero, List.set_cons_succ]
  refine wpAnyH_take (i := 4) (v := ?_) rfl (by kernel_rfl) (by kernel_rfl) (by kernel_rfl) (fun _ _ _ h => h) (Or.inl ⟨by rfl, ?_⟩) hHeld0 ?_
  rotate_left
  · (intro w hSw; (try dsimp only at hSw); go_simp <;> (try with_reducible rfl))
  simp only [Act.put, List.getElem_toArray, List.getElem_cons_zero, List.getElem_cons_succ, List.setIfInBounds_toArray, List.set_cons_zero, List.set_cons_succ]
  refine wpAnyH_take (i := 5) (v := ?_) rfl (by kernel_rfl) (by kernel_rfl) (by kernel_rfl) (fun _ _ _ h => h) (Or.inl ⟨by rfl, ?_⟩) hHeld0 ?_
  rotate_left
  · (intro w hSw; (try dsimp only at hSw); go_simp <;> (try with_reducible rfl))
  simp only [Act.put, List.getElem_toArray, List.getElem_cons_zero, List.getElem_cons_succ, List.setIfInBounds_toArray, List.set_cons_zero, List.set_cons_succ]
  refine wpAnyH_take (i := 6) (v := ?_) rfl (by kernel_rfl) (by kernel_rfl) (by kernel_rfl) (fun _ _ _ h => h) (Or.inl ⟨by rfl, ?_⟩) hHeld0 ?_
  rotate_left
  · (intro w hSw; (try dsimp only at hSw); go_simp <;> (try with_reducible rfl))
  simp only [Act.put, List.getElem_toArray, List.getElem_cons_zero, List.getElem_cons_succ, List.setIfInBounds_toArray, List.set_cons_zero, List.set_cons_succ]
  refine wpAnyH_ready (rs := [7]) (by kernel_rfl) (by simp) ?_
  refine AllReadyH.cons rfl (fun K hK => ?_) AllReadyH.nil
  go_simp
  go_wp2_with ((go_at_call 64; refine (HSM.out _ hHeld0.1).mono ?_; rintro e W1 ⟨rfl, hb1⟩))
  refine hK.out _ _ (by exact dS_below hHeld0 hb1) (fun hHeld1 => ?_)
  clear hK K hHeld0
  try simp only [Act.put, List.getElem_toArray, List.getElem_cons_zero, List.getElem_cons_succ, List.setIfInBounds_toArray, List.set_cons_zero, List.set_cons_succ]
  refine wpAnyH_ready (rs := [8]) (by kernel_rfl) (by simp) ?_
  refine AllReadyH.cons rfl (fun K hK => ?_) AllReadyH.nil
  go_simp
  go_wp2_with ((go_at_call 63; refine (HT.out _ hHeld1.1 hHeld1.2.1).mono ?_; rintro e W2 ⟨fa, fn, fc, fe, rfl, hh2, hb2⟩))
  refine hK.out _ _ (by exact dS_below hHeld1 hb2) (fun hHeld2 => ?_)
  clear hK K hHeld1
  try simp only [Act.put, List.getElem_toArray, List.getElem_cons_zero, List.getElem_cons_succ, List.setIfInBounds_toArray, List.set_cons_zero, List.set_cons_succ]
  refine wpAnyH_ready (rs := [9]) (by kernel_rfl) (by simp) ?_
  refine AllReadyH.cons rfl (fun K hK => ?_) AllReadyH.nil
  obtain ⟨x0, y0, hI0⟩ := hHeld2.2.2.1
  have HEND := done_end hh2 (Nat.le_succ _) hHeld2.1 hI0
  have hc0 := hI0.cell 0
  have hc1 := hI0.cell 1
  have hfz := hI0.frozen
  simp only [List.getElem?_cons_zero, List.getElem?_cons_succ] at hc0 hc1
  go_simp
  refine hK.out _ _ (by exact dS_store hHeld2 HBLT.out _ _) (fun hHeld3 => ?_)
  clear hK K hHeld2
  try simp only [Act.put, List.getElem_toArray, List.getElem_cons_zero, List.getElem_cons_succ, List.setIfInBounds_toArray, List.set_cons_zero, List.set_cons_succ]
  refine wpAnyH_done (by kernel_rfl) ?_ _
  obtain ⟨hz, hbz, hiz⟩ := HEND
  clear hHeld3
  go_wp2
  exact bodyPost_ret (v := .agg #[.slice fa fn fc, .int .i64 fe]) (results_cell1 Tryd.results47 rfl (hiz.loadS Tryd.underlying60 (by kernel_rfl))) rfl ⟨_, rfl, hz, hbz⟩

set_option maxRecDepth 100000 in
set_option maxHeartbeats 2000000 in
theorem done_signed (Z : Nat → Prop) (m : List Int) (h n : Int) (w : World) (hm : m.length = 32) (hmb : Sz.Byt m) (hZ : ∀ b, Z b → b < w.heap.size) (K : List (List Int × Value)) (q : List Int × Value) (p : List Int × Value) (sv ov : Value) (x : List Int) (hk : KeysZ Z w sv (K ++ [q, p])) (h30 : (K ++ [q, p]).length ≤ 30) (hx : Has w ov x) :
    Calls Tryd.prog 47 #[.agg #[sv, .int .i64 0], .agg #[.int .i64 8, .int .i64 n, ov], .agg (vals m).toArray, .int .i64 h] w fun e w' => ∃ v', e = .returned v' ∧ HandZ Z w' v' (Lk.tell (Lk.signed m q.1 p.1) (stk K)) ∧ Below w.heap.size w w' := by
  obtain ⟨ka, kc, rfl, _, _, _⟩ := (hk w (SameZ.refl Z w)).form
  obtain ⟨xa, xc, rfl, _, _⟩ := hx.shape
  have hkl : (K ++ [q, p]).length = K.length + 2 := by simp
  rw [hkl] at hk h30 ⊢
  have hML : (vals m).length = 32 := by rw [vals_length]; exact hm
  have hszM : (Tryd.prog.info? 25).map (·.size) = some (vals m).length := by rw [hML]; exact size_dig
  obtain ⟨b, off, rfl, hkc1, hkc2, hblt, hcQ, hqZ, hqB⟩ := KeysZ.at (K := K) (L := [p]) (p := q) hk
  obtain ⟨b', off', e', _, _, _, hcP, hpZ, hpB⟩ := KeysZ.at (K := K ++ [q]) (L := []) (p := p) (by rw [List.append_assoc]; exact hk)
  simp only [Option.some.injEq, Addr.mk.injEq, and_true] at e'
  obtain ⟨rfl, rfl⟩ := e'
  rw [List.length_append, show [q].length = 1 from rfl] at hcP
  obtain ⟨pa, pc, hpe, _, hpm⟩ := (hpZ w (SameZ.refl Z w)).shape
  rw [hpe] at hcP hpZ
  obtain ⟨qa, qc, hqe, _, hqm⟩ := (hqZ w (SameZ.refl Z w)).shape
  rw [hqe] at hcQ hqZ
  unfold maxLen at hqm
  have hfront := hk.front
  unfold maxLen at hkc2 hpm
  have hk29 : K.length < 30 := by omega
  have HSN : Hid (stk (K ++ [q, p]) = p.1 :: q.1 :: stk K) := hide (by simp [stk])
  have HSL : Hid ((stk K).length = K.length) := hide (stk_length K)
  obtain ⟨M, hM⟩ : ∃ M, M = vals m := ⟨_, rfl⟩
  rw [← hM] at hML hszM ⊢
  have HM := hide hM
  clear hM
  obtain ⟨hg1, hg2, hg3, hg4, hg5⟩ := boxes4 w [.slice (some ⟨b, off, none⟩) (K.length + 2) kc, .int .i64 0] [.int .i64 8, .int .i64 n, .slice xa x.length xc] M [.slice none 0 0, .int .i64 0] 60 38 25 60
  obtain ⟨hf1, hf2, hf3, hf4, hf5, hf6⟩ := boxes5 w [.slice (some ⟨b, off, none⟩) (K.length + 2) kc, .int .i64 0] [.int .i64 8, .int .i64 n, .slice xa x.length xc] M [.slice none 0 0, .int .i64 0] [.slice (some ⟨b, off, none⟩) K.length kc, .int .i64 0] 60 38 25 60 60
  have hctop := hcP _ (SameZ.of_below hg1)
  have HT : Hid (∀ W, Below w.heap.size w W → w.heap.size + 5 ≤ W.heap.size → Calls Tryd.prog 63 #[.agg #[.slice (some ⟨b, off, none⟩) K.length kc, .int .i64 0], .bool (Lk.signed m q.1 p.1)] W fun e w' => ∃ fa fn fc fe, e = .returned (.agg #[.slice fa fn fc, .int .i64 fe]) ∧ HandZ (Zup Z w.heap.size (w.heap.size + 5)) w' (.agg #[.slice fa fn fc, .int .i64 fe]) (Lk.tell (Lk.signed m q.1 p.1) (stk K)) ∧ Below W.heap.size W w') := hide (fun W hb hB => told_up _ hZ hb hB hfront (by omega))
  have HSM : Hid (∀ W, Below w.heap.size w W → Calls Tryd.prog 66 #[.slice pa p.1.length pc, .slice qa q.1.length qc, .agg M.toArray] W fun e w' => e = .returned (.bool (Lk.signed m q.1 p.1)) ∧ Below W.heap.size W w') := hide (fun W hW => by
    have := rby_any _ _ p.1 q.1 m W (hpZ W (SameZ.of_below hW)) (hqZ W (SameZ.of_below hW)) hqB hm hmb
    rw [← HM.out] at this
    exact this)
  have HS0 := hide (show _ ∧ _ ∧ (∃ x y, Is _ (w.heap.size + 1 + 1 + 1) [x, y] 60) ∧ _ ∧ _ ∧ _ ∧ _ ∧ _ from ⟨hf1, hf6, ⟨_, _, hf4⟩, hf3, hf5.cell 0, hf5.cell 1, hf2.cell 0, hcQ _ (SameZ.of_below hf1)⟩)
  have HBLT : Hid (b ≠ w.heap.size + 1 + 1 + 1) := hide (by omega)
  have hix : (K.length : Int) < (K.length : Int) + 2 := by omega
  clear hg1 hg2 hg3 hg4 hg5 hf1 hf2 hf3 hf4 hf5 hf6 hk hx hcP hkl hfront hcQ
  generalize Lk.signed m q.1 p.1 = d at *
  generalize Lk.tell d (stk K) = r at *
  generalize K.length = kl at *
  generalize x.length = xl at *
  generalize p.1.length = pl at *
  generalize q.1.length = ql at *
  go_enter Tryd.func47, Tryd.ntmps47
  go_wp2
  refine wp_region_held_drew (S := fun W : World => Below w.heap.size w W ∧ w.heap.size + 5 ≤ W.heap.size ∧ (∃ x y, Is W (w.heap.size + 1 + 1 + 1) [x, y] 60) ∧ Is W (w.heap.size + 1 + 1) M 25 ∧ W.cell? ⟨w.heap.size + 1 + 1 + 1 + 1, 0, none⟩ = some (.slice (some ⟨b, off, none⟩) kl kc) ∧ W.cell? ⟨w.heap.size + 1 + 1 + 1 + 1, 1, none⟩ = some (.int .i64 0) ∧ W.cell? ⟨w.heap.size, 0, none⟩ = some (.slice (some ⟨b, off, none⟩) (kl + 2) kc) ∧ W.cell? ⟨b, off + kl, none⟩ = some (.slice qa ql qc)) (by kernel_rfl) ?_ (fun hHeld0 => ?_)
  · exact ⟨HS0.out.1.drew, HS0.out.2⟩
  refine wpAnyH_take (i := 0) (v := ?_) rfl (by kernel_rfl) (by kernel_rfl) (by kernel_rfl) (fun _ _ _ h => h) (Or.inl ⟨by rfl, ?_⟩) hHeld0 ?_
  rotate_left
  · (intro w hSw; (try dsimp only at hSw); go_simp <;> (try with_reducible rfl))
  simp only [Act.put, List.getElem_toArray, List.getElem_cons_zero, List.getElem_cons_succ, List.setIfInBounds_toArray, List.set_cons_zero, List.set_cons_succ]
  refine wpAnyH_take (i := 1) (v := ?_) rfl (by kernel_rfl) (by kernel_rfl) (by kernel_rfl) (fun _ _ _ h => h) (Or.inl ⟨by rfl, ?_⟩) hHeld0 ?_
  rotate_left
  · (intro w hSw; (try dsimp only at hSw); go_simp <;> (try with_reducible rfl))
  simp only [Act.put, List.getElem_toArray, List.getElem_cons_zero, List.getElem_cons_succ, List.setIfInBounds_toArray, List.set_cons_zero, List.set_cons_succ]
  refine wpAnyH_take (i := 2) (v := ?_) rfl (by kernel_rfl) (by kernel_rfl) (by kernel_rfl) (fun _ _ _ h => h) (Or.inl ⟨by rfl, ?_⟩) hHeld0 ?_
  rotate_left
  · (intro w hSw; (try dsimp only at hSw); go_simp <;> (try with_reducible rfl))
  simp only [Act.put, List.getElem_toArray, List.getElem_cons_zero, List.getElem_cons_succ, List.setIfInBounds_toArray, List.set_cons_zero, List.set_cons_succ]
  refine wpAnyH_take (i := 3) (v := ?_) rfl (by kernel_rfl) (by kernel_rfl) (by kernel_rfl) (fun _ _ _ h => h) (Or.inl ⟨by rfl, ?_⟩) hHeld0 ?_
  rotate_left
  · (intro w hSw; (try dsimp only at hSw); go_simp <;> (try with_reducible rfl))
  simp only [Act.put, List.getElem_toArray, List.getElem_cons_zero, List.getElem_cons_succ, List.setIfInBounds_toArray, List.set_cons_zero, List.set_cons_succ]
  refine wpAnyH_take (i := 4) (v := ?_) rfl (by kernel_rfl) (by kernel_rfl) (by kernel_rfl) (fun _ _ _ h => h) (Or.inl ⟨by rfl, ?_⟩) hHeld0 ?_
  rotate_left
  · (intro w hSw; (try dsimp only at hSw); go_simp <;> (try with_reducible rfl))
  simp only [Act.put, List.getElem_toArray, List.getElem_cons_zero, List.getElem_cons_succ, List.setIfInBounds_toArray, List.set_cons_zero, List.set_cons_succ]
  refine wpAnyH_take (i := 5) (v := ?_) rfl (by kernel_rfl) (by kernel_rfl) (by kernel_rfl) (fun _ _ _ h => h) (Or.inl ⟨by rfl, ?_⟩) hHeld0 ?_
  rotate_left
  · (intro w hSw; (try dsimp only at hSw); go_simp <;> (try with_reducible rfl))
  simp only [Act.put, List.getElem_toArray, List.getElem_cons_zero, List.getElem_cons_succ, List.setIfInBounds_toArray, List.set_cons_zero, List.set_cons_succ]
  refine wpAnyH_take (i := 6) (v := ?_) rfl (by kernel_rfl) (by kernel_rfl) (by kernel_rfl) (fun _ _ _ h => h) (Or.inl ⟨by rfl, ?_⟩) hHeld0 ?_
  rotate_left
  · (intro w hSw; (try dsimp only at hSw); go_simp <;> (try with_reducible rfl))
  simp only [Act.put, List.getElem_toArray, List.getElem_cons_zero, List.getElem_cons_succ, List.setIfInBounds_toArray, List.set_cons_zero, List.set_cons_succ]
  refine wpAnyH_take (i := 7) (v := .agg (M).toArray) rfl (by kernel_rfl) (by kernel_rfl) (by kernel_rfl) (fun _ _ _ h => h) (yieldsIf_load_mid (by rfl) _ _ rfl _ _ rfl (M) _ (fun w hSw => hSw.2.2.2.1.range) Tryd.underlying25 rfl hszM) hHeld0 ?_
  simp only [Act.put, List.getElem_toArray, List.getElem_cons_zero, List.getElem_cons_succ, List.setIfInBounds_toArray, List.set_cons_zero, List.set_cons_succ]
  refine wpAnyH_ready (rs := [8]) (by kernel_rfl) (by simp) ?_
  refine AllReadyH.cons rfl (fun K hK => ?_) AllReadyH.nil
  go_simp
  go_wp2_with ((go_at_call 66; refine (HSM.out _ hHeld0.1).mono ?_; rintro e W1 ⟨rfl, hb1⟩))
  refine hK.out _ _ (by exact dS_below hHeld0 hb1) (fun hHeld1 => ?_)
  clear hK K hHeld0
  try simp only [Act.put, List.getElem_toArray, List.getElem_cons_zero, List.getElem_cons_succ, List.setIfInBounds_toArray, List.set_cons_zero, List.set_cons_succ]
  refine wpAnyH_ready (rs := [9]) (by kernel_rfl) (by simp) ?_
  refine AllReadyH.cons rfl (fun K hK => ?_) AllReadyH.nil
  go_simp
  go_wp2_with ((go_at_call 63; refine (HT.out _ hHeld1.1 hHeld1.2.1).mono ?_; rintro e W2 ⟨fa, fn, fc, fe, rfl, hh2, hb2⟩))
  refine hK.out _ _ (by exact dS_below hHeld1 hb2) (fun hHeld2 => ?_)
  clear hK K hHeld1
  try simp only [Act.put, List.getElem_toArray, List.getElem_cons_zero, List.getElem_cons_succ, List.setIfInBounds_toArray, List.set_cons_zero, List.set_cons_succ]
  refine wpAnyH_ready (rs := [10]) (by kernel_rfl) (by simp) ?_
  refine AllReadyH.cons rfl (fun K hK => ?_) AllReadyH.nil
  obtain ⟨x0, y0, hI0⟩ := hHeld2.2.2.1
  have HEND := done_end hh2 (Nat.le_succ _) hHeld2.1 hI0
  have hc0 := hI0.cell 0
  have hc1 := hI0.cell 1
  have hfz := hI0.frozen
  simp only [List.getElem?_cons_zero, List.getElem?_cons_succ] at hc0 hc1
  go_simp
  refine hK.out _ _ (by exact dS_store hHeld2 HBLT.out _ _) (fun hHeld3 => ?_)
  clear hK K hHeld2
  try simp only [Act.put, List.getElem_toArray, List.getElem_cons_zero, List.getElem_cons_succ, List.setIfInBounds_toArray, List.set_cons_zero, List.set_cons_succ]
  refine wpAnyH_done (by kernel_rfl) ?_ _
  obtain ⟨hz, hbz, hiz⟩ := HEND
  clear hHeld3
  go_wp2
  exact bodyPost_ret (v := .agg #[.slice fa fn fc, .int .i64 fe]) (results_cell1 Tryd.results47 rfl (hiz.loadS Tryd.underlying60 (by kernel_rfl))) rfl ⟨_, rfl, hz, hbz⟩

set_option maxRecDepth 100000 in
set_option maxHeartbeats 2000000 in
theorem done_not (Z : Nat → Prop) (m : List Int) (h n : Int) (w : World) (hm : m.length = 32) (hmb : Sz.Byt m) (hZ : ∀ b, Z b → b < w.heap.size) (K : List (List Int × Value)) (p : List Int × Value) (sv ov : Value) (x : List Int) (hk : KeysZ Z w sv (K ++ [p])) (h30 : (K ++ [p]).length ≤ 30) (hx : Has w ov x) :
    Calls Tryd.prog 47 #[.agg #[sv, .int .i64 0], .agg #[.int .i64 14, .int .i64 n, ov], .agg (vals m).toArray, .int .i64 h] w fun e w' => ∃ v', e = .returned v' ∧ HandZ Z w' v' (Lk.tell (!Lk.isTrue p.1) (stk K)) ∧ Below w.heap.size w w' := by
  obtain ⟨ka, kc, rfl, _, _, _⟩ := (hk w (SameZ.refl Z w)).form
  obtain ⟨xa, xc, rfl, _, _⟩ := hx.shape
  have hkl : (K ++ [p]).length = K.length + 1 := by simp
  rw [hkl] at hk h30 ⊢
  have hML : (vals m).length = 32 := by rw [vals_length]; exact hm
  have hszM : (Tryd.prog.info? 25).map (·.size) = some (vals m).length := by rw [hML]; exact size_dig
  obtain ⟨b, off, rfl, hkc1, hkc2, hblt, hcP, hpZ, hpB⟩ := KeysZ.at (K := K) (L := []) (p := p) hk
  obtain ⟨pa, pc, hpe, _, hpm⟩ := (hpZ w (SameZ.refl Z w)).shape
  rw [hpe] at hcP hpZ
  have hfront := hk.front
  unfold maxLen at hkc2 hpm
  have hk29 : K.length < 30 := by omega
  have HSN : Hid (stk (K ++ [p]) = p.1 :: stk K) := hide (by simp [stk])
  have HSL : Hid ((stk K).length = K.length) := hide (stk_length K)
  obtain ⟨M, hM⟩ : ∃ M, M = vals m := ⟨_, rfl⟩
  rw [← hM] at hML hszM ⊢
  clear hM
  obtain ⟨hg1, hg2, hg3, hg4, hg5⟩ := boxes4 w [.slice (some ⟨b, off, none⟩) (K.length + 1) kc, .int .i64 0] [.int .i64 14, .int .i64 n, .slice xa x.length xc] M [.slice none 0 0, .int .i64 0] 60 38 25 60
  obtain ⟨hf1, hf2, hf3, hf4, hf5, hf6⟩ := boxes5 w [.slice (some ⟨b, off, none⟩) (K.length + 1) kc, .int .i64 0] [.int .i64 14, .int .i64 n, .slice xa x.length xc] M [.slice none 0 0, .int .i64 0] [.slice (some ⟨b, off, none⟩) K.length kc, .int .i64 0] 60 38 25 60 60
  have hctop := hcP _ (SameZ.of_below hg1)
  have HT : Hid (∀ W, Below w.heap.size w W → w.heap.size + 5 ≤ W.heap.size → Calls Tryd.prog 63 #[.agg #[.slice (some ⟨b, off, none⟩) K.length kc, .int .i64 0], .bool (!Lk.isTrue p.1)] W fun e w' => ∃ fa fn fc fe, e = .returned (.agg #[.slice fa fn fc, .int .i64 fe]) ∧ HandZ (Zup Z w.heap.size (w.heap.size + 5)) w' (.agg #[.slice fa fn fc, .int .i64 fe]) (Lk.tell (!Lk.isTrue p.1) (stk K)) ∧ Below W.heap.size W w') := hide (fun W hb hB => told_up _ hZ hb hB hfront (by omega))
  have HSM : Hid (∀ W, Below w.heap.size w W → Calls Tryd.prog 19 #[.slice pa p.1.length pc] W fun e w' => e = .returned (.bool (Lk.isTrue p.1)) ∧ W = w') := hide (fun W hW => rtrue_any _ _ W (hpZ W (SameZ.of_below hW)))
  have HS0 := hide (show _ ∧ _ ∧ (∃ x y, Is _ (w.heap.size + 1 + 1 + 1) [x, y] 60) ∧ _ ∧ _ ∧ _ ∧ _ ∧ _ from ⟨hf1, hf6, ⟨_, _, hf4⟩, hf3, hf5.cell 0, hf5.cell 1, hf2.cell 0, hcP _ (SameZ.of_below hf1)⟩)
  have HBLT : Hid (b ≠ w.heap.size + 1 + 1 + 1) := hide (by omega)
  have hix : (K.length : Int) < (K.length : Int) + 1 := by omega
  clear hg1 hg2 hg3 hg4 hg5 hf1 hf2 hf3 hf4 hf5 hf6 hk hx hcP hkl hfront
  generalize Lk.isTrue p.1 = d at *
  generalize Lk.tell (!d) (stk K) = r at *
  generalize K.length = kl at *
  generalize x.length = xl at *
  generalize p.1.length = pl at *

  go_enter Tryd.func47, Tryd.ntmps47
  go_wp2
  refine wp_region_held_drew (S := fun W : World => Below w.heap.size w W ∧ w.heap.size + 5 ≤ W.heap.size ∧ (∃ x y, Is W (w.heap.size + 1 + 1 + 1) [x, y] 60) ∧ Is W (w.heap.size + 1 + 1) M 25 ∧ W.cell? ⟨w.heap.size + 1 + 1 + 1 + 1, 0, none⟩ = some (.slice (some ⟨b, off, none⟩) kl kc) ∧ W.cell? ⟨w.heap.size + 1 + 1 + 1 + 1, 1, none⟩ = some (.int .i64 0) ∧ W.cell? ⟨w.heap.size, 0, none⟩ = some (.slice (some ⟨b, off, none⟩) (kl + 1) kc) ∧ W.cell? ⟨b, off + kl, none⟩ = some (.slice pa pl pc)) (by kernel_rfl) ?_ (fun hHeld0 => ?_)
  · exact ⟨HS0.out.1.drew, HS0.out.2⟩
  refine wpAnyH_take (i := 0) (v := ?_) rfl (by kernel_rfl) (by kernel_rfl) (by kernel_rfl) (fun _ _ _ h => h) (Or.inl ⟨by rfl, ?_⟩) hHeld0 ?_
  rotate_left
  · (intro w hSw; (try dsimp only at hSw); go_simp <;> (try with_reducible rfl))
  simp only [Act.put, List.getElem_toArray, List.getElem_cons_zero, List.getElem_cons_succ, List.setIfInBounds_toArray, List.set_cons_zero, List.set_cons_succ]
  refine wpAnyH_take (i := 1) (v := ?_) rfl (by kernel_rfl) (by kernel_rfl) (by kernel_rfl) (fun _ _ _ h => h) (Or.inl ⟨by rfl, ?_⟩) hHeld0 ?_
  rotate_left
  · (intro w hSw; (try dsimp only at hSw); go_simp <;> (try with_reducible rfl))
  simp only [Act.put, List.getElem_toArray, List.getElem_cons_zero, List.getElem_cons_succ, List.setIfInBounds_toArray, List.set_cons_zero, List.set_cons_succ]
  refine wpAnyH_ready (rs := [2]) (by kernel_rfl) (by simp) ?_
  refine AllReadyH.cons rfl (fun K hK => ?_) AllReadyH.nil
  go_simp
  go_wp2_with ((go_at_call 19; refine (HSM.out _ hHeld0.1).mono ?_; rintro e W1 ⟨rfl, rfl⟩))
  refine hK.out _ _ (by exact hHeld0) (fun hHeld1 => ?_)
  clear hK K hHeld0
  try simp only [Act.put, List.getElem_toArray, List.getElem_cons_zero, List.getElem_cons_succ, List.setIfInBounds_toArray, List.set_cons_zero, List.set_cons_succ]
  refine wpAnyH_take (i := 3) (v := ?_) rfl (by kernel_rfl) (by kernel_rfl) (by kernel_rfl) (fun _ _ _ h => h) (Or.inl ⟨by rfl, ?_⟩) hHeld1 ?_
  rotate_left
  · (intro w hSw; (try dsimp only at hSw); go_simp <;> (try with_reducible rfl))
  simp only [Act.put, List.getElem_toArray, List.getElem_cons_zero, List.getElem_cons_succ, List.setIfInBounds_toArray, List.set_cons_zero, List.set_cons_succ]
  refine wpAnyH_ready (rs := [4]) (by kernel_rfl) (by simp) ?_
  refine AllReadyH.cons rfl (fun K hK => ?_) AllReadyH.nil
  go_simp
  go_wp2_with ((go_at_call 63; refine (HT.out _ hHeld1.1 hHeld1.2.1).mono ?_; rintro e W2 ⟨fa, fn, fc, fe, rfl, hh2, hb2⟩))
  refine hK.out _ _ (by exact dS_below hHeld1 hb2) (fun hHeld2 => ?_)
  clear hK K hHeld1
  try simp only [Act.put, List.getElem_toArray, List.getElem_cons_zero, List.getElem_cons_succ, List.setIfInBounds_toArray, List.set_cons_zero, List.set_cons_succ]
  refine wpAnyH_ready (rs := [5]) (by kernel_rfl) (by simp) ?_
  refine AllReadyH.cons rfl (fun K hK => ?_) AllReadyH.nil
  obtain ⟨x0, y0, hI0⟩ := hHeld2.2.2.1
  have HEND := done_end hh2 (Nat.le_succ _) hHeld2.1 hI0
  have hc0 := hI0.cell 0
  have hc1 := hI0.cell 1
  have hfz := hI0.frozen
  simp only [List.getElem?_cons_zero, List.getElem?_cons_succ] at hc0 hc1
  go_simp
  refine hK.out _ _ (by exact dS_store hHeld2 HBLT.out _ _) (fun hHeld3 => ?_)
  clear hK K hHeld2
  try simp only [Act.put, List.getElem_toArray, List.getElem_cons_zero, List.getElem_cons_succ, List.setIfInBounds_toArray, List.set_cons_zero, List.set_cons_succ]
  refine wpAnyH_done (by kernel_rfl) ?_ _
  obtain ⟨hz, hbz, hiz⟩ := HEND
  clear hHeld3
  go_wp2
  exact bodyPost_ret (v := .agg #[.slice fa fn fc, .int .i64 fe]) (results_cell1 Tryd.results47 rfl (hiz.loadS Tryd.underlying60 (by kernel_rfl))) rfl ⟨_, rfl, hz, hbz⟩

set_option maxRecDepth 100000 in
set_option maxHeartbeats 2000000 in
theorem done_hash (Z : Nat → Prop) (m : List Int) (h n : Int) (w : World) (hm : m.length = 32) (hmb : Sz.Byt m) (hZ : ∀ b, Z b → b < w.heap.size) (K : List (List Int × Value)) (p : List Int × Value) (sv ov : Value) (x : List Int) (hk : KeysZ Z w sv (K ++ [p])) (h30 : (K ++ [p]).length ≤ 30) (hx : Has w ov x) (hps : p.1.length ≤ 3000) :
    Calls Tryd.prog 47 #[.agg #[sv, .int .i64 0], .agg #[.int .i64 7, .int .i64 n, ov], .agg (vals m).toArray, .int .i64 h] w fun e w' => ∃ v', e = .returned v' ∧ HandZ Z w' v' (Lk.put (Sh.sum p.1) (stk K)) ∧ Below w.heap.size w w' := by
  obtain ⟨ka, kc, rfl, _, _, _⟩ := (hk w (SameZ.refl Z w)).form
  obtain ⟨xa, xc, rfl, _, _⟩ := hx.shape
  have hkl : (K ++ [p]).length = K.length + 1 := by simp
  rw [hkl] at hk h30 ⊢
  have hML : (vals m).length = 32 := by rw [vals_length]; exact hm
  have hszM : (Tryd.prog.info? 25).map (·.size) = some (vals m).length := by rw [hML]; exact size_dig
  obtain ⟨b, off, rfl, hkc1, hkc2, hblt, hcP, hpZ, hpB⟩ := KeysZ.at (K := K) (L := []) (p := p) hk
  obtain ⟨pa, pc, hpe, _, hpm⟩ := (hpZ w (SameZ.refl Z w)).shape
  rw [hpe] at hcP hpZ
  have hfront := hk.front
  unfold maxLen at hkc2 hpm
  have hk29 : K.length < 30 := by omega
  have HSN : Hid (stk (K ++ [p]) = p.1 :: stk K) := hide (by simp [stk])
  have HSL : Hid ((stk K).length = K.length) := hide (stk_length K)
  obtain ⟨M, hM⟩ : ∃ M, M = vals m := ⟨_, rfl⟩
  rw [← hM] at hML hszM ⊢
  clear hM
  obtain ⟨hg1, hg2, hg3, hg4, hg5⟩ := boxes4 w [.slice (some ⟨b, off, none⟩) (K.length + 1) kc, .int .i64 0] [.int .i64 7, .int .i64 n, .slice xa x.length xc] M [.slice none 0 0, .int .i64 0] 60 38 25 60
  obtain ⟨hf1, hf2, hf3, hf4, hf5, hf6⟩ := boxes5 w [.slice (some ⟨b, off, none⟩) (K.length + 1) kc, .int .i64 0] [.int .i64 7, .int .i64 n, .slice xa x.length xc] M [.slice none 0 0, .int .i64 0] [.slice (some ⟨b, off, none⟩) K.length kc, .int .i64 0] 60 38 25 60 60
  have hctop := hcP _ (SameZ.of_below hg1)
  have HSU := hide (rsum_any (.slice pa p.1.length pc) p.1 _ (hpZ _ (SameZ.of_below hf1)) hpB (by omega))
  have hDl := Mc.sum_length p.1
  have hDb := Mc.sum_byt p.1
  have HW : Hid (∀ W g, Below w.heap.size w W → w.heap.size + 5 ≤ W.heap.size → w.heap.size + 5 ≤ g → Is W g (vals (Sh.sum p.1)) 25 → Calls Tryd.prog 61 #[.agg #[.slice (some ⟨b, off, none⟩) K.length kc, .int .i64 0], .slice (some ⟨g, 0, none⟩) 32 32] W fun e w' => ∃ fa fn fc fe, e = .returned (.agg #[.slice fa fn fc, .int .i64 fe]) ∧ HandZ (Zup Z w.heap.size (w.heap.size + 5)) w' (.agg #[.slice fa fn fc, .int .i64 fe]) (Lk.put (Sh.sum p.1) (stk K)) ∧ Below W.heap.size W w') := hide (fun W g hb hB hg hI => with_up hZ hb hB hfront (by omega) (fun W' hW' => has_dig (by unfold Is; rw [hW'.2 g hI.lt (fun e => by rcases e with e | e <;> first | (have := hZ g e; omega) | omega)]; exact hI) hDl) hDb)
  have HS0 := hide (show _ ∧ _ ∧ (∃ x y, Is _ (w.heap.size + 1 + 1 + 1) [x, y] 60) ∧ _ ∧ _ ∧ _ ∧ _ ∧ _ from ⟨hf1, hf6, ⟨_, _, hf4⟩, hf3, hf5.cell 0, hf5.cell 1, hf2.cell 0, hcP _ (SameZ.of_below hf1)⟩)
  have HBLT : Hid (b ≠ w.heap.size + 1 + 1 + 1) := hide (by omega)
  have hix : (K.length : Int) < (K.length : Int) + 1 := by omega
  have hzd := zero_dig
  obtain ⟨Y, hY⟩ : ∃ Y, Y = vals (List.replicate 32 0) := ⟨_, rfl⟩
  rw [← hY] at hzd
  have hYl : Y.length = 32 := by rw [hY]; simp [vals]
  have hYp : ¬ Y = [] := by intro h; rw [h] at hYl; cases hYl
  have HYL := hide hYl
  have HDL : Hid ((vals (Sh.sum p.1)).length = 32) := hide (by rw [vals_length]; exact hDl)
  clear hg1 hg2 hg3 hg4 hg5 hf1 hf2 hf3 hf4 hf5 hf6 hk hx hcP hkl hfront hY hYl hDl hDb
  generalize Lk.put (Sh.sum p.1) (stk K) = r at *
  have HONE : Hid (∀ u ∈ vals (Sh.sum p.1), u.oneCell' = true) := hide (vals_one _)
  generalize vals (Sh.sum p.1) = D at *
  generalize K.length = kl at *
  generalize x.length = xl at *
  generalize p.1.length = pl at *
  go_enter Tryd.func47, Tryd.ntmps47
  go_wp2_with fail
  refine HSU.out.mono ?_
  rintro e w1 ⟨rfl, hb1⟩
  have hs1 := dS_below HS0.out hb1
  have HS1 := hide hs1
  clear hb1 hs1
  go_wp2_with (first
    | (refine wpList_store_any2 25 Y D w1.heap.size rfl (.tmp 13) (.tmp 118) rfl rfl rfl rfl (Is.new w1 _ _) size_dig HYL.out HDL.out HONE.out ?_; intro w7 hi7 hb7 hk7 hz7; have hs7 := dS_below HS1.out (hb7 _ _ (below_alloc w1 _) (Nat.le_refl _))))
  have HI7 := hide hi7
  have HS7 := hide hs7
  have HG7 : Hid (w.heap.size + 5 ≤ w1.heap.size) := hide HS1.out.2.1
  clear hi7 hb7 hk7 hz7 hs7 HS1 HS0
  obtain ⟨g7, hg7⟩ : ∃ g, g = w1.heap.size := ⟨_, rfl⟩
  rw [← hg7] at HI7 HG7 ⊢
  clear hg7
  refine wp_region_held_drew (S := fun W : World => Below w.heap.size w W ∧ w.heap.size + 5 ≤ W.heap.size ∧ (∃ x y, Is W (w.heap.size + 1 + 1 + 1) [x, y] 60) ∧ Is W (w.heap.size + 1 + 1) M 25 ∧ W.cell? ⟨w.heap.size + 1 + 1 + 1 + 1, 0, none⟩ = some (.slice (some ⟨b, off, none⟩) kl kc) ∧ W.cell? ⟨w.heap.size + 1 + 1 + 1 + 1, 1, none⟩ = some (.int .i64 0) ∧ W.cell? ⟨w.heap.size, 0, none⟩ = some (.slice (some ⟨b, off, none⟩) (kl + 1) kc) ∧ W.cell? ⟨b, off + kl, none⟩ = some (.slice pa pl pc)) (by kernel_rfl) ?_ (fun hHeld0 => ?_)
  · exact ⟨HS7.out.1.drew, HS7.out.2⟩
  refine wpAnyH_take (i := 0) (v := ?_) rfl (by kernel_rfl) (by kernel_rfl) (by kernel_rfl) (fun _ _ _ h => h) (Or.inl ⟨by rfl, ?_⟩) hHeld0 ?_
  rotate_left
  · (intro w hSw; (try dsimp only at hSw); go_simp <;> (try with_reducible rfl))
  simp only [Act.put, List.getElem_toArray, List.getElem_cons_zero, List.getElem_cons_succ, List.setIfInBounds_toArray, List.set_cons_zero, List.set_cons_succ]
  refine wpAnyH_take (i := 1) (v := ?_) rfl (by kernel_rfl) (by kernel_rfl) (by kernel_rfl) (fun _ _ _ h => h) (Or.inl ⟨by rfl, ?_⟩) hHeld0 ?_
  rotate_left
  · (intro w hSw; (try dsimp only at hSw); go_simp <;> (try with_reducible rfl))
  simp only [Act.put, List.getElem_toArray, List.getElem_cons_zero, List.getElem_cons_succ, List.setIfInBounds_toArray, List.set_cons_zero, List.set_cons_succ]
  refine wpAnyH_ready (rs := [2]) (by kernel_rfl) (by simp) ?_
  refine AllReadyH.cons rfl (fun K hK => ?_) AllReadyH.nil
  go_simp
  go_wp2_with ((go_at_call 61; refine (HW.out _ g7 hHeld0.1 hHeld0.2.1 HG7.out HI7.out).mono ?_; rintro e W2 ⟨fa, fn, fc, fe, rfl, hh2, hb2⟩))
  refine hK.out _ _ (by exact dS_below hHeld0 hb2) (fun hHeld1 => ?_)
  clear hK K hHeld0
  try simp only [Act.put, List.getElem_toArray, List.getElem_cons_zero, List.getElem_cons_succ, List.setIfInBounds_toArray, List.set_cons_zero, List.set_cons_succ]
  refine wpAnyH_ready (rs := [3]) (by kernel_rfl) (by simp) ?_
  refine AllReadyH.cons rfl (fun K hK => ?_) AllReadyH.nil
  obtain ⟨x0, y0, hI0⟩ := hHeld1.2.2.1
  have HEND := done_end hh2 (Nat.le_succ _) hHeld1.1 hI0
  have hc0 := hI0.cell 0
  have hc1 := hI0.cell 1
  have hfz := hI0.frozen
  simp only [List.getElem?_cons_zero, List.getElem?_cons_succ] at hc0 hc1
  go_simp
  refine hK.out _ _ (by exact dS_store hHeld1 HBLT.out _ _) (fun hHeld2 => ?_)
  clear hK K hHeld1
  try simp only [Act.put, List.getElem_toArray, List.getElem_cons_zero, List.getElem_cons_succ, List.setIfInBounds_toArray, List.set_cons_zero, List.set_cons_succ]
  refine wpAnyH_done (by kernel_rfl) ?_ _
  obtain ⟨hz, hbz, hiz⟩ := HEND
  clear hHeld2
  go_wp2
  exact bodyPost_ret (v := .agg #[.slice fa fn fc, .int .i64 fe]) (results_cell1 Tryd.results47 rfl (hiz.loadS Tryd.underlying60 (by kernel_rfl))) rfl ⟨_, rfl, hz, hbz⟩
end Go.Proofs.YtkdihbgjeanjdaaDoor

/- The document's answer on locks: one op (Done): so many of as many keys. -/
namespace Go.Proofs.YtkdihbgjeanjdaaDoor
open Go.RowKit
set_option linter.unusedVariables false
set_option linter.unusedSimpArgs false

set_option maxRecDepth 100000 in
set_option maxHeartbeats 4000000 in
theorem done_manyc (Z : Nat → Prop) (m : List Int) (h : Int) (N : Nat) (w : World) (hm : m.length = 32) (hmb : Sz.Byt m) (hZ : ∀ b, Z b → b < w.heap.size) (K L : List (List Int × Value)) (p : List Int × Value) (sv ov : Value) (x : List Int) (hk : KeysZ Z w sv (K ++ (L ++ [p]))) (h30 : (K ++ (L ++ [p])).length ≤ 30) (hN : L.length = N) (hN1 : 1 ≤ N) (hN9 : N ≤ 9) (hx : Has w ov x) (N0 : Nat) (hp0 : 0 < p.1.length) (hp : p.1.length = 32 * N0) :
    Calls Tryd.prog 47 #[.agg #[sv, .int .i64 0], .agg #[.int .i64 9, .int .i64 (N : Int), ov], .agg (vals m).toArray, .int .i64 h] w fun e w' => ∃ v', e = .returned v' ∧ HandZ Z w' v' (Lk.tell (Lk.among m p.1 (L.map Prod.fst)) (stk K)) ∧ Below w.heap.size w w' := by
  obtain ⟨ka, kc, rfl, _, _, _⟩ := (hk w (SameZ.refl Z w)).form
  obtain ⟨xa, xc, rfl, _, _⟩ := hx.shape
  have hkl : (K ++ (L ++ [p])).length = K.length + N + 1 := by simp [hN]; omega
  rw [hkl] at hk h30 ⊢
  have hML : (vals m).length = 32 := by rw [vals_length]; exact hm
  have hszM : (Tryd.prog.info? 25).map (·.size) = some (vals m).length := by rw [hML]; exact size_dig
  obtain ⟨b, off, rfl, hkc1, hkc2, hblt, hcP, hpZ, hpB⟩ := KeysZ.at (K := K ++ L) (L := []) (p := p) (by rw [List.append_assoc]; exact hk)
  rw [List.length_append, hN] at hcP
  obtain ⟨pa, pc, hpe, _, hpm⟩ := (hpZ w (SameZ.refl Z w)).shape
  rw [hpe] at hcP hpZ
  have hfront := hk.front
  have hmid := hk.mid (by omega)
  rw [hN] at hmid
  unfold maxLen at hkc2 hpm
  have hk29 : K.length < 30 := by omega
  have HAM : Hid (∀ W, Below w.heap.size w W → Calls Tryd.prog 67 #[.slice pa p.1.length pc, .slice (some ⟨b, off + K.length, none⟩) N (kc - K.length), .agg (vals m).toArray] W fun e w' => e = .returned (.bool (Lk.among m p.1 (L.map Prod.fst))) ∧ Below W.heap.size W w') := hide (fun W hW => ramong_any m hm hmb N0 p.1 L _ _ W hp (hpZ W (SameZ.of_below hW)) (hmid W (SameZ.of_below hW)))
  have HT : Hid (∀ W, Below w.heap.size w W → w.heap.size + 5 ≤ W.heap.size → Calls Tryd.prog 63 #[.agg #[.slice (some ⟨b, off, none⟩) K.length kc, .int .i64 0], .bool (Lk.among m p.1 (L.map Prod.fst))] W fun e w' => ∃ fa fn fc fe, e = .returned (.agg #[.slice fa fn fc, .int .i64 fe]) ∧ HandZ (Zup Z w.heap.size (w.heap.size + 5)) w' (.agg #[.slice fa fn fc, .int .i64 fe]) (Lk.tell (Lk.among m p.1 (L.map Prod.fst)) (stk K)) ∧ Below W.heap.size W w') := hide (fun W hb hB => told_up _ hZ hb hB hfront (by omega))
  generalize vals m = M at *
  obtain ⟨tl, htl⟩ : ∃ n, n = K.length + N + 1 := ⟨_, rfl⟩
  rw [← htl] at hkc1 ⊢
  obtain ⟨kt, hkt⟩ : ∃ n, n = K.length + N := ⟨_, rfl⟩
  rw [← hkt] at hcP
  obtain ⟨hg1, hg2, hg3, hg4, hg5⟩ := boxes4 w [.slice (some ⟨b, off, none⟩) tl kc, .int .i64 0] [.int .i64 9, .int .i64 (N : Int), .slice xa x.length xc] M [.slice none 0 0, .int .i64 0] 60 38 25 60
  obtain ⟨hf1, hf2, hf3, hf4, hf5, hf6⟩ := boxes5 w [.slice (some ⟨b, off, none⟩) tl kc, .int .i64 0] [.int .i64 9, .int .i64 (N : Int), .slice xa x.length xc] M [.slice none 0 0, .int .i64 0] [.slice (some ⟨b, off, none⟩) K.length kc, .int .i64 0] 60 38 25 60 60
  have hf7 := ((((Is.new' (w := w.alloc (.cells #[.slice (some ⟨b, off, none⟩) tl kc, .int .i64 0] 60)) (b := w.heap.size + 1) [.int .i64 9, .int .i64 (N : Int), .slice xa x.length xc] 38 (by simp)).alloc (.cells M.toArray 25)).alloc (.cells #[.slice none 0 0, .int .i64 0] 60)).alloc (.cells #[.slice (some ⟨b, off, none⟩) K.length kc, .int .i64 0] 60)).cell 1
  have hctop := hcP _ (SameZ.of_below hg1)
  have HS0 := hide (show _ ∧ _ ∧ (∃ x y, Is _ (w.heap.size + 1 + 1 + 1) [x, y] 60) ∧ _ ∧ _ ∧ _ ∧ _ ∧ _ from ⟨hf1, hf6, ⟨_, _, hf4⟩, hf3, hf5.cell 0, hf5.cell 1, hf2.cell 0, hf7⟩)
  have HBLT : Hid (w.heap.size + 1 ≠ w.heap.size + 1 + 1 + 1) := hide (by omega)
  have hsub : (tl : Int) - (1 + (N : Int)) = (K.length : Int) := by omega
  have hsub1 : (tl : Int) - 1 = (kt : Int) := by omega
  have hadd : (K.length : Int) + (N : Int) = (kt : Int) := by omega
  have hlt1 : (kt : Int) < (tl : Int) := by omega
  have hle1 : (K.length : Int) ≤ (tl : Int) := by omega
  have hle2 : (K.length : Int) ≤ (kt : Int) := by omega
  have hle3 : (kt : Int) ≤ (kc : Int) := by omega
  have hle4 : (K.length : Int) ≤ (kc : Int) := by omega
  have hkne : ¬ kc = K.length := by omega
  have hNn : kt - K.length = N := by omega
  have htl30 : tl ≤ 30 := by omega
  have hle2n : K.length ≤ kt := by omega
  have hwr : IntKind.i64.wrap (kt : Int) = (kt : Int) := by simp [IntKind.wrap, IntKind.bits, IntKind.signed]; omega
  have hd1 : decide ((0 : Int) < (p.1.length : Int)) = true := decide_eq_true (by omega)
  have hd1n : decide (0 < p.1.length) = true := decide_eq_true (by omega)
  have hd2 : ((p.1.length : Int).tmod 32 == 0) = true := by rw [Int.tmod_eq_emod_of_nonneg (by omega), beq_iff_eq]; omega
  clear hg1 hg2 hg3 hg4 hg5 hf1 hf2 hf3 hf4 hf5 hf6 hf7 hk hx hcP hkl hfront hmid hN htl hkt hp hp0 hML
  generalize Lk.among m p.1 (L.map Prod.fst) = d at *
  generalize Lk.tell d (stk K) = r at *
  generalize K.length = kl at *
  generalize x.length = xl at *
  generalize p.1.length = pl at *
  go_enter Tryd.func47, Tryd.ntmps47
  go_wp2
  refine wp_region_held_drew (S := fun W : World => Below w.heap.size w W ∧ w.heap.size + 5 ≤ W.heap.size ∧ (∃ x y, Is W (w.heap.size + 1 + 1 + 1) [x, y] 60) ∧ Is W (w.heap.size + 1 + 1) M 25 ∧ W.cell? ⟨w.heap.size + 1 + 1 + 1 + 1, 0, none⟩ = some (.slice (some ⟨b, off, none⟩) kl kc) ∧ W.cell? ⟨w.heap.size + 1 + 1 + 1 + 1, 1, none⟩ = some (.int .i64 0) ∧ W.cell? ⟨w.heap.size, 0, none⟩ = some (.slice (some ⟨b, off, none⟩) tl kc) ∧ W.cell? ⟨w.heap.size + 1, 1, none⟩ = some (.int .i64 (N : Int))) (by kernel_rfl) ?_ (fun hHeld0 => ?_)
  · exact ⟨HS0.out.1.drew, HS0.out.2⟩
  refine wpAnyH_take (i := 0) (v := ?_) rfl (by kernel_rfl) (by kernel_rfl) (by kernel_rfl) (fun _ _ _ h => h) (Or.inl ⟨by rfl, ?_⟩) hHeld0 ?_
  rotate_left
  · (intro w hSw; (try dsimp only at hSw); go_simp <;> (try with_reducible rfl))
  simp only [Act.put, List.getElem_toArray, List.getElem_cons_zero, List.getElem_cons_succ, List.setIfInBounds_toArray, List.set_cons_zero, List.set_cons_succ]
  refine wpAnyH_take (i := 1) (v := ?_) rfl (by kernel_rfl) (by kernel_rfl) (by kernel_rfl) (fun _ _ _ h => h) (Or.inl ⟨by rfl, ?_⟩) hHeld0 ?_
  rotate_left
  · (intro w hSw; (try dsimp only at hSw); go_simp <;> (try with_reducible rfl))
  simp only [Act.put, List.getElem_toArray, List.getElem_cons_zero, List.getElem_cons_succ, List.setIfInBounds_toArray, List.set_cons_zero, List.set_cons_succ]
  refine wpAnyH_take (i := 2) (v := ?_) rfl (by kernel_rfl) (by kernel_rfl) (by kernel_rfl) (fun _ _ _ h => h) (Or.inl ⟨by rfl, ?_⟩) hHeld0 ?_
  rotate_left
  · (intro w hSw; (try dsimp only at hSw); go_simp <;> (try with_reducible rfl))
  simp only [Act.put, List.getElem_toArray, List.getElem_cons_zero, List.getElem_cons_succ, List.setIfInBounds_toArray, List.set_cons_zero, List.set_cons_succ]
  refine wpAnyH_take (i := 3) (v := ?_) rfl (by kernel_rfl) (by kernel_rfl) (by kernel_rfl) (fun _ _ _ h => h) (Or.inl ⟨by rfl, ?_⟩) hHeld0 ?_
  rotate_left
  · (intro w hSw; (try dsimp only at hSw); go_simp <;> (try with_reducible rfl))
  simp only [Act.put, List.getElem_toArray, List.getElem_cons_zero, List.getElem_cons_succ, List.setIfInBounds_toArray, List.set_cons_zero, List.set_cons_succ]
  refine wpAnyH_take (i := 4) (v := ?_) rfl (by kernel_rfl) (by kernel_rfl) (by kernel_rfl) (fun _ _ _ h => h) (Or.inl ⟨by rfl, ?_⟩) hHeld0 ?_
  rotate_left
  · (intro w hSw; (try dsimp only at hSw); go_simp <;> (try with_reducible rfl))
  simp only [Act.put, List.getElem_toArray, List.getElem_cons_zero, List.getElem_cons_succ, List.setIfInBounds_toArray, List.set_cons_zero, List.set_cons_succ]
  refine wpAnyH_take (i := 5) (v := ?_) rfl (by kernel_rfl) (by kernel_rfl) (by kernel_rfl) (fun _ _ _ h => h) (Or.inl ⟨by rfl, ?_⟩) hHeld0 ?_
  rotate_left
  · (intro w hSw; (try dsimp only at hSw); go_simp <;> (try with_reducible rfl))
  simp only [Act.put, List.getElem_toArray, List.getElem_cons_zero, List.getElem_cons_succ, List.setIfInBounds_toArray, List.set_cons_zero, List.set_cons_succ]
  refine wpAnyH_take (i := 6) (v := ?_) rfl (by kernel_rfl) (by kernel_rfl) (by kernel_rfl) (fun _ _ _ h => h) (Or.inl ⟨by rfl, ?_⟩) hHeld0 ?_
  rotate_left
  · (intro w hSw; (try dsimp only at hSw); go_simp <;> (try with_reducible rfl))
  simp only [Act.put, List.getElem_toArray, List.getElem_cons_zero, List.getElem_cons_succ, List.setIfInBounds_toArray, List.set_cons_zero, List.set_cons_succ]
  refine wpAnyH_take (i := 7) (v := ?_) rfl (by kernel_rfl) (by kernel_rfl) (by kernel_rfl) (fun _ _ _ h => h) (Or.inl ⟨by rfl, ?_⟩) hHeld0 ?_
  rotate_left
  · (intro w hSw; (try dsimp only at hSw); go_simp <;> (try with_reducible rfl))
  simp only [Act.put, List.getElem_toArray, List.getElem_cons_zero, List.getElem_cons_succ, List.setIfInBounds_toArray, List.set_cons_zero, List.set_cons_succ]
  refine wpAnyH_take (i := 8) (v := ?_) rfl (by kernel_rfl) (by kernel_rfl) (by kernel_rfl) (fun _ _ _ h => h) (Or.inl ⟨by rfl, ?_⟩) hHeld0 ?_
  rotate_left
  · (intro w hSw; (try dsimp only at hSw); go_simp <;> (try with_reducible rfl))
  simp only [Act.put, List.getElem_toArray, List.getElem_cons_zero, List.getElem_cons_succ, List.setIfInBounds_toArray, List.set_cons_zero, List.set_cons_succ]
  refine wpAnyH_take (i := 9) (v := ?_) rfl (by kernel_rfl) (by kernel_rfl) (by kernel_rfl) (fun _ _ _ h => h) (Or.inl ⟨by rfl, ?_⟩) hHeld0 ?_
  rotate_left
  · (intro w hSw; (try dsimp only at hSw); go_simp <;> (try with_reducible rfl))
  simp only [Act.put, List.getElem_toArray, List.getElem_cons_zero, List.getElem_cons_succ, List.setIfInBounds_toArray, List.set_cons_zero, List.set_cons_succ]
  refine wpAnyH_take (i := 10) (v := ?_) rfl (by kernel_rfl) (by kernel_rfl) (by kernel_rfl) (fun _ _ _ h => h) (Or.inl ⟨by rfl, ?_⟩) hHeld0 ?_
  rotate_left
  · (intro w hSw; (try dsimp only at hSw); go_simp <;> (try with_reducible rfl))
  simp only [Act.put, List.getElem_toArray, List.getElem_cons_zero, List.getElem_cons_succ, List.setIfInBounds_toArray, List.set_cons_zero, List.set_cons_succ]
  refine wpAnyH_take (i := 11) (v := ?_) rfl (by kernel_rfl) (by kernel_rfl) (by kernel_rfl) (fun _ _ _ h => h) (Or.inl ⟨by rfl, ?_⟩) hHeld0 ?_
  rotate_left
  · (intro w hSw; (try dsimp only at hSw); go_simp <;> (try with_reducible rfl))
  simp only [Act.put, List.getElem_toArray, List.getElem_cons_zero, List.getElem_cons_succ, List.setIfInBounds_toArray, List.set_cons_zero, List.set_cons_succ]
  refine wpAnyH_take (i := 12) (v := ?_) rfl (by kernel_rfl) (by kernel_rfl) (by kernel_rfl) (fun _ _ _ h => h) (Or.inl ⟨by rfl, ?_⟩) hHeld0 ?_
  rotate_left
  · (intro w hSw; (try dsimp only at hSw); go_simp <;> (try with_reducible rfl))
  simp only [Act.put, List.getElem_toArray, List.getElem_cons_zero, List.getElem_cons_succ, List.setIfInBounds_toArray, List.set_cons_zero, List.set_cons_succ]
  refine wpAnyH_take (i := 13) (v := ?_) rfl (by kernel_rfl) (by kernel_rfl) (by kernel_rfl) (fun _ _ _ h => h) (Or.inl ⟨by rfl, ?_⟩) hHeld0 ?_
  rotate_left
  · (intro w hSw; (try dsimp only at hSw); go_simp <;> (try with_reducible rfl))
  simp only [Act.put, List.getElem_toArray, List.getElem_cons_zero, List.getElem_cons_succ, List.setIfInBounds_toArray, List.set_cons_zero, List.set_cons_succ]
  refine wpAnyH_take (i := 14) (v := ?_) rfl (by kernel_rfl) (by kernel_rfl) (by kernel_rfl) (fun _ _ _ h => h) (Or.inl ⟨by rfl, ?_⟩) hHeld0 ?_
  rotate_left
  · (intro w hSw; (try dsimp only at hSw); go_simp <;> (try with_reducible rfl))
  simp only [Act.put, List.getElem_toArray, List.getElem_cons_zero, List.getElem_cons_succ, List.setIfInBounds_toArray, List.set_cons_zero, List.set_cons_succ]
  refine wpAnyH_take (i := 15) (v := ?_) rfl (by kernel_rfl) (by kernel_rfl) (by kernel_rfl) (fun _ _ _ h => h) (Or.inl ⟨by rfl, ?_⟩) hHeld0 ?_
  rotate_left
  · (intro w hSw; (try dsimp only at hSw); go_simp <;> (try with_reducible rfl))
  simp only [Act.put, List.getElem_toArray, List.getElem_cons_zero, List.getElem_cons_succ, List.setIfInBounds_toArray, List.set_cons_zero, List.set_cons_succ]
  refine wpAnyH_take (i := 16) (v := ?_) rfl (by kernel_rfl) (by kernel_rfl) (by kernel_rfl) (fun _ _ _ h => h) (Or.inl ⟨by rfl, ?_⟩) hHeld0 ?_
  rotate_left
  · (intro w hSw; (try dsimp only at hSw); go_simp <;> (try with_reducible rfl))
  simp only [Act.put, List.getElem_toArray, List.getElem_cons_zero, List.getElem_cons_succ, List.setIfInBounds_toArray, List.set_cons_zero, List.set_cons_succ]
  refine wpAnyH_take (i := 17) (v := ?_) rfl (by kernel_rfl) (by kernel_rfl) (by kernel_rfl) (fun _ _ _ h => h) (Or.inl ⟨by rfl, ?_⟩) hHeld0 ?_
  rotate_left
  · (intro w hSw; (try dsimp only at hSw); go_simp <;> (try with_reducible rfl))
  simp only [Act.put, List.getElem_toArray, List.getElem_cons_zero, List.getElem_cons_succ, List.setIfInBounds_toArray, List.set_cons_zero, List.set_cons_succ]
  refine wpAnyH_take (i := 18) (v := ?_) rfl (by kernel_rfl) (by kernel_rfl) (by kernel_rfl) (fun _ _ _ h => h) (Or.inl ⟨by rfl, ?_⟩) hHeld0 ?_
  rotate_left
  · (intro w hSw; (try dsimp only at hSw); go_simp <;> (try with_reducible rfl))
  simp only [Act.put, List.getElem_toArray, List.getElem_cons_zero, List.getElem_cons_succ, List.setIfInBounds_toArray, List.set_cons_zero, List.set_cons_succ]
  refine wpAnyH_take (i := 19) (v := ?_) rfl (by kernel_rfl) (by kernel_rfl) (by kernel_rfl) (fun _ _ _ h => h) (Or.inl ⟨by rfl, ?_⟩) hHeld0 ?_
  rotate_left
  · (intro w hSw; (try dsimp only at hSw); go_simp <;> (try with_reducible rfl))
  simp only [Act.put, List.getElem_toArray, List.getElem_cons_zero, List.getElem_cons_succ, List.setIfInBounds_toArray, List.set_cons_zero, List.set_cons_succ]
  refine wpAnyH_take (i := 20) (v := .agg (M).toArray) rfl (by kernel_rfl) (by kernel_rfl) (by kernel_rfl) (fun _ _ _ h => h) (yieldsIf_load_mid (by rfl) _ _ rfl _ _ rfl (M) _ (fun w hSw => hSw.2.2.2.1.range) Tryd.underlying25 rfl hszM) hHeld0 ?_
  simp only [Act.put, List.getElem_toArray, List.getElem_cons_zero, List.getElem_cons_succ, List.setIfInBounds_toArray, List.set_cons_zero, List.set_cons_succ]
  refine wpAnyH_ready (rs := [21]) (by kernel_rfl) (by simp) ?_
  refine AllReadyH.cons rfl (fun K hK => ?_) AllReadyH.nil
  go_simp
  go_wp2_with ((go_at_call 67; refine (HAM.out _ hHeld0.1).mono ?_; rintro e W1 ⟨rfl, hb1⟩))
  refine hK.out _ _ (by exact dS_below hHeld0 hb1) (fun hHeld1 => ?_)
  clear hK K hHeld0
  try simp only [Act.put, List.getElem_toArray, List.getElem_cons_zero, List.getElem_cons_succ, List.setIfInBounds_toArray, List.set_cons_zero, List.set_cons_succ]
  refine wpAnyH_take (i := 22) (v := ?_) rfl (by kernel_rfl) (by kernel_rfl) (by kernel_rfl) (fun _ _ _ h => h) (Or.inl ⟨by rfl, ?_⟩) hHeld1 ?_
  rotate_left
  · (intro w hSw; (try dsimp only at hSw); go_simp <;> (try with_reducible rfl))
  simp only [Act.put, List.getElem_toArray, List.getElem_cons_zero, List.getElem_cons_succ, List.setIfInBounds_toArray, List.set_cons_zero, List.set_cons_succ]
  refine wpAnyH_ready (rs := [23]) (by kernel_rfl) (by simp) ?_
  refine AllReadyH.cons rfl (fun K hK => ?_) AllReadyH.nil
  go_simp
  go_wp2_with ((go_at_call 63; refine (HT.out _ hHeld1.1 hHeld1.2.1).mono ?_; rintro e W2 ⟨fa, fn, fc, fe, rfl, hh2, hb2⟩))
  refine hK.out _ _ (by exact dS_below hHeld1 hb2) (fun hHeld2 => ?_)
  clear hK K hHeld1
  try simp only [Act.put, List.getElem_toArray, List.getElem_cons_zero, List.getElem_cons_succ, List.setIfInBounds_toArray, List.set_cons_zero, List.set_cons_succ]
  refine wpAnyH_ready (rs := [24]) (by kernel_rfl) (by simp) ?_
  refine AllReadyH.cons rfl (fun K hK => ?_) AllReadyH.nil
  obtain ⟨x0, y0, hI0⟩ := hHeld2.2.2.1
  have HEND := done_end hh2 (Nat.le_succ _) hHeld2.1 hI0
  have hc0 := hI0.cell 0
  have hc1 := hI0.cell 1
  have hfz := hI0.frozen
  simp only [List.getElem?_cons_zero, List.getElem?_cons_succ] at hc0 hc1
  go_simp
  refine hK.out _ _ (by exact dS_store hHeld2 HBLT.out _ _) (fun hHeld3 => ?_)
  clear hK K hHeld2
  try simp only [Act.put, List.getElem_toArray, List.getElem_cons_zero, List.getElem_cons_succ, List.setIfInBounds_toArray, List.set_cons_zero, List.set_cons_succ]
  refine wpAnyH_done (by kernel_rfl) ?_ _
  obtain ⟨hz, hbz, hiz⟩ := HEND
  clear hHeld3
  go_wp2
  exact bodyPost_ret (v := .agg #[.slice fa fn fc, .int .i64 fe]) (results_cell1 Tryd.results47 rfl (hiz.loadS Tryd.underlying60 (by kernel_rfl))) rfl ⟨_, rfl, hz, hbz⟩
end Go.Proofs.YtkdihbgjeanjdaaDoor

/- The document's answer on locks: one op (Done): so many of as many keys. -/
namespace Go.Proofs.YtkdihbgjeanjdaaDoor
open Go.RowKit
set_option linter.unusedVariables false
set_option linter.unusedSimpArgs false

set_option maxRecDepth 100000 in
set_option maxHeartbeats 4000000 in
theorem done_manya (Z : Nat → Prop) (m : List Int) (h : Int) (N : Nat) (w : World) (hm : m.length = 32) (hmb : Sz.Byt m) (hZ : ∀ b, Z b → b < w.heap.size) (K L : List (List Int × Value)) (p : List Int × Value) (sv ov : Value) (x : List Int) (hk : KeysZ Z w sv (K ++ (L ++ [p]))) (h30 : (K ++ (L ++ [p])).length ≤ 30) (hN : L.length = N) (hN1 : 1 ≤ N) (hN9 : N ≤ 9) (hx : Has w ov x) (hp : p.1.length = 0) :
    Calls Tryd.prog 47 #[.agg #[sv, .int .i64 0], .agg #[.int .i64 9, .int .i64 (N : Int), ov], .agg (vals m).toArray, .int .i64 h] w fun e w' => ∃ v', e = .returned v' ∧ HandZ Z w' v' (Lk.tell (false) (stk K)) ∧ Below w.heap.size w w' := by
  obtain ⟨ka, kc, rfl, _, _, _⟩ := (hk w (SameZ.refl Z w)).form
  obtain ⟨xa, xc, rfl, _, _⟩ := hx.shape
  have hkl : (K ++ (L ++ [p])).length = K.length + N + 1 := by simp [hN]; omega
  rw [hkl] at hk h30 ⊢
  have hML : (vals m).length = 32 := by rw [vals_length]; exact hm
  have hszM : (Tryd.prog.info? 25).map (·.size) = some (vals m).length := by rw [hML]; exact size_dig
  obtain ⟨b, off, rfl, hkc1, hkc2, hblt, hcP, hpZ, hpB⟩ := KeysZ.at (K := K ++ L) (L := []) (p := p) (by rw [List.append_assoc]; exact hk)
  rw [List.length_append, hN] at hcP
  obtain ⟨pa, pc, hpe, _, hpm⟩ := (hpZ w (SameZ.refl Z w)).shape
  rw [hpe] at hcP hpZ
  have hfront := hk.front
  have hmid := hk.mid (by omega)
  rw [hN] at hmid
  unfold maxLen at hkc2 hpm
  have hk29 : K.length < 30 := by omega
  have HT : Hid (∀ W, Below w.heap.size w W → w.heap.size + 5 ≤ W.heap.size → Calls Tryd.prog 63 #[.agg #[.slice (some ⟨b, off, none⟩) K.length kc, .int .i64 0], .bool (false)] W fun e w' => ∃ fa fn fc fe, e = .returned (.agg #[.slice fa fn fc, .int .i64 fe]) ∧ HandZ (Zup Z w.heap.size (w.heap.size + 5)) w' (.agg #[.slice fa fn fc, .int .i64 fe]) (Lk.tell (false) (stk K)) ∧ Below W.heap.size W w') := hide (fun W hb hB => told_up _ hZ hb hB hfront (by omega))
  generalize vals m = M at *
  obtain ⟨tl, htl⟩ : ∃ n, n = K.length + N + 1 := ⟨_, rfl⟩
  rw [← htl] at hkc1 ⊢
  obtain ⟨kt, hkt⟩ : ∃ n, n = K.length + N := ⟨_, rfl⟩
  rw [← hkt] at hcP
  obtain ⟨hg1, hg2, hg3, hg4, hg5⟩ := boxes4 w [.slice (some ⟨b, off, none⟩) tl kc, .int .i64 0] [.int .i64 9, .int .i64 (N : Int), .slice xa x.length xc] M [.slice none 0 0, .int .i64 0] 60 38 25 60
  obtain ⟨hf1, hf2, hf3, hf4, hf5, hf6⟩ := boxes5 w [.slice (some ⟨b, off, none⟩) tl kc, .int .i64 0] [.int .i64 9, .int .i64 (N : Int), .slice xa x.length xc] M [.slice none 0 0, .int .i64 0] [.slice (some ⟨b, off, none⟩) K.length kc, .int .i64 0] 60 38 25 60 60
  have hf7 := ((((Is.new' (w := w.alloc (.cells #[.slice (some ⟨b, off, none⟩) tl kc, .int .i64 0] 60)) (b := w.heap.size + 1) [.int .i64 9, .int .i64 (N : Int), .slice xa x.length xc] 38 (by simp)).alloc (.cells M.toArray 25)).alloc (.cells #[.slice none 0 0, .int .i64 0] 60)).alloc (.cells #[.slice (some ⟨b, off, none⟩) K.length kc, .int .i64 0] 60)).cell 1
  have hctop := hcP _ (SameZ.of_below hg1)
  have HS0 := hide (show _ ∧ _ ∧ (∃ x y, Is _ (w.heap.size + 1 + 1 + 1) [x, y] 60) ∧ _ ∧ _ ∧ _ ∧ _ ∧ _ from ⟨hf1, hf6, ⟨_, _, hf4⟩, hf3, hf5.cell 0, hf5.cell 1, hf2.cell 0, hf7⟩)
  have HBLT : Hid (w.heap.size + 1 ≠ w.heap.size + 1 + 1 + 1) := hide (by omega)
  have hsub : (tl : Int) - (1 + (N : Int)) = (K.length : Int) := by omega
  have hsub1 : (tl : Int) - 1 = (kt : Int) := by omega
  have hadd : (K.length : Int) + (N : Int) = (kt : Int) := by omega
  have hlt1 : (kt : Int) < (tl : Int) := by omega
  have hle1 : (K.length : Int) ≤ (tl : Int) := by omega
  have hle2 : (K.length : Int) ≤ (kt : Int) := by omega
  have hle3 : (kt : Int) ≤ (kc : Int) := by omega
  have hle4 : (K.length : Int) ≤ (kc : Int) := by omega
  have hkne : ¬ kc = K.length := by omega
  have hNn : kt - K.length = N := by omega
  have htl30 : tl ≤ 30 := by omega
  have hle2n : K.length ≤ kt := by omega
  have hwr : IntKind.i64.wrap (kt : Int) = (kt : Int) := by simp [IntKind.wrap, IntKind.bits, IntKind.signed]; omega
  have hd1 : decide ((0 : Int) < (p.1.length : Int)) = false := decide_eq_false (by omega)
  have hd1n : decide (0 < p.1.length) = false := decide_eq_false (by omega)
  clear hg1 hg2 hg3 hg4 hg5 hf1 hf2 hf3 hf4 hf5 hf6 hf7 hk hx hcP hkl hfront hmid hN htl hkt hp hML
  generalize Lk.tell false (stk K) = r at *
  generalize K.length = kl at *
  generalize x.length = xl at *
  generalize p.1.length = pl at *
  go_enter Tryd.func47, Tryd.ntmps47
  go_wp2
  refine wp_region_held_drew (S := fun W : World => Below w.heap.size w W ∧ w.heap.size + 5 ≤ W.heap.size ∧ (∃ x y, Is W (w.heap.size + 1 + 1 + 1) [x, y] 60) ∧ Is W (w.heap.size + 1 + 1) M 25 ∧ W.cell? ⟨w.heap.size + 1 + 1 + 1 + 1, 0, none⟩ = some (.slice (some ⟨b, off, none⟩) kl kc) ∧ W.cell? ⟨w.heap.size + 1 + 1 + 1 + 1, 1, none⟩ = some (.int .i64 0) ∧ W.cell? ⟨w.heap.size, 0, none⟩ = some (.slice (some ⟨b, off, none⟩) tl kc) ∧ W.cell? ⟨w.heap.size + 1, 1, none⟩ = some (.int .i64 (N : Int))) (by kernel_rfl) ?_ (fun hHeld0 => ?_)
  · exact ⟨HS0.out.1.drew, HS0.out.2⟩
  refine wpAnyH_take (i := 0) (v := ?_) rfl (by kernel_rfl) (by kernel_rfl) (by kernel_rfl) (fun _ _ _ h => h) (Or.inl ⟨by rfl, ?_⟩) hHeld0 ?_
  rotate_left
  · (intro w hSw; (try dsimp only at hSw); go_simp <;> (try with_reducible rfl))
  simp only [Act.put, List.getElem_toArray, List.getElem_cons_zero, List.getElem_cons_succ, List.setIfInBounds_toArray, List.set_cons_zero, List.set_cons_succ]
  refine wpAnyH_take (i := 1) (v := ?_) rfl (by kernel_rfl) (by kernel_rfl) (by kernel_rfl) (fun _ _ _ h => h) (Or.inl ⟨by rfl, ?_⟩) hHeld0 ?_
  rotate_left
  · (intro w hSw; (try dsimp only at hSw); go_simp <;> (try with_reducible rfl))
  simp only [Act.put, List.getElem_toArray, List.getElem_cons_zero, List.getElem_cons_succ, List.setIfInBounds_toArray, List.set_cons_zero, List.set_cons_succ]
  refine wpAnyH_take (i := 2) (v := ?_) rfl (by kernel_rfl) (by kernel_rfl) (by kernel_rfl) (fun _ _ _ h => h) (Or.inl ⟨by rfl, ?_⟩) hHeld0 ?_
  rotate_left
  · (intro w hSw; (try dsimp only at hSw); go_simp <;> (try with_reducible rfl))
  simp only [Act.put, List.getElem_toArray, List.getElem_cons_zero, List.getElem_cons_succ, List.setIfInBounds_toArray, List.set_cons_zero, List.set_cons_succ]
  refine wpAnyH_take (i := 3) (v := ?_) rfl (by kernel_rfl) (by kernel_rfl) (by kernel_rfl) (fun _ _ _ h => h) (Or.inl ⟨by rfl, ?_⟩) hHeld0 ?_
  rotate_left
  · (intro w hSw; (try dsimp only at hSw); go_simp <;> (try with_reducible rfl))
  simp only [Act.put, List.getElem_toArray, List.getElem_cons_zero, List.getElem_cons_succ, List.setIfInBounds_toArray, List.set_cons_zero, List.set_cons_succ]
  refine wpAnyH_take (i := 4) (v := ?_) rfl (by kernel_rfl) (by kernel_rfl) (by kernel_rfl) (fun _ _ _ h => h) (Or.inl ⟨by rfl, ?_⟩) hHeld0 ?_
  rotate_left
  · (intro w hSw; (try dsimp only at hSw); go_simp <;> (try with_reducible rfl))
  simp only [Act.put, List.getElem_toArray, List.getElem_cons_zero, List.getElem_cons_succ, List.setIfInBounds_toArray, List.set_cons_zero, List.set_cons_succ]
  refine wpAnyH_take (i := 5) (v := undef) rfl (by kernel_rfl) (by kernel_rfl) (by kernel_rfl) (fun _ _ _ h => h) (Or.inr ⟨by rfl, rfl⟩) hHeld0 ?_
  simp only [Act.put, List.getElem_toArray, List.getElem_cons_zero, List.getElem_cons_succ, List.setIfInBounds_toArray, List.set_cons_zero, List.set_cons_succ]
  refine wpAnyH_take (i := 6) (v := undef) rfl (by kernel_rfl) (by kernel_rfl) (by kernel_rfl) (fun _ _ _ h => h) (Or.inr ⟨by rfl, rfl⟩) hHeld0 ?_
  simp only [Act.put, List.getElem_toArray, List.getElem_cons_zero, List.getElem_cons_succ, List.setIfInBounds_toArray, List.set_cons_zero, List.set_cons_succ]
  refine wpAnyH_take (i := 7) (v := undef) rfl (by kernel_rfl) (by kernel_rfl) (by kernel_rfl) (fun _ _ _ h => h) (Or.inr ⟨by rfl, rfl⟩) hHeld0 ?_
  simp only [Act.put, List.getElem_toArray, List.getElem_cons_zero, List.getElem_cons_succ, List.setIfInBounds_toArray, List.set_cons_zero, List.set_cons_succ]
  refine wpAnyH_take (i := 8) (v := undef) rfl (by kernel_rfl) (by kernel_rfl) (by kernel_rfl) (fun _ _ _ h => h) (Or.inr ⟨by rfl, rfl⟩) hHeld0 ?_
  simp only [Act.put, List.getElem_toArray, List.getElem_cons_zero, List.getElem_cons_succ, List.setIfInBounds_toArray, List.set_cons_zero, List.set_cons_succ]
  refine wpAnyH_take (i := 9) (v := ?_) rfl (by kernel_rfl) (by kernel_rfl) (by kernel_rfl) (fun _ _ _ h => h) (Or.inl ⟨by rfl, ?_⟩) hHeld0 ?_
  rotate_left
  · (intro w hSw; (try dsimp only at hSw); go_simp <;> (try with_reducible rfl))
  simp only [Act.put, List.getElem_toArray, List.getElem_cons_zero, List.getElem_cons_succ, List.setIfInBounds_toArray, List.set_cons_zero, List.set_cons_succ]
  refine wpAnyH_take (i := 10) (v := ?_) rfl (by kernel_rfl) (by kernel_rfl) (by kernel_rfl) (fun _ _ _ h => h) (Or.inl ⟨by rfl, ?_⟩) hHeld0 ?_
  rotate_left
  · (intro w hSw; (try dsimp only at hSw); go_simp <;> (try with_reducible rfl))
  simp only [Act.put, List.getElem_toArray, List.getElem_cons_zero, List.getElem_cons_succ, List.setIfInBounds_toArray, List.set_cons_zero, List.set_cons_succ]
  refine wpAnyH_take (i := 11) (v := undef) rfl (by kernel_rfl) (by kernel_rfl) (by kernel_rfl) (fun _ _ _ h => h) (Or.inr ⟨by rfl, rfl⟩) hHeld0 ?_
  simp only [Act.put, List.getElem_toArray, List.getElem_cons_zero, List.getElem_cons_succ, List.setIfInBounds_toArray, List.set_cons_zero, List.set_cons_succ]
  refine wpAnyH_take (i := 12) (v := undef) rfl (by kernel_rfl) (by kernel_rfl) (by kernel_rfl) (fun _ _ _ h => h) (Or.inr ⟨by rfl, rfl⟩) hHeld0 ?_
  simp only [Act.put, List.getElem_toArray, List.getElem_cons_zero, List.getElem_cons_succ, List.setIfInBounds_toArray, List.set_cons_zero, List.set_cons_succ]
  refine wpAnyH_take (i := 13) (v := undef) rfl (by kernel_rfl) (by kernel_rfl) (by kernel_rfl) (fun _ _ _ h => h) (Or.inr ⟨by rfl, rfl⟩) hHeld0 ?_
  simp only [Act.put, List.getElem_toArray, List.getElem_cons_zero, List.getElem_cons_succ, List.setIfInBounds_toArray, List.set_cons_zero, List.set_cons_succ]
  refine wpAnyH_take (i := 14) (v := undef) rfl (by kernel_rfl) (by kernel_rfl) (by kernel_rfl) (fun _ _ _ h => h) (Or.inr ⟨by rfl, rfl⟩) hHeld0 ?_
  simp only [Act.put, List.getElem_toArray, List.getElem_cons_zero, List.getElem_cons_succ, List.setIfInBounds_toArray, List.set_cons_zero, List.set_cons_succ]
  refine wpAnyH_take (i := 15) (v := undef) rfl (by kernel_rfl) (by kernel_rfl) (by kernel_rfl) (fun _ _ _ h => h) (Or.inr ⟨by rfl, rfl⟩) hHeld0 ?_
  simp only [Act.put, List.getElem_toArray, List.getElem_cons_zero, List.getElem_cons_succ, List.setIfInBounds_toArray, List.set_cons_zero, List.set_cons_succ]
  refine wpAnyH_take (i := 16) (v := undef) rfl (by kernel_rfl) (by kernel_rfl) (by kernel_rfl) (fun _ _ _ h => h) (Or.inr ⟨by rfl, rfl⟩) hHeld0 ?_
  simp only [Act.put, List.getElem_toArray, List.getElem_cons_zero, List.getElem_cons_succ, List.setIfInBounds_toArray, List.set_cons_zero, List.set_cons_succ]
  refine wpAnyH_take (i := 17) (v := undef) rfl (by kernel_rfl) (by kernel_rfl) (by kernel_rfl) (fun _ _ _ h => h) (Or.inr ⟨by rfl, rfl⟩) hHeld0 ?_
  simp only [Act.put, List.getElem_toArray, List.getElem_cons_zero, List.getElem_cons_succ, List.setIfInBounds_toArray, List.set_cons_zero, List.set_cons_succ]
  refine wpAnyH_take (i := 18) (v := undef) rfl (by kernel_rfl) (by kernel_rfl) (by kernel_rfl) (fun _ _ _ h => h) (Or.inr ⟨by rfl, rfl⟩) hHeld0 ?_
  simp only [Act.put, List.getElem_toArray, List.getElem_cons_zero, List.getElem_cons_succ, List.setIfInBounds_toArray, List.set_cons_zero, List.set_cons_succ]
  refine wpAnyH_take (i := 19) (v := undef) rfl (by kernel_rfl) (by kernel_rfl) (by kernel_rfl) (fun _ _ _ h => h) (Or.inr ⟨by rfl, rfl⟩) hHeld0 ?_
  simp only [Act.put, List.getElem_toArray, List.getElem_cons_zero, List.getElem_cons_succ, List.setIfInBounds_toArray, List.set_cons_zero, List.set_cons_succ]
  refine wpAnyH_take (i := 20) (v := undef) rfl (by kernel_rfl) (by kernel_rfl) (by kernel_rfl) (fun _ _ _ h => h) (Or.inr ⟨by rfl, rfl⟩) hHeld0 ?_
  simp only [Act.put, List.getElem_toArray, List.getElem_cons_zero, List.getElem_cons_succ, List.setIfInBounds_toArray, List.set_cons_zero, List.set_cons_succ]
  refine wpAnyH_take (i := 21) (v := undef) rfl (by kernel_rfl) (by kernel_rfl) (by kernel_rfl) (fun _ _ _ h => h) (Or.inr ⟨by rfl, rfl⟩) hHeld0 ?_
  simp only [Act.put, List.getElem_toArray, List.getElem_cons_zero, List.getElem_cons_succ, List.setIfInBounds_toArray, List.set_cons_zero, List.set_cons_succ]
  refine wpAnyH_take (i := 22) (v := ?_) rfl (by kernel_rfl) (by kernel_rfl) (by kernel_rfl) (fun _ _ _ h => h) (Or.inl ⟨by rfl, ?_⟩) hHeld0 ?_
  rotate_left
  · (intro w hSw; (try dsimp only at hSw); go_simp <;> (try with_reducible rfl))
  simp only [Act.put, List.getElem_toArray, List.getElem_cons_zero, List.getElem_cons_succ, List.setIfInBounds_toArray, List.set_cons_zero, List.set_cons_succ]
  refine wpAnyH_ready (rs := [23]) (by kernel_rfl) (by simp) ?_
  refine AllReadyH.cons rfl (fun K hK => ?_) AllReadyH.nil
  go_simp
  go_wp2_with ((go_at_call 63; refine (HT.out _ hHeld0.1 hHeld0.2.1).mono ?_; rintro e W2 ⟨fa, fn, fc, fe, rfl, hh2, hb2⟩))
  refine hK.out _ _ (by exact dS_below hHeld0 hb2) (fun hHeld1 => ?_)
  clear hK K hHeld0
  try simp only [Act.put, List.getElem_toArray, List.getElem_cons_zero, List.getElem_cons_succ, List.setIfInBounds_toArray, List.set_cons_zero, List.set_cons_succ]
  refine wpAnyH_ready (rs := [24]) (by kernel_rfl) (by simp) ?_
  refine AllReadyH.cons rfl (fun K hK => ?_) AllReadyH.nil
  obtain ⟨x0, y0, hI0⟩ := hHeld1.2.2.1
  have HEND := done_end hh2 (Nat.le_succ _) hHeld1.1 hI0
  have hc0 := hI0.cell 0
  have hc1 := hI0.cell 1
  have hfz := hI0.frozen
  simp only [List.getElem?_cons_zero, List.getElem?_cons_succ] at hc0 hc1
  go_simp
  refine hK.out _ _ (by exact dS_store hHeld1 HBLT.out _ _) (fun hHeld2 => ?_)
  clear hK K hHeld1
  try simp only [Act.put, List.getElem_toArray, List.getElem_cons_zero, List.getElem_cons_succ, List.setIfInBounds_toArray, List.set_cons_zero, List.set_cons_succ]
  refine wpAnyH_done (by kernel_rfl) ?_ _
  obtain ⟨hz, hbz, hiz⟩ := HEND
  clear hHeld2
  go_wp2
  exact bodyPost_ret (v := .agg #[.slice fa fn fc, .int .i64 fe]) (results_cell1 Tryd.results47 rfl (hiz.loadS Tryd.underlying60 (by kernel_rfl))) rfl ⟨_, rfl, hz, hbz⟩
end Go.Proofs.YtkdihbgjeanjdaaDoor

/- The document's answer on locks: one op (Done): so many of as many keys. -/
namespace Go.Proofs.YtkdihbgjeanjdaaDoor
open Go.RowKit
set_option linter.unusedVariables false
set_option linter.unusedSimpArgs false

set_option maxRecDepth 100000 in
set_option maxHeartbeats 4000000 in
theorem done_manyb (Z : Nat → Prop) (m : List Int) (h : Int) (N : Nat) (w : World) (hm : m.length = 32) (hmb : Sz.Byt m) (hZ : ∀ b, Z b → b < w.heap.size) (K L : List (List Int × Value)) (p : List Int × Value) (sv ov : Value) (x : List Int) (hk : KeysZ Z w sv (K ++ (L ++ [p]))) (h30 : (K ++ (L ++ [p])).length ≤ 30) (hN : L.length = N) (hN1 : 1 ≤ N) (hN9 : N ≤ 9) (hx : Has w ov x) (hp0 : 0 < p.1.length) (hp : p.1.length % 32 ≠ 0) :
    Calls Tryd.prog 47 #[.agg #[sv, .int .i64 0], .agg #[.int .i64 9, .int .i64 (N : Int), ov], .agg (vals m).toArray, .int .i64 h] w fun e w' => ∃ v', e = .returned v' ∧ HandZ Z w' v' (Lk.tell (false) (stk K)) ∧ Below w.heap.size w w' := by
  obtain ⟨ka, kc, rfl, _, _, _⟩ := (hk w (SameZ.refl Z w)).form
  obtain ⟨xa, xc, rfl, _, _⟩ := hx.shape
  have hkl : (K ++ (L ++ [p])).length = K.length + N + 1 := by simp [hN]; omega
  rw [hkl] at hk h30 ⊢
  have hML : (vals m).length = 32 := by rw [vals_length]; exact hm
  have hszM : (Tryd.prog.info? 25).map (·.size) = some (vals m).length := by rw [hML]; exact size_dig
  obtain ⟨b, off, rfl, hkc1, hkc2, hblt, hcP, hpZ, hpB⟩ := KeysZ.at (K := K ++ L) (L := []) (p := p) (by rw [List.append_assoc]; exact hk)
  rw [List.length_append, hN] at hcP
  obtain ⟨pa, pc, hpe, _, hpm⟩ := (hpZ w (SameZ.refl Z w)).shape
  rw [hpe] at hcP hpZ
  have hfront := hk.front
  have hmid := hk.mid (by omega)
  rw [hN] at hmid
  unfold maxLen at hkc2 hpm
  have hk29 : K.length < 30 := by omega
  have HT : Hid (∀ W, Below w.heap.size w W → w.heap.size + 5 ≤ W.heap.size → Calls Tryd.prog 63 #[.agg #[.slice (some ⟨b, off, none⟩) K.length kc, .int .i64 0], .bool (false)] W fun e w' => ∃ fa fn fc fe, e = .returned (.agg #[.slice fa fn fc, .int .i64 fe]) ∧ HandZ (Zup Z w.heap.size (w.heap.size + 5)) w' (.agg #[.slice fa fn fc, .int .i64 fe]) (Lk.tell (false) (stk K)) ∧ Below W.heap.size W w') := hide (fun W hb hB => told_up _ hZ hb hB hfront (by omega))
  generalize vals m = M at *
  obtain ⟨tl, htl⟩ : ∃ n, n = K.length + N + 1 := ⟨_, rfl⟩
  rw [← htl] at hkc1 ⊢
  obtain ⟨kt, hkt⟩ : ∃ n, n = K.length + N := ⟨_, rfl⟩
  rw [← hkt] at hcP
  obtain ⟨hg1, hg2, hg3, hg4, hg5⟩ := boxes4 w [.slice (some ⟨b, off, none⟩) tl kc, .int .i64 0] [.int .i64 9, .int .i64 (N : Int), .slice xa x.length xc] M [.slice none 0 0, .int .i64 0] 60 38 25 60
  obtain ⟨hf1, hf2, hf3, hf4, hf5, hf6⟩ := boxes5 w [.slice (some ⟨b, off, none⟩) tl kc, .int .i64 0] [.int .i64 9, .int .i64 (N : Int), .slice xa x.length xc] M [.slice none 0 0, .int .i64 0] [.slice (some ⟨b, off, none⟩) K.length kc, .int .i64 0] 60 38 25 60 60
  have hf7 := ((((Is.new' (w := w.alloc (.cells #[.slice (some ⟨b, off, none⟩) tl kc, .int .i64 0] 60)) (b := w.heap.size + 1) [.int .i64 9, .int .i64 (N : Int), .slice xa x.length xc] 38 (by simp)).alloc (.cells M.toArray 25)).alloc (.cells #[.slice none 0 0, .int .i64 0] 60)).alloc (.cells #[.slice (some ⟨b, off, none⟩) K.length kc, .int .i64 0] 60)).cell 1
  have hctop := hcP _ (SameZ.of_below hg1)
  have HS0 := hide (show _ ∧ _ ∧ (∃ x y, Is _ (w.heap.size + 1 + 1 + 1) [x, y] 60) ∧ _ ∧ _ ∧ _ ∧ _ ∧ _ from ⟨hf1, hf6, ⟨_, _, hf4⟩, hf3, hf5.cell 0, hf5.cell 1, hf2.cell 0, hf7⟩)
  have HBLT : Hid (w.heap.size + 1 ≠ w.heap.size + 1 + 1 + 1) := hide (by omega)
  have hsub : (tl : Int) - (1 + (N : Int)) = (K.length : Int) := by omega
  have hsub1 : (tl : Int) - 1 = (kt : Int) := by omega
  have hadd : (K.length : Int) + (N : Int) = (kt : Int) := by omega
  have hlt1 : (kt : Int) < (tl : Int) := by omega
  have hle1 : (K.length : Int) ≤ (tl : Int) := by omega
  have hle2 : (K.length : Int) ≤ (kt : Int) := by omega
  have hle3 : (kt : Int) ≤ (kc : Int) := by omega
  have hle4 : (K.length : Int) ≤ (kc : Int) := by omega
  have hkne : ¬ kc = K.length := by omega
  have hNn : kt - K.length = N := by omega
  have htl30 : tl ≤ 30 := by omega
  have hle2n : K.length ≤ kt := by omega
  have hwr : IntKind.i64.wrap (kt : Int) = (kt : Int) := by simp [IntKind.wrap, IntKind.bits, IntKind.signed]; omega
  have hd1 : decide ((0 : Int) < (p.1.length : Int)) = true := decide_eq_true (by omega)
  have hd1n : decide (0 < p.1.length) = true := decide_eq_true (by omega)
  have hd2 : ((p.1.length : Int).tmod 32 == 0) = false := by rw [Int.tmod_eq_emod_of_nonneg (by omega), beq_eq_false_iff_ne]; omega
  clear hg1 hg2 hg3 hg4 hg5 hf1 hf2 hf3 hf4 hf5 hf6 hf7 hk hx hcP hkl hfront hmid hN htl hkt hp hp0 hML
  generalize Lk.tell false (stk K) = r at *
  generalize K.length = kl at *
  generalize x.length = xl at *
  generalize p.1.length = pl at *
  go_enter Tryd.func47, Tryd.ntmps47
  go_wp2
  refine wp_region_held_drew (S := fun W : World => Below w.heap.size w W ∧ w.heap.size + 5 ≤ W.heap.size ∧ (∃ x y, Is W (w.heap.size + 1 + 1 + 1) [x, y] 60) ∧ Is W (w.heap.size + 1 + 1) M 25 ∧ W.cell? ⟨w.heap.size + 1 + 1 + 1 + 1, 0, none⟩ = some (.slice (some ⟨b, off, none⟩) kl kc) ∧ W.cell? ⟨w.heap.size + 1 + 1 + 1 + 1, 1, none⟩ = some (.int .i64 0) ∧ W.cell? ⟨w.heap.size, 0, none⟩ = some (.slice (some ⟨b, off, none⟩) tl kc) ∧ W.cell? ⟨w.heap.size + 1, 1, none⟩ = some (.int .i64 (N : Int))) (by kernel_rfl) ?_ (fun hHeld0 => ?_)
  · exact ⟨HS0.out.1.drew, HS0.out.2⟩
  refine wpAnyH_take (i := 0) (v := ?_) rfl (by kernel_rfl) (by kernel_rfl) (by kernel_rfl) (fun _ _ _ h => h) (Or.inl ⟨by rfl, ?_⟩) hHeld0 ?_
  rotate_left
  · (intro w hSw; (try dsimp only at hSw); go_simp <;> (try with_reducible rfl))
  simp only [Act.put, List.getElem_toArray, List.getElem_cons_zero, List.getElem_cons_succ, List.setIfInBounds_toArray, List.set_cons_zero, List.set_cons_succ]
  refine wpAnyH_take (i := 1) (v := ?_) rfl (by kernel_rfl) (by kernel_rfl) (by kernel_rfl) (fun _ _ _ h => h) (Or.inl ⟨by rfl, ?_⟩) hHeld0 ?_
  rotate_left
  · (intro w hSw; (try dsimp only at hSw); go_simp <;> (try with_reducible rfl))
  simp only [Act.put, List.getElem_toArray, List.getElem_cons_zero, List.getElem_cons_succ, List.setIfInBounds_toArray, List.set_cons_zero, List.set_cons_succ]
  refine wpAnyH_take (i := 2) (v := ?_) rfl (by kernel_rfl) (by kernel_rfl) (by kernel_rfl) (fun _ _ _ h => h) (Or.inl ⟨by rfl, ?_⟩) hHeld0 ?_
  rotate_left
  · (intro w hSw; (try dsimp only at hSw); go_simp <;> (try with_reducible rfl))
  simp only [Act.put, List.getElem_toArray, List.getElem_cons_zero, List.getElem_cons_succ, List.setIfInBounds_toArray, List.set_cons_zero, List.set_cons_succ]
  refine wpAnyH_take (i := 3) (v := ?_) rfl (by kernel_rfl) (by kernel_rfl) (by kernel_rfl) (fun _ _ _ h => h) (Or.inl ⟨by rfl, ?_⟩) hHeld0 ?_
  rotate_left
  · (intro w hSw; (try dsimp only at hSw); go_simp <;> (try with_reducible rfl))
  simp only [Act.put, List.getElem_toArray, List.getElem_cons_zero, List.getElem_cons_succ, List.setIfInBounds_toArray, List.set_cons_zero, List.set_cons_succ]
  refine wpAnyH_take (i := 4) (v := ?_) rfl (by kernel_rfl) (by kernel_rfl) (by kernel_rfl) (fun _ _ _ h => h) (Or.inl ⟨by rfl, ?_⟩) hHeld0 ?_
  rotate_left
  · (intro w hSw; (try dsimp only at hSw); go_simp <;> (try with_reducible rfl))
  simp only [Act.put, List.getElem_toArray, List.getElem_cons_zero, List.getElem_cons_succ, List.setIfInBounds_toArray, List.set_cons_zero, List.set_cons_succ]
  refine wpAnyH_take (i := 5) (v := ?_) rfl (by kernel_rfl) (by kernel_rfl) (by kernel_rfl) (fun _ _ _ h => h) (Or.inl ⟨by rfl, ?_⟩) hHeld0 ?_
  rotate_left
  · (intro w hSw; (try dsimp only at hSw); go_simp <;> (try with_reducible rfl))
  simp only [Act.put, List.getElem_toArray, List.getElem_cons_zero, List.getElem_cons_succ, List.setIfInBounds_toArray, List.set_cons_zero, List.set_cons_succ]
  refine wpAnyH_take (i := 6) (v := ?_) rfl (by kernel_rfl) (by kernel_rfl) (by kernel_rfl) (fun _ _ _ h => h) (Or.inl ⟨by rfl, ?_⟩) hHeld0 ?_
  rotate_left
  · (intro w hSw; (try dsimp only at hSw); go_simp <;> (try with_reducible rfl))
  simp only [Act.put, List.getElem_toArray, List.getElem_cons_zero, List.getElem_cons_succ, List.setIfInBounds_toArray, List.set_cons_zero, List.set_cons_succ]
  refine wpAnyH_take (i := 7) (v := ?_) rfl (by kernel_rfl) (by kernel_rfl) (by kernel_rfl) (fun _ _ _ h => h) (Or.inl ⟨by rfl, ?_⟩) hHeld0 ?_
  rotate_left
  · (intro w hSw; (try dsimp only at hSw); go_simp <;> (try with_reducible rfl))
  simp only [Act.put, List.getElem_toArray, List.getElem_cons_zero, List.getElem_cons_succ, List.setIfInBounds_toArray, List.set_cons_zero, List.set_cons_succ]
  refine wpAnyH_take (i := 8) (v := ?_) rfl (by kernel_rfl) (by kernel_rfl) (by kernel_rfl) (fun _ _ _ h => h) (Or.inl ⟨by rfl, ?_⟩) hHeld0 ?_
  rotate_left
  · (intro w hSw; (try dsimp only at hSw); go_simp <;> (try with_reducible rfl))
  simp only [Act.put, List.getElem_toArray, List.getElem_cons_zero, List.getElem_cons_succ, List.setIfInBounds_toArray, List.set_cons_zero, List.set_cons_succ]
  refine wpAnyH_take (i := 9) (v := ?_) rfl (by kernel_rfl) (by kernel_rfl) (by kernel_rfl) (fun _ _ _ h => h) (Or.inl ⟨by rfl, ?_⟩) hHeld0 ?_
  rotate_left
  · (intro w hSw; (try dsimp only at hSw); go_simp <;> (try with_reducible rfl))
  simp only [Act.put, List.getElem_toArray, List.getElem_cons_zero, List.getElem_cons_succ, List.setIfInBounds_toArray, List.set_cons_zero, List.set_cons_succ]
  refine wpAnyH_take (i := 10) (v := ?_) rfl (by kernel_rfl) (by kernel_rfl) (by kernel_rfl) (fun _ _ _ h => h) (Or.inl ⟨by rfl, ?_⟩) hHeld0 ?_
  rotate_left
  · (intro w hSw; (try dsimp only at hSw); go_simp <;> (try with_reducible rfl))
  simp only [Act.put, List.getElem_toArray, List.getElem_cons_zero, List.getElem_cons_succ, List.setIfInBounds_toArray, List.set_cons_zero, List.set_cons_succ]
  refine wpAnyH_take (i := 11) (v := undef) rfl (by kernel_rfl) (by kernel_rfl) (by kernel_rfl) (fun _ _ _ h => h) (Or.inr ⟨by rfl, rfl⟩) hHeld0 ?_
  simp only [Act.put, List.getElem_toArray, List.getElem_cons_zero, List.getElem_cons_succ, List.setIfInBounds_toArray, List.set_cons_zero, List.set_cons_succ]
  refine wpAnyH_take (i := 12) (v := undef) rfl (by kernel_rfl) (by kernel_rfl) (by kernel_rfl) (fun _ _ _ h => h) (Or.inr ⟨by rfl, rfl⟩) hHeld0 ?_
  simp only [Act.put, List.getElem_toArray, List.getElem_cons_zero, List.getElem_cons_succ, List.setIfInBounds_toArray, List.set_cons_zero, List.set_cons_succ]
  refine wpAnyH_take (i := 13) (v := undef) rfl (by kernel_rfl) (by kernel_rfl) (by kernel_rfl) (fun _ _ _ h => h) (Or.inr ⟨by rfl, rfl⟩) hHeld0 ?_
  simp only [Act.put, List.getElem_toArray, List.getElem_cons_zero, List.getElem_cons_succ, List.setIfInBounds_toArray, List.set_cons_zero, List.set_cons_succ]
  refine wpAnyH_take (i := 14) (v := undef) rfl (by kernel_rfl) (by kernel_rfl) (by kernel_rfl) (fun _ _ _ h => h) (Or.inr ⟨by rfl, rfl⟩) hHeld0 ?_
  simp only [Act.put, List.getElem_toArray, List.getElem_cons_zero, List.getElem_cons_succ, List.setIfInBounds_toArray, List.set_cons_zero, List.set_cons_succ]
  refine wpAnyH_take (i := 15) (v := undef) rfl (by kernel_rfl) (by kernel_rfl) (by kernel_rfl) (fun _ _ _ h => h) (Or.inr ⟨by rfl, rfl⟩) hHeld0 ?_
  simp only [Act.put, List.getElem_toArray, List.getElem_cons_zero, List.getElem_cons_succ, List.setIfInBounds_toArray, List.set_cons_zero, List.set_cons_succ]
  refine wpAnyH_take (i := 16) (v := undef) rfl (by kernel_rfl) (by kernel_rfl) (by kernel_rfl) (fun _ _ _ h => h) (Or.inr ⟨by rfl, rfl⟩) hHeld0 ?_
  simp only [Act.put, List.getElem_toArray, List.getElem_cons_zero, List.getElem_cons_succ, List.setIfInBounds_toArray, List.set_cons_zero, List.set_cons_succ]
  refine wpAnyH_take (i := 17) (v := undef) rfl (by kernel_rfl) (by kernel_rfl) (by kernel_rfl) (fun _ _ _ h => h) (Or.inr ⟨by rfl, rfl⟩) hHeld0 ?_
  simp only [Act.put, List.getElem_toArray, List.getElem_cons_zero, List.getElem_cons_succ, List.setIfInBounds_toArray, List.set_cons_zero, List.set_cons_succ]
  refine wpAnyH_take (i := 18) (v := undef) rfl (by kernel_rfl) (by kernel_rfl) (by kernel_rfl) (fun _ _ _ h => h) (Or.inr ⟨by rfl, rfl⟩) hHeld0 ?_
  simp only [Act.put, List.getElem_toArray, List.getElem_cons_zero, List.getElem_cons_succ, List.setIfInBounds_toArray, List.set_cons_zero, List.set_cons_succ]
  refine wpAnyH_take (i := 19) (v := undef) rfl (by kernel_rfl) (by kernel_rfl) (by kernel_rfl) (fun _ _ _ h => h) (Or.inr ⟨by rfl, rfl⟩) hHeld0 ?_
  simp only [Act.put, List.getElem_toArray, List.getElem_cons_zero, List.getElem_cons_succ, List.setIfInBounds_toArray, List.set_cons_zero, List.set_cons_succ]
  refine wpAnyH_take (i := 20) (v := undef) rfl (by kernel_rfl) (by kernel_rfl) (by kernel_rfl) (fun _ _ _ h => h) (Or.inr ⟨by rfl, rfl⟩) hHeld0 ?_
  simp only [Act.put, List.getElem_toArray, List.getElem_cons_zero, List.getElem_cons_succ, List.setIfInBounds_toArray, List.set_cons_zero, List.set_cons_succ]
  refine wpAnyH_take (i := 21) (v := undef) rfl (by kernel_rfl) (by kernel_rfl) (by kernel_rfl) (fun _ _ _ h => h) (Or.inr ⟨by rfl, rfl⟩) hHeld0 ?_
  simp only [Act.put, List.getElem_toArray, List.getElem_cons_zero, List.getElem_cons_succ, List.setIfInBounds_toArray, List.set_cons_zero, List.set_cons_succ]
  refine wpAnyH_take (i := 22) (v := ?_) rfl (by kernel_rfl) (by kernel_rfl) (by kernel_rfl) (fun _ _ _ h => h) (Or.inl ⟨by rfl, ?_⟩) hHeld0 ?_
  rotate_left
  · (intro w hSw; (try dsimp only at hSw); go_simp <;> (try with_reducible rfl))
  simp only [Act.put, List.getElem_toArray, List.getElem_cons_zero, List.getElem_cons_succ, List.setIfInBounds_toArray, List.set_cons_zero, List.set_cons_succ]
  refine wpAnyH_ready (rs := [23]) (by kernel_rfl) (by simp) ?_
  refine AllReadyH.cons rfl (fun K hK => ?_) AllReadyH.nil
  go_simp
  go_wp2_with ((go_at_call 63; refine (HT.out _ hHeld0.1 hHeld0.2.1).mono ?_; rintro e W2 ⟨fa, fn, fc, fe, rfl, hh2, hb2⟩))
  refine hK.out _ _ (by exact dS_below hHeld0 hb2) (fun hHeld1 => ?_)
  clear hK K hHeld0
  try simp only [Act.put, List.getElem_toArray, List.getElem_cons_zero, List.getElem_cons_succ, List.setIfInBounds_toArray, List.set_cons_zero, List.set_cons_succ]
  refine wpAnyH_ready (rs := [24]) (by kernel_rfl) (by simp) ?_
  refine AllReadyH.cons rfl (fun K hK => ?_) AllReadyH.nil
  obtain ⟨x0, y0, hI0⟩ := hHeld1.2.2.1
  have HEND := done_end hh2 (Nat.le_succ _) hHeld1.1 hI0
  have hc0 := hI0.cell 0
  have hc1 := hI0.cell 1
  have hfz := hI0.frozen
  simp only [List.getElem?_cons_zero, List.getElem?_cons_succ] at hc0 hc1
  go_simp
  refine hK.out _ _ (by exact dS_store hHeld1 HBLT.out _ _) (fun hHeld2 => ?_)
  clear hK K hHeld1
  try simp only [Act.put, List.getElem_toArray, List.getElem_cons_zero, List.getElem_cons_succ, List.setIfInBounds_toArray, List.set_cons_zero, List.set_cons_succ]
  refine wpAnyH_done (by kernel_rfl) ?_ _
  obtain ⟨hz, hbz, hiz⟩ := HEND
  clear hHeld2
  go_wp2
  exact bodyPost_ret (v := .agg #[.slice fa fn fc, .int .i64 fe]) (results_cell1 Tryd.results47 rfl (hiz.loadS Tryd.underlying60 (by kernel_rfl))) rfl ⟨_, rfl, hz, hbz⟩
end Go.Proofs.YtkdihbgjeanjdaaDoor

/- Locks as lists: how an If's ways lie in ops that stand in pairs; what stays short. -/
namespace Go.Proofs.YtkdihbgjeanjdaaDoor.Lk
set_option linter.unusedVariables false

theorem pairs_in (a r : List Op) (st : List Bool) (h : pairs [] a = some []) : pairs st (a ++ r) = pairs st r := by
  have := pairs_under a [] [] st h
  simp only [List.nil_append] at this
  rw [pairs_append, this]; rfl

/-- Up to the Else or End of the innermost If that is open. -/
theorem cut_at : ∀ (n : Nat) (l : List Op) (b : Bool) (st : List Bool), l.length ≤ n → pairs (b :: st) l = some [] → ∃ b1 e q, l = b1 ++ e :: q ∧ (e.op = 12 ∨ e.op = 13) ∧ pairs [] b1 = some [] ∧ pairs (b :: st) (e :: q) = some [] := by
  intro n
  induction n with
  | zero =>
    intro l b st hn hp
    have : l = [] := List.eq_nil_of_length_eq_zero (by omega)
    subst this
    simp [pairs] at hp
  | succ n ih =>
    intro l b st hn hp
    cases l with
    | nil => simp [pairs] at hp
    | cons o r =>
      simp only [List.length_cons] at hn
      rcases kind o with k | k | k | ⟨h1, h2, h3⟩
      · rw [pairs_if _ _ _ k] at hp
        obtain ⟨c1, e, q, hl, he, hc, hq⟩ := ih r false (b :: st) (by omega) hp
        have hlen := congrArg List.length hl
        simp only [List.length_append, List.length_cons] at hlen
        rcases he with he | he
        · rw [pairs_else _ _ _ _ he] at hq
          simp only [Bool.false_eq_true, if_false] at hq
          obtain ⟨c2, e2, q2, hl2, he2, hc2, hq2⟩ := ih q true (b :: st) (by omega) hq
          have hlen2 := congrArg List.length hl2
          simp only [List.length_append, List.length_cons] at hlen2
          rcases he2 with he2 | he2
          · rw [pairs_else _ _ _ _ he2] at hq2; simp at hq2
          · rw [pairs_end _ _ _ _ he2] at hq2
            obtain ⟨c3, e3, q3, hl3, he3, hc3, hq3⟩ := ih q2 b st (by omega) hq2
            refine ⟨o :: (c1 ++ e :: (c2 ++ e2 :: c3)), e3, q3, by rw [hl, hl2, hl3]; simp, he3, ?_, hq3⟩
            rw [pairs_if _ _ _ k, pairs_in _ _ _ hc, pairs_else _ _ _ _ he]
            simp only [Bool.false_eq_true, if_false]
            rw [pairs_in _ _ _ hc2, pairs_end _ _ _ _ he2]
            exact hc3
        · rw [pairs_end _ _ _ _ he] at hq
          obtain ⟨c3, e3, q3, hl3, he3, hc3, hq3⟩ := ih q b st (by omega) hq
          refine ⟨o :: (c1 ++ e :: c3), e3, q3, by rw [hl, hl3]; simp, he3, ?_, hq3⟩
          rw [pairs_if _ _ _ k, pairs_in _ _ _ hc, pairs_end _ _ _ _ he]
          exact hc3
      · exact ⟨[], o, r, rfl, .inl k, rfl, hp⟩
      · exact ⟨[], o, r, rfl, .inr k, rfl, hp⟩
      · rw [pairs_do _ _ _ h1 h2 h3] at hp
        obtain ⟨c1, e, q, hl, he, hc, hq⟩ := ih r b st (by omega) hp
        exact ⟨o :: c1, e, q, by rw [hl]; rfl, he, by rw [pairs_do _ _ _ h1 h2 h3]; exact hc, hq⟩

theorem behind_end (r q : List Op) (e : Op) (h : ended r = some (e :: q)) (he : e.op = 13) : behind r = some q := by
  unfold behind
  rw [h]
  simp only []
  rw [if_neg (by omega), if_pos he]
theorem behind_else (r q q2 : List Op) (e e2 : Op) (h : ended r = some (e :: q)) (he : e.op = 12) (h2 : ended q = some (e2 :: q2)) (he2 : e2.op = 13) : behind r = some q2 := by
  unfold behind
  rw [h]
  simp only []
  rw [if_pos he, h2]
  simp only []
  rw [if_pos he2]

/-- Ops that stand in pairs end at what stands behind them. -/
theorem ended_past : ∀ (n : Nat) (b1 : List Op) (e : Op) (q : List Op), b1.length ≤ n → pairs [] b1 = some [] → (e.op = 12 ∨ e.op = 13) → ended (b1 ++ e :: q) = some (e :: q) := by
  intro n
  induction n with
  | zero =>
    intro b1 e q hn hp he
    have : b1 = [] := List.eq_nil_of_length_eq_zero (by omega)
    subst this
    exact ended_stop e q he
  | succ n ih =>
    intro b1 e q hn hp he
    cases b1 with
    | nil => exact ended_stop e q he
    | cons o r =>
      simp only [List.length_cons] at hn
      rw [List.cons_append]
      rcases kind o with k | k | k | ⟨h1, h2, h3⟩
      · rw [pairs_if _ _ _ k] at hp
        obtain ⟨c1, e1, q1, hl, he1, hc, hq⟩ := cut_at r.length r false [] (Nat.le_refl _) hp
        have hlen := congrArg List.length hl
        simp only [List.length_append, List.length_cons] at hlen
        have hE : ended (r ++ e :: q) = some (e1 :: (q1 ++ e :: q)) := by
          rw [hl, List.append_assoc, List.cons_append]
          exact ih c1 e1 _ (by omega) hc he1
        rcases he1 with he1 | he1
        · rw [pairs_else _ _ _ _ he1] at hq
          simp only [Bool.false_eq_true, if_false] at hq
          obtain ⟨c2, e2, q2, hl2, he2, hc2, hq2⟩ := cut_at q1.length q1 true [] (Nat.le_refl _) hq
          have hlen2 := congrArg List.length hl2
          simp only [List.length_append, List.length_cons] at hlen2
          rcases he2 with he2 | he2
          · rw [pairs_else _ _ _ _ he2] at hq2; simp at hq2
          · rw [pairs_end _ _ _ _ he2] at hq2
            have hE2 : ended (q1 ++ e :: q) = some (e2 :: (q2 ++ e :: q)) := by
              rw [hl2, List.append_assoc, List.cons_append]
              exact ih c2 e2 _ (by omega) hc2 (.inr he2)
            rw [ended_if _ _ k, behind_else _ _ _ _ _ hE he1 hE2 he2]
            exact ih q2 e q (by omega) hq2 he
        · rw [pairs_end _ _ _ _ he1] at hq
          rw [ended_if _ _ k, behind_end _ _ _ hE he1]
          exact ih q1 e q (by omega) hq he
      · rw [pairs_else0 _ _ k] at hp; cases hp
      · rw [pairs_end0 _ _ k] at hp; cases hp
      · rw [pairs_do _ _ _ h1 h2 h3] at hp
        rw [ended_do _ _ h1 h2 h3]
        exact ih r e q (by omega) hp he

/-- An If's ways. -/
inductive Ways (S Y : List Op) : Prop where
  | one (b1 : List Op) (e : Op) (q : List Op) (hS : S = b1 ++ e :: q) (he : e.op = 13) (h1 : pairs [] b1 = some []) (hq : pairs [] q = some []) (hE : ended (S ++ Y) = some (e :: (q ++ Y))) (hB : behind (S ++ Y) = some (q ++ Y))
  | two (b1 : List Op) (e : Op) (b2 : List Op) (e2 : Op) (q : List Op) (hS : S = b1 ++ e :: (b2 ++ e2 :: q)) (he : e.op = 12) (he2 : e2.op = 13) (h1 : pairs [] b1 = some []) (h2 : pairs [] b2 = some []) (hq : pairs [] q = some []) (hE : ended (S ++ Y) = some (e :: ((b2 ++ e2 :: q) ++ Y))) (hB : behind (S ++ Y) = some (q ++ Y))
theorem ways (o : Op) (S Y : List Op) (ho : o.op = 11) (h : pairs [] (o :: S) = some []) : Ways S Y := by
  rw [pairs_if _ _ _ ho] at h
  obtain ⟨b1, e, q, hl, he, hc, hq⟩ := cut_at S.length S false [] (Nat.le_refl _) h
  have hE : ended (S ++ Y) = some (e :: (q ++ Y)) := by
    rw [hl, List.append_assoc, List.cons_append]
    exact ended_past b1.length b1 e _ (Nat.le_refl _) hc he
  rcases he with he | he
  · rw [pairs_else _ _ _ _ he] at hq
    simp only [Bool.false_eq_true, if_false] at hq
    obtain ⟨b2, e2, q2, hl2, he2, hc2, hq2⟩ := cut_at q.length q true [] (Nat.le_refl _) hq
    rcases he2 with he2 | he2
    · rw [pairs_else _ _ _ _ he2] at hq2; simp at hq2
    · rw [pairs_end _ _ _ _ he2] at hq2
      have hE2 : ended (q ++ Y) = some (e2 :: (q2 ++ Y)) := by
        rw [hl2, List.append_assoc, List.cons_append]
        exact ended_past b2.length b2 e2 _ (Nat.le_refl _) hc2 (.inr he2)
      refine .two b1 e b2 e2 q2 (by rw [hl, hl2]) he he2 hc hc2 hq2 (by rw [hE, hl2]) (behind_else _ _ _ _ _ hE he hE2 he2)
  · rw [pairs_end _ _ _ _ he] at hq
    exact .one b1 e q hl he hc hq hE (behind_end _ _ _ hE he)

theorem skip_of (a r : List Op) (h : pairs [] a = some []) : skip 0 (a ++ r) = skip 0 r := by
  have := skip_past a r [] [] 0 h
  simpa using this
theorem exec_one (m : List Int) (h : Int) (o e : Op) (b1 q : List Op) (t : List Int) (s : List (List Int)) (ho : o.op = 11) (he : e.op = 13) (h1 : pairs [] b1 = some []) :
    exec m h (o :: (b1 ++ e :: q)) (t :: s) = if isTrue t then (exec m h b1 s).bind (fun s' => exec m h q s') else exec m h q s := by
  rw [exec_if _ _ _ _ _ ho]
  simp only []
  rw [exec_append0 _ _ _ _ _ h1, skip_of _ _ h1, skip_end _ _ _ he, if_pos rfl]
  simp only [exec_end _ _ _ _ _ he]
theorem exec_two (m : List Int) (h : Int) (o e e2 : Op) (b1 b2 q : List Op) (t : List Int) (s : List (List Int)) (ho : o.op = 11) (he : e.op = 12) (he2 : e2.op = 13) (h1 : pairs [] b1 = some []) (h2 : pairs [] b2 = some []) :
    exec m h (o :: (b1 ++ e :: (b2 ++ e2 :: q))) (t :: s) = if isTrue t then (exec m h b1 s).bind (fun s' => exec m h q s') else (exec m h b2 s).bind (fun s' => exec m h q s') := by
  rw [exec_if _ _ _ _ _ ho]
  simp only []
  rw [exec_append0 _ _ _ _ _ h1, skip_of _ _ h1, skip_else _ _ _ he, if_pos rfl, exec_append0 _ _ _ _ _ h2]
  simp only [exec_end _ _ _ _ _ he2, exec_else _ _ _ _ _ he, skip_of _ _ h2, skip_end _ _ _ he2, if_pos]

/-- All is short. -/
def Short (s : List (List Int)) : Prop := ∀ x ∈ s, x.length ≤ 3000
theorem Short.cons {x : List Int} {s : List (List Int)} (h : x.length ≤ 3000) (k : Short s) : Short (x :: s) := fun y hy => by
  rcases List.mem_cons.1 hy with rfl | hy
  · exact h
  · exact k y hy
theorem Short.tail {x : List Int} {s : List (List Int)} (h : Short (x :: s)) : Short s := fun y hy => h y (List.mem_cons_of_mem _ hy)
theorem Short.head {x : List Int} {s : List (List Int)} (h : Short (x :: s)) : x.length ≤ 3000 := h x List.mem_cons_self
theorem put_short {x : List Int} {s s' : List (List Int)} (h : put x s = .ok s') (hx : x.length ≤ 3000) (hs : Short s) : Short s' := by
  unfold put at h
  split at h
  · cases h
  · injection h with h; subst h; exact hs.cons hx
theorem tell_short {d : Bool} {s s' : List (List Int)} (h : tell d s = .ok s') (hs : Short s) : Short s' := by
  refine put_short h ?_ hs
  cases d <;> simp
theorem doOp_short (m : List Int) (h : Int) (o : Op) (s s' : List (List Int)) (hd : o.data.length ≤ 3000) (hs : Short s) (he : doOp m h o s = .ok s') : Short s' := by
  unfold doOp at he
  by_cases h1 : o.op = 1
  · simp only [if_pos h1] at he
    exact put_short he hd hs
  by_cases h2 : o.op = 2
  · simp only [if_neg h1, if_pos h2] at he
    cases s with
    | nil => cases he
    | cons t s => exact put_short he hs.head hs
  by_cases h3 : o.op = 3
  · simp only [if_neg h1, if_neg h2, if_pos h3] at he
    cases s with
    | nil => cases he
    | cons t s => (injection he with he; subst he; exact hs.tail)
  by_cases h4 : o.op = 4
  · simp only [if_neg h1, if_neg h2, if_neg h3, if_pos h4] at he
    rcases s with _ | ⟨t, _ | ⟨u, s⟩⟩
    · cases he
    · cases he
    · (injection he with he; subst he; exact (hs.tail.tail.cons hs.head).cons hs.tail.head)
  by_cases h5 : o.op = 5
  · simp only [if_neg h1, if_neg h2, if_neg h3, if_neg h4, if_pos h5] at he
    rcases s with _ | ⟨t, _ | ⟨u, s⟩⟩
    · cases he
    · cases he
    · exact tell_short he hs.tail.tail
  by_cases h6 : o.op = 6
  · simp only [if_neg h1, if_neg h2, if_neg h3, if_neg h4, if_neg h5, if_pos h6] at he
    cases s with
    | nil => cases he
    | cons t s =>
      simp only [] at he
      split at he
      · (injection he with he; subst he; exact hs.tail)
      · cases he
  by_cases h7 : o.op = 7
  · simp only [if_neg h1, if_neg h2, if_neg h3, if_neg h4, if_neg h5, if_neg h6, if_pos h7] at he
    cases s with
    | nil => cases he
    | cons t s => exact put_short he (by rw [Mc.sum_length]; omega) hs.tail
  by_cases h8 : o.op = 8
  · simp only [if_neg h1, if_neg h2, if_neg h3, if_neg h4, if_neg h5, if_neg h6, if_neg h7, if_pos h8] at he
    rcases s with _ | ⟨t, _ | ⟨u, s⟩⟩
    · cases he
    · cases he
    · exact tell_short he hs.tail.tail
  by_cases h9 : o.op = 9
  · simp only [if_neg h1, if_neg h2, if_neg h3, if_neg h4, if_neg h5, if_neg h6, if_neg h7, if_neg h8, if_pos h9] at he
    cases s with
    | nil => cases he
    | cons t s =>
      simp only [] at he
      split at he
      · cases he
      · exact tell_short he (fun y hy => hs y (List.mem_cons_of_mem _ (List.mem_of_mem_drop hy)))
  by_cases h10 : o.op = 10
  · simp only [if_neg h1, if_neg h2, if_neg h3, if_neg h4, if_neg h5, if_neg h6, if_neg h7, if_neg h8, if_neg h9, if_pos h10] at he
    split at he
    · cases he
    · (injection he with he; subst he; exact hs)
  by_cases h14 : o.op = 14
  · simp only [if_neg h1, if_neg h2, if_neg h3, if_neg h4, if_neg h5, if_neg h6, if_neg h7, if_neg h8, if_neg h9, if_neg h10, if_pos h14] at he
    cases s with
    | nil => cases he
    | cons t s => exact tell_short he hs.tail
  simp only [if_neg h1, if_neg h2, if_neg h3, if_neg h4, if_neg h5, if_neg h6, if_neg h7, if_neg h8, if_neg h9, if_neg h10, if_neg h14] at he
  injection he with he; subst he; exact hs
theorem exec_short (m : List Int) (h : Int) : ∀ (n : Nat) (l : List Op) (s s' : List (List Int)), l.length ≤ n → (∀ o ∈ l, o.data.length ≤ 3000) → Short s → exec m h l s = .ok s' → Short s' := by
  intro n
  induction n with
  | zero =>
    intro l s s' hn hd hs he
    have : l = [] := List.eq_nil_of_length_eq_zero (by omega)
    subst this
    rw [exec_nil] at he; injection he with he; subst he; exact hs
  | succ n ih =>
    intro l s s' hn hd hs he
    cases l with
    | nil => rw [exec_nil] at he; injection he with he; subst he; exact hs
    | cons o r =>
      have hsk := skip_le r 0
      have hdr : ∀ o ∈ r, o.data.length ≤ 3000 := fun x hx => hd x (List.mem_cons_of_mem _ hx)
      have hds : ∀ o ∈ skip 0 r, o.data.length ≤ 3000 := fun x hx => hdr x (skip_mem r 0 x hx)
      simp only [List.length_cons] at hn
      rcases kind o with e | e | e | ⟨h1, h2, h3⟩
      · rw [exec_if _ _ _ _ _ e] at he
        cases s with
        | nil => cases he
        | cons t s =>
          simp only [] at he
          split at he
          · exact ih r s s' (by omega) hdr hs.tail he
          · exact ih _ s s' (by omega) hds hs.tail he
      · rw [exec_else _ _ _ _ _ e] at he; exact ih _ s s' (by omega) hds hs he
      · rw [exec_end _ _ _ _ _ e] at he; exact ih r s s' (by omega) hdr hs he
      · rw [exec_do _ _ _ _ _ h1 h2 h3] at he
        cases hx : doOp m h o s with
        | err c => rw [hx] at he; cases he
        | ok s1 =>
          rw [hx] at he
          exact ih r s1 s' (by omega) hdr (doOp_short m h o s s1 (hd o List.mem_cons_self) hs hx) he
where
  skip_mem : ∀ (r : List Op) (k : Nat), ∀ x ∈ skip k r, x ∈ r := by
    intro r
    induction r with
    | nil => intro k x hx; simp [skip] at hx
    | cons o r ih =>
      intro k x hx
      rcases kind o with e | e | e | ⟨h1, h2, h3⟩
      · rw [skip_if _ _ _ e] at hx; exact List.mem_cons_of_mem _ (ih _ x hx)
      · rw [skip_else _ _ _ e] at hx
        split at hx
        · exact List.mem_cons_of_mem _ hx
        · exact List.mem_cons_of_mem _ (ih _ x hx)
      · rw [skip_end _ _ _ e] at hx
        split at hx
        · exact List.mem_cons_of_mem _ hx
        · exact List.mem_cons_of_mem _ (ih _ x hx)
      · rw [skip_do _ _ _ h1 h2 h3] at hx; exact List.mem_cons_of_mem _ (ih _ x hx)
end Go.Proofs.YtkdihbgjeanjdaaDoor.Lk

/- The document's answer on locks: one op (Done), whichever. -/
namespace Go.Proofs.YtkdihbgjeanjdaaDoor
open Go.RowKit
set_option linter.unusedVariables false

theorem snoc_or (K : List (List Int × Value)) : K = [] ∨ ∃ K' p, K = K' ++ [p] := by
  rcases List.eq_nil_or_concat K with h | ⟨K', p, h⟩
  · exact .inl h
  · exact .inr ⟨K', p, by rw [h, List.concat_eq_append]⟩
theorem stk_two (K : List (List Int × Value)) (q p : List Int × Value) : stk (K ++ [q, p]) = p.1 :: q.1 :: stk K := by simp [stk]
theorem short_at {K : List (List Int × Value)} {q : List Int × Value} (h : Lk.Short (stk K)) (hq : q ∈ K) : q.1.length ≤ 3000 := h q.1 (by simp [stk]; exact ⟨q.2, hq⟩)

theorem rdone_any (Z : Nat → Prop) (m : List Int) (h : Int) (o : Lk.Op) (ov : Value) (w : World) (hm : m.length = 32) (hmb : Sz.Byt m) (hZ : ∀ b, Z b → b < w.heap.size) (K : List (List Int × Value)) (sv : Value) (hk : KeysZ Z w sv K) (h30 : K.length ≤ 30) (hs : Lk.Short (stk K)) (hx : BytZ Z w ov o.data) (hxb : Sz.Byt o.data) (hf : Lk.opFault o = 0) (h11 : o.op ≠ 11) (h12 : o.op ≠ 12) (h13 : o.op ≠ 13) :
    Calls Tryd.prog 47 #[.agg #[sv, .int .i64 0], .agg #[.int .i64 o.op, .int .i64 o.n, ov], .agg (vals m).toArray, .int .i64 h] w fun e w' => ∃ v', e = .returned v' ∧ HandZ Z w' v' (Lk.doOp m h o (stk K)) ∧ Below w.heap.size w w' := by
  obtain ⟨op, n, data⟩ := o
  simp only [Lk.opFault] at hf h11 h12 h13 hx hxb ⊢
  have h9 : op = 9 → 1 ≤ n ∧ n ≤ 9 := by
    intro e
    subst e
    unfold Lk.opF at hf
    (repeat' split at hf) <;> first | omega | skip
  have hop : 1 ≤ op ∧ op ≤ 14 := by
    unfold Lk.opF at hf
    (repeat' split at hf) <;> first | omega | skip
  have hcs : op = 1 ∨ op = 2 ∨ op = 3 ∨ op = 4 ∨ op = 5 ∨ op = 6 ∨ op = 7 ∨ op = 8 ∨ op = 9 ∨ op = 10 ∨ op = 14 := by omega
  clear hf h11 h12 h13 hop
  have hxw := hx w (SameZ.refl Z w)
  rcases hcs with rfl | rfl | rfl | rfl | rfl | rfl | rfl | rfl | rfl | rfl | rfl
  · exact done_push Z m h n w hm hmb hZ K sv ov data hk h30 hx hxb
  · rcases snoc_or K with rfl | ⟨K, p, rfl⟩
    · exact done_few2 Z m h n w hm hmb hZ [] sv ov data hk rfl hxw
    · rw [stk_snoc']; exact done_dup Z m h n w hm hmb hZ K p sv ov data hk h30 hxw
  · rcases snoc_or K with rfl | ⟨K, p, rfl⟩
    · exact done_few3 Z m h n w hm hmb hZ [] sv ov data hk rfl hxw
    · rw [stk_snoc']; exact done_drop Z m h n w hm hmb hZ K p sv ov data hk h30 hxw
  · rcases snoc_or K with rfl | ⟨K, p, rfl⟩
    · exact done_few4 Z m h n w hm hmb hZ [] sv ov data hk (by simp) hxw
    · rcases snoc_or K with rfl | ⟨K, q, rfl⟩
      · exact done_few4 Z m h n w hm hmb hZ _ sv ov data hk (by simp) hxw
      · rw [List.append_assoc] at hk h30 ⊢
        exact (by rw [show [q] ++ [p] = [q, p] from rfl, stk_two]; exact done_swap Z m h n w hm hmb hZ K q p sv ov data hk h30 hxw)
  · rcases snoc_or K with rfl | ⟨K, p, rfl⟩
    · exact done_few5 Z m h n w hm hmb hZ [] sv ov data hk (by simp) hxw
    · rcases snoc_or K with rfl | ⟨K, q, rfl⟩
      · exact done_few5 Z m h n w hm hmb hZ _ sv ov data hk (by simp) hxw
      · rw [List.append_assoc] at hk h30 ⊢
        exact (by rw [show [q] ++ [p] = [q, p] from rfl, stk_two]; exact done_equal Z m h n w hm hmb hZ K q p sv ov data hk h30 hxw)
  · rcases snoc_or K with rfl | ⟨K, p, rfl⟩
    · exact done_few6 Z m h n w hm hmb hZ [] sv ov data hk rfl hxw
    · rw [stk_snoc']
      have e : Lk.doOp m h ⟨6, n, data⟩ (p.1 :: stk K) = if Lk.isTrue p.1 then .ok (stk K) else .err 7 := rfl
      rw [e]
      cases hd : Lk.isTrue p.1 with
      | true => exact done_must1 Z m h n w hm hmb hZ K p sv ov data hk h30 hxw hd
      | false => exact done_must0 Z m h n w hm hmb hZ K p sv ov data hk h30 hxw hd
  · rcases snoc_or K with rfl | ⟨K, p, rfl⟩
    · exact done_few7 Z m h n w hm hmb hZ [] sv ov data hk rfl hxw
    · have hp := short_at hs (q := p) (by simp)
      rw [stk_snoc']; exact done_hash Z m h n w hm hmb hZ K p sv ov data hk h30 hxw hp
  · rcases snoc_or K with rfl | ⟨K, p, rfl⟩
    · exact done_few8 Z m h n w hm hmb hZ [] sv ov data hk (by simp) hxw
    · rcases snoc_or K with rfl | ⟨K, q, rfl⟩
      · exact done_few8 Z m h n w hm hmb hZ _ sv ov data hk (by simp) hxw
      · rw [List.append_assoc] at hk h30 ⊢
        exact (by rw [show [q] ++ [p] = [q, p] from rfl, stk_two]; exact done_signed Z m h n w hm hmb hZ K q p sv ov data hk h30 hxw)
  · obtain ⟨hn1, hn9⟩ := h9 rfl
    rcases snoc_or K with rfl | ⟨K, p, rfl⟩
    · exact done_few9 Z m h n w hm hmb hZ [] sv ov data hk hn1 hn9 (by simp; omega) hxw
    · have e : Lk.doOp m h ⟨9, n, data⟩ (p.1 :: stk K) = if (stk K).length < n.toNat then .err 7 else Lk.tell (Lk.many m p.1 ((stk K).take n.toNat).reverse) ((stk K).drop n.toNat) := rfl
      by_cases hl : K.length < n.toNat
      · rw [stk_snoc', e, if_pos (by rw [stk_length]; exact hl)]
        exact done_few9 Z m h n w hm hmb hZ _ sv ov data hk hn1 hn9 (by simp; omega) hxw
      · rw [stk_snoc', e, if_neg (by rw [stk_length]; exact hl)]
        obtain ⟨N, rfl⟩ : ∃ N : Nat, n = (N : Int) := ⟨n.toNat, by omega⟩
        rw [Int.toNat_natCast] at hl ⊢
        obtain ⟨K0, L, rfl, hL⟩ : ∃ K0 L, K = K0 ++ L ∧ L.length = N := ⟨K.take (K.length - N), K.drop (K.length - N), (List.take_append_drop _ _).symm, by rw [List.length_drop]; omega⟩
        have e1 : stk (K0 ++ L) = (L.map Prod.fst).reverse ++ stk K0 := by simp [stk]
        have e2 : ((L.map Prod.fst).reverse).length = N := by simp [hL]
        rw [e1, ← e2, List.take_left, List.drop_left, List.reverse_reverse, e2]
        rw [List.append_assoc] at hk h30
        by_cases h0 : p.1.length = 0
        · have em : Lk.many m p.1 (L.map Prod.fst) = false := by unfold Lk.many; rw [if_pos (.inl h0)]
          rw [em]
          exact done_manya Z m h N w hm hmb hZ K0 L p sv ov data hk h30 hL (by omega) (by omega) hxw h0
        · by_cases h32 : p.1.length % 32 = 0
          · have em : Lk.many m p.1 (L.map Prod.fst) = Lk.among m p.1 (L.map Prod.fst) := by unfold Lk.many; rw [if_neg (by omega)]
            rw [em]
            exact done_manyc Z m h N w hm hmb hZ K0 L p sv ov data hk h30 hL (by omega) (by omega) hxw (p.1.length / 32) (by omega) (by omega)
          · have em : Lk.many m p.1 (L.map Prod.fst) = false := by unfold Lk.many; rw [if_pos (.inr h32)]
            rw [em]
            exact done_manyb Z m h N w hm hmb hZ K0 L p sv ov data hk h30 hL (by omega) (by omega) hxw (by omega) h32
  · have e : Lk.doOp m h ⟨10, n, data⟩ (stk K) = if h < n then .err 8 else .ok (stk K) := rfl
    rw [e]
    by_cases hlt : h < n
    · rw [if_pos hlt]; exact done_early Z m h n w hm hmb hZ K sv ov data hk hlt hxw
    · rw [if_neg hlt]; exact done_on Z m h n w hm hmb hZ K sv ov data hk hlt hxw
  · rcases snoc_or K with rfl | ⟨K, p, rfl⟩
    · exact done_few14 Z m h n w hm hmb hZ [] sv ov data hk rfl hxw
    · rw [stk_snoc']; exact done_not Z m h n w hm hmb hZ K p sv ov data hk h30 hxw
end Go.Proofs.YtkdihbgjeanjdaaDoor
