/- tx's reader: a payment. -/
import Derived.Test.YtpnkndagahchhaaDoorZTf
namespace Go.Proofs.YtpnkndagahchhaaDoor
open Go.RowKit
set_option linter.unusedVariables false
set_option linter.unusedSimpArgs false

theorem elemIns : Elem 23 46 34 := elem_of (.agg (vals (List.replicate 32 0) ++ ([.int .i64 0, .slice none 0 0] : List Value)).toArray) 64 Tryd.underlying23 (by kernel_rfl) (by omega) (by simp [Value.cells, vals]) (by omega)
theorem elemOuts : Elem 24 36 2 := elem_of (.agg #[.int .i64 0, .slice none 0 0]) 32 Tryd.underlying24 (by kernel_rfl) (by omega) rfl (by omega)
theorem info_in : (Tryd.prog.info? 46).map (fun i => (i.zero, i.size)) = some (some (.agg (vals (List.replicate 32 0) ++ ([.int .i64 0, .slice none 0 0] : List Value)).toArray), 34) := by kernel_rfl
theorem inCells_add (L : List InV) (x : InV) : inCells (L ++ [x]) = inCells L ++ inCell x := by simp [inCells]
theorem outCells_add (L : List OutV) (x : OutV) : outCells (L ++ [x]) = outCells L ++ outCell x := by simp [outCells]
theorem in_ones (X : InV) (h : ∃ a n c, X.kv = .slice a n c) : ∀ v ∈ inCell X, v.oneCell' = true := by
  obtain ⟨a, n, c, e⟩ := h
  unfold inCell
  rw [e]
  exact in_one X.tx X.at' a n c
/-- Ins and outs of one's own, what they hold told. -/
def FIns (L : List InV) (W : World) : Prop := ∀ x ∈ L, x.tx.length = 32 ∧ Sz.Byt x.tx ∧ HasKeys W x.kv x.K
theorem fins_add {L : List InV} {p : InV} {W : World} (h : FIns L W) (hp : p.tx.length = 32 ∧ Sz.Byt p.tx ∧ HasKeys W p.kv p.K) : FIns (L ++ [p]) W := by
  intro x hx
  rcases List.mem_append.1 hx with hx | hx
  · exact h x hx
  · rw [List.mem_singleton.1 hx]; exact hp
def FOuts (L : List OutV) (W : World) : Prop := ∀ x ∈ L, HasOps W x.lv x.L
theorem fouts_add {L : List OutV} {p : OutV} {W : World} (h : FOuts L W) (hp : HasOps W p.lv p.L) : FOuts (L ++ [p]) W := by
  intro x hx
  rcases List.mem_append.1 hx with hx | hx
  · exact h x hx
  · rw [List.mem_singleton.1 hx]; exact hp
theorem row_hasIns {W : World} {base : Nat} {v : Value} {L : List InV} (h : W.ownsRow base 46 34 v L.length (inCells L)) (hd : FIns L W) : HasIns W v L := by
  refine ⟨?_, hd⟩
  by_cases h0 : L.length = 0
  · have hL := List.eq_nil_of_length_eq_zero h0
    subst hL
    obtain ⟨a, cap, rfl⟩ := owns_form h
    exact .inl ⟨a, cap, rfl, rfl⟩
  · obtain ⟨g, cap, rfl, _, h2, h3, h4, hr⟩ := owns_some h (by omega)
    exact .inr ⟨g, 0, cap, rfl, by omega, h3, h4, h2, hr⟩
theorem row_hasOuts {W : World} {base : Nat} {v : Value} {L : List OutV} (h : W.ownsRow base 36 2 v L.length (outCells L)) (hd : FOuts L W) : HasOuts W v L := by
  refine ⟨?_, hd⟩
  by_cases h0 : L.length = 0
  · have hL := List.eq_nil_of_length_eq_zero h0
    subst hL
    obtain ⟨a, cap, rfl⟩ := owns_form h
    exact .inl ⟨a, cap, rfl, rfl⟩
  · obtain ⟨g, cap, rfl, _, h2, h3, h4, hr⟩ := owns_some h (by omega)
    exact .inr ⟨g, 0, cap, rfl, by omega, h3, h4, h2, hr⟩
/-- A fact that rests on blocks from lo on, behind which hi is. -/
def Mid (lo hi : Nat) (W : World) (F : World → Prop) : Prop := ∃ S : Nat → Prop, (∀ k, S k → lo ≤ k ∧ k < hi) ∧ Dep S F W
theorem Itm.mid {lo : Nat} {W : World} {F : World → Prop} (h : Itm lo W F) : Mid lo W.heap.size W F := h
theorem Mid.itm {lo hi : Nat} {W : World} {F : World → Prop} (h : Mid lo hi W F) (hz : hi ≤ W.heap.size) : Itm lo W F := by
  obtain ⟨S, h1, h2⟩ := h
  exact ⟨S, fun k hk => ⟨(h1 k hk).1, Nat.lt_of_lt_of_le (h1 k hk).2 hz⟩, h2⟩
theorem Mid.drew {lo hi : Nat} {W : World} {F : World → Prop} (h : Mid lo hi W F) : Mid lo hi W.drew F := by
  obtain ⟨S, h1, h2⟩ := h
  exact ⟨S, h1, h2.step (Nat.le_refl _) (fun k _ => rfl)⟩
theorem Mid.but {lo hi R : Nat} {W W' : World} {F : World → Prop} (h : Mid lo hi W F) (hb : But R W W') (hR : R < lo) (hz : hi ≤ W.heap.size) : Mid lo hi W' F := by
  obtain ⟨S, h1, h2⟩ := h
  exact ⟨S, h1, h2.step hb.size (fun k hk => hb.block k (by have := (h1 k hk).2; omega) (by have := (h1 k hk).1; omega))⟩
theorem Mid.grown {lo hi : Nat} {W W' : World} {F : World → Prop} {r : Option Nat} (h : Mid lo hi W F) (hg : W.grownBy W' r) (hr : ∀ b, r = some b → hi ≤ b) (hz : hi ≤ W.heap.size) : Mid lo hi W' F := by
  obtain ⟨S, h1, h2⟩ := h
  exact ⟨S, h1, h2.step hg.size (fun k hk => hg.block k (by have := (h1 k hk).2; omega) (fun e => by have := hr k e.symm; have := (h1 k hk).2; omega))⟩
theorem hasOps_form {w : World} {v : Value} {R : List (Lk.Op × Value)} (h : HasOps w v R) : ∃ a n c, v = .slice a n c := by
  rcases h.1 with ⟨a, c, e, _⟩ | ⟨b, off, c, e, _⟩
  · exact ⟨a, 0, c, e⟩
  · exact ⟨_, _, c, e⟩
theorem hasKeys_form {w : World} {v : Value} {R : List (List Int × Value)} (h : HasKeys w v R) : ∃ a n c, v = .slice a n c := by
  rcases h.1 with ⟨a, c, e, _⟩ | ⟨b, off, c, e, _⟩
  · exact ⟨a, 0, c, e⟩
  · exact ⟨_, _, c, e⟩

theorem itm_and {lo : Nat} {W : World} {F G : World → Prop} (h : Itm lo W F) (k : Itm lo W G) : Itm lo W (fun W => F W ∧ G W) := by
  obtain ⟨S, h1, h2⟩ := h
  obtain ⟨S2, k1, k2⟩ := k
  exact ⟨fun k => S k ∨ S2 k, fun k hk => hk.elim (h1 k) (k1 k), (h2.more (fun k hk => .inl hk)).and (k2.more (fun k hk => .inr hk))⟩

end Go.Proofs.YtpnkndagahchhaaDoor
