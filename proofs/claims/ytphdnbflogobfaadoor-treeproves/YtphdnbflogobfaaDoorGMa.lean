/- The texts MaMask, MaKey, ShRows, MaBehind, MaWith, MaMac, MaRow, one behind the other. -/
import Derived.Test.YtphdnbflogobfaaDoorZSh
import Derived.Test.YtphdnbflogobfaaDoorShEq
/- The contract of masked: each byte of a block unlike the mask, bit by bit. -/
namespace Go.Proofs.YtphdnbflogobfaaDoor
open Go.RowKit
set_option linter.unusedVariables false

/-- The first k bytes masked. -/
def pmask (m : Nat) (c : List Int) (k : Nat) : List Int := (Mc.mask m c).take k ++ c.drop k
theorem pmask_length (m : Nat) (c : List Int) (k : Nat) : (pmask m c k).length = c.length := by
  simp [pmask, Mc.mask]; omega
theorem pmask_zero (m : Nat) (c : List Int) : pmask m c 0 = c := by simp [pmask]
theorem pmask_all (m : Nat) (c : List Int) (k : Nat) (h : c.length = k) : pmask m c k = Mc.mask m c := by
  simp [pmask, ← h]
  rw [List.take_of_length_le (by simp [Mc.mask])]
theorem pmask_at (m : Nat) (c : List Int) (k : Nat) (h : k < c.length) : (pmask m c k).getD k 0 = c.getD k 0 := by
  simp only [pmask, List.getD]
  rw [List.getElem?_append_right (by simp [Mc.mask]; omega)]
  simp [Mc.mask, List.getElem?_drop]
  rw [Nat.min_eq_left (by omega)]
  simp
theorem pmask_step (m : Nat) (c : List Int) (k : Nat) (h : k < c.length) : (pmask m c k).set k (((c.getD k 0).toNat ^^^ m : Nat) : Int) = pmask m c (k + 1) := by
  apply List.ext_getElem
  · simp [pmask, Mc.mask]; omega
  · intro i h1 h2
    have hl : ((Mc.mask m c).take k).length = k := by simp [Mc.mask]; omega
    have hl1 : ((Mc.mask m c).take (k + 1)).length = k + 1 := by simp [Mc.mask]; omega
    have hi : i < c.length := by rw [List.length_set, pmask_length] at h1; exact h1
    rw [List.getElem_set]
    by_cases e : k = i
    · subst e
      rw [if_pos rfl]
      simp only [pmask]
      rw [List.getElem_append_left (by rw [hl1]; omega)]
      simp [Mc.mask, List.getD, List.getElem?_eq_getElem h]
    · rw [if_neg e]
      simp only [pmask]
      by_cases hlt : i < k
      · rw [List.getElem_append_left (by rw [hl]; exact hlt), List.getElem_append_left (by rw [hl1]; omega)]
        simp
      · rw [List.getElem_append_right (by rw [hl]; omega), List.getElem_append_right (by rw [hl1]; omega)]
        simp only [List.getElem_drop, hl, hl1]
        congr 1
        omega

theorem zero_rest (w : World) : (zeroValue 74).run Tryd.prog w = .ok (.agg (vals (List.replicate 64 0)).toArray) w := by
  have h : (Tryd.prog.info? 74).map (fun i => (i.zero, i.size)) = some (some (.agg (vals (List.replicate 64 0)).toArray), 64) := by kernel_rfl
  exact (zero_of_info h).1 w

end Go.Proofs.YtphdnbflogobfaaDoor

/- The contract of keyBlock: a key's block. -/
namespace Go.Proofs.YtphdnbflogobfaaDoor
open Go.RowKit
set_option linter.unusedVariables false

/-- Bytes are copied to the front of a block. -/
theorem wpList_copy_has (g : Nat) (cur : List Value) (t : TypeId) {w : World} {ops : Array Oper} {rest : List Oper} {o : Oper} {a : Act} {Q : Exit → Act → World → Prop} (hi : Is w g cur t) (hgd : o.guard = none) (d s : Operand)
    (ho : o.op = .call { callee := .builtin .copy, args := #[d, s], argTypes := #[23, 23] }) (dLen dCap : Nat) (hd : a.eval d = .slice (some ⟨g, 0, none⟩) dLen dCap) (vx : Value) (L : List Int) (hs : a.eval s = vx) (hx : Has w vx L) (hle : L.length ≤ dLen) (hfit : L.length ≤ cur.length)
    (h : ∀ w2, Is w2 g (vals L ++ cur.drop L.length) t → (∀ B w0, Below B w0 w → B ≤ g → Below B w0 w2) → (∀ b' c2 t2, b' ≠ g → Is w b' c2 t2 → Is w2 b' c2 t2) → w2.heap.size = w.heap.size → wpList Tryd.prog ops Q rest (a.put o.dst (.int .i64 (L.length : Int))) w2) : wpList Tryd.prog ops Q (o :: rest) a w := by
  rcases hx with ⟨ad, cap, rfl, rfl, hm, hn⟩ | ⟨b, off, cap, rfl, h0, h1, hm, hc⟩
  · refine wpList_copy_nothing hgd d s 23 23 ho 5 Tryd.underlying23 size_u8 _ ad dLen dCap 0 cap hd hs (Nat.zero_min _) ?_
    exact h w (by simpa [vals] using hi) (fun _ _ h _ => h) (fun _ _ _ _ h => h) rfl
  · refine wpList_copy_own hgd d s 23 23 ho 5 Tryd.underlying23 size_u8 g 0 dLen dCap ⟨b, off, none⟩ L.length cap hd hs _ t hi (vals L) (by rw [vals_length]; exact (Nat.min_eq_left hle).symm) (fun j v hv => ?_) (by rw [List.size_toArray, vals_length]; omega) (vals_one _) ?_
    · have hj : j < L.length := by have := (List.getElem?_eq_some_iff.1 hv).1; rwa [vals_length] at this
      rw [Addr.add_lit, hc j hj, ← hv, vals_get _ _ hj]
    · have hg : goInt ((vals L).length : Nat) = .int .i64 (L.length : Int) := by rw [vals_length]; rfl
      rw [hg]
      refine h _ ?_ (fun B w0 h0 hB => below_setRow h0 hB _) (fun b' c2 t2 hne h0 => by unfold Is; rw [setRow_other _ _ _ _ hne]; exact h0) (by simp)
      have := Is.row hi (vals L ++ cur.drop L.length)
      simpa [vals_length] using this

/-- A block of bytes as a slice. -/
theorem Is.has {w : World} {b : Nat} {L : List Int} {t : TypeId} (h : Is w b (vals L) t) {n : Nat} (hn : L.length = n) (h0 : 0 < n) (hm : n ≤ 140737488355328 := by omega) : Has w (.slice (some ⟨b, 0, none⟩) n n) L := by
  subst hn
  exact .inr ⟨b, 0, L.length, rfl, h0, Nat.le_refl _, by unfold maxLen; omega, fun j hj => by rw [h.cell, Nat.zero_add, vals_get _ _ hj]⟩

end Go.Proofs.YtphdnbflogobfaaDoor

/- Slices of slices of bytes, and what a hasher is behind the growth of other bytes. -/
namespace Go.Proofs.YtphdnbflogobfaaDoor
open Go.RowKit
set_option linter.unusedVariables false

/-- A slice value whose elements are slices of bytes. -/
def HasRows (w : World) (A : Option Addr) (n : Nat) (ls : List (List Int)) : Prop :=
  n = ls.length ∧ ∀ i, i < n → ∃ b off a m c, A = some ⟨b, off, none⟩ ∧ w.cell? ⟨b, off + i, none⟩ = some (.slice a m c) ∧ Has w (.slice a m c) (ls.getD i [])

theorem Own.only {w w' : World} {base g : Nat} {v : Value} {l : List Int} (h : Own w base v l) (hb : Only g w.heap.size w w') (hg : g < base) : Own w' base v l := by
  refine ⟨h.1, ?_⟩
  rcases h.2 with h0 | ⟨g', cap, cur, rfl, hbg, hg', hn, hc, hs, ht⟩
  · exact .inl h0
  · have hlt : g' < w.heap.size := by
      rcases Nat.lt_or_ge g' w.heap.size with hlt | hge
      · exact hlt
      · rw [Array.getElem?_eq_none hge] at hg'; cases hg'
    exact .inr ⟨g', cap, cur, rfl, hbg, by rw [hb.block g' hlt (by omega)]; exact hg', hn, hc, hs, ht⟩
theorem Hash.grown {w w' : World} {g : Nat} {row : Option Nat} {all : List Int} (h : Hash w g all) (k : w.grownBy w' row) (hne : row ≠ some g) : Hash w' g all := by
  obtain ⟨st, R, h1, h2⟩ := h
  refine ⟨st, R, h1, ?_⟩
  unfold Is
  rw [k.block g h2.lt (fun e => hne e.symm)]
  exact h2
theorem take_flat (ls : List (List Int)) (k : Nat) (h : k < ls.length) : (ls.take (k + 1)).flatten = (ls.take k).flatten ++ ls.getD k [] := by
  have e : ls.getD k [] = ls[k] := by simp [List.getD, List.getElem?_eq_getElem h]
  rw [List.take_succ_eq_append_getElem h, List.flatten_append, e]
  simp
theorem flat_le (ls : List (List Int)) (k : Nat) : (ls.take k).flatten.length ≤ ls.flatten.length := by
  have : ls.flatten = (ls.take k).flatten ++ (ls.drop k).flatten := by rw [← List.flatten_append, List.take_append_drop]
  rw [this, List.length_append]; omega
theorem byt_flat {ls : List (List Int)} (h : ∀ l ∈ ls, Sz.Byt l) : Sz.Byt ls.flatten := fun x hx => by
  obtain ⟨l, hl, hx⟩ := List.mem_flatten.1 hx
  exact h l hl x hx
end Go.Proofs.YtphdnbflogobfaaDoor

/- The contract of sumBehind: the digest of a block and of parts behind it. -/
namespace Go.Proofs.YtphdnbflogobfaaDoor
open Go.RowKit
set_option linter.unusedVariables false

end Go.Proofs.YtphdnbflogobfaaDoor

/- The contract of withBlock: the digest, with a key's block, of parts that stand behind each other. -/
namespace Go.Proofs.YtphdnbflogobfaaDoor
open Go.RowKit
set_option linter.unusedVariables false

theorem Is.range {w : World} {b : Nat} {L : List Value} {t : TypeId} (h : Is w b L t) : w.rangeAt b 0 L := fun j v hv => by rw [h.cell, Nat.zero_add]; exact hv
theorem Is.there {w : World} {b : Nat} {L : List Value} {t : TypeId} (h : Is w b L t) {n : Nat} (hn : L.length = n) : w.there b 0 n := fun j hj => by
  rw [h.cell, h.frozen, Nat.zero_add, List.getElem?_eq_getElem (by omega)]
  exact ⟨rfl, rfl⟩
theorem range_below {w w' : World} {b : Nat} {L : List Value} (h : w.rangeAt b 0 L) (hb : Below w.heap.size w w') : w'.rangeAt b 0 L := fun j v hv => by
  have := h j v hv
  rw [hb.cell (p := ⟨b, 0 + j, none⟩) (World.block_lt_of_cell? w ⟨b, 0 + j, none⟩ this)]
  exact this
theorem there_below {w w' : World} {b n : Nat} (h : w.there b 0 n) (hb : Below w.heap.size w w') : w'.there b 0 n := fun j hj => by
  obtain ⟨h1, h2⟩ := h j hj
  obtain ⟨v, hv⟩ := Option.isSome_iff_exists.1 h1
  have hlt := World.block_lt_of_cell? w ⟨b, 0 + j, none⟩ hv
  rw [hb.cell (p := ⟨b, 0 + j, none⟩) hlt]
  refine ⟨h1, ?_⟩
  have := hb.block b hlt
  rw [← h2]
  unfold World.frozen?
  simp only [this]
theorem setCells_below {B b : Nat} (hB : B ≤ b) {w0 : World} : ∀ (vs : List Value) (o : Nat) (w : World), Below B w0 w → Below B w0 (w.setCells b o vs)
  | [], _, _, h => h
  | v :: r, o, w, h => setCells_below hB r (o + 1) _ (h.setCell (p := ⟨b, o, none⟩) hB v)
theorem setCells_is {b b' : Nat} (hne : b ≠ b') {L : List Value} {t : TypeId} : ∀ (vs : List Value) (o : Nat) (w : World), Is w b' L t → Is (w.setCells b o vs) b' L t
  | [], _, _, h => h
  | v :: r, o, w, h => setCells_is hne r (o + 1) _ (h.other ⟨b, o, none⟩ v hne)

/-- What stands while the outer digest is told. -/
theorem held_below {w W W' : World} {c D : List Int} {b : Nat} (h : W.rangeAt w.heap.size 0 (vals c) ∧ W.there (w.heap.size + 1) 0 32 ∧ Below w.heap.size w W ∧ Is W b (vals D) 26) (hb : Below W.heap.size W W') :
    W'.rangeAt w.heap.size 0 (vals c) ∧ W'.there (w.heap.size + 1) 0 32 ∧ Below w.heap.size w W' ∧ Is W' b (vals D) 26 :=
  ⟨range_below h.1 hb, there_below h.2.1 hb, h.2.2.1.trans (hb.mono h.2.2.1.size), h.2.2.2.below hb h.2.2.2.lt⟩
theorem held_store {w W : World} {c D : List Int} {b : Nat} (h : W.rangeAt w.heap.size 0 (vals c) ∧ W.there (w.heap.size + 1) 0 32 ∧ Below w.heap.size w W ∧ Is W b (vals D) 26) (hne : w.heap.size + 1 ≠ b) (vs : List Value) :
    (W.setCells (w.heap.size + 1) 0 vs).rangeAt w.heap.size 0 (vals c) ∧ (W.setCells (w.heap.size + 1) 0 vs).there (w.heap.size + 1) 0 32 ∧ Below w.heap.size w (W.setCells (w.heap.size + 1) 0 vs) ∧ Is (W.setCells (w.heap.size + 1) 0 vs) b (vals D) 26 :=
  ⟨World.rangeAt_setCells_apart h.1 _ _ _ (.inl (by omega)), World.there_setCells h.2.1 _ _ _, setCells_below (Nat.le_succ _) _ _ _ h.2.2.1, setCells_is hne _ _ _ h.2.2.2⟩

end Go.Proofs.YtphdnbflogobfaaDoor

/- The contract of mac.Mac. -/
namespace Go.Proofs.YtphdnbflogobfaaDoor
open Go.RowKit
set_option linter.unusedVariables false

theorem Has.form {w : World} {v : Value} {l : List Int} (h : Has w v l) : ∃ a c, v = .slice a l.length c := by
  rcases h with ⟨a, c, rfl, rfl, _⟩ | ⟨b, off, cap, rfl, _⟩
  · exact ⟨a, c, rfl⟩
  · exact ⟨_, _, rfl⟩
/-- A block of one slice. -/
theorem rows_one {W : World} {K : Nat} {a : Option Addr} {n c : Nat} {l : List Int} (hK : Is W K [.slice a n c] 23) (h : Has W (.slice a n c) l) : HasRows W (some ⟨K, 0, none⟩) 1 [l] :=
  ⟨rfl, fun i hi => by
    have : i = 0 := by omega
    subst this
    exact ⟨K, 0, a, n, c, rfl, by rw [hK.cell]; rfl, h⟩⟩

end Go.Proofs.YtphdnbflogobfaaDoor

/- Blocks of slices, and what stays of a block where another one grows. -/
namespace Go.Proofs.YtphdnbflogobfaaDoor
open Go.RowKit
set_option linter.unusedVariables false

/-- A block of three slices. -/
theorem rows_three {W : World} {K : Nat} {a0 a1 a2 : Option Addr} {n0 n1 n2 c0 c1 c2 : Nat} {l0 l1 l2 : List Int} (hK : Is W K [.slice a0 n0 c0, .slice a1 n1 c1, .slice a2 n2 c2] 23) (h0 : Has W (.slice a0 n0 c0) l0) (h1 : Has W (.slice a1 n1 c1) l1) (h2 : Has W (.slice a2 n2 c2) l2) :
    HasRows W (some ⟨K, 0, none⟩) 3 [l0, l1, l2] :=
  ⟨rfl, fun i hi => by
    match i, hi with
    | 0, _ => exact ⟨K, 0, a0, n0, c0, rfl, by rw [hK.cell]; rfl, h0⟩
    | 1, _ => exact ⟨K, 0, a1, n1, c1, rfl, by rw [hK.cell]; rfl, h1⟩
    | 2, _ => exact ⟨K, 0, a2, n2, c2, rfl, by rw [hK.cell]; rfl, h2⟩⟩

theorem Is.grown {w w' : World} {b : Nat} {c : List Value} {t : TypeId} {row : Option Nat} (h : Is w b c t) (k : w.grownBy w' row) (hne : row ≠ some b) : Is w' b c t := by
  unfold Is
  rw [k.block b h.lt (fun e => hne e.symm)]
  exact h
/-- The first bytes of a block. -/
theorem Is.front {w : World} {b : Nat} {L : List Int} {t : TypeId} (h : Is w b (vals L) t) {n : Nat} (hn : L.length = n) (d : Nat) (hd : d ≤ n) (hm : n ≤ 140737488355328 := by omega) : Has w (.slice (some ⟨b, 0, none⟩) d n) (L.take d) := by
  subst hn
  have e : (L.take d).length = d := by rw [List.length_take]; omega
  by_cases h0 : d = 0
  · subst h0; exact .inl ⟨_, _, rfl, by simp, by unfold maxLen; omega, fun h => by cases h⟩
  · refine .inr ⟨b, 0, L.length, by rw [e], by omega, by omega, by unfold maxLen; omega, fun j hj => ?_⟩
    rw [h.cell, Nat.zero_add, vals_get _ _ (by omega)]
    simp only [List.getD, List.getElem?_take]
    rw [if_pos (by omega)]

theorem nil_has (w : World) : Has w (.slice none 0 0) [] := .inl ⟨none, 0, rfl, rfl, by unfold maxLen; omega, fun _ => rfl⟩
/-- What stands while the other digest is told. -/
theorem kept_below {w W W' : World} {D x : List Int} {b : Nat} {v : Value} (h : W.rangeAt b 0 (vals D) ∧ Below w.heap.size w W ∧ Has W v x) (hb : Below W.heap.size W W') : W'.rangeAt b 0 (vals D) ∧ Below w.heap.size w W' ∧ Has W' v x :=
  ⟨range_below h.1 hb, h.2.1.trans (hb.mono h.2.1.size), h.2.2.below hb⟩

end Go.Proofs.YtphdnbflogobfaaDoor
