/- A copy of a coin. -/
import Derived.Test.YtifoldkbmpopnaaDoorCnCo
import Derived.Test.YtifoldkbmpopnaaDoorCnChk
namespace Go.Proofs.YtifoldkbmpopnaaDoor
open Go.RowKit
set_option linter.unusedVariables false
set_option linter.unusedSimpArgs false

/-- Bytes that lie in a block of which X holds. -/
def HasN (w : World) (X : Nat → Prop) (v : Value) (l : List Int) : Prop :=
  (∃ a cap, v = .slice a 0 cap ∧ l = [] ∧ cap ≤ maxLen ∧ (a = none → cap = 0)) ∨
  ∃ b off cap, v = .slice (some ⟨b, off, none⟩) l.length cap ∧ 0 < l.length ∧ l.length ≤ cap ∧ cap ≤ maxLen ∧ X b ∧ ∀ j, j < l.length → w.cell? ⟨b, off + j, none⟩ = some (.int .u8 (l.getD j 0))
theorem HasN.has {w : World} {X : Nat → Prop} {v : Value} {l : List Int} (h : HasN w X v l) : Has w v l := by
  rcases h with h | ⟨b, off, cap, h1, h2, h3, h4, _, h5⟩
  · exact .inl h
  · exact .inr ⟨b, off, cap, h1, h2, h3, h4, h5⟩
theorem Has.n {w : World} {X : Nat → Prop} {v : Value} {l : List Int} (h : Has w v l) (hX : ∀ b, b < w.heap.size → X b) : HasN w X v l := by
  rcases h with h | ⟨b, off, cap, h1, h2, h3, h4, h5⟩
  · exact .inl h
  · exact .inr ⟨b, off, cap, h1, h2, h3, h4, hX b (World.block_lt_of_cell? w _ (h5 0 h2)), h5⟩
theorem HasN.move {w w' : World} {X Y : Nat → Prop} {v : Value} {l : List Int} (h : HasN w X v l) (hb : ∀ b, b < w.heap.size → X b → w'.heap[b]? = w.heap[b]? ∧ Y b) : HasN w' Y v l := by
  rcases h with h | ⟨b, off, cap, h1, h2, h3, h4, h5, h6⟩
  · exact .inl h
  · have hlt : b < w.heap.size := World.block_lt_of_cell? w _ (h6 0 h2)
    obtain ⟨e, y⟩ := hb b hlt h5
    exact .inr ⟨b, off, cap, h1, h2, h3, h4, y, fun j hj => by rw [World.cell?_of_block (a := ⟨b, off + j, none⟩) e]; exact h6 j hj⟩

theorem own_hasN {w : World} {base : Nat} {v : Value} {l : List Int} {X : Nat → Prop} (h : Own w base v l) (h0 : 0 < l.length) (hX : ∀ b, base ≤ b → X b) : HasN w X v l := by
  obtain ⟨g, cap, rfl, h1, h2, h3, h4, hr⟩ := owns_some h h0
  exact .inr ⟨g, 0, cap, rfl, h0, h3, h4, hX g h1, fun j hj => hr j _ (vals_get l j hj)⟩
theorem own_hasN' {w : World} {base : Nat} {v : Value} {l : List Int} {X : Nat → Prop} (h : Own w base v l) (hX : ∀ b, base ≤ b → X b) : HasN w X v l := by
  by_cases h0 : 0 < l.length
  · exact own_hasN h h0 hX
  · rcases h.has with h1 | ⟨b, off, cap, _, h2, _⟩
    · exact .inl h1
    · exact absurd h2 h0
theorem opCells_set : ∀ (M : List (Lk.Op × Value)) (k : Nat) (hk : k < M.length) (u : Value), (opCells M).set (k * 3 + 2) u = opCells (M.set k (M[k].1, u))
  | p :: M, 0, _, u => rfl
  | p :: M, k + 1, hk, u => by
    have ih := opCells_set M k (by simpa using hk) u
    show (Value.int .i64 p.1.op :: Value.int .i64 p.1.n :: p.2 :: opCells M).set ((k + 1) * 3 + 2) u = _
    rw [show (k + 1) * 3 + 2 = (k * 3 + 2) + 1 + 1 + 1 by omega, List.set_cons_succ, List.set_cons_succ, List.set_cons_succ, ih]
    rfl
theorem cn_but_row (w : World) (g : Nat) (cs : Array Value) : But g w (w.setRow g cs) := Only.setRow (Only.refl g w.heap.size w) (.inl rfl) cs
/-- What a copy's boxes and row hold. -/
structure ClS (w : World) (g k : Nat) (C Z tl : List Value) (M : List (Lk.Op × Value)) (W : World) : Prop where
  below : Below w.heap.size w W
  c : Is W w.heap.size C 43
  z : Is W (w.heap.size + 1) Z 43
  row : Is W g (opCells M ++ tl) 64
  lo : w.heap.size + 1 < g
  has : ∀ j (hj : j < M.length), HasN W (fun b => b ≠ w.heap.size + 1 ∧ b ≠ g ∧ (j < k → w.heap.size ≤ b)) M[j].2 M[j].1.data
theorem ClS.drew {w : World} {g kk : Nat} {C Z tl : List Value} {M : List (Lk.Op × Value)} {W : World} (h : ClS w g kk C Z tl M W) : ClS w g kk C Z tl M W.drew := ⟨h.below.drew, h.c.drew, h.z.drew, h.row.drew, h.lo, fun j hj => h.has j hj⟩
theorem ClS.call {w : World} {g kk : Nat} {C Z tl : List Value} {M : List (Lk.Op × Value)} {W W' : World} (h : ClS w g kk C Z tl M W) (hb : Below W.heap.size W W') : ClS w g kk C Z tl M W' :=
  ⟨h.below.trans (hb.mono h.below.size), h.c.below hb h.c.lt, h.z.below hb h.z.lt, h.row.below hb h.row.lt, h.lo, fun j hj => (h.has j hj).move (fun b hlt hX => ⟨hb.block b hlt, hX⟩)⟩
theorem ClS.range {w : World} {g kk : Nat} {C Z tl : List Value} {M : List (Lk.Op × Value)} {W : World} (h : ClS w g kk C Z tl M W) (k : Nat) (hk : k < M.length) : W.cell? ⟨g, k * 3, none⟩ = some (.int .i64 M[k].1.op) ∧ W.cell? ⟨g, k * 3 + 1, none⟩ = some (.int .i64 M[k].1.n) ∧ W.cell? ⟨g, k * 3 + 2, none⟩ = some M[k].2 := by
  obtain ⟨a, b, c⟩ := opCells_get M k hk
  have hl := opCells_length M
  refine ⟨?_, ?_, ?_⟩
  · rw [h.row.cell, List.getElem?_append_left (by omega)]; exact a
  · rw [h.row.cell, List.getElem?_append_left (by omega)]; exact b
  · rw [h.row.cell, List.getElem?_append_left (by omega)]; exact c
theorem ClS.set {w : World} {g k : Nat} {C Z tl : List Value} {M : List (Lk.Op × Value)} {W : World} (h : ClS w g k C Z tl M W) (hk : k < M.length) (u : Value) (hu : HasN W (fun b => b ≠ w.heap.size + 1 ∧ b ≠ g ∧ w.heap.size ≤ b) u M[k].1.data) : ClS w g (k + 1) C Z tl (M.set k (M[k].1, u)) (W.setCell ⟨g, k * 3 + 2, none⟩ u) := by
  have hl := opCells_length M
  have hlo := h.lo
  have hb := But.cell W g (k * 3 + 2) u
  refine ⟨h.below.trans (hb.under h.below.size (by omega)), hb.kept h.c (by omega), hb.kept h.z (by omega), ?_, h.lo, fun j hj => ?_⟩
  · have := h.row.set (k * 3 + 2) u
    rw [List.set_append_left _ _ (by omega), opCells_set M k hk u] at this
    exact this
  · have hj' : j < M.length := by simpa using hj
    by_cases e : j = k
    · subst e
      rw [List.getElem_set_self]
      exact hu.move (fun b hlt hX => ⟨hb.block b hlt hX.2.1, hX.1, hX.2.1, fun _ => hX.2.2⟩)
    · rw [List.getElem_set_ne (Ne.symm e)]
      exact (h.has j hj').move (fun b hlt hX => ⟨hb.block b hlt hX.2.1, hX.1, hX.2.1, fun hk1 => hX.2.2 (by omega)⟩)
theorem own_is {W : World} {base s n : Nat} {e : TypeId} {v : Value} {cs : List Value} (h : W.ownsRow base e s v n cs) (h0 : 0 < n) : ∃ g cap tl, v = .slice (some ⟨g, 0, none⟩) n cap ∧ base ≤ g ∧ n ≤ cap ∧ cap ≤ maxLen ∧ Is W g (cs ++ tl) e := by
  have hl := h.1
  rcases h.2 with ⟨rfl, hn⟩ | ⟨g, cap, cur, rfl, hbg, hg', hn, hc', hs', ht'⟩
  · omega
  · refine ⟨g, cap, cur.toList.drop cs.length, rfl, hbg, hn, hc', ?_⟩
    have e2 : cs ++ cur.toList.drop cs.length = cur.toList := by
      conv => rhs; rw [← List.take_append_drop cs.length cur.toList]
      congr 1
      rw [hl]
      exact ht'.symm
    unfold Is
    rw [e2]
    exact hg'
/-- A copy: as the coin is, its lock in blocks of its own. -/
def From (lo : Nat) (W : World) (F : World → Prop) : Prop := ∀ W', W.heap.size ≤ W'.heap.size → (∀ k, lo ≤ k → k < W.heap.size → W'.heap[k]? = W.heap[k]?) → F W'
theorem From.out {lo : Nat} {W : World} {F : World → Prop} (h : From lo W F) : F W := h W (Nat.le_refl _) (fun _ _ _ => rfl)
theorem From.but {lo R : Nat} {W W' : World} {F : World → Prop} (h : From lo W F) (hb : But R W W') (hR : R < lo) : From lo W' F := fun W2 h2 k2 => h W2 (Nat.le_trans hb.size h2) (fun k h3 h4 => (k2 k h3 (Nat.lt_of_lt_of_le h4 hb.size)).trans (hb.block k h4 (by omega)))
theorem From.call {lo : Nat} {W W' : World} {F : World → Prop} (h : From lo W F) (hb : Below W.heap.size W W') : From lo W' F := fun W2 h2 k2 => h W2 (Nat.le_trans hb.size h2) (fun k h3 h4 => (k2 k h3 (Nat.lt_of_lt_of_le h4 hb.size)).trans (hb.block k h4))
theorem From.mono {lo lo' : Nat} {W : World} {F : World → Prop} (h : From lo W F) (hl : lo' ≤ lo) : From lo' W F := fun W2 h2 k2 => h W2 h2 (fun k h3 h4 => k2 k (Nat.le_trans hl h3) h4)
def ClTold (x : CoinV) (e : Ending) (lo : Nat) (w' : World) : Prop := ∃ x' : CoinV, e = .returned (.agg (coinCell x').toArray) ∧ x'.it = x.it ∧ From lo w' (fun W => CoinOk W x')
theorem coin_set (tx : List Int) (at' am ht : Int) (lv lv' : Value) (L M : List (Lk.Op × Value)) (h : tx.length = 32) : (coinCell ⟨tx, at', am, lv, L, ht⟩).set 34 lv' = coinCell ⟨tx, at', am, lv', M, ht⟩ := by
  unfold coinCell
  rw [List.set_append_right _ _ (by rw [vals_length, h]; omega), vals_length, h]
  rfl
theorem map_set_fst (M : List (Lk.Op × Value)) (k : Nat) (hk : k < M.length) (u : Value) : (M.set k (M[k].1, u)).map Prod.fst = M.map Prod.fst := by
  rw [List.map_set]
  apply List.ext_getElem (by simp)
  intro i h1 h2
  rw [List.getElem_set]
  split
  · rename_i e; subst e; simp
  · rfl
set_option maxRecDepth 100000 in
set_option maxHeartbeats 4000000 in
theorem cclone_any (x : CoinV) (w : World) (hx : CoinOk w x) (hm : x.L.length ≤ 1000) (hd : ∀ p ∈ x.L, p.1.data.length ≤ 180000000000000) :
    Calls Tryd.prog 25 #[.agg (coinCell x).toArray] w fun e w' => ClTold x e w.heap.size w' ∧ Below w.heap.size w w' := by
  obtain ⟨tx, at', am, lv, L, ht⟩ := x
  dsimp only at hm hd
  obtain ⟨C, hC⟩ : ∃ C, C = coinCell ⟨tx, at', am, lv, L, ht⟩ := ⟨_, rfl⟩
  have h32 := hx.1
  have hbt := hx.2.1
  have hops := hx.2.2
  dsimp only at h32 hbt hops
  have hCl : C.length = 36 := by rw [hC]; exact coinCell_length _ h32
  have hCp : ¬ C = [] := by intro h; rw [h] at hCl; cases hCl
  have HCC : Hid (∀ lv' M, C.set 34 lv' = coinCell ⟨tx, at', am, lv', M, ht⟩) := hide (fun lv' M => by rw [hC]; exact coin_set tx at' am ht lv lv' L M h32)
  have HLEN : Hid (∀ lv' M, (coinCell ⟨tx, at', am, lv', M, ht⟩).length = 36) := hide (fun lv' M => coinCell_length _ h32)
  have HG34 : Hid (C[34]? = some lv) := hide (by rw [hC]; exact (coin_get h32).2.2.1)
  have hzc := zero_coin
  obtain ⟨Z, hZ⟩ : ∃ Z, Z = vals (List.replicate 32 0) ++ ([.int .i64 0, .int .i64 0, .slice none 0 0, .int .i64 0] : List Value) := ⟨_, rfl⟩
  rw [← hZ] at hzc
  have hZl : Z.length = 36 := by rw [hZ]; simp [vals]
  have hZp : ¬ Z = [] := by intro h; rw [h] at hZl; cases hZl
  have HZL := hide hZl
  have HI0 : Hid (Is ((w.alloc (.cells C.toArray 43)).alloc (.cells Z.toArray 43)) w.heap.size C 43) := hide ((Is.new w C 43).alloc _)
  have HZ0 : Hid (Is ((w.alloc (.cells C.toArray 43)).alloc (.cells Z.toArray 43)) (w.heap.size + 1) Z 43) := hide (Is.new' Z 43 (by simp))
  have HB0 := hide (below_alloc2 w (.cells C.toArray 43) (.cells Z.toArray 43))
  obtain ⟨la, ln, lc, hlv⟩ := hasOps_slice hops
  subst hlv
  have hc0 := HI0.out.cell 34
  rw [HG34.out] at hc0
  have hf0 := HI0.out.frozen
  have HCO : Hid (Calls Tryd.prog 38 #[.slice la ln lc] ((w.alloc (.cells C.toArray 43)).alloc (.cells Z.toArray 43)) fun e w' => ∃ a n c, e = .returned (.slice a n c) ∧ w'.ownsRow ((w.alloc (.cells C.toArray 43)).alloc (.cells Z.toArray 43)).heap.size 64 3 (.slice a n c) L.length (opCells L) ∧ Below ((w.alloc (.cells C.toArray 43)).alloc (.cells Z.toArray 43)).heap.size ((w.alloc (.cells C.toArray 43)).alloc (.cells Z.toArray 43)) w') := hide (cloneOps_any _ L _ (hops.below HB0.out) hm)
  have HOPB : Hid (∀ p ∈ L, Has w p.2 p.1.data ∧ Sz.Byt p.1.data) := hide hops.2
  have HD := hide hd
  have HFIN : Hid (∀ (W : World) (lv' : Value) (M : List (Lk.Op × Value)), M.map Prod.fst = L.map Prod.fst → From w.heap.size W (fun W => HasOps W lv' M) → ClTold ⟨tx, at', am, .slice la ln lc, L, ht⟩ (.returned (.agg (coinCell ⟨tx, at', am, lv', M, ht⟩).toArray)) w.heap.size W) := hide (fun W lv' M hM hO => ⟨⟨tx, at', am, lv', M, ht⟩, rfl, by unfold CoinV.it opsOf; rw [hM], fun W' h1 h2 => ⟨h32, hbt, hO W' h1 h2⟩⟩)
  rw [← hC]
  clear hC hCl hZ hZl hx hops h32 hbt hd
  go_enter Tryd.func25, Tryd.ntmps25
  go_wp2_with fail
  refine HCO.out.mono ?_
  rintro e w1 ⟨na, nn, nc, rfl, hown, hb1⟩
  obtain ⟨na2, nc2, hnv⟩ := owns_form hown
  obtain ⟨rfl, rfl, rfl⟩ : na = na2 ∧ nn = L.length ∧ nc = nc2 := by injection hnv with a b c; exact ⟨a, b, c⟩
  have HI1 := hide (HI0.out.below hb1 HI0.out.lt)
  have HZ1 := hide (HZ0.out.below hb1 HZ0.out.lt)
  have HB1 := hide (HB0.out.trans (hb1.mono HB0.out.size))
  have HBC := hide (But.cell w1 w.heap.size 34 (.slice na L.length nc))
  have HI2 : Hid (Is (w1.setCell ⟨w.heap.size, 34, none⟩ (.slice na L.length nc)) w.heap.size (C.set 34 (.slice na L.length nc)) 43) := hide (HI1.out.set 34 _)
  have HZ2 := hide (HBC.out.kept HZ1.out (by omega))
  have HB2 := hide (HB1.out.trans (HBC.out.under HB1.out.size (Nat.le_refl _)))
  have HOW : Hid (w1.ownsRow (w.heap.size + 2) 64 3 (.slice na L.length nc) L.length (opCells L)) := hide (by have h := hown; rw [show ((w.alloc (.cells C.toArray 43)).alloc (.cells Z.toArray 43)).heap.size = w.heap.size + 2 from by simp] at h; exact h)
  have HHAS : Hid (∀ g, w.heap.size + 1 < g → ∀ j (hj : j < L.length), HasN (w1.setCell ⟨w.heap.size, 34, none⟩ (.slice na L.length nc)) (fun b => b ≠ w.heap.size + 1 ∧ b ≠ g ∧ (j < 0 → w.heap.size ≤ b)) L[j].2 L[j].1.data) := hide (fun g hg j hj => ((HOPB.out _ (List.getElem_mem hj)).1.n (X := fun b => b < w.heap.size) (fun b h => h)).move (fun b hlt hX => ⟨HB2.out.block b hlt, by omega, by omega, fun h => absurd h (by omega)⟩))
  have hc1 := HI1.out.cell 34
  rw [HG34.out] at hc1
  have hf1 := HI1.out.frozen
  clear hown hb1 hnv HI0 HZ0 HB0 HCO hc0 hf0
  obtain ⟨n, hn⟩ : ∃ n, n = L.length := ⟨_, rfl⟩
  have HN := hide hn
  by_cases h0 : L.length = 0
  · have hc2 := HI2.out.cell 34
    rw [HCC.out _ []] at HI2 hc2
    have HLL : Hid (L = []) := hide (List.eq_nil_of_length_eq_zero h0)
    rw [h0] at HI2 HZ2 HB2 hc2 ⊢
    have hc3 : (w1.setCell ⟨w.heap.size, 34, none⟩ (.slice na 0 nc)).cell? ⟨w.heap.size, 34, none⟩ = some (.slice na 0 nc) := by rw [HI2.out.cell 34]; exact (coin_get (by have := HLEN.out (.slice none 0 0) []; simp [coinCell, vals_length] at this; exact this)).2.2.1
    clear hn HN h0 hc2
    go_wp2
    refine wp_loop_rounds 1 ?_
    rw [rounds_succ]
    go_wp2_with (first
      | (refine wpList_load_part 43 (coinCell ⟨tx, at', am, .slice na 0 nc, [], ht⟩) w.heap.size 0 rfl (.tmp 1) rfl rfl (is_range HI2.out) Tryd.underlying43 rfl size_coin (HLEN.out _ _) ?_)
      | (refine wpList_store_any3 43 Z (coinCell ⟨tx, at', am, .slice na 0 nc, [], ht⟩) (w.heap.size + 1) rfl (.tmp 2) (.tmp 30) rfl rfl rfl rfl HZ2.out size_coin HZL.out (HLEN.out _ _) (coin_ones _ ⟨_, _, _, rfl⟩) ?_; intro w9 hi9 hw9; have hbr : But (w.heap.size + 1) (w1.setCell ⟨w.heap.size, 34, none⟩ (.slice na 0 nc)) w9 := (by rw [hw9]; exact cn_but_row _ (w.heap.size + 1) _); clear hw9))
    exact bodyPost_ret (v := .agg (coinCell ⟨tx, at', am, .slice na 0 nc, [], ht⟩).toArray) (results_cell1 Tryd.results25 rfl (hi9.cellsOfS Tryd.underlying43 (by rw [HLEN.out]; exact size_coin))) rfl ⟨HFIN.out w9 _ [] (by rw [HLL.out]) (fun W' _ _ => ⟨.inl ⟨_, _, rfl, rfl⟩, fun p hp => (by cases hp)⟩), HB2.out.trans (hbr.under HB2.out.size (by omega))⟩
  · obtain ⟨g, cap, tl, hgv, hbg, hnc, hcm, hrow⟩ := own_is HOW.out (by omega)
    obtain ⟨rfl, rfl⟩ : na = some ⟨g, 0, none⟩ ∧ nc = cap := by injection hgv with a b c; exact ⟨a, c⟩
    rw [HCC.out _ L] at HI2
    obtain ⟨C2, hC2⟩ : ∃ C2, C2 = coinCell ⟨tx, at', am, .slice (some ⟨g, 0, none⟩) L.length nc, L, ht⟩ := ⟨_, rfl⟩
    have HC2E : Hid (∀ M, C2 = coinCell ⟨tx, at', am, .slice (some ⟨g, 0, none⟩) L.length nc, M, ht⟩) := hide (fun M => by rw [hC2]; rfl)
    have HC2L : Hid (C2.length = 36) := hide (by rw [hC2]; exact HLEN.out _ _)
    have HC21 : Hid (∀ v ∈ C2, v.oneCell' = true) := hide (by rw [hC2]; exact coin_ones _ ⟨_, _, _, rfl⟩)
    have HC234 : Hid (C2[34]? = some (.slice (some ⟨g, 0, none⟩) L.length nc)) := hide (by rw [hC2]; exact (coin_get (by have := HLEN.out (.slice none 0 0) []; simp [coinCell, vals_length] at this; exact this)).2.2.1)
    rw [← hC2] at HI2
    have HS0 : Hid (ClS w g 0 C2 Z tl L (w1.setCell ⟨w.heap.size, 34, none⟩ (.slice (some ⟨g, 0, none⟩) L.length nc))) := hide ⟨HB2.out, HI2.out, HZ2.out, HBC.out.kept hrow (by omega), by omega, HHAS.out g (by omega)⟩
    have hg34 := HI2.out.cell 34
    rw [HC234.out] at hg34
    rw [← hn] at hnc HC2E HC234 HS0 hm hg34 ⊢
    clear hgv hrow hC2 HI2 HZ2 HB2 HOW HHAS HI1 HZ1 HB1 HBC hn
    unfold maxLen at hcm
    go_wp2
    go_loopw [15] (fun i wr => ∃ k : Nat, k ≤ n ∧ i = .int .i64 k ∧ ∃ M : List (Lk.Op × Value), M.map Prod.fst = L.map Prod.fst ∧ ClS w g k C2 Z tl M wr) (fun i _ => n - (intOf i).toNat)
    case atStart => exact ⟨0, by omega, rfl, L, rfl, HS0.out⟩
    case round =>
      obtain ⟨k, hk, rfl, M, hM, hst⟩ := hrel
      have HST := hide hst
      have HM := hide hM
      have hml : M.length = n := by have := congrArg List.length hM; rw [List.length_map, List.length_map] at this; rw [this, HN.out]
      have HML := hide hml
      clear hst hM hml
      by_cases hlt : k < n
      · have hki : (k : Int) < (n : Int) := by omega
        have hkm : k < M.length := by rw [HML.out]; exact hlt
        obtain ⟨r1, r2, r3⟩ := HST.out.range k hkm
        obtain ⟨da, dn, dc, hdv⟩ : ∃ a n c, M[k].2 = .slice a n c := by obtain ⟨a, c, e, _⟩ := (HST.out.has k hkm).has.shape; exact ⟨a, _, c, e⟩
        rw [hdv] at r3
        have HHD : Hid (Has wr (.slice da dn dc) M[k].1.data) := hide (by rw [← hdv]; exact (HST.out.has k hkm).has)
        have HDL : Hid (M[k].1.data.length ≤ 180000000000000) := hide (by
          have hmem : M[k].1 ∈ L.map Prod.fst := by rw [← HM.out]; exact List.mem_map.2 ⟨M[k], List.getElem_mem hkm, rfl⟩
          obtain ⟨p, hp, e⟩ := List.mem_map.1 hmem
          rw [← e]; exact HD.out p hp)
        have HDV := hide hdv
        obtain ⟨oo, hoo⟩ : ∃ o, o = M[k].1.op := ⟨_, rfl⟩
        obtain ⟨on, hon⟩ : ∃ o, o = M[k].1.n := ⟨_, rfl⟩
        rw [← hoo] at r1
        rw [← hon] at r2
        have HRO : Hid (wr.rangeAt g (k * 3) [.int .i64 oo, .int .i64 on, .slice da dn dc]) := hide (fun j v hv => by
          match j, hv with
          | 0, hv => cases hv; exact r1
          | 1, hv => cases hv; exact r2
          | 2, hv => cases hv; exact r3)
        have HCB : Hid (∀ W, Has W (.slice da dn dc) M[k].1.data → Calls Tryd.prog 39 #[.slice da dn dc] W fun e w' => ∃ a n c, e = .returned (.slice a n c) ∧ Own w' W.heap.size (.slice a n c) M[k].1.data ∧ Below W.heap.size W w') := hide (fun W hW => cl_bytes _ _ W hW HDL.out)
        clear hoo hon hdv r1 r2 r3
        go_wp2_with (first
          | (refine wpList_load_part 64 [.int .i64 oo, .int .i64 on, .slice da dn dc] g (k * 3) rfl (.tmp 18) rfl rfl HRO.out Tryd.underlying64 rfl size_op rfl ?_)
          | (refine wpList_store_new 64 [.int .i64 0, .int .i64 0, .slice none 0 0] [.int .i64 oo, .int .i64 on, .slice da dn dc] wr size_op rfl rfl (by intro v hv; simp only [List.mem_cons, List.not_mem_nil, or_false] at hv; rcases hv with rfl | rfl | rfl <;> rfl) rfl (.tmp 4) (.tmp 19) rfl rfl rfl rfl ?_; have HBN := hide (below_alloc wr (.cells #[.int .i64 oo, .int .i64 on, .slice da dn dc] 64)); have HS1 := hide (HST.out.call HBN.out); have hcb := HS1.out.drew.c.cell 34; rw [HC234.out] at hcb; have hco := (Is.new wr [.int .i64 oo, .int .i64 on, .slice da dn dc] 64).drew.cell 2; simp only [List.getElem?_cons_zero, List.getElem?_cons_succ] at hco; have HH1 : Hid (Has (wr.alloc (.cells #[.int .i64 oo, .int .i64 on, .slice da dn dc] 64)).drew (.slice da dn dc) M[k].1.data) := hide (HHD.out.below HBN.out.drew); have HLT1 : Hid (wr.heap.size < (wr.alloc (.cells #[.int .i64 oo, .int .i64 on, .slice da dn dc] 64)).drew.heap.size) := hide (by show wr.heap.size < (wr.alloc _).heap.size; simp); have HBIG : Hid (w.heap.size + 1 < g ∧ g < wr.heap.size ∧ wr.heap.size < (wr.alloc (.cells #[.int .i64 oo, .int .i64 on, .slice da dn dc] 64)).drew.heap.size) := hide ⟨HST.out.lo, HST.out.row.lt, HLT1.out⟩))
        refine wp_region_held_drew (S := fun W : World => W.cell? ⟨w.heap.size, 34, none⟩ = some (.slice (some ⟨g, 0, none⟩) n nc) ∧ W.cell? ⟨wr.heap.size, 2, none⟩ = some (.slice da dn dc)) (by kernel_rfl) ?_ (fun hHeld0 => ?_)
        · exact ⟨hcb, hco⟩
        refine wpAnyH_take (i := 0) (v := ?_) rfl (by kernel_rfl) (by kernel_rfl) (by kernel_rfl) (fun _ _ _ h => h) (Or.inl ⟨by rfl, ?_⟩) hHeld0 ?_
        rotate_left
        · (intro w hSw; (try dsimp only at hSw); go_simp <;> (try with_reducible rfl))
        simp only [Act.put, List.getElem_toArray, List.getElem_cons_zero, List.getElem_cons_succ, List.setIfInBounds_toArray, List.set_cons_zero, List.set_cons_succ]
        refine wpAnyH_take (i := 1) (v := ?_) rfl (by kernel_rfl) (by kernel_rfl) (by kernel_rfl) (fun _ _ _ h => h) (Or.inl ⟨by rfl, ?_⟩) hHeld0 ?_
        rotate_left
        · (intro w hSw; (try dsimp only at hSw); go_simp <;> (try with_reducible rfl))
        simp only [Act.put, List.getElem_toArray, List.getElem_cons_zero, List.getElem_cons_succ, List.setIfInBounds_toArray, List.set_cons_zero, List.set_cons_succ]
        refine wpAnyH_take (i := 2) (v := ?_) rfl (by kernel_rfl) (by kernel_rfl) (by kernel_rfl) (fun _ _ _ h => h) (Or.inl ⟨by rfl, ?_⟩) hHeld0 ?_
        rotate_left
        · (intro w hSw; (try dsimp only at hSw); go_simp <;> (try with_reducible rfl))
        simp only [Act.put, List.getElem_toArray, List.getElem_cons_zero, List.getElem_cons_succ, List.setIfInBounds_toArray, List.set_cons_zero, List.set_cons_succ]
        refine wpAnyH_take (i := 3) (v := ?_) rfl (by kernel_rfl) (by kernel_rfl) (by kernel_rfl) (fun _ _ _ h => h) (Or.inl ⟨by rfl, ?_⟩) hHeld0 ?_
        rotate_left
        · (intro w hSw; (try dsimp only at hSw); go_simp <;> (try with_reducible rfl))
        simp only [Act.put, List.getElem_toArray, List.getElem_cons_zero, List.getElem_cons_succ, List.setIfInBounds_toArray, List.set_cons_zero, List.set_cons_succ]
        refine wpAnyH_take (i := 4) (v := ?_) rfl (by kernel_rfl) (by kernel_rfl) (by kernel_rfl) (fun _ _ _ h => h) (Or.inl ⟨by rfl, ?_⟩) hHeld0 ?_
        rotate_left
        · (intro w hSw; (try dsimp only at hSw); go_simp <;> (try with_reducible rfl))
        simp only [Act.put, List.getElem_toArray, List.getElem_cons_zero, List.getElem_cons_succ, List.setIfInBounds_toArray, List.set_cons_zero, List.set_cons_succ]
        refine wpAnyH_take (i := 5) (v := ?_) rfl (by kernel_rfl) (by kernel_rfl) (by kernel_rfl) (fun _ _ _ h => h) (Or.inl ⟨by rfl, ?_⟩) hHeld0 ?_
        rotate_left
        · (intro w hSw; (try dsimp only at hSw); go_simp <;> (try with_reducible rfl))
        simp only [Act.put, List.getElem_toArray, List.getElem_cons_zero, List.getElem_cons_succ, List.setIfInBounds_toArray, List.set_cons_zero, List.set_cons_succ]
        refine wpAnyH_ready (rs := [6]) (by kernel_rfl) (by simp) ?_
        refine AllReadyH.cons rfl (fun K hK => ?_) AllReadyH.nil
        go_simp
        go_wp2_with ((go_at_call 39; refine (HCB.out _ HH1.out).mono ?_; rintro e w3 ⟨ua, un, uc, rfl, hu3, hb3⟩; have HS3 := hide (HS1.out.drew.call hb3); have HU3 := hide (own_hasN' (X := fun b => b ≠ w.heap.size + 1 ∧ b ≠ g ∧ w.heap.size ≤ b) hu3 (fun b hb => ⟨by have := HBIG.out; omega, by have := HBIG.out; omega, by have := HBIG.out; omega⟩)); have HCO2X := hide (hb3.cell (p := ⟨wr.heap.size, 2, none⟩) HLT1.out)))
        refine hK.out _ _ (by exact ⟨by rw [HS3.out.c.cell 34]; exact HC234.out, by rw [hb3.cell (p := ⟨wr.heap.size, 2, none⟩) HLT1.out]; exact hco⟩) (fun hHeld1 => ?_)
        clear hK K hHeld0
        try simp only [Act.put, List.getElem_toArray, List.getElem_cons_zero, List.getElem_cons_succ, List.setIfInBounds_toArray, List.set_cons_zero, List.set_cons_succ]
        refine wpAnyH_take (i := 7) (v := ?_) rfl (by kernel_rfl) (by kernel_rfl) (by kernel_rfl) (fun _ _ _ h => h) (Or.inl ⟨by rfl, ?_⟩) hHeld1 ?_
        rotate_left
        · (intro w hSw; (try dsimp only at hSw); go_simp <;> (try with_reducible rfl))
        simp only [Act.put, List.getElem_toArray, List.getElem_cons_zero, List.getElem_cons_succ, List.setIfInBounds_toArray, List.set_cons_zero, List.set_cons_succ]
        refine wpAnyH_take (i := 8) (v := ?_) rfl (by kernel_rfl) (by kernel_rfl) (by kernel_rfl) (fun _ _ _ h => h) (Or.inl ⟨by rfl, ?_⟩) hHeld1 ?_
        rotate_left
        · (intro w hSw; (try dsimp only at hSw); go_simp <;> (try with_reducible rfl))
        simp only [Act.put, List.getElem_toArray, List.getElem_cons_zero, List.getElem_cons_succ, List.setIfInBounds_toArray, List.set_cons_zero, List.set_cons_succ]
        refine wpAnyH_ready (rs := [9]) (by kernel_rfl) (by simp) ?_
        refine AllReadyH.cons rfl (fun K hK => ?_) AllReadyH.nil
        have HSET := hide (HS3.out.set hkm (.slice ua un uc) HU3.out)
        have hr3 := (HS3.out.range k hkm).2.2
        rw [HDV.out] at hr3
        have hf3 := HS3.out.row.frozen
        have HCO2 : Hid ((w3.setCell ⟨g, k * 3 + 2, none⟩ (.slice ua un uc)).cell? ⟨wr.heap.size, 2, none⟩ = some (.slice da dn dc)) := hide (by rw [World.cell?_setCell_far _ _ _ _ (by have := HBIG.out; show g ≠ wr.heap.size; omega)]; exact HCO2X.out.trans hco)
        go_simp
        refine hK.out _ _ (by exact ⟨by rw [HSET.out.c.cell 34]; exact HC234.out, HCO2.out⟩) (fun hHeld2 => ?_)
        clear hK K hHeld1
        try simp only [Act.put, List.getElem_toArray, List.getElem_cons_zero, List.getElem_cons_succ, List.setIfInBounds_toArray, List.set_cons_zero, List.set_cons_succ]
        refine wpAnyH_done (by kernel_rfl) ?_ _
        go_wp2
        go_roundw
        case rel => exact ⟨k + 1, by omega, by go_num, M.set k (M[k].1, .slice ua un uc), by rw [map_set_fst M k hkm]; exact HM.out, HSET.out⟩
        case measure => simp [intOf]; omega
      · obtain rfl : k = n := by omega
        have hki : ¬ (k : Int) < (k : Int) := by omega
        have HBY : Hid (∀ p ∈ M, Sz.Byt p.1.data) := hide (fun p hp => by
          have hmem : p.1 ∈ L.map Prod.fst := by rw [← HM.out]; exact List.mem_map.2 ⟨p, hp, rfl⟩
          obtain ⟨q, hq, e⟩ := List.mem_map.1 hmem
          rw [← e]; exact (HOPB.out q hq).2)
        go_wp2_with (first
          | (refine wpList_load_part 43 C2 w.heap.size 0 rfl (.tmp 1) rfl rfl (is_range HST.out.c) Tryd.underlying43 rfl size_coin HC2L.out ?_)
          | (refine wpList_store_any3 43 Z C2 (w.heap.size + 1) rfl (.tmp 2) (.tmp 30) rfl rfl rfl rfl HST.out.z size_coin HZL.out HC2L.out HC21.out ?_; intro w9 hi9 hw9; have hbr : But (w.heap.size + 1) wr w9 := (by rw [hw9]; exact cn_but_row _ (w.heap.size + 1) _); clear hw9))
        have hho : From w.heap.size w9 (fun W => HasOps W (.slice (some ⟨g, 0, none⟩) k nc) M) := fun W' hs hk' => by
          have h := HST.out
          have hlo := h.lo
          have hrow9 : Is W' g (opCells M ++ tl) 64 := by
            have h9 := hbr.kept h.row (by omega)
            unfold Is
            rw [hk' g (by omega) h9.lt]
            exact h9
          refine ⟨.inr ⟨g, 0, nc, by rw [HML.out], by have := HN.out; rw [HML.out]; omega, by rw [HML.out]; exact hnc, by unfold maxLen; omega, hrow9.lt, (tx_range_part (is_range hrow9)).1⟩, fun p hp => ⟨?_, HBY.out p hp⟩⟩
          obtain ⟨j, hj, rfl⟩ := List.getElem_of_mem hp
          exact ((h.has j hj).move (w' := W') (Y := fun _ => True) (fun b hlt hX => ⟨by rw [hk' b (hX.2.2 (by rw [HML.out] at hj; exact hj)) (Nat.lt_of_lt_of_le hlt hbr.size)]; exact hbr.block b hlt hX.1, trivial⟩)).has
        exact bodyPost_ret (v := .agg C2.toArray) (results_cell1 Tryd.results25 rfl (hi9.cellsOfS Tryd.underlying43 (by rw [HC2L.out]; exact size_coin))) rfl ⟨by rw [HC2E.out M]; exact HFIN.out w9 _ M HM.out hho, HST.out.below.trans (hbr.under HST.out.below.size (by omega))⟩
end Go.Proofs.YtifoldkbmpopnaaDoor
