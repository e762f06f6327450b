/- The texts MaMask, MaKey, ShRows, MaBehind, MaWith, MaMac, MaRow, one behind the other. -/
import Derived.Test.YtkdihbgjeanjdaaDoorZSh
import Derived.Test.YtkdihbgjeanjdaaDoorShEq
/- The contract of masked: each byte of a block unlike the mask, bit by bit. -/
namespace Go.Proofs.YtkdihbgjeanjdaaDoor
open Go.RowKit
set_option linter.unusedVariables false

/-- The first k bytes masked. -/
def pmask (m : Nat) (c : List Int) (k : Nat) : List Int := (Mc.mask m c).take k ++ c.drop k
theorem pmask_length (m : Nat) (c : List Int) (k : Nat) : (pmask m c k).length = c.length := by
  simp [pmask, Mc.mask]; omega
theorem pmask_zero (m : Nat) (c : List Int) : pmask m c 0 = c := by simp [pmask]
theorem pmask_all (m : Nat) (c : List Int) (k : Nat) (h : c.length = k) : pmask m c k = Mc.mask m c := by
  simp [pmask, ← h]
  rw [List.take_of_length_le (by simp [Mc.mask])]
theorem pmask_at (m : Nat) (c : List Int) (k : Nat) (h : k < c.length) : (pmask m c k).getD k 0 = c.getD k 0 := by
  simp only [pmask, List.getD]
  rw [List.getElem?_append_right (by simp [Mc.mask]; omega)]
  simp [Mc.mask, List.getElem?_drop]
  rw [Nat.min_eq_left (by omega)]
  simp
theorem pmask_step (m : Nat) (c : List Int) (k : Nat) (h : k < c.length) : (pmask m c k).set k (((c.getD k 0).toNat ^^^ m : Nat) : Int) = pmask m c (k + 1) := by
  apply List.ext_getElem
  · simp [pmask, Mc.mask]; omega
  · intro i h1 h2
    have hl : ((Mc.mask m c).take k).length = k := by simp [Mc.mask]; omega
    have hl1 : ((Mc.mask m c).take (k + 1)).length = k + 1 := by simp [Mc.mask]; omega
    have hi : i < c.length := by rw [List.length_set, pmask_length] at h1; exact h1
    rw [List.getElem_set]
    by_cases e : k = i
    · subst e
      rw [if_pos rfl]
      simp only [pmask]
      rw [List.getElem_append_left (by rw [hl1]; omega)]
      simp [Mc.mask, List.getD, List.getElem?_eq_getElem h]
    · rw [if_neg e]
      simp only [pmask]
      by_cases hlt : i < k
      · rw [List.getElem_append_left (by rw [hl]; exact hlt), List.getElem_append_left (by rw [hl1]; omega)]
        simp
      · rw [List.getElem_append_right (by rw [hl]; omega), List.getElem_append_right (by rw [hl1]; omega)]
        simp only [List.getElem_drop, hl, hl1]
        congr 1
        omega

theorem zero_rest (w : World) : (zeroValue 88).run Tryd.prog w = .ok (.agg (vals (List.replicate 64 0)).toArray) w := by
  have h : (Tryd.prog.info? 88).map (fun i => (i.zero, i.size)) = some (some (.agg (vals (List.replicate 64 0)).toArray), 64) := by kernel_rfl
  exact (zero_of_info h).1 w

set_option maxRecDepth 100000 in
set_option maxHeartbeats 400000 in
theorem masked_any (c : List Int) (m : Nat) (w : World) (hc : c.length = 64) (hb : Sz.Byt c) (hm : m < 256) :
    Calls Tryd.prog 87 #[.agg (vals c).toArray, .int .u8 (m : Int)] w fun e w' => e = .returned (.agg (vals (Mc.mask m c)).toArray) ∧ Below w.heap.size w w' := by
  obtain ⟨Z, hZ⟩ : ∃ Z, Z = vals (List.replicate 64 0) := ⟨_, rfl⟩
  have hz := zero_rest
  rw [← hZ] at hz
  have hZl : Z.length = 64 := by rw [hZ]; simp [vals]
  have hZp : ¬ Z = [] := by intro h; rw [h] at hZl; cases hZl
  have HC := hide hc
  have HZL := hide hZl
  clear hZ hZl hc
  go_enter Tryd.func87, Tryd.ntmps87
  go_wp2
  go_loopw [6] (fun i wr => ∃ k : Nat, k ≤ 64 ∧ i = .int .i64 k ∧ Below w.heap.size w wr ∧ Is wr (w.heap.size + 1) Z 88 ∧ Is wr w.heap.size (vals (pmask m c k)) 88) (fun i _ => 64 - (intOf i).toNat)
  case atStart => exact ⟨0, by omega, rfl, below_alloc2 _ _ _, Is.new' Z 88 (by simp), by rw [pmask_zero]; exact (Is.new w (vals c) 88).alloc _⟩
  case round =>
    obtain ⟨k, hk, rfl, hbel, h1, h2⟩ := hrel
    by_cases hk8 : k < 64
    · have hg := h2.cell k
      rw [vals_get _ _ (by rw [pmask_length, HC.out]; exact hk8), pmask_at _ _ _ (by rw [HC.out]; exact hk8)] at hg
      have hf := h2.frozen k
      have hst := hide (pmask_step m c k (by rw [HC.out]; exact hk8))
      have hbk := hb.getD k
      obtain ⟨x, hx⟩ := Int.eq_ofNat_of_zero_le hbk.1
      have hx2 : x < 256 := by omega
      rw [hx] at hg
      rw [hx, Int.toNat_natCast] at hst
      have H1 := hide h1
      have H2 := hide h2
      clear h1 h2 hx hbk
      go_wp2
      go_roundw
      case rel =>
        refine ⟨k + 1, by omega, by go_num, hbel.setCell (p := ⟨w.heap.size, k, none⟩) (Nat.le_refl _) _, H1.out.other ⟨w.heap.size, k, none⟩ _ (by show w.heap.size ≠ w.heap.size + 1; omega), ?_⟩
        rw [u8_xor_nat x m hx2 hm, ← hst.out, ← vals_set]
        exact H2.out.set _ _
      case measure => simp [intOf]; omega
    · have hk' : k = 64 := by omega
      have hkn : ¬ (k : Int) < 64 := by omega
      rw [hk', pmask_all _ _ _ HC.out] at h2
      have hml : (Mc.mask m c).length = 64 := by rw [Mc.mask_length]; exact HC.out
      generalize hM : Mc.mask m c = M at *
      have HM := hide hM
      have H1 := hide h1
      have H2 := hide h2
      have HML := hide hml
      clear h1 h2 hk' hk8 hk hM hml
      go_wp2_with (first
        | (refine wpList_load_arr 88 (vals M) w.heap.size H2.out Tryd.underlying88 size_rest (by rw [vals_length]; exact HML.out) rfl (.tmp 2) rfl rfl ?_)
        | (refine wpList_store_any 88 Z (vals M) (w.heap.size + 1) H1.out size_rest HZL.out (by rw [vals_length]; exact HML.out) (vals_one _) rfl (.tmp 4) (.tmp 16) rfl rfl rfl rfl ?_; intro w2 hi2 hb2 hk2 hz2))
      have hr := hi2.cellsOf Tryd.underlying88 (by rw [vals_length, HML.out]; exact size_rest)
      exact bodyPost_ret (v := .agg (vals M).toArray) (results_cell1 Tryd.results87 rfl hr) rfl ⟨by rw [HM.out], hb2 _ _ hbel (Nat.le_succ _)⟩
end Go.Proofs.YtkdihbgjeanjdaaDoor

/- The contract of keyBlock: a key's block. -/
namespace Go.Proofs.YtkdihbgjeanjdaaDoor
open Go.RowKit
set_option linter.unusedVariables false

/-- Bytes are copied to the front of a block. -/
theorem wpList_copy_has (g : Nat) (cur : List Value) (t : TypeId) {w : World} {ops : Array Oper} {rest : List Oper} {o : Oper} {a : Act} {Q : Exit → Act → World → Prop} (hi : Is w g cur t) (hgd : o.guard = none) (d s : Operand)
    (ho : o.op = .call { callee := .builtin .copy, args := #[d, s], argTypes := #[36, 36] }) (dLen dCap : Nat) (hd : a.eval d = .slice (some ⟨g, 0, none⟩) dLen dCap) (vx : Value) (L : List Int) (hs : a.eval s = vx) (hx : Has w vx L) (hle : L.length ≤ dLen) (hfit : L.length ≤ cur.length)
    (h : ∀ w2, Is w2 g (vals L ++ cur.drop L.length) t → (∀ B w0, Below B w0 w → B ≤ g → Below B w0 w2) → (∀ b' c2 t2, b' ≠ g → Is w b' c2 t2 → Is w2 b' c2 t2) → w2.heap.size = w.heap.size → wpList Tryd.prog ops Q rest (a.put o.dst (.int .i64 (L.length : Int))) w2) : wpList Tryd.prog ops Q (o :: rest) a w := by
  rcases hx with ⟨ad, cap, rfl, rfl, hm, hn⟩ | ⟨b, off, cap, rfl, h0, h1, hm, hc⟩
  · refine wpList_copy_nothing hgd d s 36 36 ho 5 Tryd.underlying36 size_u8 _ ad dLen dCap 0 cap hd hs (Nat.zero_min _) ?_
    exact h w (by simpa [vals] using hi) (fun _ _ h _ => h) (fun _ _ _ _ h => h) rfl
  · refine wpList_copy_own hgd d s 36 36 ho 5 Tryd.underlying36 size_u8 g 0 dLen dCap ⟨b, off, none⟩ L.length cap hd hs _ t hi (vals L) (by rw [vals_length]; exact (Nat.min_eq_left hle).symm) (fun j v hv => ?_) (by rw [List.size_toArray, vals_length]; omega) (vals_one _) ?_
    · have hj : j < L.length := by have := (List.getElem?_eq_some_iff.1 hv).1; rwa [vals_length] at this
      rw [Addr.add_lit, hc j hj, ← hv, vals_get _ _ hj]
    · have hg : goInt ((vals L).length : Nat) = .int .i64 (L.length : Int) := by rw [vals_length]; rfl
      rw [hg]
      refine h _ ?_ (fun B w0 h0 hB => below_setRow h0 hB _) (fun b' c2 t2 hne h0 => by unfold Is; rw [setRow_other _ _ _ _ hne]; exact h0) (by simp)
      have := Is.row hi (vals L ++ cur.drop L.length)
      simpa [vals_length] using this

/-- A block of bytes as a slice. -/
theorem Is.has {w : World} {b : Nat} {L : List Int} {t : TypeId} (h : Is w b (vals L) t) {n : Nat} (hn : L.length = n) (h0 : 0 < n) (hm : n ≤ 140737488355328 := by omega) : Has w (.slice (some ⟨b, 0, none⟩) n n) L := by
  subst hn
  exact .inr ⟨b, 0, L.length, rfl, h0, Nat.le_refl _, by unfold maxLen; omega, fun j hj => by rw [h.cell, Nat.zero_add, vals_get _ _ hj]⟩

set_option maxRecDepth 100000 in
set_option maxHeartbeats 400000 in
theorem keyBlock_any (v : Value) (l : List Int) (w : World) (h : Has w v l) (hbt : Sz.Byt l) (ht : Tab w) (hw : 1 < w.heap.size) (hlen : l.length < 1152921504606846976) :
    Calls Tryd.prog 71 #[v] w fun e w' => e = .returned (.agg (vals (Mc.block l)).toArray) ∧ Below w.heap.size w w' := by
  obtain ⟨va, vc, rfl⟩ : ∃ a cap, v = .slice a l.length cap := by
    rcases h with ⟨a, c, rfl, rfl, _⟩ | ⟨b, off, cap, rfl, _⟩
    · exact ⟨a, c, rfl⟩
    · exact ⟨_, _, rfl⟩
  obtain ⟨Z, hZ⟩ : ∃ Z, Z = vals (List.replicate 64 0) := ⟨_, rfl⟩
  have hz := zero_rest
  rw [← hZ] at hz
  have hZl : Z.length = 64 := by rw [hZ]; simp [vals]
  have hZp : ¬ Z = [] := by intro h; rw [h] at hZl; cases hZl
  have hblk : Hid (∀ s, s = Mc.short l → vals s ++ Z.drop s.length = vals (Mc.block l)) := fun s hs => by
    rw [hs, hZ, Mc.block, vals_append]; unfold vals; rw [← List.map_drop, List.drop_replicate]
  have hbl : (Mc.block l).length = 64 := Mc.block_length l
  generalize Mc.block l = B at *
  have HBL := hide hbl
  have HZL := hide hZl
  have HH := hide h
  have HT := hide ht
  clear hZ hZl hbl h ht
  by_cases hl : 64 < l.length
  · have hli : (64 : Int) < (l.length : Int) := by omega
    have hsh : Hid (Sh.sum l = Mc.short l) := by show _ = _; unfold Mc.short; rw [if_pos hl]
    have hdl := Mc.sum_length l
    have HS : Hid (∀ w', Below w.heap.size w w' → Calls Tryd.prog 15 #[.slice va l.length vc] w' fun e w'' => e = .returned (.agg (vals (Sh.sum l)).toArray) ∧ Below w'.heap.size w' w'') := fun w' hb => sum_any _ l w' (HH.out.below hb) hbt (HT.out.below hb hw) (Nat.lt_of_lt_of_le hw hb.size) hlen
    generalize Sh.sum l = D at *
    have HDL := hide hdl
    clear hdl HH
    have hB0 := below_alloc2 w (.cells Z.toArray 88) (.cells Z.toArray 88)
    have hJ1 := (Is.new w Z 88).alloc (.cells Z.toArray 88)
    have hI1 : Is ((w.alloc (.cells Z.toArray 88)).alloc (.cells Z.toArray 88)) (w.heap.size + 1) Z 88 := Is.new' Z 88 (by simp)
    go_enter Tryd.func71, Tryd.ntmps71
    go_wp2_with (first
      | (go_at_call 15; refine (HS.out _ (below_alloc2 w _ _)).mono ?_; rintro e w1 ⟨rfl, hb1⟩; have hz1 : w.heap.size + 2 ≤ w1.heap.size := (by have := hb1.size; simp at this; omega))
      | (refine wpList_store_any 25 (vals (List.replicate 32 0)) (vals D) w1.heap.size (Is.new w1 _ _) size_dig (by simp [vals]) (by rw [vals_length]; exact HDL.out) (vals_one _) rfl (.tmp 4) (.tmp 9) rfl rfl rfl rfl ?_; intro w2 hi2 hb2 hk2 hz2; have hwz : w.heap.size ≤ w1.heap.size := (by omega); have hI2 : Is w2 (w.heap.size + 1) Z 88 := hk2 _ _ _ (by omega) ((hI1.below hb1 (by simp)).alloc _); have hJ2 : Is w2 w.heap.size Z 88 := hk2 _ _ _ (by omega) ((hJ1.below hb1 (by simp; omega)).alloc _); have hB2 := hb2 _ _ ((hB0.trans (hb1.mono (by simp; omega))).alloc hwz _) hwz; have hx2 : Has w2 (.slice (some ⟨w1.heap.size, 0, none⟩) 32 32) D := hi2.has HDL.out (by omega))
      | (refine wpList_copy_has (w.heap.size + 1) Z 88 hI2 rfl (.tmp 11) (.tmp 12) rfl 64 64 rfl (.slice (some ⟨w1.heap.size, 0, none⟩) 32 32) D rfl hx2 (by rw [HDL.out]; omega) (by rw [HDL.out, HZL.out]; omega) ?_; intro w3 hi3 hb3 hk3 hz3; rw [hblk.out D hsh.out] at hi3)
      | (refine wpList_load_arr 88 (vals B) (w.heap.size + 1) hi3 Tryd.underlying88 size_rest (by rw [vals_length]; exact HBL.out) rfl (.tmp 3) rfl rfl ?_)
      | (refine wpList_store_any 88 Z (vals B) w.heap.size (hk3 _ _ _ (by omega) hJ2) size_rest HZL.out (by rw [vals_length]; exact HBL.out) (vals_one _) rfl (.tmp 2) (.tmp 14) rfl rfl rfl rfl ?_; intro w4 hi4 hb4 hk4 hz4))
    have hr := hi4.cellsOf Tryd.underlying88 (by rw [vals_length, HBL.out]; exact size_rest)
    exact bodyPost_ret (v := .agg (vals B).toArray) (results_cell1 Tryd.results71 rfl hr) rfl ⟨rfl, hb4 _ _ (hb3 _ _ hB2 (Nat.le_succ _)) (Nat.le_refl _)⟩
  · have hli : ¬ (64 : Int) < (l.length : Int) := by omega
    have hsh : Hid (l = Mc.short l) := by show _ = _; unfold Mc.short; rw [if_neg hl]
    have hB0 := below_alloc2 w (.cells Z.toArray 88) (.cells Z.toArray 88)
    have hJ1 := (Is.new w Z 88).alloc (.cells Z.toArray 88)
    have hI1 : Is ((w.alloc (.cells Z.toArray 88)).alloc (.cells Z.toArray 88)) (w.heap.size + 1) Z 88 := Is.new' Z 88 (by simp)
    have hx1 := HH.out.below hB0
    go_enter Tryd.func71, Tryd.ntmps71
    go_wp2_with (first
      | (refine wpList_copy_has (w.heap.size + 1) Z 88 hI1 rfl (.tmp 11) (.tmp 12) rfl 64 64 rfl _ l rfl hx1 (by omega) (by rw [HZL.out]; omega) ?_; intro w3 hi3 hb3 hk3 hz3; rw [hblk.out l hsh.out] at hi3)
      | (refine wpList_load_arr 88 (vals B) (w.heap.size + 1) hi3 Tryd.underlying88 size_rest (by rw [vals_length]; exact HBL.out) rfl (.tmp 3) rfl rfl ?_)
      | (refine wpList_store_any 88 Z (vals B) w.heap.size (hk3 _ _ _ (by omega) hJ1) size_rest HZL.out (by rw [vals_length]; exact HBL.out) (vals_one _) rfl (.tmp 2) (.tmp 14) rfl rfl rfl rfl ?_; intro w4 hi4 hb4 hk4 hz4))
    have hr := hi4.cellsOf Tryd.underlying88 (by rw [vals_length, HBL.out]; exact size_rest)
    exact bodyPost_ret (v := .agg (vals B).toArray) (results_cell1 Tryd.results71 rfl hr) rfl ⟨rfl, hb4 _ _ (hb3 _ _ hB0 (Nat.le_succ _)) (Nat.le_refl _)⟩
end Go.Proofs.YtkdihbgjeanjdaaDoor

/- Slices of slices of bytes, and what a hasher is behind the growth of other bytes. -/
namespace Go.Proofs.YtkdihbgjeanjdaaDoor
open Go.RowKit
set_option linter.unusedVariables false

/-- A slice value whose elements are slices of bytes. -/
def HasRows (w : World) (A : Option Addr) (n : Nat) (ls : List (List Int)) : Prop :=
  n = ls.length ∧ ∀ i, i < n → ∃ b off a m c, A = some ⟨b, off, none⟩ ∧ w.cell? ⟨b, off + i, none⟩ = some (.slice a m c) ∧ Has w (.slice a m c) (ls.getD i [])

theorem Own.only {w w' : World} {base g : Nat} {v : Value} {l : List Int} (h : Own w base v l) (hb : Only g w.heap.size w w') (hg : g < base) : Own w' base v l := by
  refine ⟨h.1, ?_⟩
  rcases h.2 with h0 | ⟨g', cap, cur, rfl, hbg, hg', hn, hc, hs, ht⟩
  · exact .inl h0
  · have hlt : g' < w.heap.size := by
      rcases Nat.lt_or_ge g' w.heap.size with hlt | hge
      · exact hlt
      · rw [Array.getElem?_eq_none hge] at hg'; cases hg'
    exact .inr ⟨g', cap, cur, rfl, hbg, by rw [hb.block g' hlt (by omega)]; exact hg', hn, hc, hs, ht⟩
theorem Hash.grown {w w' : World} {g : Nat} {row : Option Nat} {all : List Int} (h : Hash w g all) (k : w.grownBy w' row) (hne : row ≠ some g) : Hash w' g all := by
  obtain ⟨st, R, h1, h2⟩ := h
  refine ⟨st, R, h1, ?_⟩
  unfold Is
  rw [k.block g h2.lt (fun e => hne e.symm)]
  exact h2
theorem take_flat (ls : List (List Int)) (k : Nat) (h : k < ls.length) : (ls.take (k + 1)).flatten = (ls.take k).flatten ++ ls.getD k [] := by
  have e : ls.getD k [] = ls[k] := by simp [List.getD, List.getElem?_eq_getElem h]
  rw [List.take_succ_eq_append_getElem h, List.flatten_append, e]
  simp
theorem flat_le (ls : List (List Int)) (k : Nat) : (ls.take k).flatten.length ≤ ls.flatten.length := by
  have : ls.flatten = (ls.take k).flatten ++ (ls.drop k).flatten := by rw [← List.flatten_append, List.take_append_drop]
  rw [this, List.length_append]; omega
theorem byt_flat {ls : List (List Int)} (h : ∀ l ∈ ls, Sz.Byt l) : Sz.Byt ls.flatten := fun x hx => by
  obtain ⟨l, hl, hx⟩ := List.mem_flatten.1 hx
  exact h l hl x hx
end Go.Proofs.YtkdihbgjeanjdaaDoor

/- The contract of sumBehind: the digest of a block and of parts behind it. -/
namespace Go.Proofs.YtkdihbgjeanjdaaDoor
open Go.RowKit
set_option linter.unusedVariables false

set_option maxRecDepth 100000 in
set_option maxHeartbeats 400000 in
theorem sumBehind_any (c : List Int) (A : Option Addr) (cap : Nat) (ls : List (List Int)) (w : World) (hc : c.length = 64) (hcb : Sz.Byt c) (hr : HasRows w A ls.length ls) (hB : ∀ l ∈ ls, Sz.Byt l) (hn : ls.length ≤ 1000) (hlen : ls.flatten.length < 500000000000000) (ht : Tab w) (hw : 1 < w.heap.size) :
    Calls Tryd.prog 86 #[.agg (vals c).toArray, .slice A ls.length cap] w fun e w' => e = .returned (.agg (vals (Sh.sum (c ++ ls.flatten))).toArray) ∧ Below w.heap.size w w' := by
  have HR := hide hr
  have HT := hide ht
  have HC := hide hc
  have hB0 : ∀ o o', Below w.heap.size w ((w.alloc o).alloc o') := fun o o' => below_alloc2 w o o'
  have HW0 : Hid (∀ w1, Below w.heap.size w w1 → Hash w1 (w.heap.size + 2) [] → Is w1 w.heap.size (vals c) 88 → Calls Tryd.prog 30 #[.pointer (some ⟨w.heap.size + 2, 0, none⟩), .slice (some ⟨w.heap.size, 0, none⟩) 64 64] w1 fun e w' => e = .returned (.tuple #[]) ∧ Hash w' (w.heap.size + 2) c ∧ Only (w.heap.size + 2) w1.heap.size w1 w') := fun w1 hb hh hi => by
    have := hwrite_any (w.heap.size + 2) _ [] c w1 hh (ht.below hb hw) (by omega) (hi.has hc (by omega)) (fun b off n c e hn => by injection e with e1; injection e1 with e1; injection e1 with e1; omega) hcb (by simp; omega)
    simpa using this
  have hI0 := (Is.new w (vals c) 88).alloc (.cells (vals (List.replicate 32 0)).toArray 25)
  have hJ0 : Is ((w.alloc (.cells (vals c).toArray 88)).alloc (.cells (vals (List.replicate 32 0)).toArray 25)) (w.heap.size + 1) (vals (List.replicate 32 0)) 25 := Is.new' _ 25 (by simp)
  have HB0 := hide (below_alloc2 w (.cells (vals c).toArray 88) (.cells (vals (List.replicate 32 0)).toArray 25))
  have HI0 := hide hI0
  have HJ0 := hide hJ0
  clear hr ht hc hB0 hI0 hJ0
  obtain ⟨n, hnn⟩ : ∃ n, n = ls.length := ⟨_, rfl⟩
  rw [← hnn] at HR ⊢
  have HNN := hide hnn
  have hn1 : n ≤ 1000 := by omega
  clear hnn hn
  go_enter Tryd.func86, Tryd.ntmps86
  go_wp2_with (first
    | (go_at_call 29; refine (new_at _ (w.heap.size + 2) (by simp)).mono ?_; rintro e w1 ⟨rfl, hh1, hb1⟩; have hb1' := HB0.out.trans (hb1.mono (by simp; omega)); have hI1 := HI0.out.below hb1 (by simp; omega); have hJ1 := HJ0.out.below hb1 (by simp))
    | (go_at_call 30; refine (HW0.out _ hb1' hh1 hI1).mono ?_; rintro e w2 ⟨rfl, hh2, ho2⟩))
  have hJ2 := hJ1.only ho2 hJ1.lt (by omega)
  have hb2 := hb1'.trans (ho2.below hb1'.size (by omega))
  have hgw : w.heap.size ≤ w.heap.size + 2 := by omega
  have hg0 : 1 < w.heap.size + 2 := by omega
  have hjg : w.heap.size + 1 ≠ w.heap.size + 2 := by omega
  have HH2 := hide hh2
  have HB2 := hide hb2
  have HJ2 := hide hJ2
  clear hh2 hb2 hJ2 hb1' hI1 hJ1 ho2 hb1 hh1 HI0 HJ0 HB0 HW0
  go_loopw [14] (fun i wr => ∃ (k : Nat) (F : List Int), k ≤ n ∧ i = .int .i64 k ∧ F = c ++ (ls.take k).flatten ∧ Hash wr (w.heap.size + 2) F ∧ Is wr (w.heap.size + 1) (vals (List.replicate 32 0)) 25 ∧ Below w.heap.size w wr) (fun i _ => n - (intOf i).toNat)
  case atStart => exact ⟨0, c, by omega, rfl, by simp, HH2.out, HJ2.out, HB2.out⟩
  case round =>
    obtain ⟨k, F, hk, rfl, hF, hh, hj, hb⟩ := hrel
    clear HH2 HB2 HJ2
    have hFl : F.length ≤ 500000000000064 := by rw [hF, List.length_append, HC.out]; have := flat_le ls k; omega
    by_cases hkl : k < n
    · obtain ⟨b, off, a, m, cp, rfl, hcell, hhas⟩ := HR.out.2 k hkl
      have hcb' : b < w.heap.size := World.block_lt_of_cell? w ⟨b, off + k, none⟩ hcell
      have hc1 : wr.cell? ⟨b, off + k, none⟩ = some (.slice a m cp) := by rw [hb.cell (p := ⟨b, off + k, none⟩) hcb']; exact hcell
      have hne : ∀ b' off' n' c', (Value.slice a m cp) = .slice (some ⟨b', off', none⟩) n' c' → 0 < n' → b' ≠ w.heap.size + 2 := fun b' off' n' c' e hn' => by have := hhas.block_lt e hn'; omega
      have hkl' : k < ls.length := by rw [← HNN.out]; exact hkl
      have hnx : F ++ ls.getD k [] = c ++ (ls.take (k + 1)).flatten := by rw [take_flat ls k hkl', hF, List.append_assoc]
      have hlb : Sz.Byt (ls.getD k []) := hB _ (by simp [List.getD, List.getElem?_eq_getElem hkl'])
      have hLl : (ls.getD k []).length < 500000000000000 := by
        have h1 := flat_le ls (k + 1)
        rw [take_flat ls k hkl', List.length_append] at h1
        omega
      generalize ls.getD k [] = L at *
      have HWR := hide (hwrite_any (w.heap.size + 2) _ F L wr hh (HT.out.below hb hw) hg0 (hhas.below hb) hne hlb (by omega))
      have HNX := hide hnx
      clear hh hF hnx hhas hLl hFl hlb hne hcell hkl'
      go_wp2_with (go_at_call 30; refine HWR.out.mono ?_; rintro e w3 ⟨rfl, hh3, ho3⟩)
      go_roundw
      case rel => exact ⟨k + 1, F ++ L, by omega, by go_num, HNX.out, hh3, hj.only ho3 hj.lt hjg, hb.trans (ho3.below hb.size hgw)⟩
      case measure => simp [intOf]; omega
    · have hkn : ¬ (k : Int) < (n : Int) := by omega
      have hFF : F = c ++ ls.flatten := by rw [hF, List.take_of_length_le (by rw [← HNN.out]; omega)]
      have HHS := hide (hsum_any (w.heap.size + 2) F wr hh (HT.out.below hb hw) hg0 (by omega))
      have hDl : (Sh.sum F).length = 32 := Mc.sum_length F
      have hDF : Hid (Sh.sum F = Sh.sum (c ++ ls.flatten)) := by show _ = _; rw [hFF]
      generalize Sh.sum F = D at *
      have HDL := hide hDl
      have HJ := hide hj
      clear hDl hj hh hF hFF hFl hkl hk
      go_wp2_with (first
        | (go_at_call 31; refine HHS.out.mono ?_; rintro e w3 ⟨rfl, hb3⟩)
        | (refine wpList_store_any 25 (vals (List.replicate 32 0)) (vals D) (w.heap.size + 1) (HJ.out.below hb3 HJ.out.lt) size_dig (by simp [vals]) (by rw [vals_length]; exact HDL.out) (vals_one _) rfl (.tmp 4) (.tmp 23) rfl rfl rfl rfl ?_; intro w7 hi7 hb7 hk7 hz7))
      have hr := hi7.cellsOf Tryd.underlying25 (by rw [vals_length, HDL.out]; exact size_dig)
      exact bodyPost_ret (v := .agg (vals D).toArray) (results_cell1 Tryd.results86 rfl hr) rfl ⟨by rw [hDF.out], hb7 _ _ (hb.trans (hb3.mono hb.size)) (Nat.le_succ _)⟩
end Go.Proofs.YtkdihbgjeanjdaaDoor

/- The contract of withBlock: the digest, with a key's block, of parts that stand behind each other. -/
namespace Go.Proofs.YtkdihbgjeanjdaaDoor
open Go.RowKit
set_option linter.unusedVariables false

theorem Is.range {w : World} {b : Nat} {L : List Value} {t : TypeId} (h : Is w b L t) : w.rangeAt b 0 L := fun j v hv => by rw [h.cell, Nat.zero_add]; exact hv
theorem Is.there {w : World} {b : Nat} {L : List Value} {t : TypeId} (h : Is w b L t) {n : Nat} (hn : L.length = n) : w.there b 0 n := fun j hj => by
  rw [h.cell, h.frozen, Nat.zero_add, List.getElem?_eq_getElem (by omega)]
  exact ⟨rfl, rfl⟩
theorem range_below {w w' : World} {b : Nat} {L : List Value} (h : w.rangeAt b 0 L) (hb : Below w.heap.size w w') : w'.rangeAt b 0 L := fun j v hv => by
  have := h j v hv
  rw [hb.cell (p := ⟨b, 0 + j, none⟩) (World.block_lt_of_cell? w ⟨b, 0 + j, none⟩ this)]
  exact this
theorem there_below {w w' : World} {b n : Nat} (h : w.there b 0 n) (hb : Below w.heap.size w w') : w'.there b 0 n := fun j hj => by
  obtain ⟨h1, h2⟩ := h j hj
  obtain ⟨v, hv⟩ := Option.isSome_iff_exists.1 h1
  have hlt := World.block_lt_of_cell? w ⟨b, 0 + j, none⟩ hv
  rw [hb.cell (p := ⟨b, 0 + j, none⟩) hlt]
  refine ⟨h1, ?_⟩
  have := hb.block b hlt
  rw [← h2]
  unfold World.frozen?
  simp only [this]
theorem setCells_below {B b : Nat} (hB : B ≤ b) {w0 : World} : ∀ (vs : List Value) (o : Nat) (w : World), Below B w0 w → Below B w0 (w.setCells b o vs)
  | [], _, _, h => h
  | v :: r, o, w, h => setCells_below hB r (o + 1) _ (h.setCell (p := ⟨b, o, none⟩) hB v)
theorem setCells_is {b b' : Nat} (hne : b ≠ b') {L : List Value} {t : TypeId} : ∀ (vs : List Value) (o : Nat) (w : World), Is w b' L t → Is (w.setCells b o vs) b' L t
  | [], _, _, h => h
  | v :: r, o, w, h => setCells_is hne r (o + 1) _ (h.other ⟨b, o, none⟩ v hne)

/-- What stands while the outer digest is told. -/
theorem held_below {w W W' : World} {c D : List Int} {b : Nat} (h : W.rangeAt w.heap.size 0 (vals c) ∧ W.there (w.heap.size + 1) 0 32 ∧ Below w.heap.size w W ∧ Is W b (vals D) 25) (hb : Below W.heap.size W W') :
    W'.rangeAt w.heap.size 0 (vals c) ∧ W'.there (w.heap.size + 1) 0 32 ∧ Below w.heap.size w W' ∧ Is W' b (vals D) 25 :=
  ⟨range_below h.1 hb, there_below h.2.1 hb, h.2.2.1.trans (hb.mono h.2.2.1.size), h.2.2.2.below hb h.2.2.2.lt⟩
theorem held_store {w W : World} {c D : List Int} {b : Nat} (h : W.rangeAt w.heap.size 0 (vals c) ∧ W.there (w.heap.size + 1) 0 32 ∧ Below w.heap.size w W ∧ Is W b (vals D) 25) (hne : w.heap.size + 1 ≠ b) (vs : List Value) :
    (W.setCells (w.heap.size + 1) 0 vs).rangeAt w.heap.size 0 (vals c) ∧ (W.setCells (w.heap.size + 1) 0 vs).there (w.heap.size + 1) 0 32 ∧ Below w.heap.size w (W.setCells (w.heap.size + 1) 0 vs) ∧ Is (W.setCells (w.heap.size + 1) 0 vs) b (vals D) 25 :=
  ⟨World.rangeAt_setCells_apart h.1 _ _ _ (.inl (by omega)), World.there_setCells h.2.1 _ _ _, setCells_below (Nat.le_succ _) _ _ _ h.2.2.1, setCells_is hne _ _ _ h.2.2.2⟩

set_option maxRecDepth 100000 in
set_option maxHeartbeats 800000 in
theorem withBlock_any (c : List Int) (A : Option Addr) (cap : Nat) (ls : List (List Int)) (w : World) (hc : c.length = 64) (hcb : Sz.Byt c) (hr : HasRows w A ls.length ls) (hB : ∀ l ∈ ls, Sz.Byt l) (hn : ls.length ≤ 1000) (hlen : ls.flatten.length < 500000000000000) (ht : Tab w) (hw : 1 < w.heap.size) :
    Calls Tryd.prog 70 #[.agg (vals c).toArray, .slice A ls.length cap] w fun e w' => e = .returned (.agg (vals (Sh.sum (Mc.mask 92 c ++ Sh.sum (Mc.mask 54 c ++ ls.flatten)))).toArray) ∧ Below w.heap.size w w' := by
  have HM1 : Hid (∀ w', Calls Tryd.prog 87 #[.agg (vals c).toArray, .int .u8 54] w' fun e w'' => e = .returned (.agg (vals (Mc.mask 54 c)).toArray) ∧ Below w'.heap.size w' w'') := fun w' => masked_any c 54 w' hc hcb (by omega)
  have HM2 : Hid (∀ w', Calls Tryd.prog 87 #[.agg (vals c).toArray, .int .u8 92] w' fun e w'' => e = .returned (.agg (vals (Mc.mask 92 c)).toArray) ∧ Below w'.heap.size w' w'') := fun w' => masked_any c 92 w' hc hcb (by omega)
  have hrb : ∀ w', Below w.heap.size w w' → HasRows w' A ls.length ls := fun w' hb => ⟨hr.1, fun i hi => by
    obtain ⟨b, off, a, m, cp, h1, h2, h3⟩ := hr.2 i hi
    exact ⟨b, off, a, m, cp, h1, by rw [hb.cell (p := ⟨b, off + i, none⟩) (World.block_lt_of_cell? w ⟨b, off + i, none⟩ h2)]; exact h2, h3.below hb⟩⟩
  have hm1 : (Mc.mask 54 c).length = 64 := by rw [Mc.mask_length]; exact hc
  have hm2 : (Mc.mask 92 c).length = 64 := by rw [Mc.mask_length]; exact hc
  have HS1 : Hid (∀ w', Below w.heap.size w w' → Calls Tryd.prog 86 #[.agg (vals (Mc.mask 54 c)).toArray, .slice A ls.length cap] w' fun e w'' => e = .returned (.agg (vals (Sh.sum (Mc.mask 54 c ++ ls.flatten))).toArray) ∧ Below w'.heap.size w' w'') := fun w' hb =>
    sumBehind_any _ A cap ls w' hm1 (Mc.mask_byt _ _ hcb (by omega)) (hrb w' hb) hB hn hlen (ht.below hb hw) (Nat.lt_of_lt_of_le hw hb.size)
  have hD1 : (Sh.sum (Mc.mask 54 c ++ ls.flatten)).length = 32 := Mc.sum_length _
  have hD1b : Sz.Byt (Sh.sum (Mc.mask 54 c ++ ls.flatten)) := Mc.sum_byt _
  generalize Sh.sum (Mc.mask 54 c ++ ls.flatten) = D at *
  have HS2 : Hid (∀ W b K, (W.rangeAt w.heap.size 0 (vals c) ∧ W.there (w.heap.size + 1) 0 32 ∧ Below w.heap.size w W ∧ Is W b (vals D) 25) → Is W K [.slice (some ⟨b, 0, none⟩) 32 32] 36 → Calls Tryd.prog 86 #[.agg (vals (Mc.mask 92 c)).toArray, .slice (some ⟨K, 0, none⟩) 1 1] W fun e w'' => e = .returned (.agg (vals (Sh.sum (Mc.mask 92 c ++ D))).toArray) ∧ Below W.heap.size W w'') := fun W b K hS hK => by
    have := sumBehind_any (Mc.mask 92 c) (some ⟨K, 0, none⟩) 1 [D] W hm2 (Mc.mask_byt _ _ hcb (by omega)) ⟨rfl, fun i hi => by
      have : i = 0 := by simp at hi; omega
      subst this
      exact ⟨K, 0, some ⟨b, 0, none⟩, 32, 32, rfl, by rw [hK.cell]; rfl, hS.2.2.2.has hD1 (by omega)⟩⟩ (fun l hl => by simp at hl; subst hl; exact hD1b) (by simp) (by simp; omega) (ht.below hS.2.2.1 hw) (Nat.lt_of_lt_of_le hw hS.2.2.1.size)
    simpa using this
  have hD2 : (Sh.sum (Mc.mask 92 c ++ D)).length = 32 := Mc.sum_length _
  generalize Sh.sum (Mc.mask 92 c ++ D) = E at *
  generalize Mc.mask 92 c = M2 at *
  generalize Mc.mask 54 c = M1 at *
  have hI0 := (Is.new w (vals c) 88).alloc (.cells (vals (List.replicate 32 0)).toArray 25)
  have hJ0 : Is ((w.alloc (.cells (vals c).toArray 88)).alloc (.cells (vals (List.replicate 32 0)).toArray 25)) (w.heap.size + 1) (vals (List.replicate 32 0)) 25 := Is.new' _ 25 (by simp)
  have HB0 := hide (below_alloc2 w (.cells (vals c).toArray 88) (.cells (vals (List.replicate 32 0)).toArray 25))
  have HI0 := hide hI0
  have HJ0 := hide hJ0
  have HC := hide hc
  have HD1 := hide hD1
  have HD2 := hide hD2
  have hB0s : (w.alloc (.cells (vals c).toArray 88)).alloc (.cells (vals (List.replicate 32 0)).toArray 25) = (w.alloc (.cells (vals c).toArray 88)).alloc (.cells (vals (List.replicate 32 0)).toArray 25) := rfl
  clear hI0 hJ0 hc hD1 hD2 hm1 hm2 hrb hr ht hB0s hD1b hlen hB hcb
  obtain ⟨n, hnn⟩ : ∃ n, n = ls.length := ⟨_, rfl⟩
  rw [← hnn] at HS1 ⊢
  have hn1 : n ≤ 1000 := by omega
  clear hnn hn
  go_enter Tryd.func70, Tryd.ntmps70
  go_wp2_with (first
    | (refine wpList_load_arr 88 (vals c) w.heap.size HI0.out Tryd.underlying88 size_rest (by rw [vals_length]; exact HC.out) rfl (.tmp 2) rfl rfl ?_)
    | (go_at_call 87; refine (HM1.out _).mono ?_; rintro e w1 ⟨rfl, hb1⟩; have hb1' := HB0.out.trans (hb1.mono HB0.out.size); have hI1 := HI0.out.below hb1 HI0.out.lt; have hJ1 := HJ0.out.below hb1 HJ0.out.lt)
    | (go_at_call 86; refine (HS1.out _ hb1').mono ?_; rintro e w2 ⟨rfl, hb2⟩; have hb2' := hb1'.trans (hb2.mono hb1'.size); have hI2 := hI1.below hb2 hI1.lt; have hJ2 := hJ1.below hb2 hJ1.lt; have hj2 := hJ2.lt)
    | (refine wpList_store_any 25 (vals (List.replicate 32 0)) (vals D) w2.heap.size (Is.new w2 _ _) size_dig (by simp [vals]) (by rw [vals_length]; exact HD1.out) (vals_one _) rfl (.tmp 5) (.tmp 9) rfl rfl rfl rfl ?_; intro w3 hi3 hb3 hk3 hz3))
  have hne : w.heap.size + 1 ≠ w2.heap.size := by omega
  have hS0 : w3.rangeAt w.heap.size 0 (vals c) ∧ w3.there (w.heap.size + 1) 0 32 ∧ Below w.heap.size w w3 ∧ Is w3 w2.heap.size (vals D) 25 :=
    ⟨(hk3 _ _ _ (by omega) (hI2.alloc _)).range, (hk3 _ _ _ (by omega) (hJ2.alloc _)).there (by simp [vals]), hb3 _ _ (hb2'.alloc hb2'.size _) hb2'.size, hi3⟩
  obtain ⟨b5, hb5⟩ : ∃ b5, b5 = w2.heap.size := ⟨_, rfl⟩
  rw [← hb5] at hne hS0 ⊢
  have HS0 := hide hS0
  clear hb1 hb1' hI1 hJ1 hb2 hb2' hI2 hJ2 hj2 hi3 hb3 hk3 hz3 hS0 hb5 HB0 HI0 HJ0 HM1 HS1
  have hul := Tryd.underlying88
  have hul2 := Tryd.underlying25
  have hsz1 : (Tryd.prog.info? 88).map (·.size) = some (vals c).length := by rw [vals_length, HC.out]; exact size_rest
  have hsz2 : (Tryd.prog.info? 25).map (·.size) = some (vals E).length := by rw [vals_length, HD2.out]; exact size_dig
  have hE1 : ∀ v ∈ vals E, v.oneCell' = true := vals_one E
  have hEl : (vals E).length = 32 := by rw [vals_length]; exact HD2.out
  go_region_held2 (fun W : World => W.rangeAt w.heap.size 0 (vals c) ∧ W.there (w.heap.size + 1) 0 32 ∧ Below w.heap.size w W ∧ Is W b5 (vals D) 25)
    ((first
      | exact held_below HS0.out ((Below.refl _ _).drew)
      | exact held_below (by assumption) hb7
      | exact held_below (by assumption) hb6
      | exact held_below (by assumption) (below_alloc _ _)
      | exact held_store (by assumption) hne _))
    ((first
      | (go_at_call 87; refine (HM2.out _).mono ?_; rintro e w6 ⟨rfl, hb6⟩)
      | (go_at_call 86; refine (HS2.out _ b5 _ (by assumption) (Is.new' _ _ rfl)).mono ?_; rintro e w7 ⟨rfl, hb7⟩)
      | (go_at_call 86; refine (HS2.out _ b5 _ (by assumption) ((Is.drew (Is.new w3 [.slice (some ⟨b5, 0, none⟩) 32 32] 36)).below hb6 (by simp [World.drew]))).mono ?_; rintro e w7 ⟨rfl, hb7⟩)))
  · have hS7 := held_below (held_below (held_below (held_below HS0.out ((Below.refl _ _).drew)) hb6) (below_alloc _ _)) hb7
    have hS8 := held_store hS7 hne (vals E)
    have hl := run_loadVar_mid (P := Tryd.prog) _ (w.heap.size + 1) 0 25 (vals E) _ (World.rangeAt_setCells_same w7 (w.heap.size + 1) 0 (vals E) (by rw [hEl]; exact hS7.2.1)) hul2 rfl hsz2
    have HL := hide hl
    have HS8 := hide hS8
    clear hl hS7 hS8 hul hul2 hsz1 hsz2
    go_wp2
    exact bodyPost_ret (v := .agg (vals E).toArray) (results_cell1 Tryd.results70 rfl HL.out) rfl ⟨rfl, HS8.out.2.2.1⟩
  · have hS7 := held_below (held_below (held_below HS0.out ((below_alloc w3 _).drew)) hb6) hb7
    have hS8 := held_store hS7 hne (vals E)
    have hl := run_loadVar_mid (P := Tryd.prog) _ (w.heap.size + 1) 0 25 (vals E) _ (World.rangeAt_setCells_same w7 (w.heap.size + 1) 0 (vals E) (by rw [hEl]; exact hS7.2.1)) hul2 rfl hsz2
    have HL := hide hl
    have HS8 := hide hS8
    clear hl hS7 hS8 hul hul2 hsz1 hsz2
    go_wp2
    exact bodyPost_ret (v := .agg (vals E).toArray) (results_cell1 Tryd.results70 rfl HL.out) rfl ⟨rfl, HS8.out.2.2.1⟩
end Go.Proofs.YtkdihbgjeanjdaaDoor

/- The contract of mac.Mac. -/
namespace Go.Proofs.YtkdihbgjeanjdaaDoor
open Go.RowKit
set_option linter.unusedVariables false

theorem Has.form {w : World} {v : Value} {l : List Int} (h : Has w v l) : ∃ a c, v = .slice a l.length c := by
  rcases h with ⟨a, c, rfl, rfl, _⟩ | ⟨b, off, cap, rfl, _⟩
  · exact ⟨a, c, rfl⟩
  · exact ⟨_, _, rfl⟩
/-- A block of one slice. -/
theorem rows_one {W : World} {K : Nat} {a : Option Addr} {n c : Nat} {l : List Int} (hK : Is W K [.slice a n c] 36) (h : Has W (.slice a n c) l) : HasRows W (some ⟨K, 0, none⟩) 1 [l] :=
  ⟨rfl, fun i hi => by
    have : i = 0 := by omega
    subst this
    exact ⟨K, 0, a, n, c, rfl, by rw [hK.cell]; rfl, h⟩⟩

set_option maxRecDepth 100000 in
set_option maxHeartbeats 400000 in
theorem mac_any (vk vb : Value) (k l : List Int) (w : World) (hk : Has w vk k) (hl : Has w vb l) (hkb : Sz.Byt k) (hlb : Sz.Byt l) (ht : Tab w) (hw : 1 < w.heap.size) (hkn : k.length < 500000000000000) (hln : l.length < 500000000000000) :
    Calls Tryd.prog 51 #[vk, vb] w fun e w' => e = .returned (.agg (vals (Mc.mac k l)).toArray) ∧ Below w.heap.size w w' := by
  obtain ⟨va, vc, rfl⟩ := hl.form
  have HK : Hid (∀ w', Below w.heap.size w w' → Calls Tryd.prog 71 #[vk] w' fun e w'' => e = .returned (.agg (vals (Mc.block k)).toArray) ∧ Below w'.heap.size w' w'') := fun w' hb => keyBlock_any vk k w' (hk.below hb) hkb (ht.below hb hw) (Nat.lt_of_lt_of_le hw hb.size) (by omega)
  have HW : Hid (∀ W K, Below w.heap.size w W → Is W K [.slice va l.length vc] 36 → Calls Tryd.prog 70 #[.agg (vals (Mc.block k)).toArray, .slice (some ⟨K, 0, none⟩) 1 1] W fun e w'' => e = .returned (.agg (vals (Mc.mac k l)).toArray) ∧ Below W.heap.size W w'') := fun W K hb hK => by
    have := withBlock_any (Mc.block k) (some ⟨K, 0, none⟩) 1 [l] W (Mc.block_length k) (Mc.block_byt k hkb) (rows_one hK (hl.below hb)) (fun x hx => by simp at hx; subst hx; exact hlb) (by simp) (by simp; omega) (ht.below hb hw) (Nat.lt_of_lt_of_le hw hb.size)
    simpa [Mc.mac] using this
  have hD : (Mc.mac k l).length = 32 := Mc.mac_length _ _
  generalize Mc.mac k l = D at *
  generalize Mc.block k = B at *
  have HD := hide hD
  have HI := hide (Is.new w (vals (List.replicate 32 0)) 25)
  have HB := hide (below_alloc w (.cells (vals (List.replicate 32 0)).toArray 25))
  generalize l.length = n at *
  clear hD hk hl ht hkb hlb hkn
  go_enter Tryd.func51, Tryd.ntmps51
  go_wp2_with (first
    | (go_at_call 71; refine (HK.out _ HB.out).mono ?_; rintro e w1 ⟨rfl, hb1⟩; have hb1' := HB.out.trans (hb1.mono HB.out.size); have hI1 := HI.out.below hb1 HI.out.lt)
    | (go_at_call 70; refine (HW.out _ w1.heap.size (hb1'.alloc hb1'.size _) (Is.new w1 _ 36)).mono ?_; rintro e w2 ⟨rfl, hb2⟩; have hI2 := (hI1.alloc _).below hb2 (hI1.alloc _).lt; have hb2' := (hb1'.alloc hb1'.size _).trans (hb2.mono (hb1'.alloc hb1'.size _).size))
    | (refine wpList_store_any 25 (vals (List.replicate 32 0)) (vals D) w.heap.size hI2 size_dig (by simp [vals]) (by rw [vals_length]; exact HD.out) (vals_one _) rfl (.tmp 4) (.tmp 9) rfl rfl rfl rfl ?_; intro w7 hi7 hb7 hk7 hz7))
  have hr := hi7.cellsOf Tryd.underlying25 (by rw [vals_length, HD.out]; exact size_dig)
  exact bodyPost_ret (v := .agg (vals D).toArray) (results_cell1 Tryd.results51 rfl hr) rfl ⟨rfl, hb7 _ _ hb2' (Nat.le_refl _)⟩
end Go.Proofs.YtkdihbgjeanjdaaDoor

/- Blocks of slices, and what stays of a block where another one grows. -/
namespace Go.Proofs.YtkdihbgjeanjdaaDoor
open Go.RowKit
set_option linter.unusedVariables false

/-- A block of three slices. -/
theorem rows_three {W : World} {K : Nat} {a0 a1 a2 : Option Addr} {n0 n1 n2 c0 c1 c2 : Nat} {l0 l1 l2 : List Int} (hK : Is W K [.slice a0 n0 c0, .slice a1 n1 c1, .slice a2 n2 c2] 36) (h0 : Has W (.slice a0 n0 c0) l0) (h1 : Has W (.slice a1 n1 c1) l1) (h2 : Has W (.slice a2 n2 c2) l2) :
    HasRows W (some ⟨K, 0, none⟩) 3 [l0, l1, l2] :=
  ⟨rfl, fun i hi => by
    match i, hi with
    | 0, _ => exact ⟨K, 0, a0, n0, c0, rfl, by rw [hK.cell]; rfl, h0⟩
    | 1, _ => exact ⟨K, 0, a1, n1, c1, rfl, by rw [hK.cell]; rfl, h1⟩
    | 2, _ => exact ⟨K, 0, a2, n2, c2, rfl, by rw [hK.cell]; rfl, h2⟩⟩

theorem Is.grown {w w' : World} {b : Nat} {c : List Value} {t : TypeId} {row : Option Nat} (h : Is w b c t) (k : w.grownBy w' row) (hne : row ≠ some b) : Is w' b c t := by
  unfold Is
  rw [k.block b h.lt (fun e => hne e.symm)]
  exact h
/-- The first bytes of a block. -/
theorem Is.front {w : World} {b : Nat} {L : List Int} {t : TypeId} (h : Is w b (vals L) t) {n : Nat} (hn : L.length = n) (d : Nat) (hd : d ≤ n) (hm : n ≤ 140737488355328 := by omega) : Has w (.slice (some ⟨b, 0, none⟩) d n) (L.take d) := by
  subst hn
  have e : (L.take d).length = d := by rw [List.length_take]; omega
  by_cases h0 : d = 0
  · subst h0; exact .inl ⟨_, _, rfl, by simp, by unfold maxLen; omega, fun h => by cases h⟩
  · refine .inr ⟨b, 0, L.length, by rw [e], by omega, by omega, by unfold maxLen; omega, fun j hj => ?_⟩
    rw [h.cell, Nat.zero_add, vals_get _ _ (by omega)]
    simp only [List.getD, List.getElem?_take]
    rw [if_pos (by omega)]

theorem nil_has (w : World) : Has w (.slice none 0 0) [] := .inl ⟨none, 0, rfl, rfl, by unfold maxLen; omega, fun _ => rfl⟩
/-- What stands while the other digest is told. -/
theorem kept_below {w W W' : World} {D x : List Int} {b : Nat} {v : Value} (h : W.rangeAt b 0 (vals D) ∧ Below w.heap.size w W ∧ Has W v x) (hb : Below W.heap.size W W') : W'.rangeAt b 0 (vals D) ∧ Below w.heap.size w W' ∧ Has W' v x :=
  ⟨range_below h.1 hb, h.2.1.trans (hb.mono h.2.1.size), h.2.2.below hb⟩

end Go.Proofs.YtkdihbgjeanjdaaDoor
