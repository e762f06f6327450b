/- The contract of keyBlock: a key's block. -/
import Derived.Test.YtdeddnlagbeanaaDoorMaMask
namespace Go.Proofs.YtdeddnlagbeanaaDoor
open Go.RowKit
set_option linter.unusedVariables false

/-- Bytes are copied to the front of a block. -/
theorem wpList_copy_has (g : Nat) (cur : List Value) (t : TypeId) {w : World} {ops : Array Oper} {rest : List Oper} {o : Oper} {a : Act} {Q : Exit → Act → World → Prop} (hi : Is w g cur t) (hgd : o.guard = none) (d s : Operand)
    (ho : o.op = .call { callee := .builtin .copy, args := #[d, s], argTypes := #[24, 24] }) (dLen dCap : Nat) (hd : a.eval d = .slice (some ⟨g, 0, none⟩) dLen dCap) (vx : Value) (L : List Int) (hs : a.eval s = vx) (hx : Has w vx L) (hle : L.length ≤ dLen) (hfit : L.length ≤ cur.length)
    (h : ∀ w2, Is w2 g (vals L ++ cur.drop L.length) t → (∀ B w0, Below B w0 w → B ≤ g → Below B w0 w2) → (∀ b' c2 t2, b' ≠ g → Is w b' c2 t2 → Is w2 b' c2 t2) → w2.heap.size = w.heap.size → wpList Tryd.prog ops Q rest (a.put o.dst (.int .i64 (L.length : Int))) w2) : wpList Tryd.prog ops Q (o :: rest) a w := by
  rcases hx with ⟨ad, cap, rfl, rfl, hm, hn⟩ | ⟨b, off, cap, rfl, h0, h1, hm, hc⟩
  · refine wpList_copy_nothing hgd d s 24 24 ho 5 Tryd.underlying24 size_u8 _ ad dLen dCap 0 cap hd hs (Nat.zero_min _) ?_
    exact h w (by simpa [vals] using hi) (fun _ _ h _ => h) (fun _ _ _ _ h => h) rfl
  · refine wpList_copy_own hgd d s 24 24 ho 5 Tryd.underlying24 size_u8 g 0 dLen dCap ⟨b, off, none⟩ L.length cap hd hs _ t hi (vals L) (by rw [vals_length]; exact (Nat.min_eq_left hle).symm) (fun j v hv => ?_) (by rw [List.size_toArray, vals_length]; omega) (vals_one _) ?_
    · have hj : j < L.length := by have := (List.getElem?_eq_some_iff.1 hv).1; rwa [vals_length] at this
      rw [Addr.add_lit, hc j hj, ← hv, vals_get _ _ hj]
    · have hg : goInt ((vals L).length : Nat) = .int .i64 (L.length : Int) := by rw [vals_length]; rfl
      rw [hg]
      refine h _ ?_ (fun B w0 h0 hB => below_setRow h0 hB _) (fun b' c2 t2 hne h0 => by unfold Is; rw [setRow_other _ _ _ _ hne]; exact h0) (by simp)
      have := Is.row hi (vals L ++ cur.drop L.length)
      simpa [vals_length] using this

/-- A block of bytes as a slice. -/
theorem Is.has {w : World} {b : Nat} {L : List Int} {t : TypeId} (h : Is w b (vals L) t) {n : Nat} (hn : L.length = n) (h0 : 0 < n) (hm : n ≤ 140737488355328 := by omega) : Has w (.slice (some ⟨b, 0, none⟩) n n) L := by
  subst hn
  exact .inr ⟨b, 0, L.length, rfl, h0, Nat.le_refl _, by unfold maxLen; omega, fun j hj => by rw [h.cell, Nat.zero_add, vals_get _ _ hj]⟩

set_option maxRecDepth 100000 in
set_option maxHeartbeats 400000 in
theorem keyBlock_any (v : Value) (l : List Int) (w : World) (h : Has w v l) (hbt : Sz.Byt l) (ht : Tab w) (hw : 1 < w.heap.size) (hlen : l.length < 1152921504606846976) :
    Calls Tryd.prog 45 #[v] w fun e w' => e = .returned (.agg (vals (Mc.block l)).toArray) ∧ Below w.heap.size w w' := by
  obtain ⟨va, vc, rfl⟩ : ∃ a cap, v = .slice a l.length cap := by
    rcases h with ⟨a, c, rfl, rfl, _⟩ | ⟨b, off, cap, rfl, _⟩
    · exact ⟨a, c, rfl⟩
    · exact ⟨_, _, rfl⟩
  obtain ⟨Z, hZ⟩ : ∃ Z, Z = vals (List.replicate 64 0) := ⟨_, rfl⟩
  have hz := zero_rest
  rw [← hZ] at hz
  have hZl : Z.length = 64 := by rw [hZ]; simp [vals]
  have hZp : ¬ Z = [] := by intro h; rw [h] at hZl; cases hZl
  have hblk : Hid (∀ s, s = Mc.short l → vals s ++ Z.drop s.length = vals (Mc.block l)) := fun s hs => by
    rw [hs, hZ, Mc.block, vals_append]; unfold vals; rw [← List.map_drop, List.drop_replicate]
  have hbl : (Mc.block l).length = 64 := Mc.block_length l
  generalize Mc.block l = B at *
  have HBL := hide hbl
  have HZL := hide hZl
  have HH := hide h
  have HT := hide ht
  clear hZ hZl hbl h ht
  by_cases hl : 64 < l.length
  · have hli : (64 : Int) < (l.length : Int) := by omega
    have hsh : Hid (Sh.sum l = Mc.short l) := by show _ = _; unfold Mc.short; rw [if_pos hl]
    have hdl := Mc.sum_length l
    have HS : Hid (∀ w', Below w.heap.size w w' → Calls Tryd.prog 57 #[.slice va l.length vc] w' fun e w'' => e = .returned (.agg (vals (Sh.sum l)).toArray) ∧ Below w'.heap.size w' w'') := fun w' hb => sum_any _ l w' (HH.out.below hb) hbt (HT.out.below hb hw) (Nat.lt_of_lt_of_le hw hb.size) hlen
    generalize Sh.sum l = D at *
    have HDL := hide hdl
    clear hdl HH
    have hB0 := below_alloc2 w (.cells Z.toArray 68) (.cells Z.toArray 68)
    have hJ1 := (Is.new w Z 68).alloc (.cells Z.toArray 68)
    have hI1 : Is ((w.alloc (.cells Z.toArray 68)).alloc (.cells Z.toArray 68)) (w.heap.size + 1) Z 68 := Is.new' Z 68 (by simp)
    go_enter Tryd.func45, Tryd.ntmps45
    go_wp2_with (first
      | (go_at_call 57; refine (HS.out _ (below_alloc2 w _ _)).mono ?_; rintro e w1 ⟨rfl, hb1⟩; have hz1 : w.heap.size + 2 ≤ w1.heap.size := (by have := hb1.size; simp at this; omega))
      | (refine wpList_store_any 23 (vals (List.replicate 32 0)) (vals D) w1.heap.size (Is.new w1 _ _) size_dig (by simp [vals]) (by rw [vals_length]; exact HDL.out) (vals_one _) rfl (.tmp 4) (.tmp 9) rfl rfl rfl rfl ?_; intro w2 hi2 hb2 hk2 hz2; have hwz : w.heap.size ≤ w1.heap.size := (by omega); have hI2 : Is w2 (w.heap.size + 1) Z 68 := hk2 _ _ _ (by omega) ((hI1.below hb1 (by simp)).alloc _); have hJ2 : Is w2 w.heap.size Z 68 := hk2 _ _ _ (by omega) ((hJ1.below hb1 (by simp; omega)).alloc _); have hB2 := hb2 _ _ ((hB0.trans (hb1.mono (by simp; omega))).alloc hwz _) hwz; have hx2 : Has w2 (.slice (some ⟨w1.heap.size, 0, none⟩) 32 32) D := hi2.has HDL.out (by omega))
      | (refine wpList_copy_has (w.heap.size + 1) Z 68 hI2 rfl (.tmp 11) (.tmp 12) rfl 64 64 rfl (.slice (some ⟨w1.heap.size, 0, none⟩) 32 32) D rfl hx2 (by rw [HDL.out]; omega) (by rw [HDL.out, HZL.out]; omega) ?_; intro w3 hi3 hb3 hk3 hz3; rw [hblk.out D hsh.out] at hi3)
      | (refine wpList_load_arr 68 (vals B) (w.heap.size + 1) hi3 Tryd.underlying68 size_rest (by rw [vals_length]; exact HBL.out) rfl (.tmp 3) rfl rfl ?_)
      | (refine wpList_store_any 68 Z (vals B) w.heap.size (hk3 _ _ _ (by omega) hJ2) size_rest HZL.out (by rw [vals_length]; exact HBL.out) (vals_one _) rfl (.tmp 2) (.tmp 14) rfl rfl rfl rfl ?_; intro w4 hi4 hb4 hk4 hz4))
    have hr := hi4.cellsOf Tryd.underlying68 (by rw [vals_length, HBL.out]; exact size_rest)
    exact bodyPost_ret (v := .agg (vals B).toArray) (results_cell1 Tryd.results45 rfl hr) rfl ⟨rfl, hb4 _ _ (hb3 _ _ hB2 (Nat.le_succ _)) (Nat.le_refl _)⟩
  · have hli : ¬ (64 : Int) < (l.length : Int) := by omega
    have hsh : Hid (l = Mc.short l) := by show _ = _; unfold Mc.short; rw [if_neg hl]
    have hB0 := below_alloc2 w (.cells Z.toArray 68) (.cells Z.toArray 68)
    have hJ1 := (Is.new w Z 68).alloc (.cells Z.toArray 68)
    have hI1 : Is ((w.alloc (.cells Z.toArray 68)).alloc (.cells Z.toArray 68)) (w.heap.size + 1) Z 68 := Is.new' Z 68 (by simp)
    have hx1 := HH.out.below hB0
    go_enter Tryd.func45, Tryd.ntmps45
    go_wp2_with (first
      | (refine wpList_copy_has (w.heap.size + 1) Z 68 hI1 rfl (.tmp 11) (.tmp 12) rfl 64 64 rfl _ l rfl hx1 (by omega) (by rw [HZL.out]; omega) ?_; intro w3 hi3 hb3 hk3 hz3; rw [hblk.out l hsh.out] at hi3)
      | (refine wpList_load_arr 68 (vals B) (w.heap.size + 1) hi3 Tryd.underlying68 size_rest (by rw [vals_length]; exact HBL.out) rfl (.tmp 3) rfl rfl ?_)
      | (refine wpList_store_any 68 Z (vals B) w.heap.size (hk3 _ _ _ (by omega) hJ1) size_rest HZL.out (by rw [vals_length]; exact HBL.out) (vals_one _) rfl (.tmp 2) (.tmp 14) rfl rfl rfl rfl ?_; intro w4 hi4 hb4 hk4 hz4))
    have hr := hi4.cellsOf Tryd.underlying68 (by rw [vals_length, HBL.out]; exact size_rest)
    exact bodyPost_ret (v := .agg (vals B).toArray) (results_cell1 Tryd.results45 rfl hr) rfl ⟨rfl, hb4 _ _ (hb3 _ _ hB0 (Nat.le_succ _)) (Nat.le_refl _)⟩
end Go.Proofs.YtdeddnlagbeanaaDoor
