/- The contract of mac.Expand. -/
import Derived.Test.YtpmiaimpemkefaaDoorMaMac
import Derived.Test.YtpmiaimpemkefaaDoorAs
namespace Go.Proofs.YtpmiaimpemkefaaDoor
open Go.RowKit
set_option linter.unusedVariables false

theorem expand_out (vk vi : Value) (n : Int) (w : World) (hn : n < 0 ∨ 2000 < n) :
    Calls Tryd.prog 9 #[vk, vi, .int .i64 n] w fun e w' => e = .returned (.tuple #[.slice none 0 0, .iface 26 (.int .i64 2)]) ∧ w = w' := by
  by_cases h0 : n < 0
  · clear hn
    go_enter Tryd.func9, Tryd.ntmps9
    go_wp2
    go_ret2
    exact ⟨rfl, rfl⟩
  · have h1 : 2000 < n := by omega
    clear hn
    go_enter Tryd.func9, Tryd.ntmps9
    go_wp2
    go_ret2
    exact ⟨rfl, rfl⟩

/-- A block of three slices. -/
theorem rows_three {W : World} {K : Nat} {a0 a1 a2 : Option Addr} {n0 n1 n2 c0 c1 c2 : Nat} {l0 l1 l2 : List Int} (hK : Is W K [.slice a0 n0 c0, .slice a1 n1 c1, .slice a2 n2 c2] 22) (h0 : Has W (.slice a0 n0 c0) l0) (h1 : Has W (.slice a1 n1 c1) l1) (h2 : Has W (.slice a2 n2 c2) l2) :
    HasRows W (some ⟨K, 0, none⟩) 3 [l0, l1, l2] :=
  ⟨rfl, fun i hi => by
    match i, hi with
    | 0, _ => exact ⟨K, 0, a0, n0, c0, rfl, by rw [hK.cell]; rfl, h0⟩
    | 1, _ => exact ⟨K, 0, a1, n1, c1, rfl, by rw [hK.cell]; rfl, h1⟩
    | 2, _ => exact ⟨K, 0, a2, n2, c2, rfl, by rw [hK.cell]; rfl, h2⟩⟩

theorem Is.grown {w w' : World} {b : Nat} {c : List Value} {t : TypeId} {row : Option Nat} (h : Is w b c t) (k : w.grownBy w' row) (hne : row ≠ some b) : Is w' b c t := by
  unfold Is
  rw [k.block b h.lt (fun e => hne e.symm)]
  exact h
/-- The first bytes of a block. -/
theorem Is.front {w : World} {b : Nat} {L : List Int} {t : TypeId} (h : Is w b (vals L) t) {n : Nat} (hn : L.length = n) (d : Nat) (hd : d ≤ n) (hm : n ≤ 140737488355328 := by omega) : Has w (.slice (some ⟨b, 0, none⟩) d n) (L.take d) := by
  subst hn
  have e : (L.take d).length = d := by rw [List.length_take]; omega
  by_cases h0 : d = 0
  · subst h0; exact .inl ⟨_, _, rfl, by simp, by unfold maxLen; omega, fun h => by cases h⟩
  · refine .inr ⟨b, 0, L.length, by rw [e], by omega, by omega, by unfold maxLen; omega, fun j hj => ?_⟩
    rw [h.cell, Nat.zero_add, vals_get _ _ (by omega)]
    simp only [List.getD, List.getElem?_take]
    rw [if_pos (by omega)]

set_option maxRecDepth 100000 in
set_option maxHeartbeats 800000 in
theorem expand_in (vk vi : Value) (k l : List Int) (n : Nat) (w : World) (hk : Has w vk k) (hl : Has w vi l) (hkb : Sz.Byt k) (hlb : Sz.Byt l) (ht : Tab w) (hw : 1 < w.heap.size) (hkn : k.length < 400000000000000) (hln : l.length < 400000000000000) (hn : n ≤ 2000) :
    Calls Tryd.prog 9 #[vk, vi, .int .i64 (n : Int)] w fun e w' => ∃ v, e = .returned (.tuple #[v, .nilIface]) ∧ Own w' w.heap.size v (Mc.expand k l n) ∧ Below w.heap.size w w' := by
  obtain ⟨va, vc, rfl⟩ := hl.form
  have hn0 : ¬ (n : Int) < 0 := by omega
  have hn1 : ¬ (2000 : Int) < (n : Int) := by omega
  have HK := hide (keyBlock_any vk k w hk hkb ht hw (by omega))
  have hBl := Mc.block_length k
  have HW : Hid (∀ W K (i : Nat) a m c K1, Below w.heap.size w W → Is W K [.slice a m c, .slice va l.length vc, .slice (some ⟨K1, 0, none⟩) 1 1] 22 → Has W (.slice a m c) (Mc.part k l i) → Is W K1 [.int .u8 (((i + 1) % 256 : Nat) : Int)] 5 →
      Calls Tryd.prog 13 #[.agg (vals (Mc.block k)).toArray, .slice (some ⟨K, 0, none⟩) 3 3] W fun e w'' => e = .returned (.agg (vals (Mc.part k l (i + 1))).toArray) ∧ Below W.heap.size W w'') := fun W K i a m c K1 hb hK hp hK1 => by
    have h1 : Has W (.slice (some ⟨K1, 0, none⟩) 1 1) [(((i + 1) % 256 : Nat) : Int)] := Is.has (L := [(((i + 1) % 256 : Nat) : Int)]) hK1 rfl (by omega)
    have hpl : (Mc.part k l i).length ≤ 32 := by
      cases i with
      | zero => simp [Mc.part]
      | succ i => rw [Mc.part_length]; omega
    have := withBlock_any (Mc.block k) (some ⟨K, 0, none⟩) 3 [Mc.part k l i, l, [(((i + 1) % 256 : Nat) : Int)]] W (Mc.block_length k) (Mc.block_byt k hkb) (rows_three hK hp (hl.below hb) h1)
      (fun x hx => by
        simp only [List.mem_cons, List.mem_nil_iff, or_false] at hx
        rcases hx with rfl | rfl | rfl
        · exact Mc.part_byt _ _ _
        · exact hlb
        · intro y hy; simp at hy; omega) (by simp) (by simp only [List.flatten_cons, List.flatten_nil, List.length_append, List.length_cons, List.length_nil]; omega) (ht.below hb hw) (Nat.lt_of_lt_of_le hw hb.size)
    simpa [Mc.part, Mc.mac] using this
  have HP0 : Hid (Mc.part k l 0 = []) := rfl
  have HPl : Hid (∀ i, (Mc.part k l (i + 1)).length = 32) := Mc.part_length k l
  have HQ0 : Hid (Mc.parts k l 0 = []) := rfl
  have HQ1 : Hid (∀ i, Mc.parts k l (i + 1) = Mc.parts k l i ++ Mc.part k l (i + 1)) := fun i => rfl
  have HQl : Hid (∀ i, (Mc.parts k l i).length = 32 * i) := Mc.parts_length k l
  have HX : Hid (∀ i, n ≤ 32 * i → (Mc.parts k l i).take n = Mc.expand k l n) := fun i h => Mc.expand_of k l n i h
  generalize Mc.expand k l n = X at *
  generalize Mc.parts k l = Q at *
  generalize Mc.part k l = P at *
  generalize Mc.block k = B at *
  obtain ⟨Z, hZ⟩ : ∃ Z, Z = vals (List.replicate 64 0) := ⟨_, rfl⟩
  have hz := zero_rest
  rw [← hZ] at hz
  have hZl : Z.length = 64 := by rw [hZ]; simp [vals]
  have hZp : ¬ Z = [] := by intro h; rw [h] at hZl; cases hZl
  have HZL := hide hZl
  have HBL := hide hBl
  have HL := hide hl
  generalize l.length = m at *
  clear hZ hZl hBl hk hl ht hkb hlb hkn
  go_enter Tryd.func9, Tryd.ntmps9
  go_wp2_with (first
    | (go_at_call 14; refine HK.out.mono ?_; rintro e w1 ⟨rfl, hb1⟩)
    | (refine wpList_store_any 38 Z (vals B) w1.heap.size (Is.new w1 _ _) size_rest HZL.out (by rw [vals_length]; exact HBL.out) (vals_one _) rfl (.tmp 8) (.tmp 21) rfl rfl rfl rfl ?_; intro w2 hi2 hb2 hk2 hz2))
  have hb2' := hb2 _ _ (hb1.alloc hb1.size _) hb1.size
  have hzz : w2.heap.size = w1.heap.size + 1 := by rw [hz2]; simp
  obtain ⟨g, hg⟩ : ∃ g, g = w1.heap.size := ⟨_, rfl⟩
  have hgw : w.heap.size ≤ g := by rw [hg]; exact hb1.size
  rw [← hg] at hi2 hzz ⊢
  have HI2 := hide hi2
  have HB2 := hide hb2'
  clear hb1 hb2 hk2 hz2 hi2 hb2' hg HZL hz hZp HK
  go_loopw [9, 10, 11] (fun o t u wr => ∃ (i : Nat), 32 * i < n + 32 ∧ u = .int .i64 ((i : Int) + 1) ∧ Own wr (g + 1) o ((Q i).take n) ∧ Has wr t (P i) ∧ Is wr g (vals B) 38 ∧ Below w.heap.size w wr) (fun _ _ u _ => 100 - (intOf u).toNat)
  case atStart => exact ⟨0, by omega, rfl, by rw [HQ0.out, List.take_nil]; exact Own.nil _ _, by rw [HP0.out]; exact .inl ⟨none, 0, rfl, rfl, by unfold maxLen; omega, fun _ => rfl⟩, HI2.out, HB2.out⟩
  case round =>
    obtain ⟨i, hi, rfl, ho, hp, hI, hb⟩ := hrel
    clear HI2 HB2
    obtain ⟨oa, oc, rfl, hoc1, hoc2⟩ := ho.form
    obtain ⟨ta, tc, rfl⟩ := hp.form
    by_cases hlt : 32 * i < n
    · have hfull : (Q i).take n = Q i := List.take_of_length_le (by rw [HQl.out]; omega)
      rw [hfull] at ho hoc1 ⊢
      rw [HQl.out] at hoc1 ho ⊢
      have hlti : ((32 * i : Nat) : Int) < (n : Int) := by omega
      have hu8 : ((i : Int) + 1) % 256 = (((i + 1) % 256 : Nat) : Int) := by omega
      have hi100 : i < 100 := by omega
      have hPl := HPl.out i
      have hQ1 := HQ1.out i
      obtain ⟨N, hN⟩ : ∃ N, N = P (i + 1) := ⟨_, rfl⟩
      have hbA := below_alloc2 wr (.cells #[.int .u8 ((i : Int) + 1)] 5) (.cells #[.slice ta (P i).length tc, .slice va m vc, .slice (some ⟨wr.heap.size, 0, none⟩) 1 1] 22)
      have hu8' : (((i + 1) % 256 : Nat) : Int) = (i : Int) + 1 := by omega
      have hWi := HW.out ((wr.alloc (.cells #[.int .u8 ((i : Int) + 1)] 5)).alloc (.cells #[.slice ta (P i).length tc, .slice va m vc, .slice (some ⟨wr.heap.size, 0, none⟩) 1 1] 22)) (wr.heap.size + 1) i ta (P i).length tc wr.heap.size
        (hb.trans (hbA.mono hb.size)) (Is.new' _ _ (by simp)) (hp.below hbA) (by rw [hu8']; exact (Is.new wr [.int .u8 ((i : Int) + 1)] 5).alloc _)
      rw [← hN] at hWi hPl hQ1
      generalize (P i).length = pl at *
      have HWI := hide hWi
      have HPL := hide hPl
      have HQ1' := hide hQ1
      have HBA := hide hbA
      have HI := hide hI
      have HO := hide ho
      have HN := hide hN
      have hI1 := hI.lt
      clear hI hp ho hfull hWi hPl hQ1 hbA hN hu8'
      obtain ⟨wA, hwA⟩ : ∃ wA, wA = wr := ⟨_, rfl⟩
      subst hwA
      have HHAS : Hid (∀ (d : Nat), d ≤ 32 → ∀ W b, Is W b (vals N) 24 → Has W (.slice (some ⟨b, 0, none⟩) d 32) (N.take d)) := fun d hd W b h => Is.front h HPL.out d hd
      obtain ⟨d, hd⟩ : ∃ d, n = 32 * i + d := ⟨n - 32 * i, by omega⟩
      have hdi : (n : Int) - 32 * (i : Int) = (d : Int) := by omega
      by_cases hbig : 32 ≤ d
      · have hbi : ¬ (d : Int) < 32 := by omega
        have HTK : Hid ((Q (i + 1)).take n = Q i ++ N.take 32) := by
          show _ = _
          rw [HQ1'.out, List.take_of_length_le (by rw [List.length_append, HQl.out, HPL.out]; omega), List.take_of_length_le (by rw [HPL.out]; omega)]
        have HBD : Hid ((Q i).length + (N.take 32).length ≤ 180000000000000) := by show _ ≤ _; rw [HQl.out, List.length_take]; omega
        have HHAS := hide (HHAS.out 32 (Nat.le_refl _))
        have HDD := hide hd
        clear hd
        go_wp2_with (first
          | (refine wpList_load_arr 38 (vals B) g HI.out Tryd.underlying38 size_rest (by rw [vals_length]; exact HBL.out) rfl (.tmp 8) rfl rfl ?_)
          | (go_at_call 13; refine HWI.out.mono ?_; rintro e w3 ⟨rfl, hb3⟩; have hb3' := HBA.out.trans (hb3.mono HBA.out.size))
          | (refine wpList_store_any 24 (vals (List.replicate 32 0)) (vals N) w3.heap.size (Is.new w3 _ _) size_dig (by simp [vals]) (by rw [vals_length]; exact HPL.out) (vals_one _) rfl (.tmp 12) (.tmp 35) rfl rfl rfl rfl ?_; intro w4 hi4 hb4 hk4 hz4; have hb4' := hb4 _ _ (hb3'.alloc hb3'.size _) hb3'.size; have ho4 := HO.out.below hb4')
          | (at_builtin; refine wpList_append_bytes _ rfl _ _ rfl (g + 1) (.slice oa (32 * i) oc) _ rfl ho4 (.slice (some ⟨w3.heap.size, 0, none⟩) 32 32) (N.take 32) rfl (HHAS.out _ _ hi4) HBD.out (Nat.le_trans hI1 hb4'.size) ?_; intro v5 w5 ho5 hg5))
        have hni : ∀ b, wA.heap.size ≤ b → (Value.slice oa (32 * i) oc).ownBlock ≠ some b := fun b hb e => by have := (HO.out.block b e).2; omega
        have hb3s := hb3'.size
        have hb5 : Below w.heap.size w w5 := (hb.trans (hb4'.mono hb.size)).grown hg5 (Nat.le_trans hb.size hb4'.size) (fun q hq => by have := (HO.out.block q hq).1; omega)
        have hI5 : Is w5 g (vals B) 38 := (HI.out.below hb4' hI1).grown hg5 (fun e => by have := (HO.out.block g e).1; omega)
        have hN5 : Is w5 w3.heap.size (vals N) 24 := hi4.grown hg5 (hni _ hb3s)
        have hP5 : Has w5 (.slice (some ⟨w3.heap.size, 0, none⟩) 32 32) (P (i + 1)) := by rw [← HN.out]; exact hN5.has HPL.out (by omega)
        go_roundw
        case rel => exact ⟨i + 1, by omega, by go_num, by rw [HTK.out]; exact ho5, hP5, hI5, hb5⟩
        case measure => simp [intOf]; omega
      · have hbi : (d : Int) < 32 := by omega
        have hbi2 : d ≤ 32 := by omega
        have HTK : Hid ((Q (i + 1)).take n = Q i ++ N.take d) := by
          show _ = _
          rw [HQ1'.out, List.take_append, List.take_of_length_le (by rw [HQl.out]; omega), HQl.out, show n - 32 * i = d by omega]
        have HBD : Hid ((Q i).length + (N.take d).length ≤ 180000000000000) := by show _ ≤ _; rw [HQl.out, List.length_take]; omega
        have HHAS := hide (HHAS.out d hbi2)
        have HDD := hide hd
        clear hd
        go_wp2_with (first
          | (refine wpList_load_arr 38 (vals B) g HI.out Tryd.underlying38 size_rest (by rw [vals_length]; exact HBL.out) rfl (.tmp 8) rfl rfl ?_)
          | (go_at_call 13; refine HWI.out.mono ?_; rintro e w3 ⟨rfl, hb3⟩; have hb3' := HBA.out.trans (hb3.mono HBA.out.size))
          | (refine wpList_store_any 24 (vals (List.replicate 32 0)) (vals N) w3.heap.size (Is.new w3 _ _) size_dig (by simp [vals]) (by rw [vals_length]; exact HPL.out) (vals_one _) rfl (.tmp 12) (.tmp 35) rfl rfl rfl rfl ?_; intro w4 hi4 hb4 hk4 hz4; have hb4' := hb4 _ _ (hb3'.alloc hb3'.size _) hb3'.size; have ho4 := HO.out.below hb4')
          | (at_builtin; refine wpList_append_bytes _ rfl _ _ rfl (g + 1) (.slice oa (32 * i) oc) _ rfl ho4 (.slice (some ⟨w3.heap.size, 0, none⟩) d 32) (N.take d) rfl (HHAS.out _ _ hi4) HBD.out (Nat.le_trans hI1 hb4'.size) ?_; intro v5 w5 ho5 hg5))
        have hni : ∀ b, wA.heap.size ≤ b → (Value.slice oa (32 * i) oc).ownBlock ≠ some b := fun b hb e => by have := (HO.out.block b e).2; omega
        have hb3s := hb3'.size
        have hb5 : Below w.heap.size w w5 := (hb.trans (hb4'.mono hb.size)).grown hg5 (Nat.le_trans hb.size hb4'.size) (fun q hq => by have := (HO.out.block q hq).1; omega)
        have hI5 : Is w5 g (vals B) 38 := (HI.out.below hb4' hI1).grown hg5 (fun e => by have := (HO.out.block g e).1; omega)
        have hN5 : Is w5 w3.heap.size (vals N) 24 := hi4.grown hg5 (hni _ hb3s)
        have hP5 : Has w5 (.slice (some ⟨w3.heap.size, 0, none⟩) 32 32) (P (i + 1)) := by rw [← HN.out]; exact hN5.has HPL.out (by omega)
        go_roundw
        case rel => exact ⟨i + 1, by omega, by go_num, by rw [HTK.out]; exact ho5, hP5, hI5, hb5⟩
        case measure => simp [intOf]; omega
    · have hln2 : ((Q i).take n).length = n := by rw [List.length_take, HQl.out]; omega
      rw [hln2] at ho ⊢
      rw [HX.out i (by omega)] at ho
      have HO := hide ho
      have hnn : ¬ (n : Int) < (n : Int) := by omega
      clear ho hp hI hln2 hoc1
      go_wp2
      go_ret2
      exact ⟨_, rfl, HO.out.mono (by omega), hb⟩
end Go.Proofs.YtpmiaimpemkefaaDoor
