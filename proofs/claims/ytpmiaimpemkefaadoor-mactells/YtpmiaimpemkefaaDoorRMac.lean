/- The contract of moneyerref1.Mac: the document's digest with a key. -/
import Derived.Test.YtpmiaimpemkefaaDoorMaExp
import Derived.Test.YtpmiaimpemkefaaDoorOwn2
import Derived.Test.YtpmiaimpemkefaaDoorRSum
namespace Go.Proofs.YtpmiaimpemkefaaDoor
open Go.RowKit
set_option linter.unusedVariables false

theorem Own.grown {w w' : World} {base : Nat} {v : Value} {l : List Int} {row : Option Nat} (h : Own w base v l) (k : w.grownBy w' row) (hne : ∀ b, v.ownBlock = some b → row ≠ some b) : Own w' base v l := by
  refine ⟨h.1, ?_⟩
  rcases h.2 with h0 | ⟨g, cap, cur, rfl, hbg, hg, hn, hc, hs, ht⟩
  · exact .inl h0
  · have hlt : g < w.heap.size := by
      rcases Nat.lt_or_ge g w.heap.size with hlt | hge
      · exact hlt
      · rw [Array.getElem?_eq_none hge] at hg; cases hg
    exact .inr ⟨g, cap, cur, rfl, hbg, by rw [k.block g hlt (fun e => hne g rfl e.symm)]; exact hg, hn, hc, hs, ht⟩

theorem block_at (k : List Int) (i : Nat) (h : i < (Mc.short k).length) : (Mc.block k).getD i 0 = (Mc.short k).getD i 0 := by
  simp only [Mc.block, List.getD]
  rw [List.getElem?_append_left h]
theorem block_past (k : List Int) (i : Nat) (h : ¬ i < (Mc.short k).length) : (Mc.block k).getD i 0 = 0 := by
  simp only [Mc.block, List.getD]
  rw [List.getElem?_append_right (by omega), List.getElem?_replicate]
  split <;> rfl
theorem mask_at (c : Nat) (B : List Int) (i : Nat) (h : i < B.length) : (Mc.mask c B).getD i 0 = (((B.getD i 0).toNat ^^^ c : Nat) : Int) := by
  simp [Mc.mask, List.getD, List.getElem?_eq_getElem h]

set_option maxRecDepth 100000 in
set_option maxHeartbeats 1600000 in
theorem rmac_long (vk vb : Value) (k l : List Int) (w : World) (hk : Has w vk k) (hl : Has w vb l) (hkb : Sz.Byt k) (hlb : Sz.Byt l) (hkn : k.length ≤ 148000000000000) (hln : l.length ≤ 148000000000000) (hlong : 64 < k.length) :
    Calls Tryd.prog 7 #[vk, vb] w fun e w' => e = .returned (.agg (vals (Mc.mac k l)).toArray) ∧ Below w.heap.size w w' := by
  obtain ⟨ka, kc, rfl⟩ := hk.form
  obtain ⟨la, lc, rfl⟩ := hl.form
  have hM1 : (Mc.mask 92 (Mc.block k)).length = 64 := by rw [Mc.mask_length, Mc.block_length]
  have hM2 : (Mc.mask 54 (Mc.block k)).length = 64 := by rw [Mc.mask_length, Mc.block_length]
  have hBb := Mc.block_byt k hkb
  have HR1 : Hid (∀ w' v, Has w' v (Mc.mask 54 (Mc.block k) ++ l) → Calls Tryd.prog 15 #[v] w' fun e w'' => e = .returned (.agg (vals (Sh.sum (Mc.mask 54 (Mc.block k) ++ l))).toArray) ∧ Below w'.heap.size w' w'') := fun w' v h => rsum_any v _ w' h ((Mc.mask_byt _ _ hBb (by omega)).append hlb) (by rw [List.length_append, hM2]; omega)
  have HR2 : Hid (∀ w' v, Has w' v (Mc.mask 92 (Mc.block k) ++ Sh.sum (Mc.mask 54 (Mc.block k) ++ l)) → Calls Tryd.prog 15 #[v] w' fun e w'' => e = .returned (.agg (vals (Mc.mac k l)).toArray) ∧ Below w'.heap.size w' w'') := fun w' v h => rsum_any v _ w' h ((Mc.mask_byt _ _ hBb (by omega)).append (Mc.sum_byt _)) (by rw [List.length_append, hM1, Mc.sum_length]; omega)
  have hDl : (Mc.mac k l).length = 32 := Mc.mac_length _ _
  have hEl : (Sh.sum (Mc.mask 54 (Mc.block k) ++ l)).length = 32 := Mc.sum_length _
  have HAT : Hid (∀ i, i < 64 → ∀ x : Nat, (Mc.block k).getD i 0 = (x : Int) → (Mc.mask 92 (Mc.block k)).take (i + 1) = (Mc.mask 92 (Mc.block k)).take i ++ [((x ^^^ 92 : Nat) : Int)] ∧ (Mc.mask 54 (Mc.block k)).take (i + 1) = (Mc.mask 54 (Mc.block k)).take i ++ [((x ^^^ 54 : Nat) : Int)]) := fun i hi x hx => by
    rw [take_snoc _ _ (by rw [hM1]; exact hi), take_snoc _ _ (by rw [hM2]; exact hi), mask_at _ _ _ (by rw [Mc.block_length]; exact hi), mask_at _ _ _ (by rw [Mc.block_length]; exact hi), hx, Int.toNat_natCast]
    exact ⟨rfl, rfl⟩
  have HBA : Hid (∀ i, i < (Mc.short k).length → (Mc.block k).getD i 0 = (Mc.short k).getD i 0) := block_at k
  have HBP : Hid (∀ i, ¬ i < (Mc.short k).length → (Mc.block k).getD i 0 = 0) := block_past k
  have HSB := hide (Mc.short_byt k hkb)
  have hS : Mc.short k = Sh.sum k := by unfold Mc.short; rw [if_pos hlong]
  have HK : Hid (∀ w', Below w.heap.size w w' → Calls Tryd.prog 15 #[.slice ka k.length kc] w' fun e w'' => e = .returned (.agg (vals (Sh.sum k)).toArray) ∧ Below w'.heap.size w' w'') := fun w' hb => rsum_any _ k w' (hk.below hb) hkb (by omega)
  have hSl := Mc.sum_length k
  rw [hS] at HBA HBP HSB
  generalize Sh.sum k = S at *
  have HSL := hide hSl
  have hli : (64 : Int) < (k.length : Int) := by omega
  generalize k.length = kn at *
  clear hSl hS
  generalize Mc.mac k l = D at *
  generalize Sh.sum (Mc.mask 54 (Mc.block k) ++ l) = E at *
  generalize Mc.mask 92 (Mc.block k) = M1 at *
  generalize Mc.mask 54 (Mc.block k) = M2 at *
  generalize Mc.block k = B at *
  have HM1 := hide hM1
  have HM2 := hide hM2
  have HDL := hide hDl
  have HEL := hide hEl
  have HLH := hide hl
  obtain ⟨ln, hln'⟩ : ∃ ln, ln = l.length := ⟨_, rfl⟩
  have HLN := hide hln'
  rw [← hln'] at HLH hln ⊢
  clear hM1 hM2 hDl hEl hBb hl hk hln' hkb hlb
  have HI0 := hide (Is.new w (vals (List.replicate 32 0)) 24)
  have HB0 := hide (below_alloc w (.cells (vals (List.replicate 32 0)).toArray 24))
  go_enter Tryd.func7, Tryd.ntmps7
  go_wp2_with (first
    | (go_at_call 15; refine (HK.out _ HB0.out).mono ?_; rintro e w1 ⟨rfl, hb1⟩; have hb1' := HB0.out.trans (hb1.mono HB0.out.size); have hI1 := HI0.out.below hb1 HI0.out.lt)
    | (refine wpList_store_any 24 (vals (List.replicate 32 0)) (vals S) w1.heap.size (Is.new w1 _ _) size_dig (by simp [vals]) (by rw [vals_length]; exact HSL.out) (vals_one _) rfl (.tmp 5) (.tmp 15) rfl rfl rfl rfl ?_; intro w2 hi2 hb2 hk2 hz2; have hb2' := hb2 _ _ (hb1'.alloc hb1'.size _) hb1'.size))
  have hI2 : Is w2 w.heap.size (vals (List.replicate 32 0)) 24 := hk2 _ _ _ (by have := hI1.lt; omega) (hI1.alloc _)
  have hKH : Has w2 (.slice (some ⟨w1.heap.size, 0, none⟩) 32 32) S := hi2.has HSL.out (by omega)
  have hSl32 := HSL.out
  obtain ⟨b5, hb5⟩ : ∃ b5, b5 = w1.heap.size := ⟨_, rfl⟩
  rw [← hb5] at hKH ⊢
  have hlt2 := hI2.lt
  clear hb1 hb1' hI1 hi2 hb2 hk2 hz2 hb5 HI0 HB0 HK
  obtain ⟨W, hW⟩ : ∃ W, W = w2 := ⟨_, rfl⟩
  subst hW
  have hWB := hb2'
  have hWI := hI2
  clear hb2' hI2
  go_loopw [6, 7, 8] (fun o n u wr => ∃ i : Nat, i ≤ 64 ∧ u = .int .i64 i ∧ Own wr W.heap.size o (M1.take i) ∧ Own wr W.heap.size n (M2.take i) ∧ (∀ b, o.ownBlock = some b → n.ownBlock ≠ some b) ∧ Below W.heap.size W wr) (fun _ _ u _ => 64 - (intOf u).toNat)
  case atStart => exact ⟨0, by omega, rfl, Own.nil _ _, Own.nil _ _, (fun b e => by cases e), Below.refl _ _⟩
  case round =>
    obtain ⟨i, hi, rfl, ho, hn, hdis, hb⟩ := hrel
    obtain ⟨oa, oc, rfl, hoc1, hoc2⟩ := ho.form
    obtain ⟨na, nc, rfl, hnc1, hnc2⟩ := hn.form
    have hL1 : (M1.take i).length = i := by rw [List.length_take, HM1.out]; omega
    have hL2 : (M2.take i).length = i := by rw [List.length_take, HM2.out]; omega
    rw [hL1] at ho hdis ⊢
    rw [hL2] at hn hdis ⊢
    clear hoc1 hoc2 hnc1 hnc2
    have hWr := hb.size
    have HDIS := hide hdis
    have HO := hide ho
    have HN := hide hn
    obtain ⟨wA, hwA⟩ : ∃ wA, wA = wr := ⟨_, rfl⟩
    subst hwA
    by_cases hi64 : i < 64
    · have hi64i : (i : Int) < 64 := by omega
      have HBD1 : Hid ((M1.take i).length + 1 ≤ 1000000000) := by show _ ≤ _; rw [hL1]; omega
      have HBD2 : Hid ((M2.take i).length + 1 ≤ 1000000000) := by show _ ≤ _; rw [hL2]; omega
      by_cases hik : i < 32
      · have hiki : (i : Int) < (32 : Int) := by omega
        obtain ⟨x, hx⟩ := Int.eq_ofNat_of_zero_le (HSB.out.getD i).1
        have hx2 : x < 256 := by have := (HSB.out.getD i).2; omega
        have hc : wA.cell? ⟨b5, i, none⟩ = some (.int .u8 (S.getD i 0)) := by
          rcases hKH.below hb with ⟨a, c, e1, e2, _⟩ | ⟨b, off, c, e1, h0, h1, h2, hcc⟩
          · rw [e2] at hSl32; cases hSl32
          · injection e1 with e1 e2
            injection e1 with e1
            injection e1 with e3 e4
            subst e3 e4
            have := hcc i (by rw [HSL.out]; exact hik)
            rwa [Nat.zero_add] at this
        rw [hx] at hc
        have hAT := HAT.out i hi64 x (by rw [HBA.out i (by rw [HSL.out]; exact hik)]; exact hx)
        have hx92 : bits .xor .u8 (x : Int) 92 = ((x ^^^ 92 : Nat) : Int) := u8_xor_nat x 92 hx2 (by omega)
        have hx54 : bits .xor .u8 (x : Int) 54 = ((x ^^^ 54 : Nat) : Int) := u8_xor_nat x 54 hx2 (by omega)
        generalize x ^^^ 92 = y1 at *
        generalize x ^^^ 54 = y2 at *
        have HA1 := hide hAT.1
        have HA2 := hide hAT.2
        clear hAT ho hn hdis hL1 hL2 hx
        go_wp2_with (first
          | (at_builtin; refine wpList_append_one _ (y1 : Int) rfl _ _ rfl W.heap.size (.slice oa i oc) _ rfl (HO.out.below (below_alloc wA _)) wA.heap.size rfl (Is.new wA [.int .u8 (y1 : Int)] 5) HBD1.out (Nat.le_trans hWr (below_alloc wA _).size) ?_; intro v5 w5 ho5 hg5 hs5; have hn5 := (HN.out.below (below_alloc wA _)).grown hg5 (fun b e1 e2 => HDIS.out b e2 e1); have hs5' := hg5.size)
          | (at_builtin; refine wpList_append_one _ (y2 : Int) rfl _ _ rfl W.heap.size (.slice na i nc) _ rfl (hn5.below (below_alloc w5 _)) w5.heap.size rfl (Is.new w5 [.int .u8 (y2 : Int)] 5) HBD2.out (Nat.le_trans hWr (Nat.le_trans (below_alloc wA _).size (Nat.le_trans hs5' (below_alloc w5 _).size))) ?_; intro v6 w6 ho6 hg6 hs6))
        have hap : ∀ b, v5.ownBlock = some b → (Value.slice na i nc).ownBlock ≠ some b := fun b e1 e2 => by
          rcases hs5 with h | h
          · exact HDIS.out b (h ▸ e1) e2
          · rw [h] at e1
            injection e1 with e1
            have := (HN.out.block b e2).2
            simp at e1
            omega
        have ho6' := (ho5.below (below_alloc w5 _)).grown hg6 (fun b e1 e2 => hap b e1 e2)
        have hap6 : ∀ b, v5.ownBlock = some b → v6.ownBlock ≠ some b := fun b e1 e2 => by
          rcases hs6 with h | h
          · exact hap b e1 (h ▸ e2)
          · rw [h] at e2
            injection e2 with e2
            have := (ho5.block b e1).2
            simp at e2
            omega
        have hb5 := (hb.alloc hWr _).grown hg5 (Nat.le_trans hWr (below_alloc wA _).size) (fun q hq => (HO.out.block q hq).1)
        have hb6 := (hb5.alloc hb5.size _).grown hg6 (Nat.le_trans hb5.size (below_alloc w5 _).size) (fun q hq => (HN.out.block q hq).1)
        go_roundw
        case rel => exact ⟨i + 1, by omega, by go_num, by rw [HA1.out]; exact ho6', by rw [HA2.out]; exact ho6, hap6, hb6⟩
        case measure => simp [intOf]; omega
      · have hiki : ¬ (i : Int) < (32 : Int) := by omega
        have hAT := HAT.out i hi64 0 (by rw [HBP.out i (by rw [HSL.out]; exact hik)]; rfl)
        have HA1 := hide hAT.1
        have HA2 := hide hAT.2
        clear hAT ho hn hdis hL1 hL2
        go_wp2_with (first
          | (at_builtin; refine wpList_append_one _ 92 rfl _ _ rfl W.heap.size (.slice oa i oc) _ rfl (HO.out.below (below_alloc wA _)) wA.heap.size rfl (Is.new wA [.int .u8 92] 5) HBD1.out (Nat.le_trans hWr (below_alloc wA _).size) ?_; intro v5 w5 ho5 hg5 hs5; have hn5 := (HN.out.below (below_alloc wA _)).grown hg5 (fun b e1 e2 => HDIS.out b e2 e1); have hs5' := hg5.size)
          | (at_builtin; refine wpList_append_one _ 54 rfl _ _ rfl W.heap.size (.slice na i nc) _ rfl (hn5.below (below_alloc w5 _)) w5.heap.size rfl (Is.new w5 [.int .u8 54] 5) HBD2.out (Nat.le_trans hWr (Nat.le_trans (below_alloc wA _).size (Nat.le_trans hs5' (below_alloc w5 _).size))) ?_; intro v6 w6 ho6 hg6 hs6))
        have hap : ∀ b, v5.ownBlock = some b → (Value.slice na i nc).ownBlock ≠ some b := fun b e1 e2 => by
          rcases hs5 with h | h
          · exact HDIS.out b (h ▸ e1) e2
          · rw [h] at e1
            injection e1 with e1
            have := (HN.out.block b e2).2
            simp at e1
            omega
        have ho6' := (ho5.below (below_alloc w5 _)).grown hg6 (fun b e1 e2 => hap b e1 e2)
        have hap6 : ∀ b, v5.ownBlock = some b → v6.ownBlock ≠ some b := fun b e1 e2 => by
          rcases hs6 with h | h
          · exact hap b e1 (h ▸ e2)
          · rw [h] at e2
            injection e2 with e2
            have := (ho5.block b e1).2
            simp at e2
            omega
        have hb5 := (hb.alloc hWr _).grown hg5 (Nat.le_trans hWr (below_alloc wA _).size) (fun q hq => (HO.out.block q hq).1)
        have hb6 := (hb5.alloc hb5.size _).grown hg6 (Nat.le_trans hb5.size (below_alloc w5 _).size) (fun q hq => (HN.out.block q hq).1)
        go_roundw
        case rel => exact ⟨i + 1, by omega, by go_num, by rw [HA1.out]; exact ho6', by rw [HA2.out]; exact ho6, hap6, hb6⟩
        case measure => simp [intOf]; omega
    · have hi' : i = 64 := by omega
      have hi64i : ¬ (i : Int) < 64 := by omega
      have hT1 : M1.take i = M1 := List.take_of_length_le (by rw [HM1.out]; omega)
      have hT2 : M2.take i = M2 := List.take_of_length_le (by rw [HM2.out]; omega)
      rw [hT1] at HO
      rw [hT2] at HN
      have HWB := hide hWB
      have hbW := hWB.trans (hb.mono hWB.size)
      have HLA := hide (HLH.out.below hbW)
      have HIA := hide (hWI.below hb hWI.lt)
      have hWs := hWB.size
      have hwlt := hWI.lt
      have HBD3 : Hid (M2.length + l.length ≤ 180000000000000) := by show _ ≤ _; rw [HM2.out]; have := HLN.out; omega
      have HBD4 : Hid (M1.length + E.length ≤ 180000000000000) := by show _ ≤ _; rw [HM1.out, HEL.out]; omega
      have hnn : ∀ b, wA.heap.size ≤ b → (Value.slice na i nc).ownBlock ≠ some b := fun b hb e => by have := (HN.out.block b e).2; omega
      have hno : ∀ b, wA.heap.size ≤ b → (Value.slice oa i oc).ownBlock ≠ some b := fun b hb e => by have := (HO.out.block b e).2; omega
      have hHN := HN.out.block
      have HHN := hide hHN
      clear ho hn hdis hL1 hL2 hT1 hT2 hi' hi64 HAT HBA HBP HSB hWI hWB hHN
      go_wp2_with (at_builtin; refine wpList_append_bytes _ rfl _ _ rfl W.heap.size (.slice na i nc) _ rfl HN.out (.slice la ln lc) l rfl HLA.out HBD3.out hWr ?_; intro v5 w5 ho5 hg5)
      have hs5 := hg5.size
      have ho5' := HO.out.grown hg5 (fun b e1 e2 => HDIS.out b e1 e2)
      have hI5 := HIA.out.grown hg5 (fun e => (by have := (HN.out.block _ e).1; omega))
      have hb5 := hb.grown hg5 hWr (fun q hq => (HN.out.block q hq).1)
      refine (HR1.out _ v5 ho5.has).mono ?_
      rintro e w6 ⟨rfl, hb6⟩
      have ho6 := ho5'.below hb6
      have hI6 := hI5.below hb6 hI5.lt
      have hb6' := hb5.trans (hb6.mono hb5.size)
      clear ho5 hg5 hs5 ho5' hI5 hb5 hb6 HR1 HN HLA HIA
      go_wp2_with (first
        | (refine wpList_store_any 24 (vals (List.replicate 32 0)) (vals E) w6.heap.size (Is.new w6 _ _) size_dig (by simp [vals]) (by rw [vals_length]; exact HEL.out) (vals_one _) rfl (.tmp 10) (.tmp 42) rfl rfl rfl rfl ?_; intro w7 hi7 hb7 hk7 hz7; have hb67 := hb7 _ _ (below_alloc w6 _) (Nat.le_refl _); have ho7 := ho6.below hb67; have hI7 := hI6.below hb67 hI6.lt; have hb7' := hb6'.trans (hb67.mono hb6'.size))
        | (at_builtin; refine wpList_append_bytes _ rfl _ _ rfl W.heap.size (.slice oa i oc) _ rfl ho7 (.slice (some ⟨w6.heap.size, 0, none⟩) 32 32) E rfl (hi7.has HEL.out (by omega)) HBD4.out hb7'.size ?_; intro v8 w8 ho8 hg8))
      have hI8 := hI7.grown hg8 (fun e => (by have := (HO.out.block _ e).1; omega))
      have hb8 := hb7'.grown hg8 hb7'.size (fun q hq => (HO.out.block q hq).1)
      refine (HR2.out _ v8 ho8.has).mono ?_
      rintro e w9 ⟨rfl, hb9⟩
      have hI9 := hI8.below hb9 hI8.lt
      have hb9' := hb8.trans (hb9.mono hb8.size)
      clear hI6 ho6 hb6' hi7 hb7 hk7 hz7 hb67 ho7 hI7 hb7' ho8 hg8 hI8 hb8 hb9 HR2
      go_wp2_with (refine wpList_store_any 24 (vals (List.replicate 32 0)) (vals D) w.heap.size hI9 size_dig (by simp [vals]) (by rw [vals_length]; exact HDL.out) (vals_one _) rfl (.tmp 4) (.tmp 46) rfl rfl rfl rfl ?_; intro wz hiz hbz hkz hzz)
      have hr := hiz.cellsOf Tryd.underlying24 (by rw [vals_length, HDL.out]; exact size_dig)
      exact bodyPost_ret (v := .agg (vals D).toArray) (results_cell1 Tryd.results7 rfl hr) rfl ⟨rfl, hbz _ _ (HWB.out.trans (hb9'.mono HWB.out.size)) (Nat.le_refl _)⟩

set_option maxRecDepth 100000 in
set_option maxHeartbeats 1600000 in
theorem rmac_short (vk vb : Value) (k l : List Int) (w : World) (hk : Has w vk k) (hl : Has w vb l) (hkb : Sz.Byt k) (hlb : Sz.Byt l) (hkn : k.length ≤ 148000000000000) (hln : l.length ≤ 148000000000000) (hlong : k.length ≤ 64) :
    Calls Tryd.prog 7 #[vk, vb] w fun e w' => e = .returned (.agg (vals (Mc.mac k l)).toArray) ∧ Below w.heap.size w w' := by
  obtain ⟨ka, kc, rfl⟩ := hk.form
  obtain ⟨la, lc, rfl⟩ := hl.form
  have hM1 : (Mc.mask 92 (Mc.block k)).length = 64 := by rw [Mc.mask_length, Mc.block_length]
  have hM2 : (Mc.mask 54 (Mc.block k)).length = 64 := by rw [Mc.mask_length, Mc.block_length]
  have hBb := Mc.block_byt k hkb
  have HR1 : Hid (∀ w' v, Has w' v (Mc.mask 54 (Mc.block k) ++ l) → Calls Tryd.prog 15 #[v] w' fun e w'' => e = .returned (.agg (vals (Sh.sum (Mc.mask 54 (Mc.block k) ++ l))).toArray) ∧ Below w'.heap.size w' w'') := fun w' v h => rsum_any v _ w' h ((Mc.mask_byt _ _ hBb (by omega)).append hlb) (by rw [List.length_append, hM2]; omega)
  have HR2 : Hid (∀ w' v, Has w' v (Mc.mask 92 (Mc.block k) ++ Sh.sum (Mc.mask 54 (Mc.block k) ++ l)) → Calls Tryd.prog 15 #[v] w' fun e w'' => e = .returned (.agg (vals (Mc.mac k l)).toArray) ∧ Below w'.heap.size w' w'') := fun w' v h => rsum_any v _ w' h ((Mc.mask_byt _ _ hBb (by omega)).append (Mc.sum_byt _)) (by rw [List.length_append, hM1, Mc.sum_length]; omega)
  have hDl : (Mc.mac k l).length = 32 := Mc.mac_length _ _
  have hEl : (Sh.sum (Mc.mask 54 (Mc.block k) ++ l)).length = 32 := Mc.sum_length _
  have HAT : Hid (∀ i, i < 64 → ∀ x : Nat, (Mc.block k).getD i 0 = (x : Int) → (Mc.mask 92 (Mc.block k)).take (i + 1) = (Mc.mask 92 (Mc.block k)).take i ++ [((x ^^^ 92 : Nat) : Int)] ∧ (Mc.mask 54 (Mc.block k)).take (i + 1) = (Mc.mask 54 (Mc.block k)).take i ++ [((x ^^^ 54 : Nat) : Int)]) := fun i hi x hx => by
    rw [take_snoc _ _ (by rw [hM1]; exact hi), take_snoc _ _ (by rw [hM2]; exact hi), mask_at _ _ _ (by rw [Mc.block_length]; exact hi), mask_at _ _ _ (by rw [Mc.block_length]; exact hi), hx, Int.toNat_natCast]
    exact ⟨rfl, rfl⟩
  have HBA : Hid (∀ i, i < (Mc.short k).length → (Mc.block k).getD i 0 = (Mc.short k).getD i 0) := block_at k
  have HBP : Hid (∀ i, ¬ i < (Mc.short k).length → (Mc.block k).getD i 0 = 0) := block_past k
  have HSB := hide (Mc.short_byt k hkb)
  have hS : Mc.short k = k := by unfold Mc.short; rw [if_neg (by omega)]
  rw [hS] at HBA HBP HSB
  obtain ⟨kn, hkn'⟩ : ∃ kn, kn = k.length := ⟨_, rfl⟩
  rw [← hkn'] at hk hlong hkn ⊢
  have hSl : k.length = kn := hkn'.symm
  have HSL := hide hSl
  have HKH := hide hk
  have hli : ¬ (64 : Int) < (kn : Int) := by omega
  clear hS hkn' hSl
  generalize Mc.mac k l = D at *
  generalize Sh.sum (Mc.mask 54 (Mc.block k) ++ l) = E at *
  generalize Mc.mask 92 (Mc.block k) = M1 at *
  generalize Mc.mask 54 (Mc.block k) = M2 at *
  generalize Mc.block k = B at *
  have HM1 := hide hM1
  have HM2 := hide hM2
  have HDL := hide hDl
  have HEL := hide hEl
  have HLH := hide hl
  obtain ⟨ln, hln'⟩ : ∃ ln, ln = l.length := ⟨_, rfl⟩
  have HLN := hide hln'
  rw [← hln'] at HLH hln ⊢
  clear hM1 hM2 hDl hEl hBb hl hk hln' hkb hlb
  have HI0 := hide (Is.new w (vals (List.replicate 32 0)) 24)
  have HB0 := hide (below_alloc w (.cells (vals (List.replicate 32 0)).toArray 24))
  go_enter Tryd.func7, Tryd.ntmps7
  go_wp2
  have hWB := HB0.out
  have hWI := HI0.out
  clear HI0 HB0
  generalize hWW : w.alloc (.cells (vals (List.replicate 32 0)).toArray 24) = W at hWB hWI
  have HWW := hide hWW
  clear hWW
  go_loopw [6, 7, 8] (fun o n u wr => ∃ i : Nat, i ≤ 64 ∧ u = .int .i64 i ∧ Own wr W.heap.size o (M1.take i) ∧ Own wr W.heap.size n (M2.take i) ∧ (∀ b, o.ownBlock = some b → n.ownBlock ≠ some b) ∧ Below W.heap.size W wr) (fun _ _ u _ => 64 - (intOf u).toNat)
  case atStart => exact ⟨0, by omega, rfl, Own.nil _ _, Own.nil _ _, (fun b e => by cases e), by rw [← HWW.out]; exact Below.refl _ _⟩
  case round =>
    obtain ⟨i, hi, rfl, ho, hn, hdis, hb⟩ := hrel
    obtain ⟨oa, oc, rfl, hoc1, hoc2⟩ := ho.form
    obtain ⟨na, nc, rfl, hnc1, hnc2⟩ := hn.form
    have hL1 : (M1.take i).length = i := by rw [List.length_take, HM1.out]; omega
    have hL2 : (M2.take i).length = i := by rw [List.length_take, HM2.out]; omega
    rw [hL1] at ho hdis ⊢
    rw [hL2] at hn hdis ⊢
    clear hoc1 hoc2 hnc1 hnc2
    have hWr := hb.size
    have HDIS := hide hdis
    have HO := hide ho
    have HN := hide hn
    obtain ⟨wA, hwA⟩ : ∃ wA, wA = wr := ⟨_, rfl⟩
    subst hwA
    by_cases hi64 : i < 64
    · have hi64i : (i : Int) < 64 := by omega
      have HBD1 : Hid ((M1.take i).length + 1 ≤ 1000000000) := by show _ ≤ _; rw [hL1]; omega
      have HBD2 : Hid ((M2.take i).length + 1 ≤ 1000000000) := by show _ ≤ _; rw [hL2]; omega
      by_cases hik : i < kn
      · have hiki : (i : Int) < (kn : Int) := by omega
        obtain ⟨x, hx⟩ := Int.eq_ofNat_of_zero_le (HSB.out.getD i).1
        have hx2 : x < 256 := by have := (HSB.out.getD i).2; omega
        obtain ⟨kb, koff, rfl, hc⟩ : ∃ kb koff, ka = some ⟨kb, koff, none⟩ ∧ wA.cell? ⟨kb, koff + i, none⟩ = some (.int .u8 (k.getD i 0)) := by
          rcases (HKH.out.below hWB).below hb with ⟨a, c, e1, e2, _⟩ | ⟨b, off, c, e1, h0, h1, h2, hcc⟩
          · injection e1 with _ e3
            omega
          · injection e1 with e1 e2
            exact ⟨b, off, e1, hcc i (by rw [HSL.out]; exact hik)⟩
        rw [hx] at hc
        have hAT := HAT.out i hi64 x (by rw [HBA.out i (by rw [HSL.out]; exact hik)]; exact hx)
        have hx92 : bits .xor .u8 (x : Int) 92 = ((x ^^^ 92 : Nat) : Int) := u8_xor_nat x 92 hx2 (by omega)
        have hx54 : bits .xor .u8 (x : Int) 54 = ((x ^^^ 54 : Nat) : Int) := u8_xor_nat x 54 hx2 (by omega)
        generalize x ^^^ 92 = y1 at *
        generalize x ^^^ 54 = y2 at *
        have HA1 := hide hAT.1
        have HA2 := hide hAT.2
        clear hAT ho hn hdis hL1 hL2 hx
        go_wp2_with (first
          | (at_builtin; refine wpList_append_one _ (y1 : Int) rfl _ _ rfl W.heap.size (.slice oa i oc) _ rfl (HO.out.below (below_alloc wA _)) wA.heap.size rfl (Is.new wA [.int .u8 (y1 : Int)] 5) HBD1.out (Nat.le_trans hWr (below_alloc wA _).size) ?_; intro v5 w5 ho5 hg5 hs5; have hn5 := (HN.out.below (below_alloc wA _)).grown hg5 (fun b e1 e2 => HDIS.out b e2 e1); have hs5' := hg5.size)
          | (at_builtin; refine wpList_append_one _ (y2 : Int) rfl _ _ rfl W.heap.size (.slice na i nc) _ rfl (hn5.below (below_alloc w5 _)) w5.heap.size rfl (Is.new w5 [.int .u8 (y2 : Int)] 5) HBD2.out (Nat.le_trans hWr (Nat.le_trans (below_alloc wA _).size (Nat.le_trans hs5' (below_alloc w5 _).size))) ?_; intro v6 w6 ho6 hg6 hs6))
        have hap : ∀ b, v5.ownBlock = some b → (Value.slice na i nc).ownBlock ≠ some b := fun b e1 e2 => by
          rcases hs5 with h | h
          · exact HDIS.out b (h ▸ e1) e2
          · rw [h] at e1
            injection e1 with e1
            have := (HN.out.block b e2).2
            simp at e1
            omega
        have ho6' := (ho5.below (below_alloc w5 _)).grown hg6 (fun b e1 e2 => hap b e1 e2)
        have hap6 : ∀ b, v5.ownBlock = some b → v6.ownBlock ≠ some b := fun b e1 e2 => by
          rcases hs6 with h | h
          · exact hap b e1 (h ▸ e2)
          · rw [h] at e2
            injection e2 with e2
            have := (ho5.block b e1).2
            simp at e2
            omega
        have hb5 := (hb.alloc hWr _).grown hg5 (Nat.le_trans hWr (below_alloc wA _).size) (fun q hq => (HO.out.block q hq).1)
        have hb6 := (hb5.alloc hb5.size _).grown hg6 (Nat.le_trans hb5.size (below_alloc w5 _).size) (fun q hq => (HN.out.block q hq).1)
        go_roundw
        case rel => exact ⟨i + 1, by omega, by go_num, by rw [HA1.out]; exact ho6', by rw [HA2.out]; exact ho6, hap6, hb6⟩
        case measure => simp [intOf]; omega
      · have hiki : ¬ (i : Int) < (kn : Int) := by omega
        have hAT := HAT.out i hi64 0 (by rw [HBP.out i (by rw [HSL.out]; exact hik)]; rfl)
        have HA1 := hide hAT.1
        have HA2 := hide hAT.2
        clear hAT ho hn hdis hL1 hL2
        go_wp2_with (first
          | (at_builtin; refine wpList_append_one _ 92 rfl _ _ rfl W.heap.size (.slice oa i oc) _ rfl (HO.out.below (below_alloc wA _)) wA.heap.size rfl (Is.new wA [.int .u8 92] 5) HBD1.out (Nat.le_trans hWr (below_alloc wA _).size) ?_; intro v5 w5 ho5 hg5 hs5; have hn5 := (HN.out.below (below_alloc wA _)).grown hg5 (fun b e1 e2 => HDIS.out b e2 e1); have hs5' := hg5.size)
          | (at_builtin; refine wpList_append_one _ 54 rfl _ _ rfl W.heap.size (.slice na i nc) _ rfl (hn5.below (below_alloc w5 _)) w5.heap.size rfl (Is.new w5 [.int .u8 54] 5) HBD2.out (Nat.le_trans hWr (Nat.le_trans (below_alloc wA _).size (Nat.le_trans hs5' (below_alloc w5 _).size))) ?_; intro v6 w6 ho6 hg6 hs6))
        have hap : ∀ b, v5.ownBlock = some b → (Value.slice na i nc).ownBlock ≠ some b := fun b e1 e2 => by
          rcases hs5 with h | h
          · exact HDIS.out b (h ▸ e1) e2
          · rw [h] at e1
            injection e1 with e1
            have := (HN.out.block b e2).2
            simp at e1
            omega
        have ho6' := (ho5.below (below_alloc w5 _)).grown hg6 (fun b e1 e2 => hap b e1 e2)
        have hap6 : ∀ b, v5.ownBlock = some b → v6.ownBlock ≠ some b := fun b e1 e2 => by
          rcases hs6 with h | h
          · exact hap b e1 (h ▸ e2)
          · rw [h] at e2
            injection e2 with e2
            have := (ho5.block b e1).2
            simp at e2
            omega
        have hb5 := (hb.alloc hWr _).grown hg5 (Nat.le_trans hWr (below_alloc wA _).size) (fun q hq => (HO.out.block q hq).1)
        have hb6 := (hb5.alloc hb5.size _).grown hg6 (Nat.le_trans hb5.size (below_alloc w5 _).size) (fun q hq => (HN.out.block q hq).1)
        go_roundw
        case rel => exact ⟨i + 1, by omega, by go_num, by rw [HA1.out]; exact ho6', by rw [HA2.out]; exact ho6, hap6, hb6⟩
        case measure => simp [intOf]; omega
    · have hi' : i = 64 := by omega
      have hi64i : ¬ (i : Int) < 64 := by omega
      have hT1 : M1.take i = M1 := List.take_of_length_le (by rw [HM1.out]; omega)
      have hT2 : M2.take i = M2 := List.take_of_length_le (by rw [HM2.out]; omega)
      rw [hT1] at HO
      rw [hT2] at HN
      have HWB := hide hWB
      have hbW := hWB.trans (hb.mono hWB.size)
      have HLA := hide (HLH.out.below hbW)
      have HIA := hide (hWI.below hb hWI.lt)
      have hWs := hWB.size
      have hwlt := hWI.lt
      have HBD3 : Hid (M2.length + l.length ≤ 180000000000000) := by show _ ≤ _; rw [HM2.out]; have := HLN.out; omega
      have HBD4 : Hid (M1.length + E.length ≤ 180000000000000) := by show _ ≤ _; rw [HM1.out, HEL.out]; omega
      have hnn : ∀ b, wA.heap.size ≤ b → (Value.slice na i nc).ownBlock ≠ some b := fun b hb e => by have := (HN.out.block b e).2; omega
      have hno : ∀ b, wA.heap.size ≤ b → (Value.slice oa i oc).ownBlock ≠ some b := fun b hb e => by have := (HO.out.block b e).2; omega
      have hHN := HN.out.block
      have HHN := hide hHN
      clear ho hn hdis hL1 hL2 hT1 hT2 hi' hi64 HAT HBA HBP HSB hWI hWB hHN
      go_wp2_with (at_builtin; refine wpList_append_bytes _ rfl _ _ rfl W.heap.size (.slice na i nc) _ rfl HN.out (.slice la ln lc) l rfl HLA.out HBD3.out hWr ?_; intro v5 w5 ho5 hg5)
      have hs5 := hg5.size
      have ho5' := HO.out.grown hg5 (fun b e1 e2 => HDIS.out b e1 e2)
      have hI5 := HIA.out.grown hg5 (fun e => (by have := (HN.out.block _ e).1; omega))
      have hb5 := hb.grown hg5 hWr (fun q hq => (HN.out.block q hq).1)
      refine (HR1.out _ v5 ho5.has).mono ?_
      rintro e w6 ⟨rfl, hb6⟩
      have ho6 := ho5'.below hb6
      have hI6 := hI5.below hb6 hI5.lt
      have hb6' := hb5.trans (hb6.mono hb5.size)
      clear ho5 hg5 hs5 ho5' hI5 hb5 hb6 HR1 HN HLA HIA
      go_wp2_with (first
        | (refine wpList_store_any 24 (vals (List.replicate 32 0)) (vals E) w6.heap.size (Is.new w6 _ _) size_dig (by simp [vals]) (by rw [vals_length]; exact HEL.out) (vals_one _) rfl (.tmp 10) (.tmp 42) rfl rfl rfl rfl ?_; intro w7 hi7 hb7 hk7 hz7; have hb67 := hb7 _ _ (below_alloc w6 _) (Nat.le_refl _); have ho7 := ho6.below hb67; have hI7 := hI6.below hb67 hI6.lt; have hb7' := hb6'.trans (hb67.mono hb6'.size))
        | (at_builtin; refine wpList_append_bytes _ rfl _ _ rfl W.heap.size (.slice oa i oc) _ rfl ho7 (.slice (some ⟨w6.heap.size, 0, none⟩) 32 32) E rfl (hi7.has HEL.out (by omega)) HBD4.out hb7'.size ?_; intro v8 w8 ho8 hg8))
      have hI8 := hI7.grown hg8 (fun e => (by have := (HO.out.block _ e).1; omega))
      have hb8 := hb7'.grown hg8 hb7'.size (fun q hq => (HO.out.block q hq).1)
      refine (HR2.out _ v8 ho8.has).mono ?_
      rintro e w9 ⟨rfl, hb9⟩
      have hI9 := hI8.below hb9 hI8.lt
      have hb9' := hb8.trans (hb9.mono hb8.size)
      clear hI6 ho6 hb6' hi7 hb7 hk7 hz7 hb67 ho7 hI7 hb7' ho8 hg8 hI8 hb8 hb9 HR2
      go_wp2_with (refine wpList_store_any 24 (vals (List.replicate 32 0)) (vals D) w.heap.size hI9 size_dig (by simp [vals]) (by rw [vals_length]; exact HDL.out) (vals_one _) rfl (.tmp 4) (.tmp 46) rfl rfl rfl rfl ?_; intro wz hiz hbz hkz hzz)
      have hr := hiz.cellsOf Tryd.underlying24 (by rw [vals_length, HDL.out]; exact size_dig)
      exact bodyPost_ret (v := .agg (vals D).toArray) (results_cell1 Tryd.results7 rfl hr) rfl ⟨rfl, hbz _ _ (HWB.out.trans (hb9'.mono HWB.out.size)) (Nat.le_refl _)⟩

theorem rmac_any (vk vb : Value) (k l : List Int) (w : World) (hk : Has w vk k) (hl : Has w vb l) (hkb : Sz.Byt k) (hlb : Sz.Byt l) (hkn : k.length ≤ 148000000000000) (hln : l.length ≤ 148000000000000) :
    Calls Tryd.prog 7 #[vk, vb] w fun e w' => e = .returned (.agg (vals (Mc.mac k l)).toArray) ∧ Below w.heap.size w w' := by
  by_cases h : 64 < k.length
  · exact rmac_long vk vb k l w hk hl hkb hlb hkn hln h
  · exact rmac_short vk vb k l w hk hl hkb hlb hkn hln (by omega)
end Go.Proofs.YtpmiaimpemkefaaDoor
