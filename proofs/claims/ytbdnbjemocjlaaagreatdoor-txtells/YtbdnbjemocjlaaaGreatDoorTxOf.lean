/- The document's reader of a payment. -/
import Derived.Test.YtbdnbjemocjlaaaGreatDoorZTo
namespace Go.Proofs.YtbdnbjemocjlaaaGreatDoor
open Go.RowKit
set_option linter.unusedVariables false
set_option linter.unusedSimpArgs false

/-- The keys, told where the reading is not over. -/
def FKy (w : World) (o : Option Nat) (KK : List (List Int × Value)) (W : World) : Prop := Below w.heap.size w W → o.isSome = true → FKeys KK W
/-- The ins, told where the reading is not over. -/
def FIn (w : World) (o : Option Nat) (L : List InV) (W : World) : Prop := Below w.heap.size w W → o.isSome = true → FIns L W

set_option maxRecDepth 100000 in
set_option maxHeartbeats 16000000 in
theorem rtxOf_any (bv : Value) (l : List Int) (w : World) (hl : Has w bv l) (hbt : Sz.Byt l) (hbig : l.length ≤ 180000000000000) :
    Calls Tryz.prog 13 #[bv] w fun e w' => (∃ v, e = .returned (.tuple #[v, .bool (Tm.read l).isSome]) ∧ (Tm.read l = none → v = .agg #[.slice none 0 0, .slice none 0 0, .int .i64 0]) ∧ ∀ t, Tm.read l = some t → ∃ T : TxV, v = T.val ∧ T.it = t ∧ HasTx w' T) ∧ Below w.heap.size w w' := by
  have hzi := zero_in
  obtain ⟨Y, hY⟩ : ∃ Y, Y = vals (List.replicate 32 0) ++ ([.int .i64 0, .slice none 0 0] : List Value) := ⟨_, rfl⟩
  rw [← hY] at hzi
  have hYl : Y.length = 34 := by rw [hY]; simp [vals]
  have hYp : ¬ Y = [] := by intro h; rw [h] at hYl; cases hYl
  have HYL := hide hYl
  have HY := hide hY
  have HYC : Hid (Y[32]? = some (.int .i64 0)) := hide (by rw [hY]; simp [vals])
  clear hY hYl
  have HNUM := hide (fun (o : Option Nat) (most : Int) (W : World) (hm : 0 ≤ most) (hW : Below w.heap.size w W) => (by rw [← ptV_eq]; exact (rpnum_any bv l o most W (hl.below hW) hbt hbig).mono (by
    rintro e w' ⟨rfl, hb⟩
    obtain ⟨x0, x1⟩ := nV_le most hm l hbt o
    obtain ⟨m, hmm⟩ := Int.eq_ofNat_of_zero_le x0
    exact ⟨nO most l o, m, rfl, hmm.symm, by rw [← hmm]; exact x1, by rw [ptV_eq]; unfold nV at hmm; rw [hmm]; rfl, hb⟩) :
    Calls Tryz.prog 32 #[.agg (PtL bv o).toArray, .int .i64 most] W fun e w' => ∃ (o' : Option Nat) (m : Nat), o' = nO most l o ∧ (m : Int) = nV most l o ∧ (m : Int) ≤ most ∧ e = .returned (.tuple #[.agg (PtL bv o').toArray, .int .i64 (m : Int)]) ∧ Below W.heap.size W w'))
  have HBYT := hide (fun (o : Option Nat) (n : Nat) (W : World) (ho : Inn l o) (hW : Below w.heap.size w W) => (by rw [← ptV_eq]; exact (rpbytes_any bv l o n W (hl.below hW) ho).mono (by
    rintro e w' ⟨⟨v, rfl, ⟨a, m, c, rfl⟩, h⟩, hb⟩
    exact ⟨bO n l o, a, m, c, rfl, by rw [ptV_eq]; rfl, h, hb⟩) :
    Calls Tryz.prog 33 #[.agg (PtL bv o).toArray, .int .i64 (n : Int)] W fun e w' => ∃ (o' : Option Nat) (a : Option Addr) (m c : Nat), o' = bO n l o ∧ e = .returned (.tuple #[.agg (PtL bv o').toArray, .slice a m c]) ∧ (∀ x, o.bind (Tm.bts n l) = some x → ∀ W, Has W bv l → Has W (.slice a m c) x.1) ∧ Below W.heap.size W w'))
  have HNUM0 : Hid (∀ (most : Int) (W : World), 0 ≤ most → Below w.heap.size w W → Calls Tryz.prog 32 #[.agg (PtL bv none).toArray, .int .i64 most] W fun e w' => e = .returned (.tuple #[.agg (PtL bv none).toArray, .int .i64 0]) ∧ Below W.heap.size W w') := hide (fun most W hm hW => (HNUM.out none most W hm hW).mono (by
    rintro e w' ⟨o', m, ho, hmv, _, rfl, hb⟩
    obtain rfl : o' = none := ho
    have h0 : (m : Int) = 0 := hmv
    exact ⟨by rw [h0], hb⟩))
  have HREAD := hide (Tm.rRead_eq l hbt)
  have HNO : Hid (Tm.rPay l = none → Tm.read l = none) := hide (fun h => by rw [← HREAD.out]; unfold Tm.rRead; rw [h]; rfl)
  have HBT := hide hbt
  have HL := hide hl
  have HBO : Hid (bv.oneCell' = true) := hide (by obtain ⟨a, c, rfl, _, _⟩ := hl.shape; rfl)
  have HT0 := hide ((Is.new w [.slice none 0 0, .slice none 0 0, .int .i64 0] 25).alloc (.cells #[.slice none 0 0, .slice none 0 0, .int .i64 0] 25))
  have HT1 : Hid (Is ((w.alloc (.cells #[.slice none 0 0, .slice none 0 0, .int .i64 0] 25)).alloc (.cells #[.slice none 0 0, .slice none 0 0, .int .i64 0] 25)) (w.heap.size + 1) [.slice none 0 0, .slice none 0 0, .int .i64 0] 25) := Is.new' [.slice none 0 0, .slice none 0 0, .int .i64 0] 25 (by simp)
  have HB0 := hide (below_alloc2 w (.cells #[.slice none 0 0, .slice none 0 0, .int .i64 0] 25) (.cells #[.slice none 0 0, .slice none 0 0, .int .i64 0] 25))
  obtain ⟨ba, bc, hbe, _, _⟩ := hl.shape
  obtain ⟨bn, hbn⟩ : ∃ n, n = l.length := ⟨_, rfl⟩
  rw [← hbn] at hbe
  have HBN := hide hbn
  subst hbe
  clear hl hbt hbig hbn
  go_enter Tryz.func13, Tryz.ntmps13
  go_wp2_with fail
  refine (HNUM.out (some 0) 40 _ (by decide) HB0.out).mono ?_
  rintro e w1 ⟨o1, m1, ho1, hm1, hm1b, rfl, hb1⟩
  have HS0 : Hid (OfS w w1.heap.size (.slice ba bn bc) [.slice none 0 0, .slice none 0 0, .int .i64 0] none [.slice none 0 0, .slice none 0 0, .int .i64 0] (w1.alloc (.cells #[.slice none 0 0, .int .i64 0, .bool false] 77))) := hide ⟨(HB0.out.trans (hb1.mono HB0.out.size)).alloc (by have := HB0.out.size; have := hb1.size; omega) _, by have := hb1.size; simp at this; omega, (HT0.out.below hb1 HT0.out.lt).alloc _, (HT1.out.below hb1 HT1.out.lt).alloc _, Is.new w1 (PtL (.slice ba bn bc) none) 77⟩
  have HO1 := hide ho1
  have HM1 := hide hm1
  have HM1b := hide hm1b
  clear ho1 hm1 hm1b hb1
  go_wp2_with (first
    | (refine wpList_store_any3 77 (PtL (.slice ba bn bc) none) (PtL (.slice ba bn bc) o1) w1.heap.size rfl (.tmp 5) (.tmp 23) rfl rfl rfl rfl HS0.out.pt size_part (ptL_len _ _) (ptL_len _ _) (ptL_one _ rfl _) ?_; intro w2 hi2 hw2; have HS1 : Hid (OfS w w1.heap.size (.slice ba bn bc) [.slice none 0 0, .slice none 0 0, .int .i64 0] o1 [.slice none 0 0, .slice none 0 0, .int .i64 0] w2) := (by rw [hw2]; exact hide (HS0.out.part o1)); clear hi2 hw2))
  have HB5 := hide (show w.heap.size + 1 < w1.heap.size from HS0.out.lo)
  clear HS0 HT0 HT1 HB0
  go_wp2_with fail
  go_loopw [7] (fun i wr => ∃ k : Nat, k ≤ m1 ∧ i = .int .i64 k ∧ ∃ (o : Option Nat) (L : List InV) (va : Option Addr) (vc : Nat), OfS w w1.heap.size (.slice ba bn bc) [.slice none 0 0, .slice none 0 0, .int .i64 0] o [.slice va k vc, .slice none 0 0, .int .i64 0] wr ∧ Acc wr (w1.heap.size + 1) 54 34 k (.slice va k vc) (inCells L) (FIn w o L) ∧ L.length = k ∧ InvI l (L.map InV.it) (m1 - k) o ∧ Inn l o) (fun i _ => m1 - (intOf i).toNat)
  case atStart => exact ⟨0, by omega, rfl, o1, [], none, 0, HS1.out, Acc.nil _ _ _ _ (fun W _ _ p hp => by cases hp), rfl, by have := HM1.out; have h := invI_start l; rw [← this, ← HO1.out] at h; exact h, by rw [HO1.out]; exact inn_n HBT.out (fun p hp => by cases hp; omega)⟩
  case round =>
    obtain ⟨k, hk, rfl, o, L, va, vc, hst, hac, hLk, hiv, hin⟩ := hrel
    have HST := hide hst
    have HAC := hide hac
    have HLK := hide hLk
    have HIV := hide hiv
    have HIN := hide hin
    clear hst hac hLk hiv hin
    cases o with
    | none =>
      have HPR : Hid (Tm.rPay l = none) := hide HIV.out
      have hcA := HST.out.pt.cell 2
      simp only [PtL, List.getElem?_cons_zero, List.getElem?_cons_succ] at hcA
      by_cases hlt : k < m1
      · have hki : (k : Int) < (m1 : Int) := by omega
        go_wp2_with (first
          | (refine wpList_load_part 77 (PtL (.slice ba bn bc) (none)) w1.heap.size 0 rfl (.tmp 5) rfl rfl (is_range HST.out.pt) Tryz.underlying77 rfl size_part (ptL_len _ _) ?_))
        refine (HNUM0.out 40 _ (by decide) HST.out.below).mono ?_
        rintro e w2 ⟨rfl, hb2⟩
        have HS2 := hide (HST.out.call hb2)
        clear hb2
        go_wp2_with (first
          | (refine wpList_store_any3 77 (PtL (.slice ba bn bc) (none)) (PtL (.slice ba bn bc) (none)) w1.heap.size rfl (.tmp 5) (.tmp 94) rfl rfl rfl rfl HS2.out.pt size_part (ptL_len _ _) (ptL_len _ _) (ptL_one _ rfl _) ?_; intro w3 hiw3 hw3; have HS3 := hide (HS2.out.store (none) hw3); have HBT3 : Hid (But w1.heap.size _ w3) := (by rw [hw3]; exact hide (But.row _ w1.heap.size _)); clear hiw3 hw3))
        refine wp_loop_rounds 1 ?_
        rw [rounds_succ]
        go_wp2_with (first
          | (refine wpList_load_part 77 (PtL (.slice ba bn bc) (none)) w1.heap.size 0 rfl (.tmp 5) rfl rfl (is_range HS3.out.pt) Tryz.underlying77 rfl size_part (ptL_len _ _) ?_))
        refine (HNUM0.out 1073741824 _ (by decide) HS3.out.below).mono ?_
        rintro e w4 ⟨rfl, hb4⟩
        have HS4 := hide (HS3.out.call hb4)
        clear hb4
        go_wp2_with (first
          | (refine wpList_store_any3 77 (PtL (.slice ba bn bc) (none)) (PtL (.slice ba bn bc) (none)) w1.heap.size rfl (.tmp 5) (.tmp 164) rfl rfl rfl rfl HS4.out.pt size_part (ptL_len _ _) (ptL_len _ _) (ptL_one _ rfl _) ?_; intro w5 hiw5 hw5; have HS5 := hide (HS4.out.store (none) hw5); have HBT5 : Hid (But w1.heap.size _ w5) := (by rw [hw5]; exact hide (But.row _ w1.heap.size _)); clear hiw5 hw5; have hcT := HS5.out.tx.cell 2; have hfT := HS5.out.tx.frozen; simp only [PtL, List.set_cons_zero, List.set_cons_succ, List.getElem?_cons_zero, List.getElem?_cons_succ] at hcT; have HS6 := hide (HS5.out.set 2 (.int .i64 0)); have hcP := HS6.out.pt.cell 2; simp only [PtL, List.set_cons_zero, List.set_cons_succ, List.getElem?_cons_zero, List.getElem?_cons_succ] at hcP)
          | (refine wpList_store_any3 25 [.slice none 0 0, .slice none 0 0, .int .i64 0] [.slice none 0 0, .slice none 0 0, .int .i64 0] w.heap.size rfl (.tmp 2) (.tmp 182) rfl rfl rfl rfl HS6.out.res size_tx rfl rfl (by intro v hv; simp only [List.mem_cons, List.not_mem_nil, or_false] at hv; rcases hv with rfl | rfl | rfl <;> rfl) ?_; intro w9 hi9 hw9; have hbr : But w.heap.size _ w9 := (by rw [hw9]; exact But.row _ w.heap.size _); clear hw9))
        have hrd := HNO.out HPR.out
        exact bodyPost_ret (v := .tuple #[.agg #[.slice none 0 0, .slice none 0 0, .int .i64 0], .bool false]) (results_cell2 Tryz.results13 rfl (hi9.cellsOfS Tryz.underlying25 (by kernel_rfl))) rfl ⟨⟨_, by rw [hrd]; rfl, fun _ => rfl, fun t ht => by rw [hrd] at ht; cases ht⟩, HS6.out.below.trans (hbr.under HS6.out.below.size (Nat.le_refl _))⟩
      · have hki : ¬ (k : Int) < (m1 : Int) := by omega
        go_wp2_with (first
          | (refine wpList_load_part 77 (PtL (.slice ba bn bc) (none)) w1.heap.size 0 rfl (.tmp 5) rfl rfl (is_range HST.out.pt) Tryz.underlying77 rfl size_part (ptL_len _ _) ?_))
        refine (HNUM0.out 40 _ (by decide) HST.out.below).mono ?_
        rintro e w2 ⟨rfl, hb2⟩
        have HS2 := hide (HST.out.call hb2)
        clear hb2
        go_wp2_with (first
          | (refine wpList_store_any3 77 (PtL (.slice ba bn bc) (none)) (PtL (.slice ba bn bc) (none)) w1.heap.size rfl (.tmp 5) (.tmp 94) rfl rfl rfl rfl HS2.out.pt size_part (ptL_len _ _) (ptL_len _ _) (ptL_one _ rfl _) ?_; intro w3 hiw3 hw3; have HS3 := hide (HS2.out.store (none) hw3); have HBT3 : Hid (But w1.heap.size _ w3) := (by rw [hw3]; exact hide (But.row _ w1.heap.size _)); clear hiw3 hw3))
        refine wp_loop_rounds 1 ?_
        rw [rounds_succ]
        go_wp2_with (first
          | (refine wpList_load_part 77 (PtL (.slice ba bn bc) (none)) w1.heap.size 0 rfl (.tmp 5) rfl rfl (is_range HS3.out.pt) Tryz.underlying77 rfl size_part (ptL_len _ _) ?_))
        refine (HNUM0.out 1073741824 _ (by decide) HS3.out.below).mono ?_
        rintro e w4 ⟨rfl, hb4⟩
        have HS4 := hide (HS3.out.call hb4)
        clear hb4
        go_wp2_with (first
          | (refine wpList_store_any3 77 (PtL (.slice ba bn bc) (none)) (PtL (.slice ba bn bc) (none)) w1.heap.size rfl (.tmp 5) (.tmp 164) rfl rfl rfl rfl HS4.out.pt size_part (ptL_len _ _) (ptL_len _ _) (ptL_one _ rfl _) ?_; intro w5 hiw5 hw5; have HS5 := hide (HS4.out.store (none) hw5); have HBT5 : Hid (But w1.heap.size _ w5) := (by rw [hw5]; exact hide (But.row _ w1.heap.size _)); clear hiw5 hw5; have hcT := HS5.out.tx.cell 2; have hfT := HS5.out.tx.frozen; simp only [PtL, List.set_cons_zero, List.set_cons_succ, List.getElem?_cons_zero, List.getElem?_cons_succ] at hcT; have HS6 := hide (HS5.out.set 2 (.int .i64 0)); have hcP := HS6.out.pt.cell 2; simp only [PtL, List.set_cons_zero, List.set_cons_succ, List.getElem?_cons_zero, List.getElem?_cons_succ] at hcP)
          | (refine wpList_store_any3 25 [.slice none 0 0, .slice none 0 0, .int .i64 0] [.slice none 0 0, .slice none 0 0, .int .i64 0] w.heap.size rfl (.tmp 2) (.tmp 182) rfl rfl rfl rfl HS6.out.res size_tx rfl rfl (by intro v hv; simp only [List.mem_cons, List.not_mem_nil, or_false] at hv; rcases hv with rfl | rfl | rfl <;> rfl) ?_; intro w9 hi9 hw9; have hbr : But w.heap.size _ w9 := (by rw [hw9]; exact But.row _ w.heap.size _); clear hw9))
        have hrd := HNO.out HPR.out
        exact bodyPost_ret (v := .tuple #[.agg #[.slice none 0 0, .slice none 0 0, .int .i64 0], .bool false]) (results_cell2 Tryz.results13 rfl (hi9.cellsOfS Tryz.underlying25 (by kernel_rfl))) rfl ⟨⟨_, by rw [hrd]; rfl, fun _ => rfl, fun t ht => by rw [hrd] at ht; cases ht⟩, HS6.out.below.trans (hbr.under HS6.out.below.size (Nat.le_refl _))⟩
    | some q =>
    by_cases hlt : k < m1
    · have hki : (k : Int) < (m1 : Int) := by omega
      have hcA := HST.out.pt.cell 2
      simp only [PtL, List.getElem?_cons_zero, List.getElem?_cons_succ] at hcA
      have HS2 := hide (HST.out.alloc (.cells Y.toArray 54))
      have HX2 := hide (Is.new wr Y 54)
      have HM2 := hide (HAC.out.mid.call (below_alloc wr (.cells Y.toArray 54)) (Nat.le_refl _))
      have HB8 : Hid (w1.heap.size < wr.heap.size) := hide HST.out.pt.lt
      clear HST HAC HS1
      go_wp2_with (first
        | (refine wpList_load_part 77 (PtL (.slice ba bn bc) (some q)) w1.heap.size 0 rfl (.tmp 5) rfl rfl (is_range HS2.out.pt) Tryz.underlying77 rfl size_part (ptL_len _ _) ?_))
      refine (HBYT.out (some q) 32 _ HIN.out HS2.out.below).mono ?_
      rintro e w2 ⟨o2, da, dm, dc, ho2, rfl, hD, hb2⟩
      have HO2 := hide ho2
      have HD2 := hide hD
      have HS3 := hide (HS2.out.call hb2)
      have HX3 := hide (HX2.out.below hb2 HX2.out.lt)
      have HM3 := hide (HM2.out.call hb2 (Nat.le_of_lt HX2.out.lt))
      clear ho2 hD hb2 HS2 HX2 HM2 hcA
      go_wp2_with (first
        | (refine wpList_store_any3 77 (PtL (.slice ba bn bc) (some q)) (PtL (.slice ba bn bc) (o2)) w1.heap.size rfl (.tmp 5) (.tmp 37) rfl rfl rfl rfl HS3.out.pt size_part (ptL_len _ _) (ptL_len _ _) (ptL_one _ rfl _) ?_; intro w3 hiw3 hw3; have HS4 : Hid (OfS w w1.heap.size (.slice ba bn bc) [.slice none 0 0, .slice none 0 0, .int .i64 0] (o2) [.slice va k vc, .slice none 0 0, .int .i64 0] w3) := (by rw [hw3]; exact hide (HS3.out.part (o2))); have HBT3 : Hid (But w1.heap.size _ w3) := (by rw [hw3]; exact hide (But.row _ w1.heap.size _)); clear hiw3 hw3; have HX4 := hide (HBT3.out.kept HX3.out (Nat.ne_of_gt HB8.out)); have HM4 := hide (HM3.out.but HBT3.out (.inl (Nat.lt_succ_self _)) (Nat.le_of_lt HX3.out.lt)))
        | (refine wpList_load_part 77 (PtL (.slice ba bn bc) (o2)) w1.heap.size 0 rfl (.tmp 5) rfl rfl (is_range HS4.out.pt) Tryz.underlying77 rfl size_part (ptL_len _ _) ?_))
      refine (HNUM.out o2 40 _ (by decide) HS4.out.below).mono ?_
      rintro e w4 ⟨o3, m3, ho3, hm3, hm3b, rfl, hb4⟩
      have HO3 := hide ho3
      have HM3v := hide hm3
      have HM3b := hide hm3b
      have HS5 := hide (HS4.out.call hb4)
      have HX5 := hide (HX4.out.below hb4 HX4.out.lt)
      have HM5 := hide (HM4.out.call hb4 (Nat.le_of_lt HX4.out.lt))
      clear ho3 hm3 hm3b hb4 HS3 HX3 HM3 HS4 HX4 HM4 HBT3
      go_wp2_with (first
        | (refine wpList_store_any3 77 (PtL (.slice ba bn bc) (o2)) (PtL (.slice ba bn bc) (o3)) w1.heap.size rfl (.tmp 5) (.tmp 42) rfl rfl rfl rfl HS5.out.pt size_part (ptL_len _ _) (ptL_len _ _) (ptL_one _ rfl _) ?_; intro w5 hiw5 hw5; have HS6 : Hid (OfS w w1.heap.size (.slice ba bn bc) [.slice none 0 0, .slice none 0 0, .int .i64 0] (o3) [.slice va k vc, .slice none 0 0, .int .i64 0] w5) := (by rw [hw5]; exact hide (HS5.out.part (o3))); have HBT5 : Hid (But w1.heap.size _ w5) := (by rw [hw5]; exact hide (But.row _ w1.heap.size _)); clear hiw5 hw5; have HX6 := hide (HBT5.out.kept HX5.out (Nat.ne_of_gt HB8.out)); have HM6 := hide (HM5.out.but HBT5.out (.inl (Nat.lt_succ_self _)) (Nat.le_of_lt HX5.out.lt)); have hcX := HX6.out.cell 32; have hfX := HX6.out.frozen; rw [HYC.out] at hcX; have HBX6 := hide (But.cell w5 wr.heap.size 32 (.int .i64 (m3 : Int))); have HS7 := hide (HS6.out.but HBX6.out HB8.out); have HX7 := hide (HX6.out.set 32 (.int .i64 (m3 : Int))); have HM7 := hide (HM6.out.but HBX6.out (.inr (Nat.le_refl _)) (Nat.le_of_lt HX6.out.lt)))
        | (refine wpList_load_part 77 (PtL (.slice ba bn bc) (o3)) w1.heap.size 0 rfl (.tmp 5) rfl rfl (is_range HS7.out.pt) Tryz.underlying77 rfl size_part (ptL_len _ _) ?_))
      refine (HNUM.out o3 30 _ (by decide) HS7.out.below).mono ?_
      rintro e w6 ⟨o4, m4, ho4, hm4, hm4b, rfl, hb6⟩
      have HO4 := hide ho4
      have HM4v := hide hm4
      have HM4b := hide hm4b
      have HS8 := hide (HS7.out.call hb6)
      have HX8 := hide (HX7.out.below hb6 HX7.out.lt)
      have HM8 := hide (HM7.out.call hb6 (Nat.le_of_lt HX7.out.lt))
      clear ho4 hm4 hm4b hb6 HS5 HX5 HM5 HBT5 HS6 HX6 HM6 HS7 HX7 HM7 HBX6 hcX hfX
      cases o4 with
      | none =>
        go_wp2_with (first
          | (refine wpList_store_any3 77 (PtL (.slice ba bn bc) (o3)) (PtL (.slice ba bn bc) (none)) w1.heap.size rfl (.tmp 5) (.tmp 49) rfl rfl rfl rfl HS8.out.pt size_part (ptL_len _ _) (ptL_len _ _) (ptL_one _ rfl _) ?_; intro w7 hiw7 hw7; have HS9 : Hid (OfS w w1.heap.size (.slice ba bn bc) [.slice none 0 0, .slice none 0 0, .int .i64 0] (none) [.slice va k vc, .slice none 0 0, .int .i64 0] w7) := (by rw [hw7]; exact hide (HS8.out.part (none))); have HBT7 : Hid (But w1.heap.size _ w7) := (by rw [hw7]; exact hide (But.row _ w1.heap.size _)); clear hiw7 hw7; have hcP := HS9.out.pt.cell 2; rw [ptL_ok] at hcP)
          | (refine wpList_store_any3 25 [.slice none 0 0, .slice none 0 0, .int .i64 0] [.slice none 0 0, .slice none 0 0, .int .i64 0] w.heap.size rfl (.tmp 2) (.tmp 54) rfl rfl rfl rfl HS9.out.res size_tx rfl rfl (by intro v hv; simp only [List.mem_cons, List.not_mem_nil, or_false] at hv; rcases hv with rfl | rfl | rfl <;> rfl) ?_; intro w9 hi9 hw9; have hbr : But w.heap.size w7 w9 := (by rw [hw9]; exact But.row _ w.heap.size _); clear hw9))
        have hK := invK_start ((l.drop q).take 32) o2 o3 none HO2.out HO3.out HO4.out rfl
        have hiv := HIV.out
        rw [show m1 - k = (m1 - k - 1) + 1 from by omega] at hiv
        have hrd := HNO.out (invI_stop hiv hK)
        exact bodyPost_ret (v := .tuple #[.agg #[.slice none 0 0, .slice none 0 0, .int .i64 0], .bool false]) (results_cell2 Tryz.results13 rfl (hi9.cellsOfS Tryz.underlying25 (by kernel_rfl))) rfl ⟨⟨_, by rw [hrd]; rfl, fun _ => rfl, fun t ht => by rw [hrd] at ht; cases ht⟩, HS9.out.below.trans (hbr.under HS9.out.below.size (Nat.le_refl _))⟩
      | some q4 =>
        obtain ⟨x2, hx2⟩ : ∃ x, (some q).bind (Tm.bts 32 l) = some x := by
          cases hb : (some q).bind (Tm.bts 32 l) with
          | some x => exact ⟨x, rfl⟩
          | none =>
            have h2 : o2 = none := by rw [HO2.out]; unfold bO; rw [hb]; rfl
            have h3 : o3 = none := by rw [HO3.out, h2]; rfl
            have h4 := HO4.out
            rw [h3] at h4; cases h4
        have hDD : x2.1.length = 32 ∧ x2.1 = (l.drop q).take 32 := by
          have h := hx2
          rw [Option.bind_some] at h
          unfold Tm.bts at h
          by_cases e : q + 32 ≤ l.length
          · rw [if_pos e] at h; injection h with h; subst h; exact ⟨by simp only [List.length_take, List.length_drop]; omega, rfl⟩
          · rw [if_neg e] at h; cases h
        have hDh := HD2.out x2 hx2
        obtain ⟨D, hDe⟩ : ∃ D, D = x2.1 := ⟨_, rfl⟩
        rw [← hDe] at hDD hDh
        have HDL := hide hDD.1
        have HDB : Hid (Sz.Byt D) := hide (by rw [hDD.2]; exact (HBT.out.drop q).take 32)
        have HK := hide (invK_start D o2 o3 (some q4) HO2.out HO3.out HO4.out hDD.2)
        obtain ⟨gb, go, hda, hdm, hdc, hdc2, _, _⟩ := has_thirty (hDh _ (HL.out.below HS8.out.below)) hDD.1
        subst hda hdm
        have HDH := hide hDh
        have HI4 : Hid (Inn l (some q4)) := hide (by rw [HO4.out, HO3.out, HO2.out]; exact inn_n HBT.out (inn_n HBT.out (inn_b HIN.out)))
        have HDC := hide hdc
        have HDC2 := hide hdc2
        clear hDh hDD hDe hx2 HD2 hdc hdc2
        go_wp2_with (first
          | (refine wpList_store_any3 77 (PtL (.slice ba bn bc) (o3)) (PtL (.slice ba bn bc) (some q4)) w1.heap.size rfl (.tmp 5) (.tmp 49) rfl rfl rfl rfl HS8.out.pt size_part (ptL_len _ _) (ptL_len _ _) (ptL_one _ rfl _) ?_; intro w7 hiw7 hw7; have HS9 : Hid (OfS w w1.heap.size (.slice ba bn bc) [.slice none 0 0, .slice none 0 0, .int .i64 0] (some q4) [.slice va k vc, .slice none 0 0, .int .i64 0] w7) := (by rw [hw7]; exact hide (HS8.out.part (some q4))); have HBT7 : Hid (But w1.heap.size _ w7) := (by rw [hw7]; exact hide (But.row _ w1.heap.size _)); clear hiw7 hw7; have hcP := HS9.out.pt.cell 2; rw [ptL_ok] at hcP))
        obtain ⟨gb', go', hda, _, _, _, hgl, hgr⟩ := has_thirty (HDH.out _ (HL.out.below HS9.out.below)) HDL.out
        obtain ⟨rfl, rfl⟩ : gb = gb' ∧ go = go' := by injection hda with h; injection h with h1 h2; exact ⟨h1, h2⟩
        refine (rdig32_any gb go dc D _ HDL.out HDC.out HDC2.out hgr hgl).mono ?_
        rintro e w8 ⟨rfl, hb8⟩
        have HX9 := hide (HBT7.out.kept HX8.out (Nat.ne_of_gt HB8.out))
        have HM9 := hide (HM8.out.but HBT7.out (.inl (Nat.lt_succ_self _)) (Nat.le_of_lt HX8.out.lt))
        have HS10 := hide (HS9.out.call hb8)
        have HX10 : Hid (Is w8 wr.heap.size (vals (List.replicate 32 0) ++ [.int .i64 (m3 : Int), .slice none 0 0]) 54) := hide (by
          have h := HX9.out.below hb8 HX9.out.lt
          rw [HY.out, in_set32 _ _ _ _ (by simp [vals])] at h
          exact h)
        have HM10 := hide (HM9.out.call hb8 (Nat.le_of_lt HX9.out.lt))
        have HBC := hide (of_cells w8 wr.heap.size 0 (vals D))
        have HS11 := hide (HS10.out.but HBC.out HB8.out)
        have HX11 : Hid (Is (w8.setCells wr.heap.size 0 (vals D)) wr.heap.size (vals D ++ [.int .i64 (m3 : Int), .slice none 0 0]) 54) := hide (by
          have h := is_cells (vals D) 0 _ _ HX10.out (by simp [vals_length, HDL.out])
          rw [in_set0 _ _ _ _ (by simp [vals]) (by rw [vals_length]; exact HDL.out)] at h
          exact h)
        have HM11 := hide (HM10.out.but HBC.out (.inr (Nat.le_refl _)) (Nat.le_of_lt HX10.out.lt))
        have HVL : Hid ((vals D).length = 32) := hide (by rw [vals_length]; exact HDL.out)
        clear hb8 hgl hgr HS8 HX8 HM8 HS9 HX9 HM9 HBT7 HO2 HO3 HO4 hcP hda
        go_wp2_with (first
          | (refine wpList_store_part 34 (vals (List.replicate 32 0) ++ [.int .i64 (m3 : Int), .slice none 0 0]) (vals D) wr.heap.size 0 rfl (.tmp 58) (.tmp 56) rfl rfl rfl rfl HX10.out size_dig HVL.out (by simp [vals]) (vals_one _) ?_))
        obtain ⟨wo, hwo⟩ : ∃ wo, wo = wr := ⟨_, rfl⟩
        subst hwo
        go_loopw [11] (fun j wq => ∃ t : Nat, t ≤ m4 ∧ j = .int .i64 t ∧ ∃ (p : Option Nat) (KK : List (List Int × Value)) (ka : Option Addr) (kc : Nat), OfS w w1.heap.size (.slice ba bn bc) [.slice none 0 0, .slice none 0 0, .int .i64 0] p [.slice va k vc, .slice none 0 0, .int .i64 0] wq ∧ Is wq wo.heap.size (vals D ++ [.int .i64 (m3 : Int), .slice ka t kc]) 54 ∧ AccM wq (w1.heap.size + 1) wo.heap.size 54 34 k (.slice va k vc) (inCells L) (FIn w (some q) L) ∧ Acc wq (wo.heap.size + 1) 26 1 t (.slice ka t kc) (KK.map Prod.snd) (FKy w p KK) ∧ KK.length = t ∧ InvK l D m3 (KK.map Prod.fst) (m4 - t) (Tm.rIn l q) p ∧ Inn l p) (fun j _ => m4 - (intOf j).toNat)
        case atStart => exact ⟨0, by omega, rfl, some q4, [], none, 0, HS11.out, HX11.out, HM11.out, Acc.nil _ _ _ _ (fun W _ _ p hp => by cases hp), rfl, by have h := HK.out; rw [← HM3v.out, ← HM4v.out] at h; exact h, HI4.out⟩
        case round =>
          obtain ⟨t, ht, rfl, p, KK, ka, kc, hst, hbx, hmi, hac, hKk, hiv, hin⟩ := hrel
          have HSI := hide hst
          have HXI := hide hbx
          have HMI := hide hmi
          have HAI := hide hac
          have HKI := hide hKk
          have HVI := hide hiv
          have HNI := hide hin
          clear hst hbx hmi hac hKk hiv hin HS10 HX10 HM10 HS11 HX11 HM11 HBC
          cases p with
          | none =>
            have HIN2 : Hid (Tm.rIn l q = none) := hide HVI.out
            have hcA := HSI.out.pt.cell 2
            simp only [PtL, List.set_cons_zero, List.set_cons_succ, List.getElem?_cons_zero, List.getElem?_cons_succ] at hcA
            by_cases hlt2 : t < m4
            · have hti : (t : Int) < (m4 : Int) := by omega
              have hm40 := HM1b.out
              have HCL : Hid ((vals D ++ ([.int .i64 (m3 : Int), .slice ka t kc] : List Value)).length = 34) := hide (by rw [List.length_append, HVL.out]; rfl)
              have hcT := HSI.out.tx.cell 0
              simp only [PtL, List.set_cons_zero, List.set_cons_succ, List.getElem?_cons_zero, List.getElem?_cons_succ] at hcT
              go_wp2_with (first
                | (refine wpList_load_part 54 (vals D ++ [.int .i64 (m3 : Int), .slice ka t kc]) wo.heap.size 0 rfl (.tmp 8) rfl rfl (is_range HXI.out) Tryz.underlying54 rfl size_in HCL.out ?_; have HSQ := hide (HSI.out.alloc (.cells ((vals D ++ [.int .i64 (m3 : Int), .slice ka t kc]) : List Value).toArray 54)); have HAQ := hide ((HMI.out.acc (Nat.le_of_lt HXI.out.lt)).but (But.call (g := w1.heap.size) (below_alloc wr (.cells ((vals D ++ [.int .i64 (m3 : Int), .slice ka t kc]) : List Value).toArray 54))) (Nat.lt_succ_self _)))
                | (refine wpList_build_one 22 54 (vals D ++ [.int .i64 (m3 : Int), .slice ka t kc]) rfl (.tmp 87) rfl rfl Tryz.underlying22 (vals (List.replicate 32 0) ++ ([.int .i64 0, .slice none 0 0] : List Value)) info_in (by omega) (by omega) HCL.out ?_)
                | (refine wpList_append_by (AppG (wr.alloc (.cells ((vals D ++ [.int .i64 (m3 : Int), .slice ka t kc]) : List Value).toArray 54)) (w1.heap.size + 1) 54 34 k (.slice va k vc) (inCells L) (vals D ++ [.int .i64 (m3 : Int), .slice ka t kc])) rfl (.tmp 86) (.tmp 88) rfl (.slice va k vc) (.slice (some ⟨wr.heap.size, 0, none⟩) 1 1) rfl rfl (fun ty => run_app1 elemIns _ _ _ _ _ (vals D ++ [.int .i64 (m3 : Int), .slice ka t kc]) HAQ.out.own wr.heap.size 1 (is_range (Is.new wr (vals D ++ [.int .i64 (m3 : Int), .slice ka t kc]) 54)) HCL.out (in_one D m3 ka t kc) (by have := HM1b.out; omega) (Nat.succ_le_of_lt HSQ.out.pt.lt) ty) ?_; intro v2 wE h3; obtain ⟨va2, vc2, hv2⟩ := owns_form h3.1; subst hv2; have hro : ∀ b, (Value.slice va k vc).ownBlock = some b → w1.heap.size + 1 ≤ b := (fun b hb => (World.ownsRow.lt HAQ.out.own b hb).1); have HSR := hide (HSQ.out.grown h3.2.1 (fun b hb => by have := hro b hb; omega)); have hap := h3; clear h3; have hcF := HSR.out.tx.cell 0; have hfF := HSR.out.tx.frozen; simp only [PtL, List.set_cons_zero, List.set_cons_succ, List.getElem?_cons_zero, List.getElem?_cons_succ] at hcF))
              have HIM := hide ((HAI.out.itm.but (But.call (g := w1.heap.size) (below_alloc wr (.cells ((vals D ++ [.int .i64 (m3 : Int), .slice ka t kc]) : List Value).toArray 54))) (by have := HB8.out; omega)).map (G := fun W => Below w.heap.size w W → (none : Option Nat).isSome = true → HasKeys W (.slice ka t kc) KK) (fun W h hb hs => row_hasKeys (by rw [HKI.out]; exact h.1) (h.2 hb hs)))
              have HAR := hide (HAQ.out.app HIM.out (fun b hb => by have := HMI.out.lt b hb; omega) (by have := HB8.out; omega) hap.1 hap.2.1 hap.2.2)
              have HST2 := hide (HSR.out.set 0 (.slice va2 (k + 1) vc2))
              have HAS := hide (HAR.out.but (But.cell wE (w.heap.size + 1) 0 (.slice va2 (k + 1) vc2)) (by have := HB5.out; omega))
              have hiv := HIV.out
              rw [show m1 - k = (m1 - (k + 1)) + 1 from by omega] at hiv
              have HV9 : Hid (InvI l ((L ++ [InV.mk D m3 (.slice ka t kc) KK]).map InV.it) (m1 - (k + 1)) (none)) := hide (by rw [List.map_append]; exact invI_stop hiv HIN2.out)
              clear hap hiv hcF hfF hcT
              go_roundw
              case rel => exact ⟨k + 1, by omega, by go_num, none, L ++ [InV.mk D m3 (.slice ka t kc) KK], va2, vc2, HST2.out, by rw [inCells_add]; exact HAS.out.map (fun W h hb hs => fins_add (h.1 hb rfl) ⟨HDL.out, HDB.out, h.2 hb hs⟩), by rw [List.length_append, HLK.out]; rfl, HV9.out, HNI.out⟩
              case measure => simp [intOf]; omega
            · have hti : ¬ (t : Int) < (m4 : Int) := by omega
              have hm40 := HM1b.out
              have HCL : Hid ((vals D ++ ([.int .i64 (m3 : Int), .slice ka t kc] : List Value)).length = 34) := hide (by rw [List.length_append, HVL.out]; rfl)
              have hcT := HSI.out.tx.cell 0
              simp only [PtL, List.set_cons_zero, List.set_cons_succ, List.getElem?_cons_zero, List.getElem?_cons_succ] at hcT
              go_wp2_with (first
                | (refine wpList_load_part 54 (vals D ++ [.int .i64 (m3 : Int), .slice ka t kc]) wo.heap.size 0 rfl (.tmp 8) rfl rfl (is_range HXI.out) Tryz.underlying54 rfl size_in HCL.out ?_; have HSQ := hide (HSI.out.alloc (.cells ((vals D ++ [.int .i64 (m3 : Int), .slice ka t kc]) : List Value).toArray 54)); have HAQ := hide ((HMI.out.acc (Nat.le_of_lt HXI.out.lt)).but (But.call (g := w1.heap.size) (below_alloc wr (.cells ((vals D ++ [.int .i64 (m3 : Int), .slice ka t kc]) : List Value).toArray 54))) (Nat.lt_succ_self _)))
                | (refine wpList_build_one 22 54 (vals D ++ [.int .i64 (m3 : Int), .slice ka t kc]) rfl (.tmp 87) rfl rfl Tryz.underlying22 (vals (List.replicate 32 0) ++ ([.int .i64 0, .slice none 0 0] : List Value)) info_in (by omega) (by omega) HCL.out ?_)
                | (refine wpList_append_by (AppG (wr.alloc (.cells ((vals D ++ [.int .i64 (m3 : Int), .slice ka t kc]) : List Value).toArray 54)) (w1.heap.size + 1) 54 34 k (.slice va k vc) (inCells L) (vals D ++ [.int .i64 (m3 : Int), .slice ka t kc])) rfl (.tmp 86) (.tmp 88) rfl (.slice va k vc) (.slice (some ⟨wr.heap.size, 0, none⟩) 1 1) rfl rfl (fun ty => run_app1 elemIns _ _ _ _ _ (vals D ++ [.int .i64 (m3 : Int), .slice ka t kc]) HAQ.out.own wr.heap.size 1 (is_range (Is.new wr (vals D ++ [.int .i64 (m3 : Int), .slice ka t kc]) 54)) HCL.out (in_one D m3 ka t kc) (by have := HM1b.out; omega) (Nat.succ_le_of_lt HSQ.out.pt.lt) ty) ?_; intro v2 wE h3; obtain ⟨va2, vc2, hv2⟩ := owns_form h3.1; subst hv2; have hro : ∀ b, (Value.slice va k vc).ownBlock = some b → w1.heap.size + 1 ≤ b := (fun b hb => (World.ownsRow.lt HAQ.out.own b hb).1); have HSR := hide (HSQ.out.grown h3.2.1 (fun b hb => by have := hro b hb; omega)); have hap := h3; clear h3; have hcF := HSR.out.tx.cell 0; have hfF := HSR.out.tx.frozen; simp only [PtL, List.set_cons_zero, List.set_cons_succ, List.getElem?_cons_zero, List.getElem?_cons_succ] at hcF))
              have HIM := hide ((HAI.out.itm.but (But.call (g := w1.heap.size) (below_alloc wr (.cells ((vals D ++ [.int .i64 (m3 : Int), .slice ka t kc]) : List Value).toArray 54))) (by have := HB8.out; omega)).map (G := fun W => Below w.heap.size w W → (none : Option Nat).isSome = true → HasKeys W (.slice ka t kc) KK) (fun W h hb hs => row_hasKeys (by rw [HKI.out]; exact h.1) (h.2 hb hs)))
              have HAR := hide (HAQ.out.app HIM.out (fun b hb => by have := HMI.out.lt b hb; omega) (by have := HB8.out; omega) hap.1 hap.2.1 hap.2.2)
              have HST2 := hide (HSR.out.set 0 (.slice va2 (k + 1) vc2))
              have HAS := hide (HAR.out.but (But.cell wE (w.heap.size + 1) 0 (.slice va2 (k + 1) vc2)) (by have := HB5.out; omega))
              have hiv := HIV.out
              rw [show m1 - k = (m1 - (k + 1)) + 1 from by omega] at hiv
              have HV9 : Hid (InvI l ((L ++ [InV.mk D m3 (.slice ka t kc) KK]).map InV.it) (m1 - (k + 1)) (none)) := hide (by rw [List.map_append]; exact invI_stop hiv HIN2.out)
              clear hap hiv hcF hfF hcT
              go_roundw
              case rel => exact ⟨k + 1, by omega, by go_num, none, L ++ [InV.mk D m3 (.slice ka t kc) KK], va2, vc2, HST2.out, by rw [inCells_add]; exact HAS.out.map (fun W h hb hs => fins_add (h.1 hb rfl) ⟨HDL.out, HDB.out, h.2 hb hs⟩), by rw [List.length_append, HLK.out]; rfl, HV9.out, HNI.out⟩
              case measure => simp [intOf]; omega
          | some p =>
          by_cases hlt2 : t < m4
          · have hti : (t : Int) < (m4 : Int) := by omega
            have hcA := HSI.out.pt.cell 2
            simp only [PtL, List.getElem?_cons_zero, List.getElem?_cons_succ] at hcA
            go_wp2_with (first
              | (refine wpList_load_part 77 (PtL (.slice ba bn bc) (some p)) w1.heap.size 0 rfl (.tmp 5) rfl rfl (is_range HSI.out.pt) Tryz.underlying77 rfl size_part (ptL_len _ _) ?_))
            refine (HNUM.out (some p) 3000 _ (by decide) HSI.out.below).mono ?_
            rintro e wA ⟨o5, m5, ho5, hm5, hm5b, rfl, hbA⟩
            have HO5 := hide ho5
            have HM5v := hide hm5
            have HSJ := hide (HSI.out.call hbA)
            have HXJ := hide (HXI.out.below hbA HXI.out.lt)
            have HMJ := hide (HMI.out.call hbA (Nat.le_of_lt HXI.out.lt))
            have HAJ := hide (HAI.out.but (But.call (g := w1.heap.size) hbA) (by have := HB8.out; omega))
            have HN5 : Hid (Inn l o5) := hide (by rw [ho5]; exact inn_n HBT.out HNI.out)
            clear ho5 hm5 hbA HSI HXI HMI HAI hcA
            go_wp2_with (first
              | (refine wpList_store_any3 77 (PtL (.slice ba bn bc) (some p)) (PtL (.slice ba bn bc) (o5)) w1.heap.size rfl (.tmp 5) (.tmp 71) rfl rfl rfl rfl HSJ.out.pt size_part (ptL_len _ _) (ptL_len _ _) (ptL_one _ rfl _) ?_; intro wB hiwB hwB; have HSK : Hid (OfS w w1.heap.size (.slice ba bn bc) [.slice none 0 0, .slice none 0 0, .int .i64 0] (o5) [.slice va k vc, .slice none 0 0, .int .i64 0] wB) := (by rw [hwB]; exact hide (HSJ.out.part (o5))); have HBTB : Hid (But w1.heap.size _ wB) := (by rw [hwB]; exact hide (But.row _ w1.heap.size _)); clear hiwB hwB; have HXK := hide (HBTB.out.kept HXJ.out (Nat.ne_of_gt HB8.out)); have HMK := hide (HMJ.out.but HBTB.out (.inl (Nat.lt_succ_self _)) (Nat.le_of_lt HXJ.out.lt)); have HAK := hide (HAJ.out.but HBTB.out (by have := HB8.out; omega)))
              | (refine wpList_load_part 77 (PtL (.slice ba bn bc) (o5)) w1.heap.size 0 rfl (.tmp 5) rfl rfl (is_range HSK.out.pt) Tryz.underlying77 rfl size_part (ptL_len _ _) ?_))
            refine (HBYT.out o5 m5 _ HN5.out HSK.out.below).mono ?_
            rintro e wC ⟨o6, ea, em, ec, ho6, rfl, hE, hbC⟩
            have HO6 := hide ho6
            have HE := hide hE
            have HSL := hide (HSK.out.call hbC)
            have HXL := hide (HXK.out.below hbC HXK.out.lt)
            have HML := hide (HMK.out.call hbC (Nat.le_of_lt HXK.out.lt))
            have HAL := hide (HAK.out.but (But.call (g := w1.heap.size) hbC) (by have := HB8.out; omega))
            have hm30 := HM4b.out
            clear ho6 hE hbC HSJ HXJ HMJ HAJ HSK HXK HMK HAK HBTB
            go_wp2_with (first
              | (refine wpList_store_any3 77 (PtL (.slice ba bn bc) (o5)) (PtL (.slice ba bn bc) (o6)) w1.heap.size rfl (.tmp 5) (.tmp 77) rfl rfl rfl rfl HSL.out.pt size_part (ptL_len _ _) (ptL_len _ _) (ptL_one _ rfl _) ?_; intro wD hiwD hwD; have HSM : Hid (OfS w w1.heap.size (.slice ba bn bc) [.slice none 0 0, .slice none 0 0, .int .i64 0] (o6) [.slice va k vc, .slice none 0 0, .int .i64 0] wD) := (by rw [hwD]; exact hide (HSL.out.part (o6))); have HBTD : Hid (But w1.heap.size _ wD) := (by rw [hwD]; exact hide (But.row _ w1.heap.size _)); clear hiwD hwD; have HXM := hide (HBTD.out.kept HXL.out (Nat.ne_of_gt HB8.out)); have HMM := hide (HML.out.but HBTD.out (.inl (Nat.lt_succ_self _)) (Nat.le_of_lt HXL.out.lt)); have HAM := hide (HAL.out.but HBTD.out (by have := HB8.out; omega)); have hcK := HXM.out.cell 33; rw [in_get33 _ _ _ HVL.out] at hcK; have HSN := hide (HSM.out.alloc (.cells #[.slice ea em ec] 26)); have HXN := hide (HXM.out.alloc (.cells #[.slice ea em ec] 26)); have HMN := hide (HMM.out.call (below_alloc wD (.cells #[.slice ea em ec] 26)) (Nat.le_of_lt HXM.out.lt)); have HAN := hide (HAM.out.but (But.call (g := w1.heap.size) (below_alloc wD (.cells #[.slice ea em ec] 26))) (by have := HB8.out; omega)))
              | (refine wpList_append_by (AppG (wD.alloc (.cells #[.slice ea em ec] 26)) (wo.heap.size + 1) 26 1 t (.slice ka t kc) (KK.map Prod.snd) [.slice ea em ec]) rfl (.tmp 80) (.tmp 82) rfl (.slice ka t kc) (.slice (some ⟨wD.heap.size, 0, none⟩) 1 1) rfl rfl (fun ty => run_app1 elemKeys _ _ _ _ _ [.slice ea em ec] HAN.out.own wD.heap.size 1 (is_range (Is.new wD [.slice ea em ec] 26)) rfl (by intro u hu; simp only [List.mem_cons, List.not_mem_nil, or_false] at hu; subst hu; rfl) (by have := HM4b.out; omega) (Nat.succ_le_of_lt HXN.out.lt) ty) ?_; intro v2 wE h3; obtain ⟨va2, vc2, hv2⟩ := owns_form h3.1; subst hv2; have hro : ∀ b, (Value.slice ka t kc).ownBlock = some b → wo.heap.size + 1 ≤ b := (fun b hb => (World.ownsRow.lt HAN.out.own b hb).1); have HSO := hide (HSN.out.grown h3.2.1 (fun b hb => by have := hro b hb; have := HB8.out; omega)); have HXO := hide (HXN.out.grown h3.2.1 (fun e => by have := hro _ e; omega)); have HMO := hide (HMN.out.grown h3.2.1 (fun b hb => by have := hro b hb; omega) (Nat.succ_pos _) (Nat.le_of_lt HXN.out.lt)); have hap := h3; clear h3; have hcF := HXO.out.cell 33; have hfF := HXO.out.frozen; rw [in_get33 _ _ _ HVL.out] at hcF))
            have hKA : Hid (∀ W, Below w.heap.size w W → o6.isSome = true → Has W (.slice ea em ec) (((o5.bind (Tm.bts m5 l)).map Prod.fst).getD []) ∧ Sz.Byt (((o5.bind (Tm.bts m5 l)).map Prod.fst).getD [])) := hide (fun W hW hs => by
              cases e2 : o5.bind (Tm.bts m5 l) with
              | none => rw [HO6.out] at hs; unfold bO at hs; rw [e2] at hs; cases hs
              | some x =>
                refine ⟨HE.out x e2 W (HL.out.below hW), ?_⟩
                cases o5 with
                | none => cases e2
                | some p5 =>
                  rw [Option.bind_some] at e2
                  unfold Tm.bts at e2
                  by_cases e : p5 + m5 ≤ l.length
                  · rw [if_pos e] at e2; injection e2 with e2; subst e2; exact (HBT.out.drop p5).take m5
                  · rw [if_neg e] at e2; cases e2)
            have HAO := hide (HAN.out.app (lo := (wD.alloc (.cells #[.slice ea em ec] 26)).heap.size) (G := fun W => Below w.heap.size w W → o6.isSome = true → Has W (.slice ea em ec) (((o5.bind (Tm.bts m5 l)).map Prod.fst).getD []) ∧ Sz.Byt (((o5.bind (Tm.bts m5 l)).map Prod.fst).getD [])) ⟨fun _ => False, fun k hk => hk.elim, fun W' _ _ => hKA.out W'⟩ (fun b hb => (World.ownsRow.lt HAN.out.own b hb).2) (Nat.succ_le_of_lt HXN.out.lt) hap.1 hap.2.1 hap.2.2)
            have HBK := hide (But.cell wE wo.heap.size 33 (.slice va2 (t + 1) vc2))
            have HSP := hide (HSO.out.but HBK.out HB8.out)
            have HXP := hide (HXO.out.set 33 (.slice va2 (t + 1) vc2))
            have HMP := hide (HMO.out.but HBK.out (.inr (Nat.le_refl _)) (Nat.le_of_lt HXO.out.lt))
            have HAP := hide (HAO.out.but HBK.out (Nat.lt_succ_self _))
            have HV2 := HVI.out
            rw [show m4 - t = (m4 - (t + 1)) + 1 from by omega] at HV2
            have HV3 := hide (invK_step HV2 HO5.out HM5v.out HO6.out)
            have HN6 : Hid (Inn l o6) := hide (by rw [HO6.out]; exact inn_b HN5.out)
            clear hap HV2 hcK
            go_roundw
            case rel => exact ⟨t + 1, by omega, by go_num, o6, KK ++ [(((o5.bind (Tm.bts m5 l)).map Prod.fst).getD [], .slice ea em ec)], va2, vc2, HSP.out, by have := HXP.out; rw [in_set33 _ _ _ _ HVL.out] at this; exact this, HMP.out, by rw [List.map_append]; exact HAP.out.map (fun W h => fky_add (fun h6 => rfl) h.1 h.2), by rw [List.length_append, HKI.out]; rfl, by rw [List.map_append]; exact HV3.out, HN6.out⟩
            case measure => simp [intOf]; omega
          · have hke : t = m4 := by omega
            subst hke
            have hti : ¬ (t : Int) < (t : Int) := by omega
            have hcA := HSI.out.pt.cell 2
            simp only [PtL, List.getElem?_cons_zero, List.getElem?_cons_succ] at hcA
            have hz0 := HVI.out
            rw [Nat.sub_self] at hz0
            have HIN2 := hide (invK_end hz0)
            have hm40 := HM1b.out
            have HCL : Hid ((vals D ++ ([.int .i64 (m3 : Int), .slice ka t kc] : List Value)).length = 34) := hide (by rw [List.length_append, HVL.out]; rfl)
            have hcT := HSI.out.tx.cell 0
            simp only [PtL, List.set_cons_zero, List.set_cons_succ, List.getElem?_cons_zero, List.getElem?_cons_succ] at hcT
            go_wp2_with (first
              | (refine wpList_load_part 54 (vals D ++ [.int .i64 (m3 : Int), .slice ka t kc]) wo.heap.size 0 rfl (.tmp 8) rfl rfl (is_range HXI.out) Tryz.underlying54 rfl size_in HCL.out ?_; have HSQ := hide (HSI.out.alloc (.cells ((vals D ++ [.int .i64 (m3 : Int), .slice ka t kc]) : List Value).toArray 54)); have HAQ := hide ((HMI.out.acc (Nat.le_of_lt HXI.out.lt)).but (But.call (g := w1.heap.size) (below_alloc wr (.cells ((vals D ++ [.int .i64 (m3 : Int), .slice ka t kc]) : List Value).toArray 54))) (Nat.lt_succ_self _)))
              | (refine wpList_build_one 22 54 (vals D ++ [.int .i64 (m3 : Int), .slice ka t kc]) rfl (.tmp 87) rfl rfl Tryz.underlying22 (vals (List.replicate 32 0) ++ ([.int .i64 0, .slice none 0 0] : List Value)) info_in (by omega) (by omega) HCL.out ?_)
              | (refine wpList_append_by (AppG (wr.alloc (.cells ((vals D ++ [.int .i64 (m3 : Int), .slice ka t kc]) : List Value).toArray 54)) (w1.heap.size + 1) 54 34 k (.slice va k vc) (inCells L) (vals D ++ [.int .i64 (m3 : Int), .slice ka t kc])) rfl (.tmp 86) (.tmp 88) rfl (.slice va k vc) (.slice (some ⟨wr.heap.size, 0, none⟩) 1 1) rfl rfl (fun ty => run_app1 elemIns _ _ _ _ _ (vals D ++ [.int .i64 (m3 : Int), .slice ka t kc]) HAQ.out.own wr.heap.size 1 (is_range (Is.new wr (vals D ++ [.int .i64 (m3 : Int), .slice ka t kc]) 54)) HCL.out (in_one D m3 ka t kc) (by have := HM1b.out; omega) (Nat.succ_le_of_lt HSQ.out.pt.lt) ty) ?_; intro v2 wE h3; obtain ⟨va2, vc2, hv2⟩ := owns_form h3.1; subst hv2; have hro : ∀ b, (Value.slice va k vc).ownBlock = some b → w1.heap.size + 1 ≤ b := (fun b hb => (World.ownsRow.lt HAQ.out.own b hb).1); have HSR := hide (HSQ.out.grown h3.2.1 (fun b hb => by have := hro b hb; omega)); have hap := h3; clear h3; have hcF := HSR.out.tx.cell 0; have hfF := HSR.out.tx.frozen; simp only [PtL, List.set_cons_zero, List.set_cons_succ, List.getElem?_cons_zero, List.getElem?_cons_succ] at hcF))
            have HIM := hide ((HAI.out.itm.but (But.call (g := w1.heap.size) (below_alloc wr (.cells ((vals D ++ [.int .i64 (m3 : Int), .slice ka t kc]) : List Value).toArray 54))) (by have := HB8.out; omega)).map (G := fun W => Below w.heap.size w W → (some p : Option Nat).isSome = true → HasKeys W (.slice ka t kc) KK) (fun W h hb hs => row_hasKeys (by rw [HKI.out]; exact h.1) (h.2 hb hs)))
            have HAR := hide (HAQ.out.app HIM.out (fun b hb => by have := HMI.out.lt b hb; omega) (by have := HB8.out; omega) hap.1 hap.2.1 hap.2.2)
            have HST2 := hide (HSR.out.set 0 (.slice va2 (k + 1) vc2))
            have HAS := hide (HAR.out.but (But.cell wE (w.heap.size + 1) 0 (.slice va2 (k + 1) vc2)) (by have := HB5.out; omega))
            have hiv := HIV.out
            rw [show m1 - k = (m1 - (k + 1)) + 1 from by omega] at hiv
            have HV9 : Hid (InvI l ((L ++ [InV.mk D m3 (.slice ka t kc) KK]).map InV.it) (m1 - (k + 1)) (some p)) := hide (by rw [List.map_append]; exact invI_next hiv HIN2.out)
            clear hap hiv hcF hfF hcT
            go_roundw
            case rel => exact ⟨k + 1, by omega, by go_num, some p, L ++ [InV.mk D m3 (.slice ka t kc) KK], va2, vc2, HST2.out, by rw [inCells_add]; exact HAS.out.map (fun W h hb hs => fins_add (h.1 hb rfl) ⟨HDL.out, HDB.out, h.2 hb hs⟩), by rw [List.length_append, HLK.out]; rfl, HV9.out, HNI.out⟩
            case measure => simp [intOf]; omega
    · have hke : k = m1 := by omega
      subst hke
      have hki : ¬ (k : Int) < (k : Int) := by omega
      go_wp2_with (first
        | (refine wpList_load_part 77 (PtL (.slice ba bn bc) (some q)) w1.heap.size 0 rfl (.tmp 5) rfl rfl (is_range HST.out.pt) Tryz.underlying77 rfl size_part (ptL_len _ _) ?_))
      refine (HNUM.out (some q) 40 _ (by decide) HST.out.below).mono ?_
      rintro e w2 ⟨o2, n2, ho2, hn2, hn2b, rfl, hb2⟩
      have HO2 := hide ho2
      have HN2v := hide hn2
      have HN2b := hide hn2b
      have HSa := hide (HST.out.call hb2)
      have HACa := hide (HAC.out.but (But.call (g := w1.heap.size) hb2) (Nat.lt_succ_self _))
      have HNN : Hid (Inn l o2) := hide (by rw [ho2]; exact inn_n HBT.out HIN.out)
      clear ho2 hn2 hn2b hb2 HAC
      go_wp2_with (first
        | (refine wpList_store_any3 77 (PtL (.slice ba bn bc) (some q)) (PtL (.slice ba bn bc) (o2)) w1.heap.size rfl (.tmp 5) (.tmp 94) rfl rfl rfl rfl HSa.out.pt size_part (ptL_len _ _) (ptL_len _ _) (ptL_one _ rfl _) ?_; intro w3 hiw3 hw3; have HSb := hide (HSa.out.store (o2) hw3); have HBT3 : Hid (But w1.heap.size _ w3) := (by rw [hw3]; exact hide (But.row _ w1.heap.size _)); clear hiw3 hw3; have HACb := hide (HACa.out.but HBT3.out (Nat.lt_succ_self _))))
      obtain ⟨B, hB⟩ : ∃ B, B = w3.heap.size := ⟨_, rfl⟩
      have HMI0 : Hid (Mid (w1.heap.size + 1) B w3 (fun W => Below w.heap.size w W → HasIns W (.slice va k vc) L)) := hide (by rw [hB]; exact (HACb.out.itm.map (fun W h hb => row_hasIns (by rw [HLK.out]; exact h.1) (h.2 hb rfl))).mid)
      have HBle : Hid (B ≤ w3.heap.size) := hide (Nat.le_of_eq hB)
      have HBlt : Hid (w1.heap.size < B) := hide (by rw [hB]; exact HSb.out.pt.lt)
      have HVO0 : Hid (InvO l (L.map InV.it) [] n2 o2) := hide (by
        have h := HIV.out
        rw [Nat.sub_self] at h
        have h2 := invI_end h
        rw [← HO2.out, ← HN2v.out] at h2
        exact h2)
      obtain ⟨ki, hki2⟩ : ∃ n, n = k := ⟨_, rfl⟩
      obtain ⟨ia, hia⟩ : ∃ a, a = va := ⟨_, rfl⟩
      obtain ⟨ic, hic⟩ : ∃ c, c = vc := ⟨_, rfl⟩
      rw [← hki2, ← hia, ← hic] at HMI0 HSb
      clear hB hki2 hia hic HST HSa HACa HACb HBT3 hki
      go_wp2_with fail
      go_loopw [13] (fun i wr => ∃ k2 : Nat, k2 ≤ n2 ∧ i = .int .i64 k2 ∧ ∃ (o : Option Nat) (L2 : List OutV) (vb : Option Addr) (vd : Nat), OfS w w1.heap.size (.slice ba bn bc) [.slice none 0 0, .slice none 0 0, .int .i64 0] o [.slice ia ki ic, .slice vb k2 vd, .int .i64 0] wr ∧ Acc wr B 57 2 k2 (.slice vb k2 vd) (outCells L2) (FOut w o L2) ∧ L2.length = k2 ∧ InvO l (L.map InV.it) (L2.map OutV.it) (n2 - k2) o ∧ Inn l o ∧ Mid (w1.heap.size + 1) B wr (fun W => Below w.heap.size w W → HasIns W (.slice ia ki ic) L) ∧ B ≤ wr.heap.size) (fun i _ => n2 - (intOf i).toNat)
      case atStart => exact ⟨0, by omega, rfl, o2, [], none, 0, HSb.out, Acc.nil _ _ _ _ (fun W _ _ p hp => by cases hp), rfl, HVO0.out, HNN.out, HMI0.out, HBle.out⟩
      case round =>
        obtain ⟨k2, hk2, rfl, o, L2, vb, vd, hst, hac, hLk, hiv, hin, hmi, hble⟩ := hrel
        have HST := hide hst
        have HAC := hide hac
        have HL2 := hide hLk
        have HVO := hide hiv
        have HNO2 := hide hin
        have HMI := hide hmi
        have HBW := hide hble
        clear hst hac hLk hiv hin hmi hble HSb HMI0 HBle
        cases o with
        | none =>
          have HPR : Hid (Tm.rPay l = none) := hide HVO.out
          have hcA := HST.out.pt.cell 2
          simp only [PtL, List.set_cons_zero, List.set_cons_succ, List.getElem?_cons_zero, List.getElem?_cons_succ] at hcA
          by_cases hlt : k2 < n2
          · have hki : (k2 : Int) < (n2 : Int) := by omega
            go_wp2_with (first
              | (refine wpList_load_part 77 (PtL (.slice ba bn bc) (none)) w1.heap.size 0 rfl (.tmp 5) rfl rfl (is_range HST.out.pt) Tryz.underlying77 rfl size_part (ptL_len _ _) ?_))
            refine (HNUM0.out 1073741824 _ (by decide) HST.out.below).mono ?_
            rintro e w4 ⟨rfl, hb4⟩
            have HS4 := hide (HST.out.call hb4)
            clear hb4
            go_wp2_with (first
              | (refine wpList_store_any3 77 (PtL (.slice ba bn bc) (none)) (PtL (.slice ba bn bc) (none)) w1.heap.size rfl (.tmp 5) (.tmp 164) rfl rfl rfl rfl HS4.out.pt size_part (ptL_len _ _) (ptL_len _ _) (ptL_one _ rfl _) ?_; intro w5 hiw5 hw5; have HS5 := hide (HS4.out.store (none) hw5); have HBT5 : Hid (But w1.heap.size _ w5) := (by rw [hw5]; exact hide (But.row _ w1.heap.size _)); clear hiw5 hw5; have hcT := HS5.out.tx.cell 2; have hfT := HS5.out.tx.frozen; simp only [PtL, List.set_cons_zero, List.set_cons_succ, List.getElem?_cons_zero, List.getElem?_cons_succ] at hcT; have HS6 := hide (HS5.out.set 2 (.int .i64 0)); have hcP := HS6.out.pt.cell 2; simp only [PtL, List.set_cons_zero, List.set_cons_succ, List.getElem?_cons_zero, List.getElem?_cons_succ] at hcP)
              | (refine wpList_store_any3 25 [.slice none 0 0, .slice none 0 0, .int .i64 0] [.slice none 0 0, .slice none 0 0, .int .i64 0] w.heap.size rfl (.tmp 2) (.tmp 182) rfl rfl rfl rfl HS6.out.res size_tx rfl rfl (by intro v hv; simp only [List.mem_cons, List.not_mem_nil, or_false] at hv; rcases hv with rfl | rfl | rfl <;> rfl) ?_; intro w9 hi9 hw9; have hbr : But w.heap.size _ w9 := (by rw [hw9]; exact But.row _ w.heap.size _); clear hw9))
            have hrd := HNO.out HPR.out
            exact bodyPost_ret (v := .tuple #[.agg #[.slice none 0 0, .slice none 0 0, .int .i64 0], .bool false]) (results_cell2 Tryz.results13 rfl (hi9.cellsOfS Tryz.underlying25 (by kernel_rfl))) rfl ⟨⟨_, by rw [hrd]; rfl, fun _ => rfl, fun t ht => by rw [hrd] at ht; cases ht⟩, HS6.out.below.trans (hbr.under HS6.out.below.size (Nat.le_refl _))⟩
          · have hki : ¬ (k2 : Int) < (n2 : Int) := by omega
            go_wp2_with (first
              | (refine wpList_load_part 77 (PtL (.slice ba bn bc) (none)) w1.heap.size 0 rfl (.tmp 5) rfl rfl (is_range HST.out.pt) Tryz.underlying77 rfl size_part (ptL_len _ _) ?_))
            refine (HNUM0.out 1073741824 _ (by decide) HST.out.below).mono ?_
            rintro e w4 ⟨rfl, hb4⟩
            have HS4 := hide (HST.out.call hb4)
            clear hb4
            go_wp2_with (first
              | (refine wpList_store_any3 77 (PtL (.slice ba bn bc) (none)) (PtL (.slice ba bn bc) (none)) w1.heap.size rfl (.tmp 5) (.tmp 164) rfl rfl rfl rfl HS4.out.pt size_part (ptL_len _ _) (ptL_len _ _) (ptL_one _ rfl _) ?_; intro w5 hiw5 hw5; have HS5 := hide (HS4.out.store (none) hw5); have HBT5 : Hid (But w1.heap.size _ w5) := (by rw [hw5]; exact hide (But.row _ w1.heap.size _)); clear hiw5 hw5; have hcT := HS5.out.tx.cell 2; have hfT := HS5.out.tx.frozen; simp only [PtL, List.set_cons_zero, List.set_cons_succ, List.getElem?_cons_zero, List.getElem?_cons_succ] at hcT; have HS6 := hide (HS5.out.set 2 (.int .i64 0)); have hcP := HS6.out.pt.cell 2; simp only [PtL, List.set_cons_zero, List.set_cons_succ, List.getElem?_cons_zero, List.getElem?_cons_succ] at hcP)
              | (refine wpList_store_any3 25 [.slice none 0 0, .slice none 0 0, .int .i64 0] [.slice none 0 0, .slice none 0 0, .int .i64 0] w.heap.size rfl (.tmp 2) (.tmp 182) rfl rfl rfl rfl HS6.out.res size_tx rfl rfl (by intro v hv; simp only [List.mem_cons, List.not_mem_nil, or_false] at hv; rcases hv with rfl | rfl | rfl <;> rfl) ?_; intro w9 hi9 hw9; have hbr : But w.heap.size _ w9 := (by rw [hw9]; exact But.row _ w.heap.size _); clear hw9))
            have hrd := HNO.out HPR.out
            exact bodyPost_ret (v := .tuple #[.agg #[.slice none 0 0, .slice none 0 0, .int .i64 0], .bool false]) (results_cell2 Tryz.results13 rfl (hi9.cellsOfS Tryz.underlying25 (by kernel_rfl))) rfl ⟨⟨_, by rw [hrd]; rfl, fun _ => rfl, fun t ht => by rw [hrd] at ht; cases ht⟩, HS6.out.below.trans (hbr.under HS6.out.below.size (Nat.le_refl _))⟩
        | some q2 =>
          by_cases hlt : k2 < n2
          · have hki : (k2 : Int) < (n2 : Int) := by omega
            have hcA := HST.out.pt.cell 2
            simp only [PtL, List.set_cons_zero, List.set_cons_succ, List.getElem?_cons_zero, List.getElem?_cons_succ] at hcA
            have HU2 : Hid (OuS w w1.heap.size B wr.heap.size (.slice ba bn bc) [.slice none 0 0, .slice none 0 0, .int .i64 0] [.slice ia ki ic, .slice vb k2 vd, .int .i64 0] k2 (.slice vb k2 vd) (outCells L2) (FOut w (some q2) L2) (fun W => Below w.heap.size w W → HasIns W (.slice ia ki ic) L) (some q2) [.int .i64 0, .slice none 0 0] (wr.alloc (.cells #[.int .i64 0, .slice none 0 0] 57))) := hide ⟨HST.out.alloc (.cells #[.int .i64 0, .slice none 0 0] 57), Is.new wr [.int .i64 0, .slice none 0 0] 57, HAC.out.mid.call (below_alloc wr (.cells #[.int .i64 0, .slice none 0 0] 57)) (Nat.le_refl _), mid_call HMI.out (below_alloc wr (.cells #[.int .i64 0, .slice none 0 0] 57)) HBW.out, HBlt.out, HBW.out⟩
            clear HST HAC HMI
            go_wp2_with (first
              | (refine wpList_load_part 77 (PtL (.slice ba bn bc) (some q2)) w1.heap.size 0 rfl (.tmp 5) rfl rfl (is_range HU2.out.of.pt) Tryz.underlying77 rfl size_part (ptL_len _ _) ?_))
            refine (HNUM.out (some q2) 1125899906842624 _ (by decide) HU2.out.of.below).mono ?_
            rintro e w5 ⟨o3, m3, ho3, hm3, hm3b, rfl, hb5⟩
            have HO3 := hide ho3
            have HM3v := hide hm3
            have HM3b := hide hm3b
            have HU3 := hide (HU2.out.call hb5)
            have HN3 : Hid (Inn l o3) := hide (by rw [ho3]; exact inn_n HBT.out HNO2.out)
            clear ho3 hm3 hm3b hb5 HU2 hcA
            go_wp2_with (first
              | (refine wpList_store_any3 77 (PtL (.slice ba bn bc) (some q2)) (PtL (.slice ba bn bc) (o3)) w1.heap.size rfl (.tmp 5) (.tmp 108) rfl rfl rfl rfl HU3.out.of.pt size_part (ptL_len _ _) (ptL_len _ _) (ptL_one _ rfl _) ?_; intro w6 hiw6 hw6; have HU4 := hide (HU3.out.store (o3) hw6); have HBT6 : Hid (But w1.heap.size _ w6) := (by rw [hw6]; exact hide (But.row _ w1.heap.size _)); clear hiw6 hw6; have hcX := HU4.out.box.cell 0; have hfX := HU4.out.box.frozen; simp only [PtL, List.set_cons_zero, List.set_cons_succ, List.getElem?_cons_zero, List.getElem?_cons_succ] at hcX; have HU5 := hide (HU4.out.set 0 (.int .i64 (m3 : Int))))
              | (refine wpList_load_part 77 (PtL (.slice ba bn bc) (o3)) w1.heap.size 0 rfl (.tmp 5) rfl rfl (is_range HU5.out.of.pt) Tryz.underlying77 rfl size_part (ptL_len _ _) ?_))
            refine (HNUM.out o3 60 _ (by decide) HU5.out.of.below).mono ?_
            rintro e w7 ⟨o4, m4, ho4, hm4, hm4b, rfl, hb7⟩
            have HO4 := hide ho4
            have HM4v := hide hm4
            have HM4b := hide hm4b
            have HU6 := hide (HU5.out.call hb7)
            have HN4 : Hid (Inn l o4) := hide (by rw [ho4]; exact inn_n HBT.out HN3.out)
            clear ho4 hm4 hm4b hb7 HU3 HU4 HU5 HBT6 hcX hfX
            go_wp2_with (first
              | (refine wpList_store_any3 77 (PtL (.slice ba bn bc) (o3)) (PtL (.slice ba bn bc) (o4)) w1.heap.size rfl (.tmp 5) (.tmp 114) rfl rfl rfl rfl HU6.out.of.pt size_part (ptL_len _ _) (ptL_len _ _) (ptL_one _ rfl _) ?_; intro w8 hiw8 hw8; have HU7 := hide (HU6.out.store (o4) hw8); have HBT8 : Hid (But w1.heap.size _ w8) := (by rw [hw8]; exact hide (But.row _ w1.heap.size _)); clear hiw8 hw8))
            have HVP : Hid (InvP l (m3 : Int) [] m4 (Tm.rOut l q2) o4) := hide (by
              have h := invP_start (l := l) (q := q2) o3 o4 HO3.out HO4.out
              rw [← HM3v.out, ← HM4v.out] at h
              exact h)
            obtain ⟨wo, hwo⟩ : ∃ wo, wo = wr := ⟨_, rfl⟩
            rw [← hwo] at HU7 HBW
            have HACN := hide (Acc.nil w8 (wo.heap.size + 1) 65 3 (F := FOp w o4 []) (fun W _ _ p hp => by cases hp))
            have HBO : Hid (wo.heap.size < w8.heap.size) := hide HU7.out.box.lt
            subst hwo
            clear HU6 HBT8
            go_loopw [16] (fun j wq => ∃ t : Nat, t ≤ m4 ∧ j = .int .i64 t ∧ ∃ (p : Option Nat) (LL : List (Lk.Op × Value)) (ka : Option Addr) (kc : Nat), OuS w w1.heap.size B wo.heap.size (.slice ba bn bc) [.slice none 0 0, .slice none 0 0, .int .i64 0] [.slice ia ki ic, .slice vb k2 vd, .int .i64 0] k2 (.slice vb k2 vd) (outCells L2) (FOut w (some q2) L2) (fun W => Below w.heap.size w W → HasIns W (.slice ia ki ic) L) p [.int .i64 (m3 : Int), .slice ka t kc] wq ∧ Acc wq (wo.heap.size + 1) 65 3 t (.slice ka t kc) (opCells LL) (FOp w p LL) ∧ LL.length = t ∧ InvP l (m3 : Int) (opsOf LL) (m4 - t) (Tm.rOut l q2) p ∧ Inn l p) (fun j _ => m4 - (intOf j).toNat)
            case atStart => exact ⟨0, by omega, rfl, o4, [], none, 0, HU7.out, HACN.out, rfl, HVP.out, HN4.out⟩
            case round =>
              obtain ⟨t, ht, rfl, p, LL, ka, kc, hou, hac, hLl, hiv, hin⟩ := hrel
              have HUI := hide hou
              have HAI := hide hac
              have HLI := hide hLl
              have HVI := hide hiv
              have HNI := hide hin
              clear hou hac hLl hiv hin HU7 HACN HBO
              cases p with
              | none =>
                have HOU2 : Hid (Tm.rOut l q2 = none) := hide HVI.out
                have hcA := HUI.out.of.pt.cell 2
                simp only [PtL, List.set_cons_zero, List.set_cons_succ, List.getElem?_cons_zero, List.getElem?_cons_succ] at hcA
                by_cases hlt2 : t < m4
                · have hti : (t : Int) < (m4 : Int) := by omega
                  have hn40 := HN2b.out
                  have hcT := HUI.out.of.tx.cell 1
                  simp only [PtL, List.set_cons_zero, List.set_cons_succ, List.getElem?_cons_zero, List.getElem?_cons_succ] at hcT
                  go_wp2_with (first
                    | (refine wpList_load_part 57 [.int .i64 (m3 : Int), .slice ka t kc] wo.heap.size 0 rfl (.tmp 14) rfl rfl (is_range HUI.out.box) Tryz.underlying57 rfl size_out rfl ?_; have HUQ := hide (HUI.out.alloc (.cells #[.int .i64 (m3 : Int), .slice ka t kc] 57)); have HAQ := hide ((HUI.out.rows.acc (Nat.le_of_lt HUI.out.box.lt)).but (But.call (g := w1.heap.size) (below_alloc wr (.cells #[.int .i64 (m3 : Int), .slice ka t kc] 57))) HBlt.out))
                    | (refine wpList_append_by (AppG (wr.alloc (.cells #[.int .i64 (m3 : Int), .slice ka t kc] 57)) B 57 2 k2 (.slice vb k2 vd) (outCells L2) [.int .i64 (m3 : Int), .slice ka t kc]) rfl (.tmp 156) (.tmp 158) rfl (.slice vb k2 vd) (.slice (some ⟨wr.heap.size, 0, none⟩) 1 1) rfl rfl (fun ty => run_app1 elemOuts _ _ _ _ _ [.int .i64 (m3 : Int), .slice ka t kc] HAQ.out.own wr.heap.size 1 (is_range (Is.new wr [.int .i64 (m3 : Int), .slice ka t kc] 57)) rfl (by intro u hu; simp only [List.mem_cons, List.not_mem_nil, or_false] at hu; rcases hu with rfl | rfl <;> rfl) (by have := HN2b.out; omega) (by have := HUI.out.hi; have := HUI.out.box.lt; simp; omega) ty) ?_; intro v2 wE h3; obtain ⟨vb2, vd2, hv2⟩ := owns_form h3.1; subst hv2; have hro : ∀ b, (Value.slice vb k2 vd).ownBlock = some b → B ≤ b := (fun b hb => (World.ownsRow.lt HAQ.out.own b hb).1); have HSR := hide (HUQ.out.of.grown h3.2.1 (fun b hb => by have := hro b hb; have := HBlt.out; omega)); have hap := h3; clear h3; have hcF := HSR.out.tx.cell 1; have hfF := HSR.out.tx.frozen; simp only [PtL, List.set_cons_zero, List.set_cons_succ, List.getElem?_cons_zero, List.getElem?_cons_succ] at hcF))
                  have HMQ : Hid (Mid (w1.heap.size + 1) B wE (fun W => Below w.heap.size w W → HasIns W (.slice ia ki ic) L)) := hide (HUQ.out.ins.grown hap.2.1 hro (Nat.le_of_lt (Nat.lt_of_le_of_lt HUQ.out.hi HUQ.out.box.lt)))
                  have HIM := hide ((HAI.out.itm.but (But.call (g := w1.heap.size) (below_alloc wr (.cells #[.int .i64 (m3 : Int), .slice ka t kc] 57))) (by have := HUI.out.lo; have := HUI.out.hi; omega)).map (G := fun W => Below w.heap.size w W → (none : Option Nat).isSome = true → HasOps W (.slice ka t kc) LL) (fun W h hb hs => row_hasOps (by rw [HLI.out]; exact h.1) (h.2 hb hs)))
                  have HAR := hide (HAQ.out.app HIM.out (fun b hb => by have := HUI.out.rows.lt b hb; omega) (by have := HUI.out.hi; omega) hap.1 hap.2.1 hap.2.2)
                  have HSZ : Hid (B ≤ wE.heap.size) := hide (Nat.le_trans (Nat.le_of_lt (Nat.lt_of_le_of_lt HUQ.out.hi HUQ.out.box.lt)) hap.2.1.size)
                  have HBC := hide (But.cell wE (w.heap.size + 1) 1 (.slice vb2 (k2 + 1) vd2))
                  have HST2 := hide (HSR.out.set 1 (.slice vb2 (k2 + 1) vd2))
                  have HAS := hide (HAR.out.but HBC.out (by have := HBlt.out; have := HB5.out; omega))
                  have HMS := hide (mid_other HMQ.out HBC.out (.inl (by have := HB5.out; omega)) HSZ.out)
                  have hiv := HVO.out
                  rw [show n2 - k2 = (n2 - (k2 + 1)) + 1 from by omega] at hiv
                  have HV9 : Hid (InvO l (L.map InV.it) ((L2 ++ [OutV.mk m3 (.slice ka t kc) LL]).map OutV.it) (n2 - (k2 + 1)) (none)) := hide (by rw [List.map_append]; exact invO_stop hiv HOU2.out)
                  have HS9 : Hid (B ≤ (wE.setCell ⟨w.heap.size + 1, 1, none⟩ (.slice vb2 (k2 + 1) vd2)).heap.size) := hide (Nat.le_trans HSZ.out HBC.out.size)
                  clear hap hiv hcF hfF hcT hro
                  go_roundw
                  case rel => exact ⟨k2 + 1, by omega, by go_num, none, L2 ++ [OutV.mk m3 (.slice ka t kc) LL], vb2, vd2, HST2.out, by rw [outCells_add]; exact HAS.out.map (fun W h => FOut.add (fun _ => rfl) h.1 h.2), by rw [List.length_append, HL2.out]; rfl, HV9.out, HNI.out, HMS.out, HS9.out⟩
                  case measure => simp [intOf]; omega
                · have hti : ¬ (t : Int) < (m4 : Int) := by omega
                  have hn40 := HN2b.out
                  have hcT := HUI.out.of.tx.cell 1
                  simp only [PtL, List.set_cons_zero, List.set_cons_succ, List.getElem?_cons_zero, List.getElem?_cons_succ] at hcT
                  go_wp2_with (first
                    | (refine wpList_load_part 57 [.int .i64 (m3 : Int), .slice ka t kc] wo.heap.size 0 rfl (.tmp 14) rfl rfl (is_range HUI.out.box) Tryz.underlying57 rfl size_out rfl ?_; have HUQ := hide (HUI.out.alloc (.cells #[.int .i64 (m3 : Int), .slice ka t kc] 57)); have HAQ := hide ((HUI.out.rows.acc (Nat.le_of_lt HUI.out.box.lt)).but (But.call (g := w1.heap.size) (below_alloc wr (.cells #[.int .i64 (m3 : Int), .slice ka t kc] 57))) HBlt.out))
                    | (refine wpList_append_by (AppG (wr.alloc (.cells #[.int .i64 (m3 : Int), .slice ka t kc] 57)) B 57 2 k2 (.slice vb k2 vd) (outCells L2) [.int .i64 (m3 : Int), .slice ka t kc]) rfl (.tmp 156) (.tmp 158) rfl (.slice vb k2 vd) (.slice (some ⟨wr.heap.size, 0, none⟩) 1 1) rfl rfl (fun ty => run_app1 elemOuts _ _ _ _ _ [.int .i64 (m3 : Int), .slice ka t kc] HAQ.out.own wr.heap.size 1 (is_range (Is.new wr [.int .i64 (m3 : Int), .slice ka t kc] 57)) rfl (by intro u hu; simp only [List.mem_cons, List.not_mem_nil, or_false] at hu; rcases hu with rfl | rfl <;> rfl) (by have := HN2b.out; omega) (by have := HUI.out.hi; have := HUI.out.box.lt; simp; omega) ty) ?_; intro v2 wE h3; obtain ⟨vb2, vd2, hv2⟩ := owns_form h3.1; subst hv2; have hro : ∀ b, (Value.slice vb k2 vd).ownBlock = some b → B ≤ b := (fun b hb => (World.ownsRow.lt HAQ.out.own b hb).1); have HSR := hide (HUQ.out.of.grown h3.2.1 (fun b hb => by have := hro b hb; have := HBlt.out; omega)); have hap := h3; clear h3; have hcF := HSR.out.tx.cell 1; have hfF := HSR.out.tx.frozen; simp only [PtL, List.set_cons_zero, List.set_cons_succ, List.getElem?_cons_zero, List.getElem?_cons_succ] at hcF))
                  have HMQ : Hid (Mid (w1.heap.size + 1) B wE (fun W => Below w.heap.size w W → HasIns W (.slice ia ki ic) L)) := hide (HUQ.out.ins.grown hap.2.1 hro (Nat.le_of_lt (Nat.lt_of_le_of_lt HUQ.out.hi HUQ.out.box.lt)))
                  have HIM := hide ((HAI.out.itm.but (But.call (g := w1.heap.size) (below_alloc wr (.cells #[.int .i64 (m3 : Int), .slice ka t kc] 57))) (by have := HUI.out.lo; have := HUI.out.hi; omega)).map (G := fun W => Below w.heap.size w W → (none : Option Nat).isSome = true → HasOps W (.slice ka t kc) LL) (fun W h hb hs => row_hasOps (by rw [HLI.out]; exact h.1) (h.2 hb hs)))
                  have HAR := hide (HAQ.out.app HIM.out (fun b hb => by have := HUI.out.rows.lt b hb; omega) (by have := HUI.out.hi; omega) hap.1 hap.2.1 hap.2.2)
                  have HSZ : Hid (B ≤ wE.heap.size) := hide (Nat.le_trans (Nat.le_of_lt (Nat.lt_of_le_of_lt HUQ.out.hi HUQ.out.box.lt)) hap.2.1.size)
                  have HBC := hide (But.cell wE (w.heap.size + 1) 1 (.slice vb2 (k2 + 1) vd2))
                  have HST2 := hide (HSR.out.set 1 (.slice vb2 (k2 + 1) vd2))
                  have HAS := hide (HAR.out.but HBC.out (by have := HBlt.out; have := HB5.out; omega))
                  have HMS := hide (mid_other HMQ.out HBC.out (.inl (by have := HB5.out; omega)) HSZ.out)
                  have hiv := HVO.out
                  rw [show n2 - k2 = (n2 - (k2 + 1)) + 1 from by omega] at hiv
                  have HV9 : Hid (InvO l (L.map InV.it) ((L2 ++ [OutV.mk m3 (.slice ka t kc) LL]).map OutV.it) (n2 - (k2 + 1)) (none)) := hide (by rw [List.map_append]; exact invO_stop hiv HOU2.out)
                  have HS9 : Hid (B ≤ (wE.setCell ⟨w.heap.size + 1, 1, none⟩ (.slice vb2 (k2 + 1) vd2)).heap.size) := hide (Nat.le_trans HSZ.out HBC.out.size)
                  clear hap hiv hcF hfF hcT hro
                  go_roundw
                  case rel => exact ⟨k2 + 1, by omega, by go_num, none, L2 ++ [OutV.mk m3 (.slice ka t kc) LL], vb2, vd2, HST2.out, by rw [outCells_add]; exact HAS.out.map (fun W h => FOut.add (fun _ => rfl) h.1 h.2), by rw [List.length_append, HL2.out]; rfl, HV9.out, HNI.out, HMS.out, HS9.out⟩
                  case measure => simp [intOf]; omega
              | some p =>
                by_cases hlt2 : t < m4
                · have hti : (t : Int) < (m4 : Int) := by omega
                  have hcA := HUI.out.of.pt.cell 2
                  simp only [PtL, List.set_cons_zero, List.set_cons_succ, List.getElem?_cons_zero, List.getElem?_cons_succ] at hcA
                  have HP2 : Hid (OpS w w1.heap.size B wo.heap.size wr.heap.size (.slice ba bn bc) [.slice none 0 0, .slice none 0 0, .int .i64 0] [.slice ia ki ic, .slice vb k2 vd, .int .i64 0] k2 (.slice vb k2 vd) (outCells L2) (FOut w (some q2) L2) (fun W => Below w.heap.size w W → HasIns W (.slice ia ki ic) L) [.int .i64 (m3 : Int), .slice ka t kc] t (.slice ka t kc) (opCells LL) (FOp w (some p) LL) (some p) [.int .i64 0, .int .i64 0, .slice none 0 0] (wr.alloc (.cells #[.int .i64 0, .int .i64 0, .slice none 0 0] 65))) := hide ⟨HUI.out.alloc (.cells #[.int .i64 0, .int .i64 0, .slice none 0 0] 65), Is.new wr [.int .i64 0, .int .i64 0, .slice none 0 0] 65, HAI.out.mid.call (below_alloc wr (.cells #[.int .i64 0, .int .i64 0, .slice none 0 0] 65)) (Nat.le_refl _), HUI.out.box.lt⟩
                  clear HUI HAI
                  go_wp2_with (first
                    | (refine wpList_load_part 77 (PtL (.slice ba bn bc) (some p)) w1.heap.size 0 rfl (.tmp 5) rfl rfl (is_range HP2.out.ou.of.pt) Tryz.underlying77 rfl size_part (ptL_len _ _) ?_))
                  refine (HNUM.out (some p) 14 _ (by decide) HP2.out.ou.of.below).mono ?_
                  rintro e wA ⟨o5, m5, ho5, hm5, hm5b, rfl, hbA⟩
                  have HO5 := hide ho5
                  have HM5v := hide hm5
                  have HP3 := hide (HP2.out.call hbA)
                  have HN5 : Hid (Inn l o5) := hide (by rw [ho5]; exact inn_n HBT.out HNI.out)
                  clear ho5 hm5 hm5b hbA HP2 hcA
                  go_wp2_with (first
                    | (refine wpList_store_any3 77 (PtL (.slice ba bn bc) (some p)) (PtL (.slice ba bn bc) (o5)) w1.heap.size rfl (.tmp 5) (.tmp 128) rfl rfl rfl rfl HP3.out.ou.of.pt size_part (ptL_len _ _) (ptL_len _ _) (ptL_one _ rfl _) ?_; intro wB hiwB hwB; have HP4 := hide (HP3.out.store (o5) hwB); have HBTB : Hid (But w1.heap.size _ wB) := (by rw [hwB]; exact hide (But.row _ w1.heap.size _)); clear hiwB hwB; have hcX := HP4.out.box.cell 0; have hfX := HP4.out.box.frozen; simp only [PtL, List.set_cons_zero, List.set_cons_succ, List.getElem?_cons_zero, List.getElem?_cons_succ] at hcX; have HP5 := hide (HP4.out.set 0 (.int .i64 (m5 : Int))))
                    | (refine wpList_load_part 77 (PtL (.slice ba bn bc) (o5)) w1.heap.size 0 rfl (.tmp 5) rfl rfl (is_range HP5.out.ou.of.pt) Tryz.underlying77 rfl size_part (ptL_len _ _) ?_))
                  refine (HNUM.out o5 1073741824 _ (by decide) HP5.out.ou.of.below).mono ?_
                  rintro e wC ⟨o6, m6, ho6, hm6, hm6b, rfl, hbC⟩
                  have HO6 := hide ho6
                  have HM6v := hide hm6
                  have HP6 := hide (HP5.out.call hbC)
                  have HN6 : Hid (Inn l o6) := hide (by rw [ho6]; exact inn_n HBT.out HN5.out)
                  clear ho6 hm6 hm6b hbC HP3 HP4 HP5 HBTB hcX hfX
                  go_wp2_with (first
                    | (refine wpList_store_any3 77 (PtL (.slice ba bn bc) (o5)) (PtL (.slice ba bn bc) (o6)) w1.heap.size rfl (.tmp 5) (.tmp 134) rfl rfl rfl rfl HP6.out.ou.of.pt size_part (ptL_len _ _) (ptL_len _ _) (ptL_one _ rfl _) ?_; intro wD hiwD hwD; have HP7 := hide (HP6.out.store (o6) hwD); have HBTD : Hid (But w1.heap.size _ wD) := (by rw [hwD]; exact hide (But.row _ w1.heap.size _)); clear hiwD hwD; have hcX := HP7.out.box.cell 1; have hfX := HP7.out.box.frozen; simp only [PtL, List.set_cons_zero, List.set_cons_succ, List.getElem?_cons_zero, List.getElem?_cons_succ] at hcX; have HP8 := hide (HP7.out.set 1 (.int .i64 (m6 : Int))))
                    | (refine wpList_load_part 77 (PtL (.slice ba bn bc) (o6)) w1.heap.size 0 rfl (.tmp 5) rfl rfl (is_range HP8.out.ou.of.pt) Tryz.underlying77 rfl size_part (ptL_len _ _) ?_))
                  refine (HNUM.out o6 300 _ (by decide) HP8.out.ou.of.below).mono ?_
                  rintro e wF ⟨o7, m7, ho7, hm7, hm7b, rfl, hbF⟩
                  have HO7 := hide ho7
                  have HM7v := hide hm7
                  have HP9 := hide (HP8.out.call hbF)
                  have HN7 : Hid (Inn l o7) := hide (by rw [ho7]; exact inn_n HBT.out HN6.out)
                  clear ho7 hm7 hm7b hbF HP6 HP7 HP8 HBTD hcX hfX
                  go_wp2_with (first
                    | (refine wpList_store_any3 77 (PtL (.slice ba bn bc) (o6)) (PtL (.slice ba bn bc) (o7)) w1.heap.size rfl (.tmp 5) (.tmp 140) rfl rfl rfl rfl HP9.out.ou.of.pt size_part (ptL_len _ _) (ptL_len _ _) (ptL_one _ rfl _) ?_; intro wG hiwG hwG; have HPA := hide (HP9.out.store (o7) hwG); have HBTG : Hid (But w1.heap.size _ wG) := (by rw [hwG]; exact hide (But.row _ w1.heap.size _)); clear hiwG hwG)
                    | (refine wpList_load_part 77 (PtL (.slice ba bn bc) (o7)) w1.heap.size 0 rfl (.tmp 5) rfl rfl (is_range HPA.out.ou.of.pt) Tryz.underlying77 rfl size_part (ptL_len _ _) ?_))
                  refine (HBYT.out o7 m7 _ HN7.out HPA.out.ou.of.below).mono ?_
                  rintro e wH ⟨o8, ea, em, ec, ho8, rfl, hE, hbH⟩
                  have HO8 := hide ho8
                  have HE := hide hE
                  have HPB := hide (HPA.out.call hbH)
                  have HN8 : Hid (Inn l o8) := hide (by rw [ho8]; exact inn_b HN7.out)
                  clear ho8 hE hbH HP9 HPA HBTG
                  obtain ⟨dd, hdd⟩ : ∃ d, d = ((o7.bind (Tm.bts m7 l)).map Prod.fst).getD [] := ⟨_, rfl⟩
                  have HKA : Hid (∀ W, Below w.heap.size w W → o8.isSome = true → Has W (.slice ea em ec) dd ∧ Sz.Byt dd) := hide (fun W hW hs => by
                    rw [HO8.out] at hs
                    obtain ⟨x, hx1, hx2⟩ := bO_bts hs
                    rw [hdd]
                    exact ⟨by rw [hx2]; exact HE.out x hx1 W (HL.out.below hW), bts_byt HBT.out _ _⟩)
                  have hm60 := HM4b.out
                  have HV2 : Hid (InvP l (m3 : Int) (opsOf (LL ++ [((⟨(m5 : Int), (m6 : Int), dd⟩ : Lk.Op), .slice ea em ec)])) (m4 - (t + 1)) (Tm.rOut l q2) o8) := hide (by
                    have h := HVI.out
                    rw [show m4 - t = (m4 - (t + 1)) + 1 from by omega] at h
                    rw [opsOf_add, hdd]
                    exact invP_step h HO5.out HM5v.out HO6.out HM6v.out HO7.out HM7v.out HO8.out)
                  clear hdd
                  go_wp2_with (first
                    | (refine wpList_store_any3 77 (PtL (.slice ba bn bc) (o7)) (PtL (.slice ba bn bc) (o8)) w1.heap.size rfl (.tmp 5) (.tmp 146) rfl rfl rfl rfl HPB.out.ou.of.pt size_part (ptL_len _ _) (ptL_len _ _) (ptL_one _ rfl _) ?_; intro wI hiwI hwI; have HPC := hide (HPB.out.store (o8) hwI); have HBTI : Hid (But w1.heap.size _ wI) := (by rw [hwI]; exact hide (But.row _ w1.heap.size _)); clear hiwI hwI; have hcX := HPC.out.box.cell 2; have hfX := HPC.out.box.frozen; simp only [PtL, List.set_cons_zero, List.set_cons_succ, List.getElem?_cons_zero, List.getElem?_cons_succ] at hcX; have HPD := hide (HPC.out.set 2 (.slice ea em ec)); have hcO := HPD.out.ou.box.cell 1; simp only [PtL, List.set_cons_zero, List.set_cons_succ, List.getElem?_cons_zero, List.getElem?_cons_succ] at hcO; have hcR := HPD.out.box.cell)
                    | (refine wpList_load_part 65 [.int .i64 (m5 : Int), .int .i64 (m6 : Int), .slice ea em ec] wr.heap.size 0 rfl (.tmp 17) rfl rfl (is_range HPD.out.box) Tryz.underlying65 rfl size_op rfl ?_; have HUQ := hide (HPD.out.ou.alloc (.cells #[.int .i64 (m5 : Int), .int .i64 (m6 : Int), .slice ea em ec] 65)); have HAQ := hide ((HPD.out.rows.acc (Nat.le_of_lt HPD.out.box.lt)).but (But.call (g := wo.heap.size) (below_alloc _ (.cells #[.int .i64 (m5 : Int), .int .i64 (m6 : Int), .slice ea em ec] 65))) (Nat.lt_succ_self _)))
                    | (at_builtin; go_loud (refine wpList_append_by (AppG ((wI.setCell ⟨wr.heap.size, 2, none⟩ (.slice ea em ec)).alloc (.cells #[.int .i64 (m5 : Int), .int .i64 (m6 : Int), .slice ea em ec] 65)) (wo.heap.size + 1) 65 3 t (.slice ka t kc) (opCells LL) [.int .i64 (m5 : Int), .int .i64 (m6 : Int), .slice ea em ec]) rfl (.tmp 150) (.tmp 152) rfl (.slice ka t kc) (.slice (some ⟨wI.heap.size, 0, none⟩) 1 1) rfl rfl (fun ty => run_app1 elemOps _ _ _ _ _ [.int .i64 (m5 : Int), .int .i64 (m6 : Int), .slice ea em ec] HAQ.out.own wI.heap.size 1 (is_range (Is.new' [.int .i64 (m5 : Int), .int .i64 (m6 : Int), .slice ea em ec] 65 (by simp))) rfl (by intro v hv; simp only [List.mem_cons, List.not_mem_nil, or_false] at hv; rcases hv with rfl | rfl | rfl <;> rfl) (by have := HM4b.out; omega) (by have := HUQ.out.box.lt; omega) ty) ?_); intro v2 wE h3; obtain ⟨ka2, kc2, hv2⟩ := owns_form h3.1; subst hv2; have hro : ∀ b, (Value.slice ka t kc).ownBlock = some b → wo.heap.size + 1 ≤ b := (fun b hb => (World.ownsRow.lt HAQ.out.own b hb).1); have HUR := hide (HUQ.out.grown h3.2.1 (fun b hb => Nat.lt_of_succ_le (hro b hb))); have hap := h3; clear h3; have hcF := HUR.out.box.cell 1; have hfF := HUR.out.box.frozen; simp only [PtL, List.set_cons_zero, List.set_cons_succ, List.getElem?_cons_zero, List.getElem?_cons_succ] at hcF))
                  have HAO := hide (HAQ.out.app (lo := ((wI.setCell ⟨wr.heap.size, 2, none⟩ (.slice ea em ec)).alloc (.cells #[.int .i64 (m5 : Int), .int .i64 (m6 : Int), .slice ea em ec] 65)).heap.size) (G := fun W => Below w.heap.size w W → o8.isSome = true → Has W (.slice ea em ec) dd ∧ Sz.Byt dd) ⟨fun _ => False, fun k hk => hk.elim, fun W' _ _ => HKA.out W'⟩ (fun b hb => (World.ownsRow.lt HAQ.out.own b hb).2) (Nat.succ_le_of_lt HUQ.out.box.lt) hap.1 hap.2.1 hap.2.2)
                  have HUS := hide (HUR.out.set 1 (.slice ka2 (t + 1) kc2))
                  have HAS := hide (HAO.out.but (But.cell wE wo.heap.size 1 (.slice ka2 (t + 1) kc2)) (Nat.lt_succ_self _))
                  clear hap hcF hfF hcO hcX hfX hro
                  go_roundw
                  case rel => exact ⟨t + 1, by omega, by go_num, o8, LL ++ [((⟨(m5 : Int), (m6 : Int), dd⟩ : Lk.Op), .slice ea em ec)], ka2, kc2, HUS.out, by rw [opCells_append]; exact HAS.out.map (fun W h => fop_add (p := ((⟨(m5 : Int), (m6 : Int), dd⟩ : Lk.Op), .slice ea em ec)) (fun _ => rfl) h.1 h.2), by rw [List.length_append, HLI.out]; rfl, HV2.out, HN8.out⟩
                  case measure => simp [intOf]; omega
                · obtain rfl : t = m4 := by omega
                  have hti : ¬ (t : Int) < (t : Int) := by omega
                  have hcA := HUI.out.of.pt.cell 2
                  simp only [PtL, List.set_cons_zero, List.set_cons_succ, List.getElem?_cons_zero, List.getElem?_cons_succ] at hcA
                  have hz0 := HVI.out
                  rw [Nat.sub_self] at hz0
                  have HOU2 := hide (invP_end hz0)
                  clear hz0
                  have hn40 := HN2b.out
                  have hcT := HUI.out.of.tx.cell 1
                  simp only [PtL, List.set_cons_zero, List.set_cons_succ, List.getElem?_cons_zero, List.getElem?_cons_succ] at hcT
                  go_wp2_with (first
                    | (refine wpList_load_part 57 [.int .i64 (m3 : Int), .slice ka t kc] wo.heap.size 0 rfl (.tmp 14) rfl rfl (is_range HUI.out.box) Tryz.underlying57 rfl size_out rfl ?_; have HUQ := hide (HUI.out.alloc (.cells #[.int .i64 (m3 : Int), .slice ka t kc] 57)); have HAQ := hide ((HUI.out.rows.acc (Nat.le_of_lt HUI.out.box.lt)).but (But.call (g := w1.heap.size) (below_alloc wr (.cells #[.int .i64 (m3 : Int), .slice ka t kc] 57))) HBlt.out))
                    | (refine wpList_append_by (AppG (wr.alloc (.cells #[.int .i64 (m3 : Int), .slice ka t kc] 57)) B 57 2 k2 (.slice vb k2 vd) (outCells L2) [.int .i64 (m3 : Int), .slice ka t kc]) rfl (.tmp 156) (.tmp 158) rfl (.slice vb k2 vd) (.slice (some ⟨wr.heap.size, 0, none⟩) 1 1) rfl rfl (fun ty => run_app1 elemOuts _ _ _ _ _ [.int .i64 (m3 : Int), .slice ka t kc] HAQ.out.own wr.heap.size 1 (is_range (Is.new wr [.int .i64 (m3 : Int), .slice ka t kc] 57)) rfl (by intro u hu; simp only [List.mem_cons, List.not_mem_nil, or_false] at hu; rcases hu with rfl | rfl <;> rfl) (by have := HN2b.out; omega) (by have := HUI.out.hi; have := HUI.out.box.lt; simp; omega) ty) ?_; intro v2 wE h3; obtain ⟨vb2, vd2, hv2⟩ := owns_form h3.1; subst hv2; have hro : ∀ b, (Value.slice vb k2 vd).ownBlock = some b → B ≤ b := (fun b hb => (World.ownsRow.lt HAQ.out.own b hb).1); have HSR := hide (HUQ.out.of.grown h3.2.1 (fun b hb => by have := hro b hb; have := HBlt.out; omega)); have hap := h3; clear h3; have hcF := HSR.out.tx.cell 1; have hfF := HSR.out.tx.frozen; simp only [PtL, List.set_cons_zero, List.set_cons_succ, List.getElem?_cons_zero, List.getElem?_cons_succ] at hcF))
                  have HMQ : Hid (Mid (w1.heap.size + 1) B wE (fun W => Below w.heap.size w W → HasIns W (.slice ia ki ic) L)) := hide (HUQ.out.ins.grown hap.2.1 hro (Nat.le_of_lt (Nat.lt_of_le_of_lt HUQ.out.hi HUQ.out.box.lt)))
                  have HIM := hide ((HAI.out.itm.but (But.call (g := w1.heap.size) (below_alloc wr (.cells #[.int .i64 (m3 : Int), .slice ka t kc] 57))) (by have := HUI.out.lo; have := HUI.out.hi; omega)).map (G := fun W => Below w.heap.size w W → (some p : Option Nat).isSome = true → HasOps W (.slice ka t kc) LL) (fun W h hb hs => row_hasOps (by rw [HLI.out]; exact h.1) (h.2 hb hs)))
                  have HAR := hide (HAQ.out.app HIM.out (fun b hb => by have := HUI.out.rows.lt b hb; omega) (by have := HUI.out.hi; omega) hap.1 hap.2.1 hap.2.2)
                  have HSZ : Hid (B ≤ wE.heap.size) := hide (Nat.le_trans (Nat.le_of_lt (Nat.lt_of_le_of_lt HUQ.out.hi HUQ.out.box.lt)) hap.2.1.size)
                  have HBC := hide (But.cell wE (w.heap.size + 1) 1 (.slice vb2 (k2 + 1) vd2))
                  have HST2 := hide (HSR.out.set 1 (.slice vb2 (k2 + 1) vd2))
                  have HAS := hide (HAR.out.but HBC.out (by have := HBlt.out; have := HB5.out; omega))
                  have HMS := hide (mid_other HMQ.out HBC.out (.inl (by have := HB5.out; omega)) HSZ.out)
                  have hiv := HVO.out
                  rw [show n2 - k2 = (n2 - (k2 + 1)) + 1 from by omega] at hiv
                  have HV9 : Hid (InvO l (L.map InV.it) ((L2 ++ [OutV.mk m3 (.slice ka t kc) LL]).map OutV.it) (n2 - (k2 + 1)) (some p)) := hide (by rw [List.map_append]; exact invO_next hiv HOU2.out)
                  have HS9 : Hid (B ≤ (wE.setCell ⟨w.heap.size + 1, 1, none⟩ (.slice vb2 (k2 + 1) vd2)).heap.size) := hide (Nat.le_trans HSZ.out HBC.out.size)
                  clear hap hiv hcF hfF hcT hro
                  go_roundw
                  case rel => exact ⟨k2 + 1, by omega, by go_num, some p, L2 ++ [OutV.mk m3 (.slice ka t kc) LL], vb2, vd2, HST2.out, by rw [outCells_add]; exact HAS.out.map (fun W h => FOut.add (fun _ => rfl) h.1 h.2), by rw [List.length_append, HL2.out]; rfl, HV9.out, HNI.out, HMS.out, HS9.out⟩
                  case measure => simp [intOf]; omega
          · have hki : ¬ (k2 : Int) < (n2 : Int) := by omega
            obtain rfl : k2 = n2 := by omega
            go_wp2_with (first
              | (refine wpList_load_part 77 (PtL (.slice ba bn bc) (some q2)) w1.heap.size 0 rfl (.tmp 5) rfl rfl (is_range HST.out.pt) Tryz.underlying77 rfl size_part (ptL_len _ _) ?_))
            refine (HNUM.out (some q2) 1073741824 _ (by decide) HST.out.below).mono ?_
            rintro e w4 ⟨o4, m4, ho4, hm4, hm4b, rfl, hb4⟩
            have HS4 := hide (HST.out.call hb4)
            have HA4 := hide (HAC.out.but (But.call (g := w1.heap.size) hb4) HBlt.out)
            have HI4 := hide (mid_call HMI.out hb4 HBW.out)
            have HZ4 := hide (Nat.le_trans HBW.out hb4.size)
            have HO4 := hide ho4
            have hiv := HVO.out
            rw [Nat.sub_self] at hiv
            have hpay := invO_end hiv
            rw [← ho4, ← hm4] at hpay
            have HPAY := hide hpay
            clear ho4 hm4 hm4b hb4 hiv hpay HST HAC HMI
            cases o4 with
            | none =>
              have HPR : Hid (Tm.rPay l = none) := hide HPAY.out
              go_wp2_with (first
                | (refine wpList_store_any3 77 (PtL (.slice ba bn bc) (some q2)) (PtL (.slice ba bn bc) (none)) w1.heap.size rfl (.tmp 5) (.tmp 164) rfl rfl rfl rfl HS4.out.pt size_part (ptL_len _ _) (ptL_len _ _) (ptL_one _ rfl _) ?_; intro w5 hiw5 hw5; have HS5 := hide (HS4.out.store (none) hw5); have HBT5 : Hid (But w1.heap.size _ w5) := (by rw [hw5]; exact hide (But.row _ w1.heap.size _)); clear hiw5 hw5; have hcT := HS5.out.tx.cell 2; have hfT := HS5.out.tx.frozen; simp only [PtL, List.set_cons_zero, List.set_cons_succ, List.getElem?_cons_zero, List.getElem?_cons_succ] at hcT; have HS6 := hide (HS5.out.set 2 (.int .i64 (m4 : Int))); have hcP := HS6.out.pt.cell 2; simp only [PtL, List.set_cons_zero, List.set_cons_succ, List.getElem?_cons_zero, List.getElem?_cons_succ] at hcP)
                | (refine wpList_store_any3 25 [.slice none 0 0, .slice none 0 0, .int .i64 0] [.slice none 0 0, .slice none 0 0, .int .i64 0] w.heap.size rfl (.tmp 2) (.tmp 182) rfl rfl rfl rfl HS6.out.res size_tx rfl rfl (by intro v hv; simp only [List.mem_cons, List.not_mem_nil, or_false] at hv; rcases hv with rfl | rfl | rfl <;> rfl) ?_; intro w9 hi9 hw9; have hbr : But w.heap.size _ w9 := (by rw [hw9]; exact But.row _ w.heap.size _); clear hw9))
              have hrd := HNO.out HPR.out
              exact bodyPost_ret (v := .tuple #[.agg #[.slice none 0 0, .slice none 0 0, .int .i64 0], .bool false]) (results_cell2 Tryz.results13 rfl (hi9.cellsOfS Tryz.underlying25 (by kernel_rfl))) rfl ⟨⟨_, by rw [hrd]; rfl, fun _ => rfl, fun t ht => by rw [hrd] at ht; cases ht⟩, HS6.out.below.trans (hbr.under HS6.out.below.size (Nat.le_refl _))⟩
            | some q4 =>
              have hrt : Tm.rPay l = some (TxV.mk (.slice ia ki ic) L (.slice vb k2 vd) L2 (m4 : Int)).it := HPAY.out
              have HOT4 := hide ((HA4.out.itm.map (G := fun W => Below w.heap.size w W → HasOuts W (.slice vb k2 vd) L2) (fun W h hb => row_hasOuts (by rw [HL2.out]; exact h.1) (h.2 hb rfl))).mid)
              have HF4 : Hid (FinS w w1.heap.size w4.heap.size (fun W => HasTx W (TxV.mk (.slice ia ki ic) L (.slice vb k2 vd) L2 (m4 : Int))) w4) := hide ⟨by
                obtain ⟨S1, a1, a2⟩ := HI4.out
                obtain ⟨S2, b1, b2⟩ := HOT4.out
                exact ⟨fun k => S1 k ∨ S2 k, fun k hk => hk.elim (fun h => ⟨(a1 k h).1, Nat.lt_of_lt_of_le (a1 k h).2 HZ4.out⟩) (fun h => ⟨Nat.le_trans HBlt.out (b1 k h).1, (b1 k h).2⟩), ((a2.more (fun k hk => .inl hk)).and (b2.more (fun k hk => .inr hk))).map (fun W h hb => ⟨h.1 hb, h.2 hb⟩)⟩, Nat.le_refl _, HS4.out.below, by have := HB5.out; omega⟩
              clear HOT4 HA4 HI4 HZ4 HPAY
              by_cases hc : Tm.check (TxV.mk (.slice ia ki ic) L (.slice vb k2 vd) L2 (m4 : Int)).it = 0
              · have hd1 : decide ((Tm.check (TxV.mk (.slice ia ki ic) L (.slice vb k2 vd) L2 (m4 : Int)).it : Int) ≠ 0) = false := by rw [hc]; rfl
                have HC := hide hc
                by_cases hbb : Tm.bytes (TxV.mk (.slice ia ki ic) L (.slice vb k2 vd) L2 (m4 : Int)).it = l
                · have HBB := hide hbb
                  have hsb : rs_same (Tm.bytes (TxV.mk (.slice ia ki ic) L (.slice vb k2 vd) L2 (m4 : Int)).it) l = true := by rw [hbb]; exact rs_same_self l
                  have HSB := hide hsb
                  obtain ⟨bb, hbbe⟩ : ∃ x, x = Tm.bytes (TxV.mk (.slice ia ki ic) L (.slice vb k2 vd) L2 (m4 : Int)).it := ⟨_, rfl⟩
                  rw [← hbbe] at HSB
                  have HBBE := hide hbbe
                  have HCE : Hid (Tm.check (TxV.mk (.slice ia ki ic) L (.slice vb k2 vd) L2 (m4 : Int)).it = 0) := HC
                  clear hc hd1 hbb hsb hbbe
                  have hrd0 : Tm.read l = some (TxV.mk (.slice ia ki ic) L (.slice vb k2 vd) L2 (m4 : Int)).it := by
                    rw [← HREAD.out]
                    unfold Tm.rRead
                    rw [hrt, Option.bind_some, if_pos ⟨HCE.out, HBB.out⟩]
                  have HRD := hide hrd0
                  clear hrt hrd0
                  go_wp2_with (first
                    | (refine wpList_store_any3 77 (PtL (.slice ba bn bc) (some q2)) (PtL (.slice ba bn bc) (some q4)) w1.heap.size rfl (.tmp 5) (.tmp 164) rfl rfl rfl rfl HS4.out.pt size_part (ptL_len _ _) (ptL_len _ _) (ptL_one _ rfl _) ?_; intro w5 hiw5 hw5; have HS5 := hide (HS4.out.store (some q4) hw5); have HBT5 : Hid (But w1.heap.size _ w5) := (by rw [hw5]; exact hide (But.row _ w1.heap.size _)); have HF5 : Hid (FinS w w1.heap.size w4.heap.size (fun W => HasTx W (TxV.mk (.slice ia ki ic) L (.slice vb k2 vd) L2 (m4 : Int))) w5) := (by rw [hw5]; exact hide (HF4.out.but (But.row _ w1.heap.size _) (.inl (Nat.le_refl _)) (by have := HB5.out; omega))); have HF6 := hide (HF5.out.but (But.cell w5 (w.heap.size + 1) 2 (.int .i64 (m4 : Int))) (.inl (by have := HB5.out; omega)) (by omega)); clear hiw5 hw5; have hcT := HS5.out.tx.cell 2; have hfT := HS5.out.tx.frozen; simp only [PtL, List.set_cons_zero, List.set_cons_succ, List.getElem?_cons_zero, List.getElem?_cons_succ] at hcT; have HS6 := hide (HS5.out.set 2 (.int .i64 (m4 : Int))); have hcP := HS6.out.pt.cell 2; simp only [PtL, List.set_cons_zero, List.set_cons_succ, List.getElem?_cons_zero, List.getElem?_cons_succ] at hcP)
                    | (go_at_call 4; refine (rtxFault_any (TxV.mk (.slice ia ki ic) L (.slice vb k2 vd) L2 (m4 : Int)) _ HF6.out.out).mono ?_; rintro e w6 ⟨rfl, hb6⟩; rw [HCE.out]; have HS7 := hide (HS6.out.call hb6); have HF7 := hide (HF6.out.call hb6))
                    | (go_at_call 7; refine (rtb_keys (TxV.mk (.slice ia ki ic) L (.slice vb k2 vd) L2 (m4 : Int)) _ HF7.out.out HCE.out).mono ?_; rintro e w7 ⟨v7, rfl, hw7, hb7⟩; rw [← HBBE.out] at hw7; obtain ⟨va7, vc7, rfl, _, _⟩ := hw7.form; have HS8 := hide (HS7.out.call hb7); have HO8 := hide hw7; have HF8 := hide (HF7.out.call hb7))
                    | (go_at_call 35; refine (rsame_any _ _ bb l _ HO8.out.has (HL.out.below HS8.out.below)).mono ?_; rintro e w8 ⟨rfl, hb8⟩; rw [HSB.out]; have HS9 := hide (HS8.out.call hb8); have HF9 := hide (HF8.out.call hb8))
                    | (refine wpList_load_partG 25 [.slice ia ki ic, .slice vb k2 vd, .int .i64 (m4 : Int)] (w.heap.size + 1) 0 (by rfl) (.tmp 4) rfl rfl (is_range HS6.out.tx) Tryz.underlying25 rfl size_tx rfl ?_)
                    | (refine wpList_load_partG 25 [.slice ia ki ic, .slice vb k2 vd, .int .i64 (m4 : Int)] (w.heap.size + 1) 0 (by rfl) (.tmp 4) rfl rfl (is_range HS7.out.tx) Tryz.underlying25 rfl size_tx rfl ?_)
                    | (refine wpList_load_part 25 [.slice ia ki ic, .slice vb k2 vd, .int .i64 (m4 : Int)] (w.heap.size + 1) 0 rfl (.tmp 4) rfl rfl (is_range HS9.out.tx) Tryz.underlying25 rfl size_tx rfl ?_)
                    | (refine wpList_store_any3 25 [.slice none 0 0, .slice none 0 0, .int .i64 0] [.slice ia ki ic, .slice vb k2 vd, .int .i64 (m4 : Int)] w.heap.size rfl (.tmp 2) (.tmp 183) rfl rfl rfl rfl HS9.out.res size_tx rfl rfl (by intro v hv; simp only [List.mem_cons, List.not_mem_nil, or_false] at hv; rcases hv with rfl | rfl | rfl <;> rfl) ?_; intro w9 hi9 hw9; have hbr : But w.heap.size _ w9 := (by rw [hw9]; exact But.row _ w.heap.size _); clear hw9))
                  have hrd := HRD.out
                  exact bodyPost_ret (v := .tuple #[(TxV.mk (.slice ia ki ic) L (.slice vb k2 vd) L2 (m4 : Int)).val, .bool true]) (results_cell2 Tryz.results13 rfl (hi9.cellsOfS Tryz.underlying25 (by kernel_rfl))) rfl ⟨⟨_, by rw [hrd]; rfl, fun h => (by rw [hrd] at h; cases h), fun t ht => ⟨(TxV.mk (.slice ia ki ic) L (.slice vb k2 vd) L2 (m4 : Int)), rfl, by rw [hrd] at ht; cases ht; rfl, (HF9.out.but hbr (.inl (by have := HB5.out; omega)) (Nat.le_refl _)).out⟩⟩, HS9.out.below.trans (hbr.under HS9.out.below.size (Nat.le_refl _))⟩
                · have HBB := hide hbb
                  have hsb : rs_same (Tm.bytes (TxV.mk (.slice ia ki ic) L (.slice vb k2 vd) L2 (m4 : Int)).it) l = false := rs_same_ne hbb
                  have HSB := hide hsb
                  obtain ⟨bb, hbbe⟩ : ∃ x, x = Tm.bytes (TxV.mk (.slice ia ki ic) L (.slice vb k2 vd) L2 (m4 : Int)).it := ⟨_, rfl⟩
                  rw [← hbbe] at HSB
                  have HBBE := hide hbbe
                  have HCE : Hid (Tm.check (TxV.mk (.slice ia ki ic) L (.slice vb k2 vd) L2 (m4 : Int)).it = 0) := HC
                  clear hc hd1 hbb hsb hbbe
                  have hrd0 : Tm.read l = none := by
                    rw [← HREAD.out]
                    unfold Tm.rRead
                    rw [hrt, Option.bind_some, if_neg (fun h => HBB.out h.2)]
                  have HRD := hide hrd0
                  clear hrt hrd0
                  go_wp2_with (first
                    | (refine wpList_store_any3 77 (PtL (.slice ba bn bc) (some q2)) (PtL (.slice ba bn bc) (some q4)) w1.heap.size rfl (.tmp 5) (.tmp 164) rfl rfl rfl rfl HS4.out.pt size_part (ptL_len _ _) (ptL_len _ _) (ptL_one _ rfl _) ?_; intro w5 hiw5 hw5; have HS5 := hide (HS4.out.store (some q4) hw5); have HBT5 : Hid (But w1.heap.size _ w5) := (by rw [hw5]; exact hide (But.row _ w1.heap.size _)); have HF5 : Hid (FinS w w1.heap.size w4.heap.size (fun W => HasTx W (TxV.mk (.slice ia ki ic) L (.slice vb k2 vd) L2 (m4 : Int))) w5) := (by rw [hw5]; exact hide (HF4.out.but (But.row _ w1.heap.size _) (.inl (Nat.le_refl _)) (by have := HB5.out; omega))); have HF6 := hide (HF5.out.but (But.cell w5 (w.heap.size + 1) 2 (.int .i64 (m4 : Int))) (.inl (by have := HB5.out; omega)) (by omega)); clear hiw5 hw5; have hcT := HS5.out.tx.cell 2; have hfT := HS5.out.tx.frozen; simp only [PtL, List.set_cons_zero, List.set_cons_succ, List.getElem?_cons_zero, List.getElem?_cons_succ] at hcT; have HS6 := hide (HS5.out.set 2 (.int .i64 (m4 : Int))); have hcP := HS6.out.pt.cell 2; simp only [PtL, List.set_cons_zero, List.set_cons_succ, List.getElem?_cons_zero, List.getElem?_cons_succ] at hcP)
                    | (go_at_call 4; refine (rtxFault_any (TxV.mk (.slice ia ki ic) L (.slice vb k2 vd) L2 (m4 : Int)) _ HF6.out.out).mono ?_; rintro e w6 ⟨rfl, hb6⟩; rw [HCE.out]; have HS7 := hide (HS6.out.call hb6); have HF7 := hide (HF6.out.call hb6))
                    | (go_at_call 7; refine (rtb_keys (TxV.mk (.slice ia ki ic) L (.slice vb k2 vd) L2 (m4 : Int)) _ HF7.out.out HCE.out).mono ?_; rintro e w7 ⟨v7, rfl, hw7, hb7⟩; rw [← HBBE.out] at hw7; obtain ⟨va7, vc7, rfl, _, _⟩ := hw7.form; have HS8 := hide (HS7.out.call hb7); have HO8 := hide hw7; have HF8 := hide (HF7.out.call hb7))
                    | (go_at_call 35; refine (rsame_any _ _ bb l _ HO8.out.has (HL.out.below HS8.out.below)).mono ?_; rintro e w8 ⟨rfl, hb8⟩; rw [HSB.out]; have HS9 := hide (HS8.out.call hb8); have HF9 := hide (HF8.out.call hb8))
                    | (refine wpList_load_partG 25 [.slice ia ki ic, .slice vb k2 vd, .int .i64 (m4 : Int)] (w.heap.size + 1) 0 (by rfl) (.tmp 4) rfl rfl (is_range HS6.out.tx) Tryz.underlying25 rfl size_tx rfl ?_)
                    | (refine wpList_load_partG 25 [.slice ia ki ic, .slice vb k2 vd, .int .i64 (m4 : Int)] (w.heap.size + 1) 0 (by rfl) (.tmp 4) rfl rfl (is_range HS7.out.tx) Tryz.underlying25 rfl size_tx rfl ?_)
                    | (refine wpList_store_any3 25 [.slice none 0 0, .slice none 0 0, .int .i64 0] [.slice none 0 0, .slice none 0 0, .int .i64 0] w.heap.size rfl (.tmp 2) (.tmp 182) rfl rfl rfl rfl HS9.out.res size_tx rfl rfl (by intro v hv; simp only [List.mem_cons, List.not_mem_nil, or_false] at hv; rcases hv with rfl | rfl | rfl <;> rfl) ?_; intro w9 hi9 hw9; have hbr : But w.heap.size _ w9 := (by rw [hw9]; exact But.row _ w.heap.size _); clear hw9))
                  have hrd := HRD.out
                  exact bodyPost_ret (v := .tuple #[.agg #[.slice none 0 0, .slice none 0 0, .int .i64 0], .bool false]) (results_cell2 Tryz.results13 rfl (hi9.cellsOfS Tryz.underlying25 (by kernel_rfl))) rfl ⟨⟨_, by rw [hrd]; rfl, fun _ => rfl, fun t ht => by rw [hrd] at ht; cases ht⟩, HS9.out.below.trans (hbr.under HS9.out.below.size (Nat.le_refl _))⟩
              · have hrd : Tm.read l = none := by
                  rw [← HREAD.out]
                  unfold Tm.rRead
                  rw [hrt, Option.bind_some, if_neg (fun h => hc h.1)]
                have HRD := hide hrd
                have HC := hide hc
                obtain ⟨cc, hcc⟩ : ∃ c, c = Tm.check (TxV.mk (.slice ia ki ic) L (.slice vb k2 vd) L2 (m4 : Int)).it := ⟨_, rfl⟩
                have hcn : ¬ cc = 0 := by rw [hcc]; exact hc
                have HCC := hide hcc
                clear hrt hc hrd hcc
                go_wp2_with (first
                  | (refine wpList_store_any3 77 (PtL (.slice ba bn bc) (some q2)) (PtL (.slice ba bn bc) (some q4)) w1.heap.size rfl (.tmp 5) (.tmp 164) rfl rfl rfl rfl HS4.out.pt size_part (ptL_len _ _) (ptL_len _ _) (ptL_one _ rfl _) ?_; intro w5 hiw5 hw5; have HS5 := hide (HS4.out.store (some q4) hw5); have HBT5 : Hid (But w1.heap.size _ w5) := (by rw [hw5]; exact hide (But.row _ w1.heap.size _)); have HF5 : Hid (FinS w w1.heap.size w4.heap.size (fun W => HasTx W (TxV.mk (.slice ia ki ic) L (.slice vb k2 vd) L2 (m4 : Int))) w5) := (by rw [hw5]; exact hide (HF4.out.but (But.row _ w1.heap.size _) (.inl (Nat.le_refl _)) (by have := HB5.out; omega))); have HF6 := hide (HF5.out.but (But.cell w5 (w.heap.size + 1) 2 (.int .i64 (m4 : Int))) (.inl (by have := HB5.out; omega)) (by omega)); clear hiw5 hw5; have hcT := HS5.out.tx.cell 2; have hfT := HS5.out.tx.frozen; simp only [PtL, List.set_cons_zero, List.set_cons_succ, List.getElem?_cons_zero, List.getElem?_cons_succ] at hcT; have HS6 := hide (HS5.out.set 2 (.int .i64 (m4 : Int))); have hcP := HS6.out.pt.cell 2; simp only [PtL, List.set_cons_zero, List.set_cons_succ, List.getElem?_cons_zero, List.getElem?_cons_succ] at hcP)
                  | (go_at_call 4; refine (rtxFault_any (TxV.mk (.slice ia ki ic) L (.slice vb k2 vd) L2 (m4 : Int)) _ HF6.out.out).mono ?_; rintro e w6 ⟨rfl, hb6⟩; rw [← HCC.out]; have HS7 := hide (HS6.out.call hb6))
                  | (refine wpList_load_partG 25 [.slice ia ki ic, .slice vb k2 vd, .int .i64 (m4 : Int)] (w.heap.size + 1) 0 (by rfl) (.tmp 4) rfl rfl (is_range HS6.out.tx) Tryz.underlying25 rfl size_tx rfl ?_)
                  | (refine wpList_store_any3 25 [.slice none 0 0, .slice none 0 0, .int .i64 0] [.slice none 0 0, .slice none 0 0, .int .i64 0] w.heap.size rfl (.tmp 2) (.tmp 182) rfl rfl rfl rfl HS7.out.res size_tx rfl rfl (by intro v hv; simp only [List.mem_cons, List.not_mem_nil, or_false] at hv; rcases hv with rfl | rfl | rfl <;> rfl) ?_; intro w9 hi9 hw9; have hbr : But w.heap.size _ w9 := (by rw [hw9]; exact But.row _ w.heap.size _); clear hw9))
                have hrd := HRD.out
                exact bodyPost_ret (v := .tuple #[.agg #[.slice none 0 0, .slice none 0 0, .int .i64 0], .bool false]) (results_cell2 Tryz.results13 rfl (hi9.cellsOfS Tryz.underlying25 (by kernel_rfl))) rfl ⟨⟨_, by rw [hrd]; rfl, fun _ => rfl, fun t ht => by rw [hrd] at ht; cases ht⟩, HS7.out.below.trans (hbr.under HS7.out.below.size (Nat.le_refl _))⟩
end Go.Proofs.YtbdnbjemocjlaaaGreatDoor
