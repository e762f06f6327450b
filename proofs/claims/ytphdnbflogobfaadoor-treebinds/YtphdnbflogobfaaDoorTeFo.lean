/- The contract of tree.Fold. -/
import Derived.Test.YtphdnbflogobfaaDoorTeTp
namespace Go.Proofs.YtphdnbflogobfaaDoor
open Go.RowKit
set_option linter.unusedVariables false
set_option linter.unusedSimpArgs false

/-- What Fold tells. -/
def foldE (i n : Int) (pl : Nat) : Int := if n < 1 ∨ 256 < n ∨ i < 0 ∨ n ≤ i then 2 else if pl ≠ Te.long i.toNat n.toNat then 3 else 0
def foldD (l : List Int) (i n : Int) (PS : List (List Int)) : List Int := if foldE i n PS.length = 0 then Te.folded l i.toNat n.toNat PS else List.replicate 32 0
theorem up_ok (BS : List Bool) : ∀ (l : List Int) (PS : List (List Int)), l.length = 32 → Sz.Byt l → (Te.up l BS PS).length = 32 ∧ Sz.Byt (Te.up l BS PS) := by
  induction BS with
  | nil => intro l PS h1 h2; exact ⟨h1, h2⟩
  | cons b BS ih =>
    intro l PS h1 h2
    cases PS with
    | nil => exact ⟨h1, h2⟩
    | cons p PS =>
      have : (Te.up1 l b p).length = 32 ∧ Sz.Byt (Te.up1 l b p) := by unfold Te.up1; split <;> exact ⟨Te.nd_length _ _, Te.nd_byt _ _⟩
      exact ih _ PS this.1 this.2
theorem up_next (BS : List Bool) (l : List Int) (PS : List (List Int)) (k : Nat) (h : BS.length = PS.length) (hk : k < PS.length) : Te.up l (BS.take (k + 1)) (PS.take (k + 1)) = Te.up1 (Te.up l (BS.take k) (PS.take k)) (BS.getD k false) (PS.getD k []) := by
  have e1 : BS.take (k + 1) = BS.take k ++ [BS.getD k false] := by rw [List.take_succ_eq_append_getElem (by omega)]; simp [List.getD, List.getElem?_eq_getElem (show k < BS.length by omega)]
  have e2 : PS.take (k + 1) = PS.take k ++ [PS.getD k []] := by rw [List.take_succ_eq_append_getElem hk]; simp [List.getD, List.getElem?_eq_getElem hk]
  rw [e1, e2, Te.up_snoc _ _ _ _ _ (by rw [List.length_take, List.length_take]; omega)]
theorem foldD_ok (l : List Int) (i n : Int) (PS : List (List Int)) (h1 : l.length = 32) (h2 : Sz.Byt l) : (foldD l i n PS).length = 32 ∧ Sz.Byt (foldD l i n PS) := by
  unfold foldD
  split
  · exact up_ok _ _ _ h1 h2
  · exact ⟨by simp, fun x hx => by rw [List.eq_of_mem_replicate hx]; omega⟩
theorem OwnBools.only {w w' : World} {base g : Nat} {v : Value} {BS : List Bool} (h : OwnBools w base v BS) (hb : Bt g w w') (hg : g < base) : OwnBools w' base v BS := by
  refine ⟨h.1, ?_⟩
  rcases h.2 with h0 | ⟨g', cap, cur, rfl, hbg, hg', hn, hc, hs, ht⟩
  · exact .inl h0
  · have hlt : g' < w.heap.size := (Array.getElem?_eq_some_iff.1 hg').1
    exact .inr ⟨g', cap, cur, rfl, hbg, by rw [hb.block g' hlt (by omega)]; exact hg', hn, hc, hs, ht⟩

set_option maxRecDepth 100000 in
set_option maxHeartbeats 400000 in
theorem fold_bad (l : List Int) (i n : Int) (v : Value) (PS : List (List Int)) (w : World) (hl : l.length = 32) (hd : HasDigs w v PS) (hbad : n < 1 ∨ 256 < n ∨ i < 0 ∨ n ≤ i) :
    Calls Tryd.prog 19 #[.agg (vals l).toArray, .int .i64 i, .int .i64 n, v] w fun e w' => e = .returned (.tuple #[.agg (vals (List.replicate 32 0)).toArray, .iface 24 (.int .i64 2)]) ∧ Below w.heap.size w w' := by
  obtain ⟨a, cap, rfl, hc, hm⟩ := hd.form
  have hzd := zero_dig
  obtain ⟨Z, hZ⟩ : ∃ Z, Z = vals (List.replicate 32 0) := ⟨_, rfl⟩
  rw [← hZ] at hzd ⊢
  have hZl : Z.length = 32 := by rw [hZ]; simp [vals]
  have hZp : ¬ Z = [] := by intro h; rw [h] at hZl; cases hZl
  have HZL := hide hZl
  have HZE := hide hZ
  have HJ0 : Hid (Is ((w.alloc (.cells (vals l).toArray 26)).alloc (.cells Z.toArray 26)) (w.heap.size + 1) Z 26) := Is.new' _ 26 (by simp)
  have HB := hide (below_alloc2 w (.cells (vals l).toArray 26) (.cells Z.toArray 26))
  generalize PS.length = m at *
  clear hd hZ hZl
  have hcases : n < 1 ∨ (¬ n < 1 ∧ 256 < n) ∨ (¬ n < 1 ∧ ¬ 256 < n ∧ i < 0) ∨ (¬ n < 1 ∧ ¬ 256 < n ∧ ¬ i < 0 ∧ n ≤ i) := by omega
  clear hbad
  rcases hcases with h1 | ⟨h1, h2⟩ | ⟨h1, h2, h3⟩ | ⟨h1, h2, h3, h4⟩
  · go_enter Tryd.func19, Tryd.ntmps19
    go_wp2_with (refine te_store Z (List.replicate 32 0) (w.heap.size + 1) rfl (.tmp 8) (.tmp 28) rfl rfl (by rw [← HZE.out]; rfl) rfl HJ0.out HZL.out (by simp) ?_; intro w7 hi7 hb7 hz7)
    rw [← HZE.out] at hi7
    have hr := hi7.cellsOf Tryd.underlying26 (by rw [HZL.out]; exact size_dig)
    exact bodyPost_ret (v := .tuple #[.agg Z.toArray, .iface 24 (.int .i64 2)]) (results_cell2 Tryd.results19 rfl hr) rfl ⟨rfl, HB.out.trans (hb7.under HB.out.size (Nat.le_succ _))⟩
  · go_enter Tryd.func19, Tryd.ntmps19
    go_wp2_with (refine te_store Z (List.replicate 32 0) (w.heap.size + 1) rfl (.tmp 8) (.tmp 28) rfl rfl (by rw [← HZE.out]; rfl) rfl HJ0.out HZL.out (by simp) ?_; intro w7 hi7 hb7 hz7)
    rw [← HZE.out] at hi7
    have hr := hi7.cellsOf Tryd.underlying26 (by rw [HZL.out]; exact size_dig)
    exact bodyPost_ret (v := .tuple #[.agg Z.toArray, .iface 24 (.int .i64 2)]) (results_cell2 Tryd.results19 rfl hr) rfl ⟨rfl, HB.out.trans (hb7.under HB.out.size (Nat.le_succ _))⟩
  · go_enter Tryd.func19, Tryd.ntmps19
    go_wp2_with (refine te_store Z (List.replicate 32 0) (w.heap.size + 1) rfl (.tmp 8) (.tmp 28) rfl rfl (by rw [← HZE.out]; rfl) rfl HJ0.out HZL.out (by simp) ?_; intro w7 hi7 hb7 hz7)
    rw [← HZE.out] at hi7
    have hr := hi7.cellsOf Tryd.underlying26 (by rw [HZL.out]; exact size_dig)
    exact bodyPost_ret (v := .tuple #[.agg Z.toArray, .iface 24 (.int .i64 2)]) (results_cell2 Tryd.results19 rfl hr) rfl ⟨rfl, HB.out.trans (hb7.under HB.out.size (Nat.le_succ _))⟩
  · go_enter Tryd.func19, Tryd.ntmps19
    go_wp2_with (refine te_store Z (List.replicate 32 0) (w.heap.size + 1) rfl (.tmp 8) (.tmp 28) rfl rfl (by rw [← HZE.out]; rfl) rfl HJ0.out HZL.out (by simp) ?_; intro w7 hi7 hb7 hz7)
    rw [← HZE.out] at hi7
    have hr := hi7.cellsOf Tryd.underlying26 (by rw [HZL.out]; exact size_dig)
    exact bodyPost_ret (v := .tuple #[.agg Z.toArray, .iface 24 (.int .i64 2)]) (results_cell2 Tryd.results19 rfl hr) rfl ⟨rfl, HB.out.trans (hb7.under HB.out.size (Nat.le_succ _))⟩

set_option maxRecDepth 100000 in
set_option maxHeartbeats 400000 in
theorem fold_len (l : List Int) (i n : Nat) (v : Value) (PS : List (List Int)) (w : World) (hl : l.length = 32) (hd : HasDigs w v PS) (h1 : 1 ≤ n) (h2 : n ≤ 256) (h3 : i < n) (hpl : PS.length ≠ Te.long i n) :
    Calls Tryd.prog 19 #[.agg (vals l).toArray, .int .i64 (i : Int), .int .i64 (n : Int), v] w fun e w' => e = .returned (.tuple #[.agg (vals (List.replicate 32 0)).toArray, .iface 24 (.int .i64 3)]) ∧ Below w.heap.size w w' := by
  obtain ⟨a, cap, rfl, hc, hm⟩ := hd.form
  have HSI := hide (fun W => sides_any n i W h1 h2 h3)
  have hzd := zero_dig
  obtain ⟨Z, hZ⟩ : ∃ Z, Z = vals (List.replicate 32 0) := ⟨_, rfl⟩
  rw [← hZ] at hzd ⊢
  have hZl : Z.length = 32 := by rw [hZ]; simp [vals]
  have hZp : ¬ Z = [] := by intro h; rw [h] at hZl; cases hZl
  have HZL := hide hZl
  have HZE := hide hZ
  have HJ0 : Hid (Is ((w.alloc (.cells (vals l).toArray 26)).alloc (.cells Z.toArray 26)) (w.heap.size + 1) Z 26) := Is.new' _ 26 (by simp)
  have HB := hide (below_alloc2 w (.cells (vals l).toArray 26) (.cells Z.toArray 26))
  unfold Te.long at hpl
  generalize PS.length = m at *
  generalize Te.sides i n = BS at *
  have hg1 : ¬ (n : Int) < 1 := by omega
  have hg2 : ¬ (256 : Int) < (n : Int) := by omega
  have hg3 : ¬ (i : Int) < 0 := by omega
  have hg4 : ¬ (n : Int) ≤ (i : Int) := by omega
  clear hd hZ hZl
  go_enter Tryd.func19, Tryd.ntmps19
  go_wp2_with fail
  refine (HSI.out _).mono ?_
  rintro e w1 ⟨u, rfl, ho1, hb1⟩
  obtain ⟨ua, uc, rfl⟩ := ho1.form
  have HB1 := hide (HB.out.trans (hb1.mono HB.out.size))
  have HJ1 := hide (HJ0.out.below hb1 HJ0.out.lt)
  clear hb1 ho1
  generalize BS.length = bl at *
  have hne : ¬ (m : Int) = (bl : Int) := by omega
  have hne2 : ((m : Int) == (bl : Int)) = false := by simpa using hne
  have hne3 : ((m : Int) != (bl : Int)) = true := by simp [bne, hne2]
  go_wp2_with (refine te_store Z (List.replicate 32 0) (w.heap.size + 1) rfl (.tmp 8) (.tmp 38) rfl rfl (by rw [← HZE.out]; rfl) rfl HJ1.out HZL.out (by simp) ?_; intro w7 hi7 hb7 hz7)
  rw [← HZE.out] at hi7
  have hr := hi7.cellsOf Tryd.underlying26 (by rw [HZL.out]; exact size_dig)
  exact bodyPost_ret (v := .tuple #[.agg Z.toArray, .iface 24 (.int .i64 3)]) (results_cell2 Tryd.results19 rfl hr) rfl ⟨rfl, HB1.out.trans (hb7.under HB1.out.size (Nat.le_succ _))⟩

set_option maxRecDepth 100000 in
set_option maxHeartbeats 1000000 in
theorem fold_good (l : List Int) (i n : Nat) (v : Value) (PS : List (List Int)) (w : World) (hl : l.length = 32) (hlb : Sz.Byt l) (hd : HasDigs w v PS) (h1 : 1 ≤ n) (h2 : n ≤ 256) (h3 : i < n) (hpl : PS.length = Te.long i n) (ht : Tab w) (hw : 1 < w.heap.size) :
    Calls Tryd.prog 19 #[.agg (vals l).toArray, .int .i64 (i : Int), .int .i64 (n : Int), v] w fun e w' => e = .returned (.tuple #[.agg (vals (Te.folded l i n PS)).toArray, .nilIface]) ∧ Below w.heap.size w w' := by
  obtain ⟨a, cap, rfl, hc, hm⟩ := hd.form
  have HSI := hide (fun W => sides_any n i W h1 h2 h3)
  have HT := hide ht
  have HD := hide hd
  have HUP := hide (fun k => up_ok ((Te.sides i n).take k) l (PS.take k) hl hlb)
  have HUN := hide (fun k (hk : k < PS.length) => up_next (Te.sides i n) l PS k hpl.symm hk)
  have HPG := hide (fun k (hk : k < PS.length) => DigOk.get hd.2 k hk)
  have HEND : Hid (Te.folded l i n PS = Te.up l ((Te.sides i n).take PS.length) (PS.take PS.length)) := hide (by
    rw [List.take_of_length_le (Nat.le_refl _), List.take_of_length_le (by rw [hpl]; exact Nat.le_refl _)]; rfl)
  rw [HEND.out]
  have HST : Hid (Te.up l ((Te.sides i n).take 0) (PS.take 0) = l) := hide (by simp [Te.up])
  have hZl : (vals (List.replicate 32 (0 : Int))).length = 32 := by simp [vals]
  have HI0 := hide ((Is.new w (vals l) 26).alloc (.cells (vals (List.replicate 32 0)).toArray 26))
  have HJ0 : Hid (Is ((w.alloc (.cells (vals l).toArray 26)).alloc (.cells (vals (List.replicate 32 0)).toArray 26)) (w.heap.size + 1) (vals (List.replicate 32 0)) 26) := Is.new' _ 26 (by simp)
  have HB := hide (below_alloc2 w (.cells (vals l).toArray 26) (.cells (vals (List.replicate 32 0)).toArray 26))
  have hsz2 : w.heap.size + 2 = ((w.alloc (.cells (vals l).toArray 26)).alloc (.cells (vals (List.replicate 32 0)).toArray 26)).heap.size := by simp
  have HLL := hide hl
  have hm8 : PS.length ≤ 8 := by rw [hpl]; exact long_small i n h1 h2
  unfold Te.long at hpl
  generalize Te.sides i n = BS at *
  obtain ⟨m, hmm⟩ : ∃ m, m = PS.length := ⟨_, rfl⟩
  rw [← hmm] at hpl HUN HPG hc hm8 ⊢
  have HMM := hide hmm
  have HPL := hide hpl
  have hg1 : ¬ (n : Int) < 1 := by omega
  have hg2 : ¬ (256 : Int) < (n : Int) := by omega
  have hg3 : ¬ (i : Int) < 0 := by omega
  have hg4 : ¬ (n : Int) ≤ (i : Int) := by omega
  clear hd hlb ht HEND hmm hl
  go_enter Tryd.func19, Tryd.ntmps19
  go_wp2_with fail
  refine (HSI.out _).mono ?_
  rintro e w1 ⟨u, rfl, ho1, hb1⟩
  obtain ⟨ua, uc, rfl⟩ := ho1.form
  have HB1 := hide (HB.out.trans (hb1.mono HB.out.size))
  have HI1 := hide (HI0.out.below hb1 HI0.out.lt)
  have HJ1 := hide (HJ0.out.below hb1 HJ0.out.lt)
  have HO1 := hide (ho1.low (base' := w.heap.size + 2) (by simp))
  rw [← hpl]
  have hne3 : ((m : Int) != (m : Int)) = false := by simp
  clear hb1 ho1 hpl HI0 HJ0 HB HSI
  go_wp2
  go_loopw [42] (fun c wr => ∃ k : Nat, k ≤ m ∧ c = .int .i64 k ∧ Is wr w.heap.size (vals (Te.up l (BS.take k) (PS.take k))) 26 ∧ Is wr (w.heap.size + 1) (vals (List.replicate 32 0)) 26 ∧ OwnBools wr (w.heap.size + 2) (.slice ua m uc) BS ∧ Below w.heap.size w wr) (fun c _ => m - (intOf c).toNat)
  case atStart => exact ⟨0, by omega, rfl, by rw [HST.out]; exact HI1.out, HJ1.out, by rw [HPL.out]; exact HO1.out, HB1.out⟩
  case round =>
    obtain ⟨k, hk, rfl, hi, hj, ho, hb⟩ := hrel
    clear HI1 HJ1 HO1 HB1
    have hul := HUP.out k
    by_cases hkm : k < m
    · have hkn : (k : Int) < (m : Int) := by omega
      have hun := HUN.out k hkm
      have hpg := HPG.out k hkm
      have hnl := HUP.out (k + 1)
      obtain ⟨g, gc, hge, hgb, hgl, hg1c, hg2c, hcells⟩ := ho.cells (by rw [← HPL.out]; omega)
      injection hge with e1 e2 e3
      subst e1 e3
      clear e2
      have hcell := hcells k (by rw [← HPL.out]; omega)
      obtain ⟨b, off, capx, hv, _, _, hat⟩ := HD.out.at' (by rw [← HMM.out]; omega)
      injection hv with f1 f2 f3
      subst f1 f3
      clear f2
      have hrng := (hat.below hb).2.2 k (by rw [← HMM.out]; exact hkm)
      have hun2 : Te.up l (BS.take (k + 1)) (PS.take (k + 1)) = (if BS.getD k false then Te.nd (PS.getD k []) (Te.up l (BS.take k) (PS.take k)) else Te.nd (Te.up l (BS.take k) (PS.take k)) (PS.getD k [])) := hun
      clear hun
      obtain ⟨Y, hY⟩ : ∃ Y, Y = Te.up l (BS.take (k + 1)) (PS.take (k + 1)) := ⟨_, rfl⟩
      rw [← hY] at hun2 hnl
      have HY := hide hY
      clear hY hcells hat
      generalize Te.up l (BS.take k) (PS.take k) = X at *
      generalize PS.getD k [] = P at *
      have HRNG := hide hrng
      have HPG1 := hide hpg
      have HXL := hide hul
      have HYL := hide hnl
      have HI := hide hi
      have HJ := hide hj
      have HO := hide ho
      have HBB := hide hb
      have htb : Tab wr := HT.out.below hb hw
      have HTB := hide htb
      have hwl : w.heap.size < wr.heap.size := hi.lt
      have hwl1 : w.heap.size + 1 < wr.heap.size := hj.lt
      have hgw : 1 < wr.heap.size := by omega
      clear hrng hpg hul hnl hi hj ho hb htb
      obtain ⟨wA, hwA⟩ : ∃ wA, wA = wr := ⟨_, rfl⟩
      rw [← hwA] at HRNG HI HJ HO HBB HTB hwl hwl1 hgw hcell hgl ⊢
      clear hwA
      by_cases hs : BS.getD k false = true
      · rw [hs] at hun2 hcell
        simp only [if_true] at hun2
        go_wp2_with (first
          | (refine te_load P b (off + k * 32) rfl (.tmp 45) rfl rfl HRNG.out HPG1.out.1 ?_)
          | (refine te_store (vals (List.replicate 32 0)) P wA.heap.size rfl (.tmp 12) (.tmp 46) rfl rfl rfl rfl (Is.new wA _ _) hZl HPG1.out.1 ?_; intro w4 hi4 hb4 hz4; have hb4' : Below wA.heap.size wA w4 := (below_alloc wA (.cells (vals (List.replicate 32 0)).toArray 26)).trans (hb4.under (below_alloc wA _).size (Nat.le_refl _)); have hI4 := HI.out.below hb4' hwl; have hJ4 := HJ.out.below hb4' hwl1; have hO4 := HO.out.below hb4'; have hcell4 : w4.cell? ⟨g, k, none⟩ = some (.bool true) := (hb4'.cell (p := ⟨g, k, none⟩) hgl).trans hcell)
          | (refine te_load P wA.heap.size 0 rfl (.tmp 12) rfl rfl hi4.range HPG1.out.1 ?_)
          | (refine te_load X w.heap.size 0 rfl (.tmp 4) rfl rfl hI4.range HXL.out.1 ?_)
          | (go_at_call 20; refine (node_any P X w4 HPG1.out.1 HXL.out.1 HPG1.out.2 HXL.out.2 (HTB.out.below hb4' hgw) (Nat.lt_of_lt_of_le hgw hb4'.size)).mono ?_; rintro e w5 ⟨rfl, hb5⟩; have hI5 := hI4.below hb5 hI4.lt; have hJ5 := hJ4.below hb5 hJ4.lt; have hO5 := hO4.below hb5)
          | (refine te_store (vals X) (Te.nd P X) w.heap.size rfl (.tmp 4) (.tmp 53) rfl rfl rfl rfl hI5 (by rw [vals_length]; exact HXL.out.1) (Te.nd_length _ _) ?_; intro w7 hi7 hb7 hz7))
        go_roundw
        case rel =>
          refine ⟨k + 1, by omega, by go_num, by rw [← HY.out, hun2]; exact hi7, hJ5.only hb7 hJ5.lt (by omega), hO5.only hb7 (by omega), ?_⟩
          exact (HBB.out.trans ((hb4'.mono HBB.out.size).trans (hb5.mono (Nat.le_trans HBB.out.size hb4'.size)))).trans (hb7.under (Nat.le_trans HBB.out.size (Nat.le_trans hb4'.size hb5.size)) (Nat.le_refl _))
        case measure => simp [intOf]; omega
      · have hs2 : BS.getD k false = false := by simpa using hs
        rw [hs2] at hun2 hcell
        simp only [Bool.false_eq_true, if_false] at hun2
        go_wp2_with (first
          | (refine te_load P b (off + k * 32) rfl (.tmp 45) rfl rfl HRNG.out HPG1.out.1 ?_)
          | (refine te_store (vals (List.replicate 32 0)) P wA.heap.size rfl (.tmp 12) (.tmp 46) rfl rfl rfl rfl (Is.new wA _ _) hZl HPG1.out.1 ?_; intro w4 hi4 hb4 hz4; have hb4' : Below wA.heap.size wA w4 := (below_alloc wA (.cells (vals (List.replicate 32 0)).toArray 26)).trans (hb4.under (below_alloc wA _).size (Nat.le_refl _)); have hI4 := HI.out.below hb4' hwl; have hJ4 := HJ.out.below hb4' hwl1; have hO4 := HO.out.below hb4'; have hcell4 : w4.cell? ⟨g, k, none⟩ = some (.bool false) := (hb4'.cell (p := ⟨g, k, none⟩) hgl).trans hcell)
          | (refine te_load P wA.heap.size 0 rfl (.tmp 12) rfl rfl hi4.range HPG1.out.1 ?_)
          | (refine te_load X w.heap.size 0 rfl (.tmp 4) rfl rfl hI4.range HXL.out.1 ?_)
          | (go_at_call 20; refine (node_any X P w4 HXL.out.1 HPG1.out.1 HXL.out.2 HPG1.out.2 (HTB.out.below hb4' hgw) (Nat.lt_of_lt_of_le hgw hb4'.size)).mono ?_; rintro e w5 ⟨rfl, hb5⟩; have hI5 := hI4.below hb5 hI4.lt; have hJ5 := hJ4.below hb5 hJ4.lt; have hO5 := hO4.below hb5)
          | (refine te_store (vals X) (Te.nd X P) w.heap.size rfl (.tmp 4) (.tmp 56) rfl rfl rfl rfl hI5 (by rw [vals_length]; exact HXL.out.1) (Te.nd_length _ _) ?_; intro w7 hi7 hb7 hz7))
        go_roundw
        case rel =>
          refine ⟨k + 1, by omega, by go_num, by rw [← HY.out, hun2]; exact hi7, hJ5.only hb7 hJ5.lt (by omega), hO5.only hb7 (by omega), ?_⟩
          exact (HBB.out.trans ((hb4'.mono HBB.out.size).trans (hb5.mono (Nat.le_trans HBB.out.size hb4'.size)))).trans (hb7.under (Nat.le_trans HBB.out.size (Nat.le_trans hb4'.size hb5.size)) (Nat.le_refl _))
        case measure => simp [intOf]; omega
    · have hkn : ¬ (k : Int) < (m : Int) := by omega
      have hke : k = m := by omega
      subst hke
      obtain ⟨X, hX⟩ : ∃ X, X = Te.up l (BS.take k) (PS.take k) := ⟨_, rfl⟩
      rw [← hX] at hi hul
      have HX := hide hX
      clear hX
      have HI := hide hi
      have HJ := hide hj
      have HXL := hide hul
      have hlt := hi.lt
      clear hi hj hul
      go_wp2_with (first
        | (refine te_load X w.heap.size 0 rfl (.tmp 4) rfl rfl HI.out.range HXL.out.1 ?_)
        | (refine te_store (vals (List.replicate 32 0)) X (w.heap.size + 1) rfl (.tmp 8) (.tmp 58) rfl rfl rfl rfl HJ.out hZl HXL.out.1 ?_; intro w7 hi7 hb7 hz7))
      have hr := hi7.cellsOf Tryd.underlying26 (by rw [vals_length, HXL.out.1]; exact size_dig)
      exact bodyPost_ret (v := .tuple #[.agg (vals X).toArray, .nilIface]) (results_cell2 Tryd.results19 rfl hr) rfl ⟨by rw [HX.out], hb.trans (hb7.under hb.size (Nat.le_succ _))⟩

theorem fold_any (l : List Int) (i n : Int) (v : Value) (PS : List (List Int)) (w : World) (hl : l.length = 32) (hlb : Sz.Byt l) (hd : HasDigs w v PS) (ht : Tab w) (hw : 1 < w.heap.size) :
    Calls Tryd.prog 19 #[.agg (vals l).toArray, .int .i64 i, .int .i64 n, v] w fun e w' => e = .returned (.tuple #[.agg (vals (foldD l i n PS)).toArray, errV (foldE i n PS.length)]) ∧ Below w.heap.size w w' := by
  by_cases hbad : n < 1 ∨ 256 < n ∨ i < 0 ∨ n ≤ i
  · have e : foldE i n PS.length = 2 := by unfold foldE; rw [if_pos hbad]
    have e2 : foldD l i n PS = List.replicate 32 0 := by unfold foldD; rw [e, if_neg (by omega)]
    rw [e, e2, errV_two']
    exact fold_bad l i n v PS w hl hd hbad
  · obtain ⟨i, rfl⟩ : ∃ k : Nat, i = k := ⟨i.toNat, by omega⟩
    obtain ⟨n, rfl⟩ : ∃ k : Nat, n = k := ⟨n.toNat, by omega⟩
    by_cases hpl : PS.length = Te.long i n
    · have e : foldE i n PS.length = 0 := by unfold foldE; rw [if_neg hbad, if_neg (by simpa using hpl)]
      have e2 : foldD l i n PS = Te.folded l i n PS := by unfold foldD; rw [e, if_pos rfl]; rfl
      rw [e, e2, show errV 0 = .nilIface from rfl]
      exact fold_good l i n v PS w hl hlb hd (by omega) (by omega) (by omega) hpl ht hw
    · have e : foldE i n PS.length = 3 := by unfold foldE; rw [if_neg hbad, if_pos (by simpa using hpl)]
      have e2 : foldD l i n PS = List.replicate 32 0 := by unfold foldD; rw [e, if_neg (by omega)]
      rw [e, e2, show errV 3 = .iface 24 (.int .i64 3) from rfl]
      exact fold_len l i n v PS w hl hd (by omega) (by omega) (by omega) hpl
end Go.Proofs.YtphdnbflogobfaaDoor
