/- The walk of TreeSound: one leaf at a place. -/
import Derived.Test.YtphdnbflogobfaaDoorTeCl
import Derived.Test.YtphdnbflogobfaaDoorTeRo
namespace Go.Proofs.YtphdnbflogobfaaDoor
open Go.RowKit
set_option linter.unusedVariables false
set_option linter.unusedSimpArgs false

theorem te_errV_ne {c : Int} (h : c ≠ 0) : errV c = .iface 24 (.int .i64 c) := by unfold errV; rw [if_neg h]
theorem foldE_zero {i n : Int} {q : Nat} (h : foldE i n q = 0) : 1 ≤ n ∧ n ≤ 256 ∧ 0 ≤ i ∧ i < n ∧ q = Te.long i.toNat n.toNat := by
  unfold foldE at h
  by_cases h1 : n < 1 ∨ 256 < n ∨ i < 0 ∨ n ≤ i
  · rw [if_pos h1] at h; cases h
  · rw [if_neg h1] at h
    by_cases h2 : q ≠ Te.long i.toNat n.toNat
    · rw [if_pos h2] at h; cases h
    · exact ⟨by omega, by omega, by omega, by omega, Decidable.byContradiction h2⟩

set_option maxRecDepth 100000 in
set_option maxHeartbeats 4000000 in
theorem treeSound_walk (a : List Int) (v : Value) (PS : List (List Int)) (b : List Int) (u : Value) (QS : List (List Int)) (i n : Int) (w : World) (ha : a.length = 32) (hab : Sz.Byt a) (hd : HasDigs w v PS) (hb : b.length = 32) (hbb : Sz.Byt b) (he : HasDigs w u QS) (ht : Tab w) (hw : 1 < w.heap.size) :
    Calls Tryd.prog 6 #[.agg (vals a).toArray, v, .agg (vals b).toArray, u, .int .i64 i, .int .i64 n] w fun e w' => e = .returned (.bool true) ∧ Below w.heap.size w w' := by
  have HS0 : Hid (BoxS w [(w.heap.size + 1, b), (w.heap.size, a)] ((w.alloc (.cells (vals a).toArray 26)).alloc (.cells (vals b).toArray 26))) := ⟨below_alloc2 w _ _, fun p hp => by
    rcases List.mem_cons.1 hp with rfl | hp
    · exact Is.new' _ 26 (by simp)
    · rw [List.mem_singleton.1 hp]; exact (Is.new w (vals a) 26).alloc _⟩
  have HRO := hide (fun W (hW : Below w.heap.size w W) => rooted_any W (ht.below hW hw) (Nat.lt_of_lt_of_le hw hW.size))
  have HFA := hide (fun W (hW : Below w.heap.size w W) => fold_any a i n v PS W ha hab (hd.below hW) (ht.below hW hw) (Nat.lt_of_lt_of_le hw hW.size))
  have HFB := hide (fun W (hW : Below w.heap.size w W) => fold_any b i n u QS W hb hbb (he.below hW) (ht.below hW hw) (Nat.lt_of_lt_of_le hw hW.size))
  have hX := (foldD_ok a i n PS ha hab).1
  have hY := (foldD_ok b i n QS hb hbb).1
  have HA32 := hide ha
  have HB32 := hide hb
  have hgd := guard_dig
  have hqab := fun w' => dig_eq a b ha hb w'
  obtain ⟨a1, c1, rfl, _, _⟩ := hd.form
  obtain ⟨a2, c2, rfl, _, _⟩ := he.form
  by_cases hp0 : foldE i n PS.length = 0
  · by_cases hq0 : foldE i n QS.length = 0
    · rw [hp0, show errV 0 = .nilIface from rfl] at HFA
      rw [hq0, show errV 0 = .nilIface from rfl] at HFB
      by_cases hxy : foldD a i n PS = foldD b i n QS
      · by_cases heq : a = b
        · rw [decide_eq_true heq] at hqab
          have hqxy := fun w' => dig_eq _ _ hX hY w'
          rw [decide_eq_true hxy] at hqxy
          generalize foldD a i n PS = X at *
          generalize foldD b i n QS = Y at *
          have HX := hide hX
          have HY := hide hY
          generalize PS.length = q at *
          generalize QS.length = r at *
          clear hd he ha hab hb hbb ht hX hY hxy heq
          go_enter Tryd.func6, Tryd.ntmps6
          go_wp2_with (first
            | (go_at_call 22; refine (HRO.out _ HS0.out.below).mono ?_; rintro e w1 ⟨rfl, hb1⟩; have HSw1 := hide (HS0.out.call hb1); clear hb1)
            | (refine te_load b (w.heap.size + 1) 0 rfl (.tmp 8) rfl rfl ((HSw3.out.get (w.heap.size + 1) b (by simp)).range) HB32.out ?_)
            | (go_at_call 19; have hx3 := HSw3; clear hx3; refine (HFB.out _ HSw3.out.below).mono ?_; rintro e w4 ⟨rfl, hb4⟩; have HSw4 := hide (HSw3.out.call hb4); clear hb4)
            | (refine te_store (vals (List.replicate 32 0)) Y w4.heap.size rfl (.tmp 16) (.tmp 36) rfl rfl rfl rfl (Is.new w4 _ _) (by simp [vals]) HY.out ?_; intro w5 hiw5 hbw5 hzw5; have hbw5' : Below w4.heap.size w4 w5 := (below_alloc w4 (.cells (vals (List.replicate 32 0)).toArray 26)).trans (hbw5.under (below_alloc w4 _).size (Nat.le_refl _)); have HSw5 := hide (HSw4.out.new hbw5' hiw5); clear hiw5 hbw5 hbw5' hzw5)
            | (refine te_load a (w.heap.size) 0 rfl (.tmp 6) rfl rfl ((HSw1.out.get (w.heap.size) a (by simp)).range) HA32.out ?_)
            | (go_at_call 19; refine (HFA.out _ HSw1.out.below).mono ?_; rintro e w2 ⟨rfl, hb2⟩; have HSw2 := hide (HSw1.out.call hb2); clear hb2)
            | (refine te_store (vals (List.replicate 32 0)) X w2.heap.size rfl (.tmp 14) (.tmp 28) rfl rfl rfl rfl (Is.new w2 _ _) (by simp [vals]) HX.out ?_; intro w3 hiw3 hbw3 hzw3; have hbw3' : Below w2.heap.size w2 w3 := (below_alloc w2 (.cells (vals (List.replicate 32 0)).toArray 26)).trans (hbw3.under (below_alloc w2 _).size (Nat.le_refl _)); have HSw3 := hide (HSw2.out.new hbw3' hiw3); clear hiw3 hbw3 hbw3' hzw3)
            | (refine wpList_load_arrG 26 (vals X) (w2.heap.size) (.tmp 14) rfl rfl (by rfl) (HSw5.out.get (w2.heap.size) X (by simp)) Tryd.underlying26 size_dig (by rw [vals_length]; exact HX.out) ?_)
            | (refine wpList_load_arrG 26 (vals Y) (w4.heap.size) (.tmp 16) rfl rfl (by rfl) (HSw5.out.get (w4.heap.size) Y (by simp)) Tryd.underlying26 size_dig (by rw [vals_length]; exact HY.out) ?_)
            | (refine wpList_load_arrG 26 (vals a) (w.heap.size) (.tmp 6) rfl rfl (by rfl) (HSw5.out.get (w.heap.size) a (by simp)) Tryd.underlying26 size_dig (by rw [vals_length]; exact HA32.out) ?_)
            | (refine wpList_load_arrG 26 (vals b) (w.heap.size + 1) (.tmp 8) rfl rfl (by rfl) (HSw5.out.get (w.heap.size + 1) b (by simp)) Tryd.underlying26 size_dig (by rw [vals_length]; exact HB32.out) ?_))
          exact bodyPost_ret (v := .bool true) (by simp [results, Tryd.results6]) rfl ⟨rfl, HSw5.out.below⟩
        · obtain ⟨g1, g2, g3, g4, g5⟩ := foldE_zero hp0
          obtain ⟨_, _, _, _, g6⟩ := foldE_zero hq0
          have HCL : Hid (∀ W, Below w.heap.size w W → Calls Tryd.prog 23 #[.agg (vals a).toArray, .slice a1 PS.length c1, .agg (vals b).toArray, .slice a2 QS.length c2, .int .i64 i, .int .i64 n] W fun e w' => e = .returned (.bool true) ∧ Below W.heap.size W w') := hide (fun W hW => by
            have := clash_any n.toNat a b i.toNat _ _ PS QS W ha hab hb hbb (by omega) (by omega) (by omega) (hd.below hW) (he.below hW) g5 (by rw [g5, g6])
            have e : Te.clash a PS b QS i.toNat n.toNat = true := Te.clash_true n.toNat a b PS QS i.toNat (by omega) g5 g6 (by unfold foldD at hxy; rwa [if_pos hp0, if_pos hq0] at hxy) heq
            rwa [e, show ((i.toNat : Nat) : Int) = i by omega, show ((n.toNat : Nat) : Int) = n by omega] at this)
          rw [decide_eq_false heq] at hqab
          have hqxy := fun w' => dig_eq _ _ hX hY w'
          rw [decide_eq_true hxy] at hqxy
          generalize foldD a i n PS = X at *
          generalize foldD b i n QS = Y at *
          have HX := hide hX
          have HY := hide hY
          generalize PS.length = q at *
          generalize QS.length = r at *
          clear hd he ha hab hb hbb ht hX hY hxy heq g1 g2 g3 g4 g5 g6 hp0 hq0
          go_enter Tryd.func6, Tryd.ntmps6
          go_wp2_with (first
            | (refine te_load a (w.heap.size) 0 rfl (.tmp 6) rfl rfl ((HSw5.out.get (w.heap.size) a (by simp)).range) HA32.out ?_)
            | (refine te_load b (w.heap.size + 1) 0 rfl (.tmp 8) rfl rfl ((HSw5.out.get (w.heap.size + 1) b (by simp)).range) HB32.out ?_)
            | (go_at_call 23; refine (HCL.out _ HSw5.out.below).mono ?_; rintro e w6 ⟨rfl, hb6⟩; have HSw6 := hide (HSw5.out.call hb6); clear hb6)
            | (go_at_call 22; refine (HRO.out _ HS0.out.below).mono ?_; rintro e w1 ⟨rfl, hb1⟩; have HSw1 := hide (HS0.out.call hb1); clear hb1)
            | (refine te_load b (w.heap.size + 1) 0 rfl (.tmp 8) rfl rfl ((HSw3.out.get (w.heap.size + 1) b (by simp)).range) HB32.out ?_)
            | (go_at_call 19; have hx3 := HSw3; clear hx3; refine (HFB.out _ HSw3.out.below).mono ?_; rintro e w4 ⟨rfl, hb4⟩; have HSw4 := hide (HSw3.out.call hb4); clear hb4)
            | (refine te_store (vals (List.replicate 32 0)) Y w4.heap.size rfl (.tmp 16) (.tmp 36) rfl rfl rfl rfl (Is.new w4 _ _) (by simp [vals]) HY.out ?_; intro w5 hiw5 hbw5 hzw5; have hbw5' : Below w4.heap.size w4 w5 := (below_alloc w4 (.cells (vals (List.replicate 32 0)).toArray 26)).trans (hbw5.under (below_alloc w4 _).size (Nat.le_refl _)); have HSw5 := hide (HSw4.out.new hbw5' hiw5); clear hiw5 hbw5 hbw5' hzw5)
            | (refine te_load a (w.heap.size) 0 rfl (.tmp 6) rfl rfl ((HSw1.out.get (w.heap.size) a (by simp)).range) HA32.out ?_)
            | (go_at_call 19; refine (HFA.out _ HSw1.out.below).mono ?_; rintro e w2 ⟨rfl, hb2⟩; have HSw2 := hide (HSw1.out.call hb2); clear hb2)
            | (refine te_store (vals (List.replicate 32 0)) X w2.heap.size rfl (.tmp 14) (.tmp 28) rfl rfl rfl rfl (Is.new w2 _ _) (by simp [vals]) HX.out ?_; intro w3 hiw3 hbw3 hzw3; have hbw3' : Below w2.heap.size w2 w3 := (below_alloc w2 (.cells (vals (List.replicate 32 0)).toArray 26)).trans (hbw3.under (below_alloc w2 _).size (Nat.le_refl _)); have HSw3 := hide (HSw2.out.new hbw3' hiw3); clear hiw3 hbw3 hbw3' hzw3)
            | (refine wpList_load_arrG 26 (vals X) (w2.heap.size) (.tmp 14) rfl rfl (by rfl) (HSw5.out.get (w2.heap.size) X (by simp)) Tryd.underlying26 size_dig (by rw [vals_length]; exact HX.out) ?_)
            | (refine wpList_load_arrG 26 (vals Y) (w4.heap.size) (.tmp 16) rfl rfl (by rfl) (HSw5.out.get (w4.heap.size) Y (by simp)) Tryd.underlying26 size_dig (by rw [vals_length]; exact HY.out) ?_)
            | (refine wpList_load_arrG 26 (vals a) (w.heap.size) (.tmp 6) rfl rfl (by rfl) (HSw5.out.get (w.heap.size) a (by simp)) Tryd.underlying26 size_dig (by rw [vals_length]; exact HA32.out) ?_)
            | (refine wpList_load_arrG 26 (vals b) (w.heap.size + 1) (.tmp 8) rfl rfl (by rfl) (HSw5.out.get (w.heap.size + 1) b (by simp)) Tryd.underlying26 size_dig (by rw [vals_length]; exact HB32.out) ?_))
          exact bodyPost_ret (v := .bool true) (by simp [results, Tryd.results6]) rfl ⟨rfl, HSw6.out.below⟩
      · have hqxy := fun w' => dig_eq _ _ hX hY w'
        rw [decide_eq_false hxy] at hqxy
        generalize foldD a i n PS = X at *
        generalize foldD b i n QS = Y at *
        have HX := hide hX
        have HY := hide hY
        generalize PS.length = q at *
        generalize QS.length = r at *
        clear hd he ha hab hb hbb ht hX hY hxy hqab hp0 hq0
        go_enter Tryd.func6, Tryd.ntmps6
        go_wp2_with (first
          | (go_at_call 22; refine (HRO.out _ HS0.out.below).mono ?_; rintro e w1 ⟨rfl, hb1⟩; have HSw1 := hide (HS0.out.call hb1); clear hb1)
          | (refine te_load b (w.heap.size + 1) 0 rfl (.tmp 8) rfl rfl ((HSw3.out.get (w.heap.size + 1) b (by simp)).range) HB32.out ?_)
          | (go_at_call 19; have hx3 := HSw3; clear hx3; refine (HFB.out _ HSw3.out.below).mono ?_; rintro e w4 ⟨rfl, hb4⟩; have HSw4 := hide (HSw3.out.call hb4); clear hb4)
          | (refine te_store (vals (List.replicate 32 0)) Y w4.heap.size rfl (.tmp 16) (.tmp 36) rfl rfl rfl rfl (Is.new w4 _ _) (by simp [vals]) HY.out ?_; intro w5 hiw5 hbw5 hzw5; have hbw5' : Below w4.heap.size w4 w5 := (below_alloc w4 (.cells (vals (List.replicate 32 0)).toArray 26)).trans (hbw5.under (below_alloc w4 _).size (Nat.le_refl _)); have HSw5 := hide (HSw4.out.new hbw5' hiw5); clear hiw5 hbw5 hbw5' hzw5)
          | (refine te_load a (w.heap.size) 0 rfl (.tmp 6) rfl rfl ((HSw1.out.get (w.heap.size) a (by simp)).range) HA32.out ?_)
          | (go_at_call 19; refine (HFA.out _ HSw1.out.below).mono ?_; rintro e w2 ⟨rfl, hb2⟩; have HSw2 := hide (HSw1.out.call hb2); clear hb2)
          | (refine te_store (vals (List.replicate 32 0)) X w2.heap.size rfl (.tmp 14) (.tmp 28) rfl rfl rfl rfl (Is.new w2 _ _) (by simp [vals]) HX.out ?_; intro w3 hiw3 hbw3 hzw3; have hbw3' : Below w2.heap.size w2 w3 := (below_alloc w2 (.cells (vals (List.replicate 32 0)).toArray 26)).trans (hbw3.under (below_alloc w2 _).size (Nat.le_refl _)); have HSw3 := hide (HSw2.out.new hbw3' hiw3); clear hiw3 hbw3 hbw3' hzw3)
          | (refine wpList_load_arrG 26 (vals X) (w2.heap.size) (.tmp 14) rfl rfl (by rfl) (HSw5.out.get (w2.heap.size) X (by simp)) Tryd.underlying26 size_dig (by rw [vals_length]; exact HX.out) ?_)
          | (refine wpList_load_arrG 26 (vals Y) (w4.heap.size) (.tmp 16) rfl rfl (by rfl) (HSw5.out.get (w4.heap.size) Y (by simp)) Tryd.underlying26 size_dig (by rw [vals_length]; exact HY.out) ?_))
        exact bodyPost_ret (v := .bool true) (by simp [results, Tryd.results6]) rfl ⟨rfl, HSw5.out.below⟩
    · rw [hp0, show errV 0 = .nilIface from rfl] at HFA
      rw [te_errV_ne hq0] at HFB
      generalize foldE i n QS.length = eq at *
      generalize foldD a i n PS = X at *
      generalize foldD b i n QS = Y at *
      have HX := hide hX
      have HY := hide hY
      generalize PS.length = q at *
      generalize QS.length = r at *
      clear hd he ha hab hb hbb ht hX hY hqab hp0 hq0
      go_enter Tryd.func6, Tryd.ntmps6
      go_wp2_with (first
        | (go_at_call 22; refine (HRO.out _ HS0.out.below).mono ?_; rintro e w1 ⟨rfl, hb1⟩; have HSw1 := hide (HS0.out.call hb1); clear hb1)
        | (refine te_load b (w.heap.size + 1) 0 rfl (.tmp 8) rfl rfl ((HSw3.out.get (w.heap.size + 1) b (by simp)).range) HB32.out ?_)
        | (go_at_call 19; have hx3 := HSw3; clear hx3; refine (HFB.out _ HSw3.out.below).mono ?_; rintro e w4 ⟨rfl, hb4⟩; have HSw4 := hide (HSw3.out.call hb4); clear hb4)
        | (refine te_store (vals (List.replicate 32 0)) Y w4.heap.size rfl (.tmp 16) (.tmp 36) rfl rfl rfl rfl (Is.new w4 _ _) (by simp [vals]) HY.out ?_; intro w5 hiw5 hbw5 hzw5; have hbw5' : Below w4.heap.size w4 w5 := (below_alloc w4 (.cells (vals (List.replicate 32 0)).toArray 26)).trans (hbw5.under (below_alloc w4 _).size (Nat.le_refl _)); have HSw5 := hide (HSw4.out.new hbw5' hiw5); clear hiw5 hbw5 hbw5' hzw5)
        | (refine te_load a (w.heap.size) 0 rfl (.tmp 6) rfl rfl ((HSw1.out.get (w.heap.size) a (by simp)).range) HA32.out ?_)
        | (go_at_call 19; refine (HFA.out _ HSw1.out.below).mono ?_; rintro e w2 ⟨rfl, hb2⟩; have HSw2 := hide (HSw1.out.call hb2); clear hb2)
        | (refine te_store (vals (List.replicate 32 0)) X w2.heap.size rfl (.tmp 14) (.tmp 28) rfl rfl rfl rfl (Is.new w2 _ _) (by simp [vals]) HX.out ?_; intro w3 hiw3 hbw3 hzw3; have hbw3' : Below w2.heap.size w2 w3 := (below_alloc w2 (.cells (vals (List.replicate 32 0)).toArray 26)).trans (hbw3.under (below_alloc w2 _).size (Nat.le_refl _)); have HSw3 := hide (HSw2.out.new hbw3' hiw3); clear hiw3 hbw3 hbw3' hzw3))
      exact bodyPost_ret (v := .bool true) (by simp [results, Tryd.results6]) rfl ⟨rfl, HSw5.out.below⟩
  · rw [te_errV_ne hp0] at HFA
    generalize errV (foldE i n QS.length) = eq at *
    generalize foldE i n PS.length = ep at *
    generalize foldD a i n PS = X at *
    generalize foldD b i n QS = Y at *
    have HX := hide hX
    have HY := hide hY
    generalize PS.length = q at *
    generalize QS.length = r at *
    clear hd he ha hab hb hbb ht hX hY hqab hp0
    go_enter Tryd.func6, Tryd.ntmps6
    go_wp2_with (first
      | (go_at_call 22; refine (HRO.out _ HS0.out.below).mono ?_; rintro e w1 ⟨rfl, hb1⟩; have HSw1 := hide (HS0.out.call hb1); clear hb1)
      | (refine te_load b (w.heap.size + 1) 0 rfl (.tmp 8) rfl rfl ((HSw3.out.get (w.heap.size + 1) b (by simp)).range) HB32.out ?_)
      | (go_at_call 19; have hx3 := HSw3; clear hx3; refine (HFB.out _ HSw3.out.below).mono ?_; rintro e w4 ⟨rfl, hb4⟩; have HSw4 := hide (HSw3.out.call hb4); clear hb4)
      | (refine te_store (vals (List.replicate 32 0)) Y w4.heap.size rfl (.tmp 16) (.tmp 36) rfl rfl rfl rfl (Is.new w4 _ _) (by simp [vals]) HY.out ?_; intro w5 hiw5 hbw5 hzw5; have hbw5' : Below w4.heap.size w4 w5 := (below_alloc w4 (.cells (vals (List.replicate 32 0)).toArray 26)).trans (hbw5.under (below_alloc w4 _).size (Nat.le_refl _)); have HSw5 := hide (HSw4.out.new hbw5' hiw5); clear hiw5 hbw5 hbw5' hzw5)
      | (refine te_load a (w.heap.size) 0 rfl (.tmp 6) rfl rfl ((HSw1.out.get (w.heap.size) a (by simp)).range) HA32.out ?_)
      | (go_at_call 19; refine (HFA.out _ HSw1.out.below).mono ?_; rintro e w2 ⟨rfl, hb2⟩; have HSw2 := hide (HSw1.out.call hb2); clear hb2)
      | (refine te_store (vals (List.replicate 32 0)) X w2.heap.size rfl (.tmp 14) (.tmp 28) rfl rfl rfl rfl (Is.new w2 _ _) (by simp [vals]) HX.out ?_; intro w3 hiw3 hbw3 hzw3; have hbw3' : Below w2.heap.size w2 w3 := (below_alloc w2 (.cells (vals (List.replicate 32 0)).toArray 26)).trans (hbw3.under (below_alloc w2 _).size (Nat.le_refl _)); have HSw3 := hide (HSw2.out.new hbw3' hiw3); clear hiw3 hbw3 hbw3' hzw3))
    exact bodyPost_ret (v := .bool true) (by simp [results, Tryd.results6]) rfl ⟨rfl, HSw5.out.below⟩
end Go.Proofs.YtphdnbflogobfaaDoor
