/- The contract of clash. -/
import Derived.Test.YtphdnbflogobfaaDoorTeRd
import Derived.Test.YtphdnbflogobfaaDoorLoadG
namespace Go.Proofs.YtphdnbflogobfaaDoor
open Go.RowKit
set_option linter.unusedVariables false
set_option linter.unusedSimpArgs false

theorem clash_last_left (a b : List Int) (i n : Nat) (PS QS : List (List Int)) (h : 2 ≤ n) (hi : i < Te.half n) (hp : PS.length = Te.long i n) (hq : QS.length = PS.length) :
    Te.clash a PS b QS i n = if Te.folded a i (Te.half n) (PS.take (PS.length - 1)) ≠ Te.folded b i (Te.half n) (QS.take (PS.length - 1)) ∨ PS.getD (PS.length - 1) [] ≠ QS.getD (PS.length - 1) [] then decide (Te.nd (Te.folded a i (Te.half n) (PS.take (PS.length - 1))) (PS.getD (PS.length - 1) []) = Te.nd (Te.folded b i (Te.half n) (QS.take (PS.length - 1))) (QS.getD (PS.length - 1) [])) else Te.clash a (PS.take (PS.length - 1)) b (QS.take (PS.length - 1)) i (Te.half n) := by
  have hl := Te.long_pos i n h
  have hs := Te.last_split PS (fun e => by rw [e] at hp; simp at hp; omega)
  have ht := Te.last_split QS (fun e => by rw [e] at hq; simp at hq; omega)
  have := Te.clash_left a b (PS.take (PS.length - 1)) (QS.take (QS.length - 1)) (PS.getD (PS.length - 1) []) (QS.getD (QS.length - 1) []) i n h hi
  rw [← hs, ← ht, hq] at this
  rw [this]
  split
  · rw [Bool.eq_iff_iff]; simp
  · rfl
theorem clash_last_right (a b : List Int) (i n : Nat) (PS QS : List (List Int)) (h : 2 ≤ n) (hi : ¬ i < Te.half n) (hp : PS.length = Te.long i n) (hq : QS.length = PS.length) :
    Te.clash a PS b QS i n = if Te.folded a (i - Te.half n) (n - Te.half n) (PS.take (PS.length - 1)) ≠ Te.folded b (i - Te.half n) (n - Te.half n) (QS.take (PS.length - 1)) ∨ PS.getD (PS.length - 1) [] ≠ QS.getD (PS.length - 1) [] then decide (Te.nd (PS.getD (PS.length - 1) []) (Te.folded a (i - Te.half n) (n - Te.half n) (PS.take (PS.length - 1))) = Te.nd (QS.getD (PS.length - 1) []) (Te.folded b (i - Te.half n) (n - Te.half n) (QS.take (PS.length - 1)))) else Te.clash a (PS.take (PS.length - 1)) b (QS.take (PS.length - 1)) (i - Te.half n) (n - Te.half n) := by
  have hl := Te.long_pos i n h
  have hs := Te.last_split PS (fun e => by rw [e] at hp; simp at hp; omega)
  have ht := Te.last_split QS (fun e => by rw [e] at hq; simp at hq; omega)
  have := Te.clash_right a b (PS.take (PS.length - 1)) (QS.take (QS.length - 1)) (PS.getD (PS.length - 1) []) (QS.getD (QS.length - 1) []) i n h hi
  rw [← hs, ← ht, hq] at this
  rw [this]
  split
  · rw [Bool.eq_iff_iff]; simp
  · rfl

/-- Boxes with digests in them. -/
structure BoxS (w : World) (B : List (Nat × List Int)) (W : World) : Prop where
  below : Below w.heap.size w W
  box : ∀ p ∈ B, Is W p.1 (vals p.2) 26
theorem BoxS.call {w W W' : World} {B : List (Nat × List Int)} (h : BoxS w B W) (hb : Below W.heap.size W W') : BoxS w B W' := ⟨h.below.trans (hb.mono h.below.size), fun p hp => (h.box p hp).below hb (h.box p hp).lt⟩
theorem BoxS.drew {w W : World} {B : List (Nat × List Int)} (h : BoxS w B W) : BoxS w B W.drew := ⟨h.below.drew, fun p hp => (h.box p hp).drew⟩
theorem BoxS.new {w W W' : World} {B : List (Nat × List Int)} {g : Nat} {X : List Int} (h : BoxS w B W) (hb : Below W.heap.size W W') (hi : Is W' g (vals X) 26) : BoxS w ((g, X) :: B) W' := ⟨(h.call hb).below, fun p hp => by
  rcases List.mem_cons.1 hp with rfl | hp
  · exact hi
  · exact (h.call hb).box p hp⟩
theorem BoxS.get {w W : World} {B : List (Nat × List Int)} (h : BoxS w B W) (g : Nat) (X : List Int) (hp : (g, X) ∈ B) : Is W g (vals X) 26 := h.box (g, X) hp

set_option maxRecDepth 100000 in
set_option maxHeartbeats 8000000 in
theorem clash_any (n : Nat) : ∀ (a b : List Int) (i : Nat) (v u : Value) (PS QS : List (List Int)) (w : World), a.length = 32 → Sz.Byt a → b.length = 32 → Sz.Byt b → 1 ≤ n → n ≤ 256 → i < n → HasDigs w v PS → HasDigs w u QS → PS.length = Te.long i n → QS.length = PS.length →
    Calls Tryd.prog 23 #[.agg (vals a).toArray, v, .agg (vals b).toArray, u, .int .i64 (i : Int), .int .i64 (n : Int)] w fun e w' => e = .returned (.bool (Te.clash a PS b QS i n)) ∧ Below w.heap.size w w' := by
  induction n using Nat.strongRecOn with
  | _ n ih =>
    intro a b i v u PS QS w ha hab hb hbb h1 h256 hin hd he hpl hql
    by_cases h2 : 2 ≤ n
    · have hp := Te.half_pos n
      have hl := Te.half_lt n h2
      have HH := hide (fun W => rhalf_any n W h2 h256)
      have HS0 : Hid (BoxS w [(w.heap.size + 1, b), (w.heap.size, a)] ((w.alloc (.cells (vals a).toArray 26)).alloc (.cells (vals b).toArray 26))) := ⟨below_alloc2 w _ _, fun p hp => by
        rcases List.mem_cons.1 hp with rfl | hp
        · exact Is.new' _ 26 (by simp)
        · rw [List.mem_singleton.1 hp]; exact (Is.new w (vals a) 26).alloc _⟩
      have hn1 : ¬ (n : Int) = 1 := by omega
      have hn2 : ((n : Int) == 1) = false := by simpa using hn1
      have hq0 : 0 < PS.length := by rw [hpl]; exact Te.long_pos i n h2
      have hq8 : PS.length ≤ 8 := by rw [hpl]; exact long_small i n h1 h256
      obtain ⟨gp, go, cp, rfl, hc, hm, hat⟩ := hd.at' hq0
      obtain ⟨gq, gr, cq, rfl, hc2, hm2, hbt⟩ := he.at' (by omega)
      have hX := hat.1.get (PS.length - 1) (by omega)
      have hrx := hat.2.2 (PS.length - 1) (by omega)
      have hgp := hat.2.1
      have hY := hbt.1.get (PS.length - 1) (by omega)
      have hry := hbt.2.2 (PS.length - 1) (by omega)
      have hgq := hbt.2.1
      have hgd := guard_dig
      have HA32 := hide ha
      have HB32 := hide hb
      by_cases hik : i < Te.half n
      · have hlg := Te.long_left i n h2 hik
        have hpl2 : (PS.take (PS.length - 1)).length = Te.long i (Te.half n) := by rw [List.length_take]; omega
        have hql2 : (QS.take (PS.length - 1)).length = (PS.take (PS.length - 1)).length := by rw [List.length_take, List.length_take]; omega
        have hF : (Te.folded a i (Te.half n) (PS.take (PS.length - 1))).length = 32 ∧ Sz.Byt (Te.folded a i (Te.half n) (PS.take (PS.length - 1))) := up_ok _ _ _ ha hab
        have hG : (Te.folded b i (Te.half n) (QS.take (PS.length - 1))).length = 32 ∧ Sz.Byt (Te.folded b i (Te.half n) (QS.take (PS.length - 1))) := up_ok _ _ _ hb hbb
        have hdt : HasDigs w (.slice (some ⟨gp, go, none⟩) (PS.length - 1) cp) (PS.take (PS.length - 1)) := hd.take (PS.length - 1) cp (by omega) (by omega) hm
        have het : HasDigs w (.slice (some ⟨gq, gr, none⟩) (PS.length - 1) cq) (QS.take (PS.length - 1)) := he.take (PS.length - 1) cq (by omega) (by omega) hm2
        have HFA : Hid (∀ W, Below w.heap.size w W → Calls Tryd.prog 18 #[.agg (vals a).toArray, .int .i64 (i : Int), .int .i64 (Te.half n : Int), .slice (some ⟨gp, go, none⟩) (PS.length - 1) cp] W fun e w' => e = .returned (.agg (vals (Te.folded a i (Te.half n) (PS.take (PS.length - 1)))).toArray) ∧ Below W.heap.size W w') := hide (fun W hW => by
          have := rfolded_any (Te.half n) a i _ (PS.take (PS.length - 1)) W ha hab (by omega) (by omega) (by omega) (hdt.below hW) hpl2
          exact this)
        have HFB : Hid (∀ W, Below w.heap.size w W → Calls Tryd.prog 18 #[.agg (vals b).toArray, .int .i64 (i : Int), .int .i64 (Te.half n : Int), .slice (some ⟨gq, gr, none⟩) (PS.length - 1) cq] W fun e w' => e = .returned (.agg (vals (Te.folded b i (Te.half n) (QS.take (PS.length - 1)))).toArray) ∧ Below W.heap.size W w') := hide (fun W hW => by
          have := rfolded_any (Te.half n) b i _ (QS.take (PS.length - 1)) W hb hbb (by omega) (by omega) (by omega) (het.below hW) (by rw [hql2]; exact hpl2)
          exact this)
        have HREC : Hid (∀ W, Below w.heap.size w W → Calls Tryd.prog 23 #[.agg (vals a).toArray, .slice (some ⟨gp, go, none⟩) (PS.length - 1) cp, .agg (vals b).toArray, .slice (some ⟨gq, gr, none⟩) (PS.length - 1) cq, .int .i64 (i : Int), .int .i64 (Te.half n : Int)] W fun e w' => e = .returned (.bool (Te.clash a (PS.take (PS.length - 1)) b (QS.take (PS.length - 1)) i (Te.half n))) ∧ Below W.heap.size W w') := hide (fun W hW => by
          have := ih (Te.half n) (by omega) a b i _ _ (PS.take (PS.length - 1)) (QS.take (PS.length - 1)) W ha hab hb hbb (by omega) (by omega) (by omega) (hdt.below hW) (het.below hW) hpl2 hql2
          exact this)
        have hres := clash_last_left a b i n PS QS h2 hik hpl hql
        have HN1 := hide (fun W => rnode_any (Te.folded a i (Te.half n) (PS.take (PS.length - 1))) (PS.getD (PS.length - 1) []) W hF.1 hX.1 hF.2 hX.2)
        have HN2 := hide (fun W => rnode_any (Te.folded b i (Te.half n) (QS.take (PS.length - 1))) (QS.getD (PS.length - 1) []) W hG.1 hY.1 hG.2 hY.2)
        clear hdt het
        generalize Te.folded a i (Te.half n) (PS.take (PS.length - 1)) = F at *
        generalize Te.folded b i (Te.half n) (QS.take (PS.length - 1)) = G at *
        generalize Te.clash a (PS.take (PS.length - 1)) b (QS.take (PS.length - 1)) i (Te.half n) = C at *
        generalize PS.getD (PS.length - 1) [] = X at *
        generalize QS.getD (PS.length - 1) [] = Y at *
        have hR1 := Te.nd_length F X
        have hR2 := Te.nd_length G Y
        generalize Te.nd F X = R1 at *
        generalize Te.nd G Y = R2 at *
        generalize Te.half n = k at *
        obtain ⟨q, hq⟩ : ∃ q, q = PS.length := ⟨_, rfl⟩
        rw [← hq] at hrx hry HFA HFB HREC hq0 hq8 hc hql ⊢
        rw [hql] at hc2 ⊢
        have HRX := hide hrx
        have HRY := hide hry
        have HX := hide hX.1
        have HY := hide hY.1
        have HF := hide hF.1
        have HG := hide hG.1
        have hszx : (Tryd.prog.info? 26).map (·.size) = some (vals X).length := by rw [vals_length, hX.1]; exact size_dig
        have hszy : (Tryd.prog.info? 26).map (·.size) = some (vals Y).length := by rw [vals_length, hY.1]; exact size_dig
        have hszf : (Tryd.prog.info? 26).map (·.size) = some (vals F).length := by rw [vals_length, hF.1]; exact size_dig
        have hszg : (Tryd.prog.info? 26).map (·.size) = some (vals G).length := by rw [vals_length, hG.1]; exact size_dig
        have hq12 : ∀ w', (Op.equalIn 10000 26 (.agg (vals R1).toArray) (.agg (vals R2).toArray)).run Tryd.prog w' = .ok (decide (R1 = R2)) w' := fun w' => dig_eq _ _ hR1 hR2 w'
        have hqfg := fun w' => dig_eq F G hF.1 hG.1 w'
        have hqxy := fun w' => dig_eq X Y hX.1 hY.1 w'
        have hp1 : q - 1 ≤ cp := by omega
        have hp2 : ¬ cp = q - 1 := by omega
        have hp3 : q - 1 < q := by omega
        have hp4 : q - 1 ≤ cq := by omega
        have hp5 : ¬ cq = q - 1 := by omega
        have hik2 : (i : Int) < (k : Int) := by omega
        clear ih hd he hat hbt hpl hpl2 hql2 hF hG hX hY hlg hrx hry hq hR1 hR2
        by_cases hfg : F = G
        · rw [decide_eq_true hfg] at hqfg
          by_cases hxy : X = Y
          · rw [decide_eq_true hxy] at hqxy
            have HRES : Hid (Te.clash a PS b QS i n = C) := hide (by rw [hres, if_neg (by rintro (h | h); exact h hfg; exact h hxy)])
            clear hres hfg hxy
            go_enter Tryd.func23, Tryd.ntmps23
            go_wp2_with fail
            refine (HH.out _).mono ?_
            rintro e w1 ⟨rfl, hb1⟩
            have HSw1 := hide (HS0.out.call hb1)
            clear hb1
            go_wp2_with (first
              | (refine te_load X gp (go + (q - 1) * 32) rfl (.tmp 28) rfl rfl (range_keep HRX.out HSw1.out.below hgp) HX.out ?_)
              | (refine te_store (vals (List.replicate 32 0)) X w1.heap.size rfl (.tmp 14) (.tmp 29) rfl rfl rfl rfl (Is.new w1 _ _) (by simp [vals]) HX.out ?_; intro w2 hiw2 hbw2 hzw2; have hbw2' : Below w1.heap.size w1 w2 := (below_alloc w1 (.cells (vals (List.replicate 32 0)).toArray 26)).trans (hbw2.under (below_alloc w1 _).size (Nat.le_refl _)); have HSw2 := hide (HSw1.out.new hbw2' hiw2); clear hiw2 hbw2 hbw2' hzw2)
              | (refine te_load Y gq (gr + (q - 1) * 32) rfl (.tmp 34) rfl rfl (range_keep HRY.out HSw2.out.below hgq) HY.out ?_)
              | (refine te_store (vals (List.replicate 32 0)) Y w2.heap.size rfl (.tmp 15) (.tmp 35) rfl rfl rfl rfl (Is.new w2 _ _) (by simp [vals]) HY.out ?_; intro w3 hiw3 hbw3 hzw3; have hbw3' : Below w2.heap.size w2 w3 := (below_alloc w2 (.cells (vals (List.replicate 32 0)).toArray 26)).trans (hbw3.under (below_alloc w2 _).size (Nat.le_refl _)); have HSw3 := hide (HSw2.out.new hbw3' hiw3); clear hiw3 hbw3 hbw3' hzw3)
              | (refine te_load a w.heap.size 0 rfl (.tmp 6) rfl rfl ((HSw3.out.get w.heap.size a (by simp)).range) HA32.out ?_)
              | (go_at_call 18; have hx5 := HSw5; clear hx5; refine (HFB.out _ HSw5.out.below).mono ?_; rintro e w6 ⟨rfl, hb6⟩; have HSw6 := hide (HSw5.out.call hb6); clear hb6)
              | (go_at_call 18; refine (HFA.out _ HSw3.out.below).mono ?_; rintro e w4 ⟨rfl, hb4⟩; have HSw4 := hide (HSw3.out.call hb4); clear hb4)
              | (refine te_store (vals (List.replicate 32 0)) F w4.heap.size rfl (.tmp 18) (.tmp 62) rfl rfl rfl rfl (Is.new w4 _ _) (by simp [vals]) HF.out ?_; intro w5 hiw5 hbw5 hzw5; have hbw5' : Below w4.heap.size w4 w5 := (below_alloc w4 (.cells (vals (List.replicate 32 0)).toArray 26)).trans (hbw5.under (below_alloc w4 _).size (Nat.le_refl _)); have HSw5 := hide (HSw4.out.new hbw5' hiw5); clear hiw5 hbw5 hbw5' hzw5)
              | (refine te_load b (w.heap.size + 1) 0 rfl (.tmp 8) rfl rfl ((HSw5.out.get (w.heap.size + 1) b (by simp)).range) HB32.out ?_)
              | (refine te_store (vals (List.replicate 32 0)) G w6.heap.size rfl (.tmp 19) (.tmp 67) rfl rfl rfl rfl (Is.new w6 _ _) (by simp [vals]) HG.out ?_; intro w7 hiw7 hbw7 hzw7; have hbw7' : Below w6.heap.size w6 w7 := (below_alloc w6 (.cells (vals (List.replicate 32 0)).toArray 26)).trans (hbw7.under (below_alloc w6 _).size (Nat.le_refl _)); have HSw7 := hide (HSw6.out.new hbw7' hiw7); clear hiw7 hbw7 hbw7' hzw7)
              | (refine te_load F w4.heap.size 0 rfl (.tmp 18) rfl rfl ((HSw7.out.get w4.heap.size F (by simp)).range) HF.out ?_)
              | (refine te_load G w6.heap.size 0 rfl (.tmp 19) rfl rfl ((HSw7.out.get w6.heap.size G (by simp)).range) HG.out ?_)
              | (refine wpList_load_arrG 26 (vals X) w1.heap.size (.tmp 14) rfl rfl (by rfl) (HSw7.out.get w1.heap.size X (by simp)) Tryd.underlying26 size_dig (by rw [vals_length]; exact HX.out) ?_)
              | (refine wpList_load_arrG 26 (vals Y) w2.heap.size (.tmp 15) rfl rfl (by rfl) (HSw7.out.get w2.heap.size Y (by simp)) Tryd.underlying26 size_dig (by rw [vals_length]; exact HY.out) ?_)
              | (refine te_load a w.heap.size 0 rfl (.tmp 6) rfl rfl ((HSw7.out.get w.heap.size a (by simp)).range) HA32.out ?_)
              | (refine te_load b (w.heap.size + 1) 0 rfl (.tmp 8) rfl rfl ((HSw7.out.get (w.heap.size + 1) b (by simp)).range) HB32.out ?_)
              | (go_at_call 23; refine (HREC.out _ HSw7.out.below).mono ?_; rintro e w8 ⟨rfl, hb8⟩; have HSw8 := hide (HSw7.out.call hb8); clear hb8))
            exact bodyPost_ret (v := .bool C) (by simp [results, Tryd.results23]) rfl ⟨by rw [HRES.out], HSw8.out.below⟩
          · rw [decide_eq_false hxy] at hqxy
            have HRES : Hid (Te.clash a PS b QS i n = decide (R1 = R2)) := hide (by rw [hres, if_pos (.inr hxy)])
            clear hres hfg hxy
            go_enter Tryd.func23, Tryd.ntmps23
            go_wp2_with fail
            refine (HH.out _).mono ?_
            rintro e w1 ⟨rfl, hb1⟩
            have HSw1 := hide (HS0.out.call hb1)
            clear hb1
            go_wp2_with (first
              | (refine te_load X gp (go + (q - 1) * 32) rfl (.tmp 28) rfl rfl (range_keep HRX.out HSw1.out.below hgp) HX.out ?_)
              | (refine te_store (vals (List.replicate 32 0)) X w1.heap.size rfl (.tmp 14) (.tmp 29) rfl rfl rfl rfl (Is.new w1 _ _) (by simp [vals]) HX.out ?_; intro w2 hiw2 hbw2 hzw2; have hbw2' : Below w1.heap.size w1 w2 := (below_alloc w1 (.cells (vals (List.replicate 32 0)).toArray 26)).trans (hbw2.under (below_alloc w1 _).size (Nat.le_refl _)); have HSw2 := hide (HSw1.out.new hbw2' hiw2); clear hiw2 hbw2 hbw2' hzw2)
              | (refine te_load Y gq (gr + (q - 1) * 32) rfl (.tmp 34) rfl rfl (range_keep HRY.out HSw2.out.below hgq) HY.out ?_)
              | (refine te_store (vals (List.replicate 32 0)) Y w2.heap.size rfl (.tmp 15) (.tmp 35) rfl rfl rfl rfl (Is.new w2 _ _) (by simp [vals]) HY.out ?_; intro w3 hiw3 hbw3 hzw3; have hbw3' : Below w2.heap.size w2 w3 := (below_alloc w2 (.cells (vals (List.replicate 32 0)).toArray 26)).trans (hbw3.under (below_alloc w2 _).size (Nat.le_refl _)); have HSw3 := hide (HSw2.out.new hbw3' hiw3); clear hiw3 hbw3 hbw3' hzw3)
              | (refine te_load a w.heap.size 0 rfl (.tmp 6) rfl rfl ((HSw3.out.get w.heap.size a (by simp)).range) HA32.out ?_)
              | (go_at_call 18; have hx5 := HSw5; clear hx5; refine (HFB.out _ HSw5.out.below).mono ?_; rintro e w6 ⟨rfl, hb6⟩; have HSw6 := hide (HSw5.out.call hb6); clear hb6)
              | (go_at_call 18; refine (HFA.out _ HSw3.out.below).mono ?_; rintro e w4 ⟨rfl, hb4⟩; have HSw4 := hide (HSw3.out.call hb4); clear hb4)
              | (refine te_store (vals (List.replicate 32 0)) F w4.heap.size rfl (.tmp 18) (.tmp 62) rfl rfl rfl rfl (Is.new w4 _ _) (by simp [vals]) HF.out ?_; intro w5 hiw5 hbw5 hzw5; have hbw5' : Below w4.heap.size w4 w5 := (below_alloc w4 (.cells (vals (List.replicate 32 0)).toArray 26)).trans (hbw5.under (below_alloc w4 _).size (Nat.le_refl _)); have HSw5 := hide (HSw4.out.new hbw5' hiw5); clear hiw5 hbw5 hbw5' hzw5)
              | (refine te_load b (w.heap.size + 1) 0 rfl (.tmp 8) rfl rfl ((HSw5.out.get (w.heap.size + 1) b (by simp)).range) HB32.out ?_)
              | (refine te_store (vals (List.replicate 32 0)) G w6.heap.size rfl (.tmp 19) (.tmp 67) rfl rfl rfl rfl (Is.new w6 _ _) (by simp [vals]) HG.out ?_; intro w7 hiw7 hbw7 hzw7; have hbw7' : Below w6.heap.size w6 w7 := (below_alloc w6 (.cells (vals (List.replicate 32 0)).toArray 26)).trans (hbw7.under (below_alloc w6 _).size (Nat.le_refl _)); have HSw7 := hide (HSw6.out.new hbw7' hiw7); clear hiw7 hbw7 hbw7' hzw7)
              | (refine te_load F w4.heap.size 0 rfl (.tmp 18) rfl rfl ((HSw7.out.get w4.heap.size F (by simp)).range) HF.out ?_)
              | (refine te_load G w6.heap.size 0 rfl (.tmp 19) rfl rfl ((HSw7.out.get w6.heap.size G (by simp)).range) HG.out ?_)
              | (refine wpList_load_arrG 26 (vals X) w1.heap.size (.tmp 14) rfl rfl (by rfl) (HSw7.out.get w1.heap.size X (by simp)) Tryd.underlying26 size_dig (by rw [vals_length]; exact HX.out) ?_)
              | (refine wpList_load_arrG 26 (vals Y) w2.heap.size (.tmp 15) rfl rfl (by rfl) (HSw7.out.get w2.heap.size Y (by simp)) Tryd.underlying26 size_dig (by rw [vals_length]; exact HY.out) ?_))
            refine wp_region_held_drew (S := fun W : World => BoxS w [(w6.heap.size, G), (w4.heap.size, F), (w2.heap.size, Y), (w1.heap.size, X), (w.heap.size + 1, b), (w.heap.size, a)] W) (by kernel_rfl) ?_ (fun hHeld0 => ?_)
            · exact HSw7.out.drew
            refine wpAnyH_take (i := 0) (v := .agg (vals F).toArray) rfl (by kernel_rfl) (by kernel_rfl) (by kernel_rfl) (fun _ _ _ h => h) (yieldsIf_load_mid (by rfl) _ _ rfl _ _ rfl (vals F) _ (fun w hSw => (hSw.get w4.heap.size F (by simp)).range) Tryd.underlying26 rfl hszf) hHeld0 ?_
            simp only [Act.put, List.getElem_toArray, List.getElem_cons_zero, List.getElem_cons_succ, List.setIfInBounds_toArray, List.set_cons_zero, List.set_cons_succ]
            refine wpAnyH_take (i := 1) (v := .agg (vals X).toArray) rfl (by kernel_rfl) (by kernel_rfl) (by kernel_rfl) (fun _ _ _ h => h) (yieldsIf_load_mid (by rfl) _ _ rfl _ _ rfl (vals X) _ (fun w hSw => (hSw.get w1.heap.size X (by simp)).range) Tryd.underlying26 rfl hszx) hHeld0 ?_
            simp only [Act.put, List.getElem_toArray, List.getElem_cons_zero, List.getElem_cons_succ, List.setIfInBounds_toArray, List.set_cons_zero, List.set_cons_succ]
            refine wpAnyH_take (i := 3) (v := .agg (vals G).toArray) rfl (by kernel_rfl) (by kernel_rfl) (by kernel_rfl) (fun _ _ _ h => h) (yieldsIf_load_mid (by rfl) _ _ rfl _ _ rfl (vals G) _ (fun w hSw => (hSw.get w6.heap.size G (by simp)).range) Tryd.underlying26 rfl hszg) hHeld0 ?_
            simp only [Act.put, List.getElem_toArray, List.getElem_cons_zero, List.getElem_cons_succ, List.setIfInBounds_toArray, List.set_cons_zero, List.set_cons_succ]
            refine wpAnyH_take (i := 4) (v := .agg (vals Y).toArray) rfl (by kernel_rfl) (by kernel_rfl) (by kernel_rfl) (fun _ _ _ h => h) (yieldsIf_load_mid (by rfl) _ _ rfl _ _ rfl (vals Y) _ (fun w hSw => (hSw.get w2.heap.size Y (by simp)).range) Tryd.underlying26 rfl hszy) hHeld0 ?_
            simp only [Act.put, List.getElem_toArray, List.getElem_cons_zero, List.getElem_cons_succ, List.setIfInBounds_toArray, List.set_cons_zero, List.set_cons_succ]
            refine wpAnyH_ready (rs := [2]) (by kernel_rfl) (by simp) ?_
            refine AllReadyH.cons rfl (fun K hK => ?_) AllReadyH.nil
            go_simp
            go_wp2_with ((go_at_call 21; refine (HN1.out _).mono ?_; rintro e wm ⟨rfl, hbm⟩))
            refine hK.out _ _ (by exact hHeld0.call hbm) (fun hHeld1 => ?_)
            clear hK K hHeld0
            try simp only [Act.put, List.getElem_toArray, List.getElem_cons_zero, List.getElem_cons_succ, List.setIfInBounds_toArray, List.set_cons_zero, List.set_cons_succ]
            refine wpAnyH_ready (rs := [5]) (by kernel_rfl) (by simp) ?_
            refine AllReadyH.cons rfl (fun K hK => ?_) AllReadyH.nil
            go_simp
            go_wp2_with ((go_at_call 21; refine (HN2.out _).mono ?_; rintro e wn ⟨rfl, hbn⟩))
            refine hK.out _ _ (by exact hHeld1.call hbn) (fun hHeld2 => ?_)
            clear hK K hHeld1
            try simp only [Act.put, List.getElem_toArray, List.getElem_cons_zero, List.getElem_cons_succ, List.setIfInBounds_toArray, List.set_cons_zero, List.set_cons_succ]
            refine wpAnyH_take (i := 6) (v := ?_) rfl (by kernel_rfl) (by kernel_rfl) (by kernel_rfl) (fun _ _ _ h => h) (Or.inl ⟨by rfl, ?_⟩) hHeld2 ?_
            rotate_left
            · (intro w hSw; (try dsimp only at hSw); go_simp <;> (try with_reducible rfl))
            simp only [Act.put, List.getElem_toArray, List.getElem_cons_zero, List.getElem_cons_succ, List.setIfInBounds_toArray, List.set_cons_zero, List.set_cons_succ]
            refine wpAnyH_take (i := 7) (v := ?_) rfl (by kernel_rfl) (by kernel_rfl) (by kernel_rfl) (fun _ _ _ h => h) (Or.inl ⟨by rfl, ?_⟩) hHeld2 ?_
            rotate_left
            · (intro w hSw; (try dsimp only at hSw); go_simp <;> (try with_reducible rfl))
            simp only [Act.put, List.getElem_toArray, List.getElem_cons_zero, List.getElem_cons_succ, List.setIfInBounds_toArray, List.set_cons_zero, List.set_cons_succ]
            refine wpAnyH_done (by kernel_rfl) ?_ _
            go_wp2
            exact bodyPost_ret (v := .bool (decide (R1 = R2))) (by simp [results, Tryd.results23]) rfl ⟨by rw [HRES.out], hHeld2.below⟩
        · rw [decide_eq_false hfg] at hqfg
          have HRES : Hid (Te.clash a PS b QS i n = decide (R1 = R2)) := hide (by rw [hres, if_pos (.inl hfg)])
          clear hres hfg hqxy
          go_enter Tryd.func23, Tryd.ntmps23
          go_wp2_with fail
          refine (HH.out _).mono ?_
          rintro e w1 ⟨rfl, hb1⟩
          have HSw1 := hide (HS0.out.call hb1)
          clear hb1
          go_wp2_with (first
            | (refine te_load X gp (go + (q - 1) * 32) rfl (.tmp 28) rfl rfl (range_keep HRX.out HSw1.out.below hgp) HX.out ?_)
            | (refine te_store (vals (List.replicate 32 0)) X w1.heap.size rfl (.tmp 14) (.tmp 29) rfl rfl rfl rfl (Is.new w1 _ _) (by simp [vals]) HX.out ?_; intro w2 hiw2 hbw2 hzw2; have hbw2' : Below w1.heap.size w1 w2 := (below_alloc w1 (.cells (vals (List.replicate 32 0)).toArray 26)).trans (hbw2.under (below_alloc w1 _).size (Nat.le_refl _)); have HSw2 := hide (HSw1.out.new hbw2' hiw2); clear hiw2 hbw2 hbw2' hzw2)
            | (refine te_load Y gq (gr + (q - 1) * 32) rfl (.tmp 34) rfl rfl (range_keep HRY.out HSw2.out.below hgq) HY.out ?_)
            | (refine te_store (vals (List.replicate 32 0)) Y w2.heap.size rfl (.tmp 15) (.tmp 35) rfl rfl rfl rfl (Is.new w2 _ _) (by simp [vals]) HY.out ?_; intro w3 hiw3 hbw3 hzw3; have hbw3' : Below w2.heap.size w2 w3 := (below_alloc w2 (.cells (vals (List.replicate 32 0)).toArray 26)).trans (hbw3.under (below_alloc w2 _).size (Nat.le_refl _)); have HSw3 := hide (HSw2.out.new hbw3' hiw3); clear hiw3 hbw3 hbw3' hzw3)
            | (refine te_load a w.heap.size 0 rfl (.tmp 6) rfl rfl ((HSw3.out.get w.heap.size a (by simp)).range) HA32.out ?_)
            | (go_at_call 18; have hx5 := HSw5; clear hx5; refine (HFB.out _ HSw5.out.below).mono ?_; rintro e w6 ⟨rfl, hb6⟩; have HSw6 := hide (HSw5.out.call hb6); clear hb6)
            | (go_at_call 18; refine (HFA.out _ HSw3.out.below).mono ?_; rintro e w4 ⟨rfl, hb4⟩; have HSw4 := hide (HSw3.out.call hb4); clear hb4)
            | (refine te_store (vals (List.replicate 32 0)) F w4.heap.size rfl (.tmp 18) (.tmp 62) rfl rfl rfl rfl (Is.new w4 _ _) (by simp [vals]) HF.out ?_; intro w5 hiw5 hbw5 hzw5; have hbw5' : Below w4.heap.size w4 w5 := (below_alloc w4 (.cells (vals (List.replicate 32 0)).toArray 26)).trans (hbw5.under (below_alloc w4 _).size (Nat.le_refl _)); have HSw5 := hide (HSw4.out.new hbw5' hiw5); clear hiw5 hbw5 hbw5' hzw5)
            | (refine te_load b (w.heap.size + 1) 0 rfl (.tmp 8) rfl rfl ((HSw5.out.get (w.heap.size + 1) b (by simp)).range) HB32.out ?_)
            | (refine te_store (vals (List.replicate 32 0)) G w6.heap.size rfl (.tmp 19) (.tmp 67) rfl rfl rfl rfl (Is.new w6 _ _) (by simp [vals]) HG.out ?_; intro w7 hiw7 hbw7 hzw7; have hbw7' : Below w6.heap.size w6 w7 := (below_alloc w6 (.cells (vals (List.replicate 32 0)).toArray 26)).trans (hbw7.under (below_alloc w6 _).size (Nat.le_refl _)); have HSw7 := hide (HSw6.out.new hbw7' hiw7); clear hiw7 hbw7 hbw7' hzw7)
            | (refine te_load F w4.heap.size 0 rfl (.tmp 18) rfl rfl ((HSw7.out.get w4.heap.size F (by simp)).range) HF.out ?_)
            | (refine te_load G w6.heap.size 0 rfl (.tmp 19) rfl rfl ((HSw7.out.get w6.heap.size G (by simp)).range) HG.out ?_))
          refine wp_region_held_drew (S := fun W : World => BoxS w [(w6.heap.size, G), (w4.heap.size, F), (w2.heap.size, Y), (w1.heap.size, X), (w.heap.size + 1, b), (w.heap.size, a)] W) (by kernel_rfl) ?_ (fun hHeld0 => ?_)
          · exact HSw7.out.drew
          refine wpAnyH_take (i := 0) (v := .agg (vals F).toArray) rfl (by kernel_rfl) (by kernel_rfl) (by kernel_rfl) (fun _ _ _ h => h) (yieldsIf_load_mid (by rfl) _ _ rfl _ _ rfl (vals F) _ (fun w hSw => (hSw.get w4.heap.size F (by simp)).range) Tryd.underlying26 rfl hszf) hHeld0 ?_
          simp only [Act.put, List.getElem_toArray, List.getElem_cons_zero, List.getElem_cons_succ, List.setIfInBounds_toArray, List.set_cons_zero, List.set_cons_succ]
          refine wpAnyH_take (i := 1) (v := .agg (vals X).toArray) rfl (by kernel_rfl) (by kernel_rfl) (by kernel_rfl) (fun _ _ _ h => h) (yieldsIf_load_mid (by rfl) _ _ rfl _ _ rfl (vals X) _ (fun w hSw => (hSw.get w1.heap.size X (by simp)).range) Tryd.underlying26 rfl hszx) hHeld0 ?_
          simp only [Act.put, List.getElem_toArray, List.getElem_cons_zero, List.getElem_cons_succ, List.setIfInBounds_toArray, List.set_cons_zero, List.set_cons_succ]
          refine wpAnyH_take (i := 3) (v := .agg (vals G).toArray) rfl (by kernel_rfl) (by kernel_rfl) (by kernel_rfl) (fun _ _ _ h => h) (yieldsIf_load_mid (by rfl) _ _ rfl _ _ rfl (vals G) _ (fun w hSw => (hSw.get w6.heap.size G (by simp)).range) Tryd.underlying26 rfl hszg) hHeld0 ?_
          simp only [Act.put, List.getElem_toArray, List.getElem_cons_zero, List.getElem_cons_succ, List.setIfInBounds_toArray, List.set_cons_zero, List.set_cons_succ]
          refine wpAnyH_take (i := 4) (v := .agg (vals Y).toArray) rfl (by kernel_rfl) (by kernel_rfl) (by kernel_rfl) (fun _ _ _ h => h) (yieldsIf_load_mid (by rfl) _ _ rfl _ _ rfl (vals Y) _ (fun w hSw => (hSw.get w2.heap.size Y (by simp)).range) Tryd.underlying26 rfl hszy) hHeld0 ?_
          simp only [Act.put, List.getElem_toArray, List.getElem_cons_zero, List.getElem_cons_succ, List.setIfInBounds_toArray, List.set_cons_zero, List.set_cons_succ]
          refine wpAnyH_ready (rs := [2]) (by kernel_rfl) (by simp) ?_
          refine AllReadyH.cons rfl (fun K hK => ?_) AllReadyH.nil
          go_simp
          go_wp2_with ((go_at_call 21; refine (HN1.out _).mono ?_; rintro e wm ⟨rfl, hbm⟩))
          refine hK.out _ _ (by exact hHeld0.call hbm) (fun hHeld1 => ?_)
          clear hK K hHeld0
          try simp only [Act.put, List.getElem_toArray, List.getElem_cons_zero, List.getElem_cons_succ, List.setIfInBounds_toArray, List.set_cons_zero, List.set_cons_succ]
          refine wpAnyH_ready (rs := [5]) (by kernel_rfl) (by simp) ?_
          refine AllReadyH.cons rfl (fun K hK => ?_) AllReadyH.nil
          go_simp
          go_wp2_with ((go_at_call 21; refine (HN2.out _).mono ?_; rintro e wn ⟨rfl, hbn⟩))
          refine hK.out _ _ (by exact hHeld1.call hbn) (fun hHeld2 => ?_)
          clear hK K hHeld1
          try simp only [Act.put, List.getElem_toArray, List.getElem_cons_zero, List.getElem_cons_succ, List.setIfInBounds_toArray, List.set_cons_zero, List.set_cons_succ]
          refine wpAnyH_take (i := 6) (v := ?_) rfl (by kernel_rfl) (by kernel_rfl) (by kernel_rfl) (fun _ _ _ h => h) (Or.inl ⟨by rfl, ?_⟩) hHeld2 ?_
          rotate_left
          · (intro w hSw; (try dsimp only at hSw); go_simp <;> (try with_reducible rfl))
          simp only [Act.put, List.getElem_toArray, List.getElem_cons_zero, List.getElem_cons_succ, List.setIfInBounds_toArray, List.set_cons_zero, List.set_cons_succ]
          refine wpAnyH_take (i := 7) (v := ?_) rfl (by kernel_rfl) (by kernel_rfl) (by kernel_rfl) (fun _ _ _ h => h) (Or.inl ⟨by rfl, ?_⟩) hHeld2 ?_
          rotate_left
          · (intro w hSw; (try dsimp only at hSw); go_simp <;> (try with_reducible rfl))
          simp only [Act.put, List.getElem_toArray, List.getElem_cons_zero, List.getElem_cons_succ, List.setIfInBounds_toArray, List.set_cons_zero, List.set_cons_succ]
          refine wpAnyH_done (by kernel_rfl) ?_ _
          go_wp2
          exact bodyPost_ret (v := .bool (decide (R1 = R2))) (by simp [results, Tryd.results23]) rfl ⟨by rw [HRES.out], hHeld2.below⟩
      · have hlg := Te.long_right i n h2 hik
        have hpl2 : (PS.take (PS.length - 1)).length = Te.long (i - Te.half n) (n - Te.half n) := by rw [List.length_take]; omega
        have hql2 : (QS.take (PS.length - 1)).length = (PS.take (PS.length - 1)).length := by rw [List.length_take, List.length_take]; omega
        have hF : (Te.folded a (i - Te.half n) (n - Te.half n) (PS.take (PS.length - 1))).length = 32 ∧ Sz.Byt (Te.folded a (i - Te.half n) (n - Te.half n) (PS.take (PS.length - 1))) := up_ok _ _ _ ha hab
        have hG : (Te.folded b (i - Te.half n) (n - Te.half n) (QS.take (PS.length - 1))).length = 32 ∧ Sz.Byt (Te.folded b (i - Te.half n) (n - Te.half n) (QS.take (PS.length - 1))) := up_ok _ _ _ hb hbb
        have hdt : HasDigs w (.slice (some ⟨gp, go, none⟩) (PS.length - 1) cp) (PS.take (PS.length - 1)) := hd.take (PS.length - 1) cp (by omega) (by omega) hm
        have het : HasDigs w (.slice (some ⟨gq, gr, none⟩) (PS.length - 1) cq) (QS.take (PS.length - 1)) := he.take (PS.length - 1) cq (by omega) (by omega) hm2
        have HFA : Hid (∀ W, Below w.heap.size w W → Calls Tryd.prog 18 #[.agg (vals a).toArray, .int .i64 ((i : Int) - (Te.half n : Int)), .int .i64 ((n : Int) - (Te.half n : Int)), .slice (some ⟨gp, go, none⟩) (PS.length - 1) cp] W fun e w' => e = .returned (.agg (vals (Te.folded a (i - Te.half n) (n - Te.half n) (PS.take (PS.length - 1)))).toArray) ∧ Below W.heap.size W w') := hide (fun W hW => by
          have := rfolded_any (n - Te.half n) a (i - Te.half n) _ (PS.take (PS.length - 1)) W ha hab (by omega) (by omega) (by omega) (hdt.below hW) hpl2
          rwa [show (((i - Te.half n : Nat)) : Int) = (i : Int) - (Te.half n : Int) by omega, show (((n - Te.half n : Nat)) : Int) = (n : Int) - (Te.half n : Int) by omega] at this)
        have HFB : Hid (∀ W, Below w.heap.size w W → Calls Tryd.prog 18 #[.agg (vals b).toArray, .int .i64 ((i : Int) - (Te.half n : Int)), .int .i64 ((n : Int) - (Te.half n : Int)), .slice (some ⟨gq, gr, none⟩) (PS.length - 1) cq] W fun e w' => e = .returned (.agg (vals (Te.folded b (i - Te.half n) (n - Te.half n) (QS.take (PS.length - 1)))).toArray) ∧ Below W.heap.size W w') := hide (fun W hW => by
          have := rfolded_any (n - Te.half n) b (i - Te.half n) _ (QS.take (PS.length - 1)) W hb hbb (by omega) (by omega) (by omega) (het.below hW) (by rw [hql2]; exact hpl2)
          rwa [show (((i - Te.half n : Nat)) : Int) = (i : Int) - (Te.half n : Int) by omega, show (((n - Te.half n : Nat)) : Int) = (n : Int) - (Te.half n : Int) by omega] at this)
        have HREC : Hid (∀ W, Below w.heap.size w W → Calls Tryd.prog 23 #[.agg (vals a).toArray, .slice (some ⟨gp, go, none⟩) (PS.length - 1) cp, .agg (vals b).toArray, .slice (some ⟨gq, gr, none⟩) (PS.length - 1) cq, .int .i64 ((i : Int) - (Te.half n : Int)), .int .i64 ((n : Int) - (Te.half n : Int))] W fun e w' => e = .returned (.bool (Te.clash a (PS.take (PS.length - 1)) b (QS.take (PS.length - 1)) (i - Te.half n) (n - Te.half n))) ∧ Below W.heap.size W w') := hide (fun W hW => by
          have := ih (n - Te.half n) (by omega) a b (i - Te.half n) _ _ (PS.take (PS.length - 1)) (QS.take (PS.length - 1)) W ha hab hb hbb (by omega) (by omega) (by omega) (hdt.below hW) (het.below hW) hpl2 hql2
          rwa [show (((i - Te.half n : Nat)) : Int) = (i : Int) - (Te.half n : Int) by omega, show (((n - Te.half n : Nat)) : Int) = (n : Int) - (Te.half n : Int) by omega] at this)
        have hres := clash_last_right a b i n PS QS h2 hik hpl hql
        have HN1 := hide (fun W => rnode_any (PS.getD (PS.length - 1) []) (Te.folded a (i - Te.half n) (n - Te.half n) (PS.take (PS.length - 1))) W hX.1 hF.1 hX.2 hF.2)
        have HN2 := hide (fun W => rnode_any (QS.getD (PS.length - 1) []) (Te.folded b (i - Te.half n) (n - Te.half n) (QS.take (PS.length - 1))) W hY.1 hG.1 hY.2 hG.2)
        clear hdt het
        generalize Te.folded a (i - Te.half n) (n - Te.half n) (PS.take (PS.length - 1)) = F at *
        generalize Te.folded b (i - Te.half n) (n - Te.half n) (QS.take (PS.length - 1)) = G at *
        generalize Te.clash a (PS.take (PS.length - 1)) b (QS.take (PS.length - 1)) (i - Te.half n) (n - Te.half n) = C at *
        generalize PS.getD (PS.length - 1) [] = X at *
        generalize QS.getD (PS.length - 1) [] = Y at *
        have hR1 := Te.nd_length X F
        have hR2 := Te.nd_length Y G
        generalize Te.nd X F = R1 at *
        generalize Te.nd Y G = R2 at *
        generalize Te.half n = k at *
        obtain ⟨q, hq⟩ : ∃ q, q = PS.length := ⟨_, rfl⟩
        rw [← hq] at hrx hry HFA HFB HREC hq0 hq8 hc hql ⊢
        rw [hql] at hc2 ⊢
        have HRX := hide hrx
        have HRY := hide hry
        have HX := hide hX.1
        have HY := hide hY.1
        have HF := hide hF.1
        have HG := hide hG.1
        have hszx : (Tryd.prog.info? 26).map (·.size) = some (vals X).length := by rw [vals_length, hX.1]; exact size_dig
        have hszy : (Tryd.prog.info? 26).map (·.size) = some (vals Y).length := by rw [vals_length, hY.1]; exact size_dig
        have hszf : (Tryd.prog.info? 26).map (·.size) = some (vals F).length := by rw [vals_length, hF.1]; exact size_dig
        have hszg : (Tryd.prog.info? 26).map (·.size) = some (vals G).length := by rw [vals_length, hG.1]; exact size_dig
        have hq12 : ∀ w', (Op.equalIn 10000 26 (.agg (vals R1).toArray) (.agg (vals R2).toArray)).run Tryd.prog w' = .ok (decide (R1 = R2)) w' := fun w' => dig_eq _ _ hR1 hR2 w'
        have hqfg := fun w' => dig_eq F G hF.1 hG.1 w'
        have hqxy := fun w' => dig_eq X Y hX.1 hY.1 w'
        have hp1 : q - 1 ≤ cp := by omega
        have hp2 : ¬ cp = q - 1 := by omega
        have hp3 : q - 1 < q := by omega
        have hp4 : q - 1 ≤ cq := by omega
        have hp5 : ¬ cq = q - 1 := by omega
        have hik2 : ¬ (i : Int) < (k : Int) := by omega
        have hwr : wrap64 ((i : Int) - (k : Int)) = (i : Int) - (k : Int) := by simp [wrap64]; omega
        have hwr2 : wrap64 ((n : Int) - (k : Int)) = (n : Int) - (k : Int) := by simp [wrap64]; omega
        clear ih hd he hat hbt hpl hpl2 hql2 hF hG hX hY hlg hrx hry hq hR1 hR2
        by_cases hfg : F = G
        · rw [decide_eq_true hfg] at hqfg
          by_cases hxy : X = Y
          · rw [decide_eq_true hxy] at hqxy
            have HRES : Hid (Te.clash a PS b QS i n = C) := hide (by rw [hres, if_neg (by rintro (h | h); exact h hfg; exact h hxy)])
            clear hres hfg hxy
            go_enter Tryd.func23, Tryd.ntmps23
            go_wp2_with fail
            refine (HH.out _).mono ?_
            rintro e w1 ⟨rfl, hb1⟩
            have HSw1 := hide (HS0.out.call hb1)
            clear hb1
            go_wp2_with (first
              | (refine te_load X gp (go + (q - 1) * 32) rfl (.tmp 28) rfl rfl (range_keep HRX.out HSw1.out.below hgp) HX.out ?_)
              | (refine te_store (vals (List.replicate 32 0)) X w1.heap.size rfl (.tmp 14) (.tmp 29) rfl rfl rfl rfl (Is.new w1 _ _) (by simp [vals]) HX.out ?_; intro w2 hiw2 hbw2 hzw2; have hbw2' : Below w1.heap.size w1 w2 := (below_alloc w1 (.cells (vals (List.replicate 32 0)).toArray 26)).trans (hbw2.under (below_alloc w1 _).size (Nat.le_refl _)); have HSw2 := hide (HSw1.out.new hbw2' hiw2); clear hiw2 hbw2 hbw2' hzw2)
              | (refine te_load Y gq (gr + (q - 1) * 32) rfl (.tmp 34) rfl rfl (range_keep HRY.out HSw2.out.below hgq) HY.out ?_)
              | (refine te_store (vals (List.replicate 32 0)) Y w2.heap.size rfl (.tmp 15) (.tmp 35) rfl rfl rfl rfl (Is.new w2 _ _) (by simp [vals]) HY.out ?_; intro w3 hiw3 hbw3 hzw3; have hbw3' : Below w2.heap.size w2 w3 := (below_alloc w2 (.cells (vals (List.replicate 32 0)).toArray 26)).trans (hbw3.under (below_alloc w2 _).size (Nat.le_refl _)); have HSw3 := hide (HSw2.out.new hbw3' hiw3); clear hiw3 hbw3 hbw3' hzw3)
              | (refine te_load a w.heap.size 0 rfl (.tmp 6) rfl rfl ((HSw3.out.get w.heap.size a (by simp)).range) HA32.out ?_)
              | (go_at_call 18; have hx5 := HSw5; clear hx5; refine (HFB.out _ HSw5.out.below).mono ?_; rintro e w6 ⟨rfl, hb6⟩; have HSw6 := hide (HSw5.out.call hb6); clear hb6)
              | (go_at_call 18; refine (HFA.out _ HSw3.out.below).mono ?_; rintro e w4 ⟨rfl, hb4⟩; have HSw4 := hide (HSw3.out.call hb4); clear hb4)
              | (refine te_store (vals (List.replicate 32 0)) F w4.heap.size rfl (.tmp 18) (.tmp 62) rfl rfl rfl rfl (Is.new w4 _ _) (by simp [vals]) HF.out ?_; intro w5 hiw5 hbw5 hzw5; have hbw5' : Below w4.heap.size w4 w5 := (below_alloc w4 (.cells (vals (List.replicate 32 0)).toArray 26)).trans (hbw5.under (below_alloc w4 _).size (Nat.le_refl _)); have HSw5 := hide (HSw4.out.new hbw5' hiw5); clear hiw5 hbw5 hbw5' hzw5)
              | (refine te_load b (w.heap.size + 1) 0 rfl (.tmp 8) rfl rfl ((HSw5.out.get (w.heap.size + 1) b (by simp)).range) HB32.out ?_)
              | (refine te_store (vals (List.replicate 32 0)) G w6.heap.size rfl (.tmp 19) (.tmp 67) rfl rfl rfl rfl (Is.new w6 _ _) (by simp [vals]) HG.out ?_; intro w7 hiw7 hbw7 hzw7; have hbw7' : Below w6.heap.size w6 w7 := (below_alloc w6 (.cells (vals (List.replicate 32 0)).toArray 26)).trans (hbw7.under (below_alloc w6 _).size (Nat.le_refl _)); have HSw7 := hide (HSw6.out.new hbw7' hiw7); clear hiw7 hbw7 hbw7' hzw7)
              | (refine te_load F w4.heap.size 0 rfl (.tmp 18) rfl rfl ((HSw7.out.get w4.heap.size F (by simp)).range) HF.out ?_)
              | (refine te_load G w6.heap.size 0 rfl (.tmp 19) rfl rfl ((HSw7.out.get w6.heap.size G (by simp)).range) HG.out ?_)
              | (refine wpList_load_arrG 26 (vals X) w1.heap.size (.tmp 14) rfl rfl (by rfl) (HSw7.out.get w1.heap.size X (by simp)) Tryd.underlying26 size_dig (by rw [vals_length]; exact HX.out) ?_)
              | (refine wpList_load_arrG 26 (vals Y) w2.heap.size (.tmp 15) rfl rfl (by rfl) (HSw7.out.get w2.heap.size Y (by simp)) Tryd.underlying26 size_dig (by rw [vals_length]; exact HY.out) ?_)
              | (refine te_load a w.heap.size 0 rfl (.tmp 6) rfl rfl ((HSw7.out.get w.heap.size a (by simp)).range) HA32.out ?_)
              | (refine te_load b (w.heap.size + 1) 0 rfl (.tmp 8) rfl rfl ((HSw7.out.get (w.heap.size + 1) b (by simp)).range) HB32.out ?_)
              | (go_at_call 23; refine (HREC.out _ HSw7.out.below).mono ?_; rintro e w8 ⟨rfl, hb8⟩; have HSw8 := hide (HSw7.out.call hb8); clear hb8))
            exact bodyPost_ret (v := .bool C) (by simp [results, Tryd.results23]) rfl ⟨by rw [HRES.out], HSw8.out.below⟩
          · rw [decide_eq_false hxy] at hqxy
            have HRES : Hid (Te.clash a PS b QS i n = decide (R1 = R2)) := hide (by rw [hres, if_pos (.inr hxy)])
            clear hres hfg hxy
            go_enter Tryd.func23, Tryd.ntmps23
            go_wp2_with fail
            refine (HH.out _).mono ?_
            rintro e w1 ⟨rfl, hb1⟩
            have HSw1 := hide (HS0.out.call hb1)
            clear hb1
            go_wp2_with (first
              | (refine te_load X gp (go + (q - 1) * 32) rfl (.tmp 28) rfl rfl (range_keep HRX.out HSw1.out.below hgp) HX.out ?_)
              | (refine te_store (vals (List.replicate 32 0)) X w1.heap.size rfl (.tmp 14) (.tmp 29) rfl rfl rfl rfl (Is.new w1 _ _) (by simp [vals]) HX.out ?_; intro w2 hiw2 hbw2 hzw2; have hbw2' : Below w1.heap.size w1 w2 := (below_alloc w1 (.cells (vals (List.replicate 32 0)).toArray 26)).trans (hbw2.under (below_alloc w1 _).size (Nat.le_refl _)); have HSw2 := hide (HSw1.out.new hbw2' hiw2); clear hiw2 hbw2 hbw2' hzw2)
              | (refine te_load Y gq (gr + (q - 1) * 32) rfl (.tmp 34) rfl rfl (range_keep HRY.out HSw2.out.below hgq) HY.out ?_)
              | (refine te_store (vals (List.replicate 32 0)) Y w2.heap.size rfl (.tmp 15) (.tmp 35) rfl rfl rfl rfl (Is.new w2 _ _) (by simp [vals]) HY.out ?_; intro w3 hiw3 hbw3 hzw3; have hbw3' : Below w2.heap.size w2 w3 := (below_alloc w2 (.cells (vals (List.replicate 32 0)).toArray 26)).trans (hbw3.under (below_alloc w2 _).size (Nat.le_refl _)); have HSw3 := hide (HSw2.out.new hbw3' hiw3); clear hiw3 hbw3 hbw3' hzw3)
              | (refine te_load a w.heap.size 0 rfl (.tmp 6) rfl rfl ((HSw3.out.get w.heap.size a (by simp)).range) HA32.out ?_)
              | (go_at_call 18; have hx5 := HSw5; clear hx5; refine (HFB.out _ HSw5.out.below).mono ?_; rintro e w6 ⟨rfl, hb6⟩; have HSw6 := hide (HSw5.out.call hb6); clear hb6)
              | (go_at_call 18; refine (HFA.out _ HSw3.out.below).mono ?_; rintro e w4 ⟨rfl, hb4⟩; have HSw4 := hide (HSw3.out.call hb4); clear hb4)
              | (refine te_store (vals (List.replicate 32 0)) F w4.heap.size rfl (.tmp 18) (.tmp 62) rfl rfl rfl rfl (Is.new w4 _ _) (by simp [vals]) HF.out ?_; intro w5 hiw5 hbw5 hzw5; have hbw5' : Below w4.heap.size w4 w5 := (below_alloc w4 (.cells (vals (List.replicate 32 0)).toArray 26)).trans (hbw5.under (below_alloc w4 _).size (Nat.le_refl _)); have HSw5 := hide (HSw4.out.new hbw5' hiw5); clear hiw5 hbw5 hbw5' hzw5)
              | (refine te_load b (w.heap.size + 1) 0 rfl (.tmp 8) rfl rfl ((HSw5.out.get (w.heap.size + 1) b (by simp)).range) HB32.out ?_)
              | (refine te_store (vals (List.replicate 32 0)) G w6.heap.size rfl (.tmp 19) (.tmp 67) rfl rfl rfl rfl (Is.new w6 _ _) (by simp [vals]) HG.out ?_; intro w7 hiw7 hbw7 hzw7; have hbw7' : Below w6.heap.size w6 w7 := (below_alloc w6 (.cells (vals (List.replicate 32 0)).toArray 26)).trans (hbw7.under (below_alloc w6 _).size (Nat.le_refl _)); have HSw7 := hide (HSw6.out.new hbw7' hiw7); clear hiw7 hbw7 hbw7' hzw7)
              | (refine te_load F w4.heap.size 0 rfl (.tmp 18) rfl rfl ((HSw7.out.get w4.heap.size F (by simp)).range) HF.out ?_)
              | (refine te_load G w6.heap.size 0 rfl (.tmp 19) rfl rfl ((HSw7.out.get w6.heap.size G (by simp)).range) HG.out ?_)
              | (refine wpList_load_arrG 26 (vals X) w1.heap.size (.tmp 14) rfl rfl (by rfl) (HSw7.out.get w1.heap.size X (by simp)) Tryd.underlying26 size_dig (by rw [vals_length]; exact HX.out) ?_)
              | (refine wpList_load_arrG 26 (vals Y) w2.heap.size (.tmp 15) rfl rfl (by rfl) (HSw7.out.get w2.heap.size Y (by simp)) Tryd.underlying26 size_dig (by rw [vals_length]; exact HY.out) ?_))
            refine wp_region_held_drew (S := fun W : World => BoxS w [(w6.heap.size, G), (w4.heap.size, F), (w2.heap.size, Y), (w1.heap.size, X), (w.heap.size + 1, b), (w.heap.size, a)] W) (by kernel_rfl) ?_ (fun hHeld0 => ?_)
            · exact HSw7.out.drew
            refine wpAnyH_take (i := 0) (v := .agg (vals X).toArray) rfl (by kernel_rfl) (by kernel_rfl) (by kernel_rfl) (fun _ _ _ h => h) (yieldsIf_load_mid (by rfl) _ _ rfl _ _ rfl (vals X) _ (fun w hSw => (hSw.get w1.heap.size X (by simp)).range) Tryd.underlying26 rfl hszx) hHeld0 ?_
            simp only [Act.put, List.getElem_toArray, List.getElem_cons_zero, List.getElem_cons_succ, List.setIfInBounds_toArray, List.set_cons_zero, List.set_cons_succ]
            refine wpAnyH_take (i := 1) (v := .agg (vals F).toArray) rfl (by kernel_rfl) (by kernel_rfl) (by kernel_rfl) (fun _ _ _ h => h) (yieldsIf_load_mid (by rfl) _ _ rfl _ _ rfl (vals F) _ (fun w hSw => (hSw.get w4.heap.size F (by simp)).range) Tryd.underlying26 rfl hszf) hHeld0 ?_
            simp only [Act.put, List.getElem_toArray, List.getElem_cons_zero, List.getElem_cons_succ, List.setIfInBounds_toArray, List.set_cons_zero, List.set_cons_succ]
            refine wpAnyH_take (i := 3) (v := .agg (vals Y).toArray) rfl (by kernel_rfl) (by kernel_rfl) (by kernel_rfl) (fun _ _ _ h => h) (yieldsIf_load_mid (by rfl) _ _ rfl _ _ rfl (vals Y) _ (fun w hSw => (hSw.get w2.heap.size Y (by simp)).range) Tryd.underlying26 rfl hszy) hHeld0 ?_
            simp only [Act.put, List.getElem_toArray, List.getElem_cons_zero, List.getElem_cons_succ, List.setIfInBounds_toArray, List.set_cons_zero, List.set_cons_succ]
            refine wpAnyH_take (i := 4) (v := .agg (vals G).toArray) rfl (by kernel_rfl) (by kernel_rfl) (by kernel_rfl) (fun _ _ _ h => h) (yieldsIf_load_mid (by rfl) _ _ rfl _ _ rfl (vals G) _ (fun w hSw => (hSw.get w6.heap.size G (by simp)).range) Tryd.underlying26 rfl hszg) hHeld0 ?_
            simp only [Act.put, List.getElem_toArray, List.getElem_cons_zero, List.getElem_cons_succ, List.setIfInBounds_toArray, List.set_cons_zero, List.set_cons_succ]
            refine wpAnyH_ready (rs := [2]) (by kernel_rfl) (by simp) ?_
            refine AllReadyH.cons rfl (fun K hK => ?_) AllReadyH.nil
            go_simp
            go_wp2_with ((go_at_call 21; refine (HN1.out _).mono ?_; rintro e wm ⟨rfl, hbm⟩))
            refine hK.out _ _ (by exact hHeld0.call hbm) (fun hHeld1 => ?_)
            clear hK K hHeld0
            try simp only [Act.put, List.getElem_toArray, List.getElem_cons_zero, List.getElem_cons_succ, List.setIfInBounds_toArray, List.set_cons_zero, List.set_cons_succ]
            refine wpAnyH_ready (rs := [5]) (by kernel_rfl) (by simp) ?_
            refine AllReadyH.cons rfl (fun K hK => ?_) AllReadyH.nil
            go_simp
            go_wp2_with ((go_at_call 21; refine (HN2.out _).mono ?_; rintro e wn ⟨rfl, hbn⟩))
            refine hK.out _ _ (by exact hHeld1.call hbn) (fun hHeld2 => ?_)
            clear hK K hHeld1
            try simp only [Act.put, List.getElem_toArray, List.getElem_cons_zero, List.getElem_cons_succ, List.setIfInBounds_toArray, List.set_cons_zero, List.set_cons_succ]
            refine wpAnyH_take (i := 6) (v := ?_) rfl (by kernel_rfl) (by kernel_rfl) (by kernel_rfl) (fun _ _ _ h => h) (Or.inl ⟨by rfl, ?_⟩) hHeld2 ?_
            rotate_left
            · (intro w hSw; (try dsimp only at hSw); go_simp <;> (try with_reducible rfl))
            simp only [Act.put, List.getElem_toArray, List.getElem_cons_zero, List.getElem_cons_succ, List.setIfInBounds_toArray, List.set_cons_zero, List.set_cons_succ]
            refine wpAnyH_take (i := 7) (v := ?_) rfl (by kernel_rfl) (by kernel_rfl) (by kernel_rfl) (fun _ _ _ h => h) (Or.inl ⟨by rfl, ?_⟩) hHeld2 ?_
            rotate_left
            · (intro w hSw; (try dsimp only at hSw); go_simp <;> (try with_reducible rfl))
            simp only [Act.put, List.getElem_toArray, List.getElem_cons_zero, List.getElem_cons_succ, List.setIfInBounds_toArray, List.set_cons_zero, List.set_cons_succ]
            refine wpAnyH_done (by kernel_rfl) ?_ _
            go_wp2
            exact bodyPost_ret (v := .bool (decide (R1 = R2))) (by simp [results, Tryd.results23]) rfl ⟨by rw [HRES.out], hHeld2.below⟩
        · rw [decide_eq_false hfg] at hqfg
          have HRES : Hid (Te.clash a PS b QS i n = decide (R1 = R2)) := hide (by rw [hres, if_pos (.inl hfg)])
          clear hres hfg hqxy
          go_enter Tryd.func23, Tryd.ntmps23
          go_wp2_with fail
          refine (HH.out _).mono ?_
          rintro e w1 ⟨rfl, hb1⟩
          have HSw1 := hide (HS0.out.call hb1)
          clear hb1
          go_wp2_with (first
            | (refine te_load X gp (go + (q - 1) * 32) rfl (.tmp 28) rfl rfl (range_keep HRX.out HSw1.out.below hgp) HX.out ?_)
            | (refine te_store (vals (List.replicate 32 0)) X w1.heap.size rfl (.tmp 14) (.tmp 29) rfl rfl rfl rfl (Is.new w1 _ _) (by simp [vals]) HX.out ?_; intro w2 hiw2 hbw2 hzw2; have hbw2' : Below w1.heap.size w1 w2 := (below_alloc w1 (.cells (vals (List.replicate 32 0)).toArray 26)).trans (hbw2.under (below_alloc w1 _).size (Nat.le_refl _)); have HSw2 := hide (HSw1.out.new hbw2' hiw2); clear hiw2 hbw2 hbw2' hzw2)
            | (refine te_load Y gq (gr + (q - 1) * 32) rfl (.tmp 34) rfl rfl (range_keep HRY.out HSw2.out.below hgq) HY.out ?_)
            | (refine te_store (vals (List.replicate 32 0)) Y w2.heap.size rfl (.tmp 15) (.tmp 35) rfl rfl rfl rfl (Is.new w2 _ _) (by simp [vals]) HY.out ?_; intro w3 hiw3 hbw3 hzw3; have hbw3' : Below w2.heap.size w2 w3 := (below_alloc w2 (.cells (vals (List.replicate 32 0)).toArray 26)).trans (hbw3.under (below_alloc w2 _).size (Nat.le_refl _)); have HSw3 := hide (HSw2.out.new hbw3' hiw3); clear hiw3 hbw3 hbw3' hzw3)
            | (refine te_load a w.heap.size 0 rfl (.tmp 6) rfl rfl ((HSw3.out.get w.heap.size a (by simp)).range) HA32.out ?_)
            | (go_at_call 18; have hx5 := HSw5; clear hx5; refine (HFB.out _ HSw5.out.below).mono ?_; rintro e w6 ⟨rfl, hb6⟩; have HSw6 := hide (HSw5.out.call hb6); clear hb6)
            | (go_at_call 18; refine (HFA.out _ HSw3.out.below).mono ?_; rintro e w4 ⟨rfl, hb4⟩; have HSw4 := hide (HSw3.out.call hb4); clear hb4)
            | (refine te_store (vals (List.replicate 32 0)) F w4.heap.size rfl (.tmp 18) (.tmp 62) rfl rfl rfl rfl (Is.new w4 _ _) (by simp [vals]) HF.out ?_; intro w5 hiw5 hbw5 hzw5; have hbw5' : Below w4.heap.size w4 w5 := (below_alloc w4 (.cells (vals (List.replicate 32 0)).toArray 26)).trans (hbw5.under (below_alloc w4 _).size (Nat.le_refl _)); have HSw5 := hide (HSw4.out.new hbw5' hiw5); clear hiw5 hbw5 hbw5' hzw5)
            | (refine te_load b (w.heap.size + 1) 0 rfl (.tmp 8) rfl rfl ((HSw5.out.get (w.heap.size + 1) b (by simp)).range) HB32.out ?_)
            | (refine te_store (vals (List.replicate 32 0)) G w6.heap.size rfl (.tmp 19) (.tmp 67) rfl rfl rfl rfl (Is.new w6 _ _) (by simp [vals]) HG.out ?_; intro w7 hiw7 hbw7 hzw7; have hbw7' : Below w6.heap.size w6 w7 := (below_alloc w6 (.cells (vals (List.replicate 32 0)).toArray 26)).trans (hbw7.under (below_alloc w6 _).size (Nat.le_refl _)); have HSw7 := hide (HSw6.out.new hbw7' hiw7); clear hiw7 hbw7 hbw7' hzw7)
            | (refine te_load F w4.heap.size 0 rfl (.tmp 18) rfl rfl ((HSw7.out.get w4.heap.size F (by simp)).range) HF.out ?_)
            | (refine te_load G w6.heap.size 0 rfl (.tmp 19) rfl rfl ((HSw7.out.get w6.heap.size G (by simp)).range) HG.out ?_))
          refine wp_region_held_drew (S := fun W : World => BoxS w [(w6.heap.size, G), (w4.heap.size, F), (w2.heap.size, Y), (w1.heap.size, X), (w.heap.size + 1, b), (w.heap.size, a)] W) (by kernel_rfl) ?_ (fun hHeld0 => ?_)
          · exact HSw7.out.drew
          refine wpAnyH_take (i := 0) (v := .agg (vals X).toArray) rfl (by kernel_rfl) (by kernel_rfl) (by kernel_rfl) (fun _ _ _ h => h) (yieldsIf_load_mid (by rfl) _ _ rfl _ _ rfl (vals X) _ (fun w hSw => (hSw.get w1.heap.size X (by simp)).range) Tryd.underlying26 rfl hszx) hHeld0 ?_
          simp only [Act.put, List.getElem_toArray, List.getElem_cons_zero, List.getElem_cons_succ, List.setIfInBounds_toArray, List.set_cons_zero, List.set_cons_succ]
          refine wpAnyH_take (i := 1) (v := .agg (vals F).toArray) rfl (by kernel_rfl) (by kernel_rfl) (by kernel_rfl) (fun _ _ _ h => h) (yieldsIf_load_mid (by rfl) _ _ rfl _ _ rfl (vals F) _ (fun w hSw => (hSw.get w4.heap.size F (by simp)).range) Tryd.underlying26 rfl hszf) hHeld0 ?_
          simp only [Act.put, List.getElem_toArray, List.getElem_cons_zero, List.getElem_cons_succ, List.setIfInBounds_toArray, List.set_cons_zero, List.set_cons_succ]
          refine wpAnyH_take (i := 3) (v := .agg (vals Y).toArray) rfl (by kernel_rfl) (by kernel_rfl) (by kernel_rfl) (fun _ _ _ h => h) (yieldsIf_load_mid (by rfl) _ _ rfl _ _ rfl (vals Y) _ (fun w hSw => (hSw.get w2.heap.size Y (by simp)).range) Tryd.underlying26 rfl hszy) hHeld0 ?_
          simp only [Act.put, List.getElem_toArray, List.getElem_cons_zero, List.getElem_cons_succ, List.setIfInBounds_toArray, List.set_cons_zero, List.set_cons_succ]
          refine wpAnyH_take (i := 4) (v := .agg (vals G).toArray) rfl (by kernel_rfl) (by kernel_rfl) (by kernel_rfl) (fun _ _ _ h => h) (yieldsIf_load_mid (by rfl) _ _ rfl _ _ rfl (vals G) _ (fun w hSw => (hSw.get w6.heap.size G (by simp)).range) Tryd.underlying26 rfl hszg) hHeld0 ?_
          simp only [Act.put, List.getElem_toArray, List.getElem_cons_zero, List.getElem_cons_succ, List.setIfInBounds_toArray, List.set_cons_zero, List.set_cons_succ]
          refine wpAnyH_ready (rs := [2]) (by kernel_rfl) (by simp) ?_
          refine AllReadyH.cons rfl (fun K hK => ?_) AllReadyH.nil
          go_simp
          go_wp2_with ((go_at_call 21; refine (HN1.out _).mono ?_; rintro e wm ⟨rfl, hbm⟩))
          refine hK.out _ _ (by exact hHeld0.call hbm) (fun hHeld1 => ?_)
          clear hK K hHeld0
          try simp only [Act.put, List.getElem_toArray, List.getElem_cons_zero, List.getElem_cons_succ, List.setIfInBounds_toArray, List.set_cons_zero, List.set_cons_succ]
          refine wpAnyH_ready (rs := [5]) (by kernel_rfl) (by simp) ?_
          refine AllReadyH.cons rfl (fun K hK => ?_) AllReadyH.nil
          go_simp
          go_wp2_with ((go_at_call 21; refine (HN2.out _).mono ?_; rintro e wn ⟨rfl, hbn⟩))
          refine hK.out _ _ (by exact hHeld1.call hbn) (fun hHeld2 => ?_)
          clear hK K hHeld1
          try simp only [Act.put, List.getElem_toArray, List.getElem_cons_zero, List.getElem_cons_succ, List.setIfInBounds_toArray, List.set_cons_zero, List.set_cons_succ]
          refine wpAnyH_take (i := 6) (v := ?_) rfl (by kernel_rfl) (by kernel_rfl) (by kernel_rfl) (fun _ _ _ h => h) (Or.inl ⟨by rfl, ?_⟩) hHeld2 ?_
          rotate_left
          · (intro w hSw; (try dsimp only at hSw); go_simp <;> (try with_reducible rfl))
          simp only [Act.put, List.getElem_toArray, List.getElem_cons_zero, List.getElem_cons_succ, List.setIfInBounds_toArray, List.set_cons_zero, List.set_cons_succ]
          refine wpAnyH_take (i := 7) (v := ?_) rfl (by kernel_rfl) (by kernel_rfl) (by kernel_rfl) (fun _ _ _ h => h) (Or.inl ⟨by rfl, ?_⟩) hHeld2 ?_
          rotate_left
          · (intro w hSw; (try dsimp only at hSw); go_simp <;> (try with_reducible rfl))
          simp only [Act.put, List.getElem_toArray, List.getElem_cons_zero, List.getElem_cons_succ, List.setIfInBounds_toArray, List.set_cons_zero, List.set_cons_succ]
          refine wpAnyH_done (by kernel_rfl) ?_ _
          go_wp2
          exact bodyPost_ret (v := .bool (decide (R1 = R2))) (by simp [results, Tryd.results23]) rfl ⟨by rw [HRES.out], hHeld2.below⟩
    · have hn1 : n = 1 := by omega
      subst hn1
      have e : Te.clash a PS b QS i 1 = false := by rw [Te.clash, dif_pos (by omega)]
      rw [e]
      obtain ⟨a1, c1, rfl, _, _⟩ := hd.form
      obtain ⟨a2, c2, rfl, _, _⟩ := he.form
      have HB := hide (below_alloc2 w (.cells (vals a).toArray 26) (.cells (vals b).toArray 26))
      generalize PS.length = q at *
      generalize QS.length = q2 at *
      clear ih hd he hpl hql e
      go_enter Tryd.func23, Tryd.ntmps23
      go_wp2
      exact bodyPost_ret (v := .bool false) (by simp [results, Tryd.results23]) rfl ⟨rfl, HB.out⟩
end Go.Proofs.YtphdnbflogobfaaDoor
