/- The walk of TreeBinds: two lists, two roots. -/
import Derived.Test.YtphdnbflogobfaaDoorTeSo
namespace Go.Proofs.YtphdnbflogobfaaDoor
open Go.RowKit
set_option linter.unusedVariables false
set_option linter.unusedSimpArgs false

/-- What the last step of TreeBinds reads. -/
structure BiS (w : World) (b1 o1 b2 o2 : Nat) (A B : List Int) (u v : Value) (P Q : List (List Int)) (W : World) : Prop where
  below : Below w.heap.size w W
  x : W.rangeAt b1 o1 (vals A)
  y : W.rangeAt b2 o2 (vals B)
  p : HasDigs W u P
  q : HasDigs W v Q
  l1 : b1 < w.heap.size
  l2 : b2 < w.heap.size
theorem BiS.call {w W W' : World} {b1 o1 b2 o2 : Nat} {A B : List Int} {u v : Value} {P Q : List (List Int)} (h : BiS w b1 o1 b2 o2 A B u v P Q W) (hb : Below W.heap.size W W') : BiS w b1 o1 b2 o2 A B u v P Q W' :=
  ⟨h.below.trans (hb.mono h.below.size), range_keep h.x hb (Nat.lt_of_lt_of_le h.l1 h.below.size), range_keep h.y hb (Nat.lt_of_lt_of_le h.l2 h.below.size), h.p.below hb, h.q.below hb, h.l1, h.l2⟩
theorem below_drew (W : World) : Below W.heap.size W W.drew := (Below.refl _ _).drew
theorem BiS.drew {w W : World} {b1 o1 b2 o2 : Nat} {A B : List Int} {u v : Value} {P Q : List (List Int)} (h : BiS w b1 o1 b2 o2 A B u v P Q W) : BiS w b1 o1 b2 o2 A B u v P Q W.drew := h.call (below_drew W)

set_option maxRecDepth 100000 in
set_option maxHeartbeats 8000000 in
theorem treeBinds_walk (v : Value) (AS : List (List Int)) (u : Value) (BS : List (List Int)) (w : World) (hd : HasDigs w v AS) (he : HasDigs w u BS) (ht : Tab w) (hw : 1 < w.heap.size) :
    Calls Tryd.prog 7 #[v, u] w fun e w' => e = .returned (.bool true) ∧ Below w.heap.size w w' := by
  have HRO := hide (fun W (hW : Below w.heap.size w W) => rooted_any W (ht.below hW hw) (Nat.lt_of_lt_of_le hw hW.size))
  have HTX := hide (fun W (hW : Below w.heap.size w W) => root_any v AS W (hd.below hW) (ht.below hW hw) (Nat.lt_of_lt_of_le hw hW.size))
  have HTY := hide (fun W (hW : Below w.heap.size w W) => root_any u BS W (he.below hW) (ht.below hW hw) (Nat.lt_of_lt_of_le hw hW.size))
  have hgd := guard_dig
  have hX := (rootD_ok AS hd.2).1
  have hY := (rootD_ok BS he.2).1
  have hqxy := fun w' => dig_eq (rootD AS) (rootD BS) hX hY w'
  obtain ⟨a1, c1, rfl, _, _⟩ := hd.form
  obtain ⟨a2, c2, rfl, _, _⟩ := he.form
  by_cases h1 : rootE AS.length = 0
  · rw [h1, show errV 0 = .nilIface from rfl] at HTX
    by_cases h2 : rootE BS.length = 0
    · rw [h2, show errV 0 = .nilIface from rfl] at HTY
      by_cases h3 : AS.length = BS.length
      · by_cases h4 : rootD AS = rootD BS
        · rw [decide_eq_true h4] at hqxy
          have hn256 : AS.length ≤ 256 := by unfold rootE at h1; split at h1 <;> omega
          have hpe : ∀ k, k < AS.length → pathE (k : Int) AS.length = 0 := fun k hk => by unfold pathE; rw [if_neg (by omega), if_neg (by omega)]
          have hpa : ∀ k, k < AS.length → pathD AS (k : Int) = Te.path AS k := fun k hk => by unfold pathD; rw [if_neg (by omega), if_neg (by omega)]; rfl
          have hpb : ∀ k, k < AS.length → pathD BS (k : Int) = Te.path BS k := fun k hk => by unfold pathD; rw [if_neg (by omega), if_neg (by omega)]; rfl
          have hla : ∀ k, (AS.length ≠ 0) → (Te.path AS k).length = Te.long k AS.length := fun k h0 => Te.path_length AS.length AS k rfl (by omega)
          have hlb : ∀ k, (AS.length ≠ 0) → (Te.path BS k).length = Te.long k AS.length := fun k h0 => Te.path_length AS.length BS k h3.symm (by omega)
          have HPA : Hid (∀ k, k < AS.length → ∀ W, Below w.heap.size w W → Calls Tryd.prog 15 #[.slice a1 AS.length c1, .int .i64 (k : Int)] W fun e w' => ∃ u, e = .returned (.tuple #[u, .nilIface]) ∧ OwnDigs w' W.heap.size u (Te.path AS k) ∧ Below W.heap.size W w') := hide (fun k hk W hW => by
            have := path_any _ AS (k : Int) W (hd.below hW) (ht.below hW hw) (Nat.lt_of_lt_of_le hw hW.size)
            rwa [hpe k hk, hpa k hk, show errV 0 = .nilIface from rfl] at this)
          have HPB : Hid (∀ k, k < AS.length → ∀ W, Below w.heap.size w W → Calls Tryd.prog 15 #[.slice a2 AS.length c2, .int .i64 (k : Int)] W fun e w' => ∃ u, e = .returned (.tuple #[u, .nilIface]) ∧ OwnDigs w' W.heap.size u (Te.path BS k) ∧ Below W.heap.size W w') := hide (fun k hk W hW => by
            have := path_any _ BS (k : Int) W (he.below hW) (ht.below hW hw) (Nat.lt_of_lt_of_le hw hW.size)
            rwa [← h3, hpe k hk, hpb k hk, show errV 0 = .nilIface from rfl] at this)
          have HLG : Hid (∀ k, k < AS.length → ∀ W, Calls Tryd.prog 17 #[.int .i64 (k : Int), .int .i64 (AS.length : Int)] W fun e w' => e = .returned (.int .i64 ((Te.path AS k).length : Int)) ∧ Below W.heap.size W w') := hide (fun k hk W => by
            have := rlong_any AS.length k W (by omega) hn256 hk
            rwa [← hla k (by omega)] at this)
          have HQL : Hid (∀ k, k < AS.length → (Te.path BS k).length = (Te.path AS k).length) := hide (fun k hk => by rw [hla k (by omega), hlb k (by omega)])
          have HCL : Hid (∀ k, k < AS.length → AS.getD k [] ≠ BS.getD k [] → ∀ W u1 u2, Below w.heap.size w W → HasDigs W u1 (Te.path AS k) → HasDigs W u2 (Te.path BS k) → Calls Tryd.prog 23 #[.agg (vals (AS.getD k [])).toArray, u1, .agg (vals (BS.getD k [])).toArray, u2, .int .i64 (k : Int), .int .i64 (AS.length : Int)] W fun e w' => e = .returned (.bool true) ∧ Below W.heap.size W w') := hide (fun k hk hne W u1 u2 hW hu1 hu2 => by
            have ga := DigOk.get hd.2 k hk
            have gb := DigOk.get he.2 k (by omega)
            have := clash_any AS.length (AS.getD k []) (BS.getD k []) k u1 u2 (Te.path AS k) (Te.path BS k) W ga.1 ga.2 gb.1 gb.2 (by omega) hn256 hk hu1 hu2 (hla k (by omega)) (by rw [hla k (by omega), hlb k (by omega)])
            have e1 : rootD AS = Te.root AS := by unfold rootD; rw [if_neg (by omega), if_neg (by omega)]
            have e2 : rootD BS = Te.root BS := by unfold rootD; rw [if_neg (by omega), if_neg (by omega)]
            have e : Te.clash (AS.getD k []) (Te.path AS k) (BS.getD k []) (Te.path BS k) k AS.length = true := Te.clash_true AS.length _ _ _ _ k (by omega) (hla k (by omega)) (hlb k (by omega)) (by
              rw [Te.fold_path AS.length AS k rfl hk, Te.fold_path AS.length BS k h3.symm hk, ← e1, ← e2]; exact h4) hne
            rwa [e] at this)
          have HDA := hide hd
          have HDB := hide he
          rw [← h3] at HTY HDB ⊢
          clear hd he ht hpe hpa hpb hla hlb h1 h2
          generalize rootD AS = X at *
          generalize rootD BS = Y at *
          have HX := hide hX
          have HY := hide hY
          obtain ⟨n, hn⟩ : ∃ n, n = AS.length := ⟨_, rfl⟩
          rw [← hn] at HPA HPB HLG HQL HCL HDA HDB HTX HTY h3 hn256 ⊢
          have HNA := hide hn
          have HNB := hide h3
          have hne3 : ((n : Int) != (n : Int)) = false := by simp
          clear hX hY h4 hn h3
          go_enter Tryd.func7, Tryd.ntmps7
          go_wp2_with fail
          refine (HRO.out w (Below.refl _ _)).mono ?_
          rintro e w1 ⟨rfl, hb1⟩
          have HSw1 : Hid (BoxS w [] w1) := ⟨hb1, fun p hp => by cases hp⟩
          clear hb1
          go_wp2_with (first
            | (go_at_call 10; have hx_ := HSw3; clear hx_; refine (HTY.out _ HSw3.out.below).mono ?_; rintro e w4 ⟨rfl, hbw4⟩; have HSw4 := hide (HSw3.out.call hbw4); clear hbw4)
            | (refine te_store (vals (List.replicate 32 0)) Y w4.heap.size rfl (.tmp 8) (.tmp 27) rfl rfl rfl rfl (Is.new w4 _ _) (by simp [vals]) HY.out ?_; intro w5 hiw5 hbw5 hzw5; have hbw5' : Below w4.heap.size w4 w5 := (below_alloc w4 (.cells (vals (List.replicate 32 0)).toArray 26)).trans (hbw5.under (below_alloc w4 _).size (Nat.le_refl _)); have HSw5 := hide (HSw4.out.new hbw5' hiw5); clear hiw5 hbw5 hbw5' hzw5)
            | (go_at_call 10; refine (HTX.out _ HSw1.out.below).mono ?_; rintro e w2 ⟨rfl, hbw2⟩; have HSw2 := hide (HSw1.out.call hbw2); clear hbw2)
            | (refine te_store (vals (List.replicate 32 0)) X w2.heap.size rfl (.tmp 6) (.tmp 22) rfl rfl rfl rfl (Is.new w2 _ _) (by simp [vals]) HX.out ?_; intro w3 hiw3 hbw3 hzw3; have hbw3' : Below w2.heap.size w2 w3 := (below_alloc w2 (.cells (vals (List.replicate 32 0)).toArray 26)).trans (hbw3.under (below_alloc w2 _).size (Nat.le_refl _)); have HSw3 := hide (HSw2.out.new hbw3' hiw3); clear hiw3 hbw3 hbw3' hzw3)
            | (refine wpList_load_arrG 26 (vals X) (w2.heap.size) (.tmp 6) rfl rfl (by rfl) (HSw5.out.get (w2.heap.size) X (by simp)) Tryd.underlying26 size_dig (by rw [vals_length]; exact HX.out) ?_)
            | (refine wpList_load_arrG 26 (vals Y) (w4.heap.size) (.tmp 8) rfl rfl (by rfl) (HSw5.out.get (w4.heap.size) Y (by simp)) Tryd.underlying26 size_dig (by rw [vals_length]; exact HY.out) ?_))
          have HB5 := hide HSw5.out.below
          clear HSw1 HSw3 HSw5 HRO HTX HTY HX HY hqxy
          go_loopw [10] (fun c wr => ∃ k : Nat, k ≤ n ∧ c = .int .i64 (k : Int) ∧ Below w.heap.size w wr) (fun c _ => n - (intOf c).toNat)
          case atStart => exact ⟨0, Nat.zero_le _, rfl, HB5.out⟩
          case round =>
            obtain ⟨k, hk, rfl, hb⟩ := hrel
            clear HB5
            by_cases hkl : k < n
            · have hki : (k : Int) < (n : Int) := by omega
              obtain ⟨b1, o1, x1, hv, _, _, hat1⟩ := HDA.out.at' (by rw [← HNA.out]; omega)
              injection hv with f1 f2 f3
              subst f1 f3
              clear f2
              obtain ⟨b2, o2, x2, hv2, _, _, hat2⟩ := HDB.out.at' (by rw [← HNB.out]; omega)
              injection hv2 with g1 g2 g3
              subst g1 g3
              clear g2
              have hA := (hat1.1.get k (by rw [← HNA.out]; exact hkl)).1
              have hB := (hat2.1.get k (by rw [← HNB.out]; exact hkl)).1
              have HX6 : Hid (w.rangeAt b1 (o1 + k * 32) (vals (AS.getD k [])) ∧ b1 < w.heap.size ∧ w.rangeAt b2 (o2 + k * 32) (vals (BS.getD k [])) ∧ b2 < w.heap.size) := ⟨hat1.2.2 k (by rw [← HNA.out]; exact hkl), hat1.2.1, hat2.2.2 k (by rw [← HNB.out]; exact hkl), hat2.2.1⟩
              have HS0 : Hid (wr.rangeAt b1 (o1 + k * 32) (vals (AS.getD k [])) ∧ wr.rangeAt b2 (o2 + k * 32) (vals (BS.getD k [])) ∧ Below w.heap.size w wr) := ⟨range_keep HX6.out.1 hb HX6.out.2.1, range_keep HX6.out.2.2.1 hb HX6.out.2.2.2, hb⟩
              have hk0 : (0 : Int) ≤ (k : Int) := by omega
              have HCL1 := HCL.out k hkl
              have HPA1 := hide (HPA.out k hkl)
              have HPB1 := hide (HPB.out k hkl)
              have HLG1 := hide (HLG.out k hkl)
              have HQL1 := hide (HQL.out k hkl)
              clear hat1 hat2 hb HDA HDB HCL HPA HPB HLG HQL
              generalize AS.getD k [] = A at *
              generalize BS.getD k [] = B at *
              generalize Te.path AS k = P at *
              generalize Te.path BS k = Q at *
              have hqab := fun w' => dig_eq A B hA hB w'
              have hsza : (Tryd.prog.info? 26).map (·.size) = some (vals A).length := by rw [vals_length, hA]; exact size_dig
              have hszb : (Tryd.prog.info? 26).map (·.size) = some (vals B).length := by rw [vals_length, hB]; exact size_dig
              by_cases hab : A = B
              · rw [decide_eq_true hab] at hqab
                clear HCL1 HPA1 HPB1 HLG1 HQL1 hA hB hab
                go_wp2
                refine wp_region_held_drew (S := fun W : World => W.rangeAt b1 (o1 + k * 32) (vals A) ∧ W.rangeAt b2 (o2 + k * 32) (vals B) ∧ Below w.heap.size w W) (by kernel_rfl) ?_ (fun hHeld0 => ?_)
                · exact ⟨HS0.out.1, HS0.out.2.1, HS0.out.2.2.drew⟩
                refine wpAnyH_take (i := 0) (v := ?_) rfl (by kernel_rfl) (by kernel_rfl) (by kernel_rfl) (fun _ _ _ h => h) (Or.inl ⟨by rfl, ?_⟩) hHeld0 ?_
                rotate_left
                · (intro w hSw; (try dsimp only at hSw); go_simp <;> (try with_reducible rfl))
                simp only [Act.put, List.getElem_toArray, List.getElem_cons_zero, List.getElem_cons_succ, List.setIfInBounds_toArray, List.set_cons_zero, List.set_cons_succ]
                refine wpAnyH_take (i := 1) (v := ?_) rfl (by kernel_rfl) (by kernel_rfl) (by kernel_rfl) (fun _ _ _ h => h) (Or.inl ⟨by rfl, ?_⟩) hHeld0 ?_
                rotate_left
                · (intro w hSw; (try dsimp only at hSw); go_simp <;> (try with_reducible rfl))
                simp only [Act.put, List.getElem_toArray, List.getElem_cons_zero, List.getElem_cons_succ, List.setIfInBounds_toArray, List.set_cons_zero, List.set_cons_succ]
                refine wpAnyH_take (i := 2) (v := ?_) rfl (by kernel_rfl) (by kernel_rfl) (by kernel_rfl) (fun _ _ _ h => h) (Or.inl ⟨by rfl, ?_⟩) hHeld0 ?_
                rotate_left
                · (intro w hSw; (try dsimp only at hSw); go_simp <;> (try with_reducible rfl))
                simp only [Act.put, List.getElem_toArray, List.getElem_cons_zero, List.getElem_cons_succ, List.setIfInBounds_toArray, List.set_cons_zero, List.set_cons_succ]
                refine wpAnyH_take (i := 3) (v := .agg (vals A).toArray) rfl (by kernel_rfl) (by kernel_rfl) (by kernel_rfl) (fun _ _ _ h => h) (yieldsIf_load_mid (by rfl) _ _ rfl _ _ rfl (vals A) _ (fun w hSw => hSw.1) Tryd.underlying26 rfl hsza) hHeld0 ?_
                simp only [Act.put, List.getElem_toArray, List.getElem_cons_zero, List.getElem_cons_succ, List.setIfInBounds_toArray, List.set_cons_zero, List.set_cons_succ]
                refine wpAnyH_take (i := 4) (v := ?_) rfl (by kernel_rfl) (by kernel_rfl) (by kernel_rfl) (fun _ _ _ h => h) (Or.inl ⟨by rfl, ?_⟩) hHeld0 ?_
                rotate_left
                · (intro w hSw; (try dsimp only at hSw); go_simp <;> (try with_reducible rfl))
                simp only [Act.put, List.getElem_toArray, List.getElem_cons_zero, List.getElem_cons_succ, List.setIfInBounds_toArray, List.set_cons_zero, List.set_cons_succ]
                refine wpAnyH_take (i := 5) (v := ?_) rfl (by kernel_rfl) (by kernel_rfl) (by kernel_rfl) (fun _ _ _ h => h) (Or.inl ⟨by rfl, ?_⟩) hHeld0 ?_
                rotate_left
                · (intro w hSw; (try dsimp only at hSw); go_simp <;> (try with_reducible rfl))
                simp only [Act.put, List.getElem_toArray, List.getElem_cons_zero, List.getElem_cons_succ, List.setIfInBounds_toArray, List.set_cons_zero, List.set_cons_succ]
                refine wpAnyH_take (i := 6) (v := ?_) rfl (by kernel_rfl) (by kernel_rfl) (by kernel_rfl) (fun _ _ _ h => h) (Or.inl ⟨by rfl, ?_⟩) hHeld0 ?_
                rotate_left
                · (intro w hSw; (try dsimp only at hSw); go_simp <;> (try with_reducible rfl))
                simp only [Act.put, List.getElem_toArray, List.getElem_cons_zero, List.getElem_cons_succ, List.setIfInBounds_toArray, List.set_cons_zero, List.set_cons_succ]
                refine wpAnyH_take (i := 7) (v := .agg (vals B).toArray) rfl (by kernel_rfl) (by kernel_rfl) (by kernel_rfl) (fun _ _ _ h => h) (yieldsIf_load_mid (by rfl) _ _ rfl _ _ rfl (vals B) _ (fun w hSw => hSw.2.1) Tryd.underlying26 rfl hszb) hHeld0 ?_
                simp only [Act.put, List.getElem_toArray, List.getElem_cons_zero, List.getElem_cons_succ, List.setIfInBounds_toArray, List.set_cons_zero, List.set_cons_succ]
                refine wpAnyH_take (i := 8) (v := ?_) rfl (by kernel_rfl) (by kernel_rfl) (by kernel_rfl) (fun _ _ _ h => h) (Or.inl ⟨by rfl, ?_⟩) hHeld0 ?_
                rotate_left
                · (intro w hSw; (try dsimp only at hSw); go_simp <;> (try with_reducible rfl))
                simp only [Act.put, List.getElem_toArray, List.getElem_cons_zero, List.getElem_cons_succ, List.setIfInBounds_toArray, List.set_cons_zero, List.set_cons_succ]
                refine wpAnyH_done (by kernel_rfl) ?_ _
                go_wp2
                go_roundw
                case rel => exact ⟨k + 1, by omega, by go_num, hHeld0.2.2⟩
                case measure => simp [intOf]; omega
              · rw [decide_eq_false hab] at hqab
                have HCL1 := hide (HCL1 hab)
                obtain ⟨p, hp⟩ : ∃ p, p = P.length := ⟨_, rfl⟩
                have HPL1 : Hid (P.length = p) := hp.symm
                rw [← hp] at HLG1 HQL1
                clear hA hB hab hp
                go_wp2
                refine wp_region_held_drew (S := fun W : World => W.rangeAt b1 (o1 + k * 32) (vals A) ∧ W.rangeAt b2 (o2 + k * 32) (vals B) ∧ Below w.heap.size w W) (by kernel_rfl) ?_ (fun hHeld0 => ?_)
                · exact ⟨HS0.out.1, HS0.out.2.1, HS0.out.2.2.drew⟩
                refine wpAnyH_take (i := 0) (v := ?_) rfl (by kernel_rfl) (by kernel_rfl) (by kernel_rfl) (fun _ _ _ h => h) (Or.inl ⟨by rfl, ?_⟩) hHeld0 ?_
                rotate_left
                · (intro w hSw; (try dsimp only at hSw); go_simp <;> (try with_reducible rfl))
                simp only [Act.put, List.getElem_toArray, List.getElem_cons_zero, List.getElem_cons_succ, List.setIfInBounds_toArray, List.set_cons_zero, List.set_cons_succ]
                refine wpAnyH_take (i := 1) (v := ?_) rfl (by kernel_rfl) (by kernel_rfl) (by kernel_rfl) (fun _ _ _ h => h) (Or.inl ⟨by rfl, ?_⟩) hHeld0 ?_
                rotate_left
                · (intro w hSw; (try dsimp only at hSw); go_simp <;> (try with_reducible rfl))
                simp only [Act.put, List.getElem_toArray, List.getElem_cons_zero, List.getElem_cons_succ, List.setIfInBounds_toArray, List.set_cons_zero, List.set_cons_succ]
                refine wpAnyH_take (i := 2) (v := ?_) rfl (by kernel_rfl) (by kernel_rfl) (by kernel_rfl) (fun _ _ _ h => h) (Or.inl ⟨by rfl, ?_⟩) hHeld0 ?_
                rotate_left
                · (intro w hSw; (try dsimp only at hSw); go_simp <;> (try with_reducible rfl))
                simp only [Act.put, List.getElem_toArray, List.getElem_cons_zero, List.getElem_cons_succ, List.setIfInBounds_toArray, List.set_cons_zero, List.set_cons_succ]
                refine wpAnyH_take (i := 3) (v := .agg (vals A).toArray) rfl (by kernel_rfl) (by kernel_rfl) (by kernel_rfl) (fun _ _ _ h => h) (yieldsIf_load_mid (by rfl) _ _ rfl _ _ rfl (vals A) _ (fun w hSw => hSw.1) Tryd.underlying26 rfl hsza) hHeld0 ?_
                simp only [Act.put, List.getElem_toArray, List.getElem_cons_zero, List.getElem_cons_succ, List.setIfInBounds_toArray, List.set_cons_zero, List.set_cons_succ]
                refine wpAnyH_take (i := 4) (v := ?_) rfl (by kernel_rfl) (by kernel_rfl) (by kernel_rfl) (fun _ _ _ h => h) (Or.inl ⟨by rfl, ?_⟩) hHeld0 ?_
                rotate_left
                · (intro w hSw; (try dsimp only at hSw); go_simp <;> (try with_reducible rfl))
                simp only [Act.put, List.getElem_toArray, List.getElem_cons_zero, List.getElem_cons_succ, List.setIfInBounds_toArray, List.set_cons_zero, List.set_cons_succ]
                refine wpAnyH_take (i := 5) (v := ?_) rfl (by kernel_rfl) (by kernel_rfl) (by kernel_rfl) (fun _ _ _ h => h) (Or.inl ⟨by rfl, ?_⟩) hHeld0 ?_
                rotate_left
                · (intro w hSw; (try dsimp only at hSw); go_simp <;> (try with_reducible rfl))
                simp only [Act.put, List.getElem_toArray, List.getElem_cons_zero, List.getElem_cons_succ, List.setIfInBounds_toArray, List.set_cons_zero, List.set_cons_succ]
                refine wpAnyH_take (i := 6) (v := ?_) rfl (by kernel_rfl) (by kernel_rfl) (by kernel_rfl) (fun _ _ _ h => h) (Or.inl ⟨by rfl, ?_⟩) hHeld0 ?_
                rotate_left
                · (intro w hSw; (try dsimp only at hSw); go_simp <;> (try with_reducible rfl))
                simp only [Act.put, List.getElem_toArray, List.getElem_cons_zero, List.getElem_cons_succ, List.setIfInBounds_toArray, List.set_cons_zero, List.set_cons_succ]
                refine wpAnyH_take (i := 7) (v := .agg (vals B).toArray) rfl (by kernel_rfl) (by kernel_rfl) (by kernel_rfl) (fun _ _ _ h => h) (yieldsIf_load_mid (by rfl) _ _ rfl _ _ rfl (vals B) _ (fun w hSw => hSw.2.1) Tryd.underlying26 rfl hszb) hHeld0 ?_
                simp only [Act.put, List.getElem_toArray, List.getElem_cons_zero, List.getElem_cons_succ, List.setIfInBounds_toArray, List.set_cons_zero, List.set_cons_succ]
                refine wpAnyH_take (i := 8) (v := ?_) rfl (by kernel_rfl) (by kernel_rfl) (by kernel_rfl) (fun _ _ _ h => h) (Or.inl ⟨by rfl, ?_⟩) hHeld0 ?_
                rotate_left
                · (intro w hSw; (try dsimp only at hSw); go_simp <;> (try with_reducible rfl))
                simp only [Act.put, List.getElem_toArray, List.getElem_cons_zero, List.getElem_cons_succ, List.setIfInBounds_toArray, List.set_cons_zero, List.set_cons_succ]
                refine wpAnyH_done (by kernel_rfl) ?_ _
                go_wp2_with (first
                  | (go_at_call 17; refine (HLG1.out _).mono ?_; rintro e w8 ⟨rfl, hb8⟩; have HB8 := hide (HB7.out.call hb8); clear hb8)
                  | (go_at_call 15; have hx_ := HO6; clear hx_; refine (HPB1.out _ HH6.out).mono ?_; rintro e w7 ⟨u7, rfl, ho7, hb7⟩; have HO7 := hide ho7.has; have HB7 : Hid (BiS w b1 (o1 + k * 32) b2 (o2 + k * 32) A B _ _ P Q w7) := ⟨HH6.out.trans (hb7.mono HH6.out.size), range_keep HX6.out.1 (HH6.out.trans (hb7.mono HH6.out.size)) HX6.out.2.1, range_keep HX6.out.2.2.1 (HH6.out.trans (hb7.mono HH6.out.size)) HX6.out.2.2.2, HO6.out.below hb7, ho7.has, HX6.out.2.1, HX6.out.2.2.2⟩; obtain ⟨qa, qc, rfl⟩ := ho7.form; rw [HQL1.out] at HB7 ⊢; clear ho7 hb7)
                  | (go_at_call 15; refine (HPA1.out _ hHeld0.2.2).mono ?_; rintro e w6 ⟨u6, rfl, ho6, hb6⟩; have HO6 := hide ho6.has; have HH6 := hide (hHeld0.2.2.trans (hb6.mono hHeld0.2.2.size)); obtain ⟨pa, pc, rfl⟩ := ho6.form; rw [HPL1.out] at HO6 ⊢; clear ho6 hb6))
                refine wp_region_held_drew (S := fun W : World => BiS w b1 (o1 + k * 32) b2 (o2 + k * 32) A B (.slice pa p pc) (.slice qa p qc) P Q W) (by kernel_rfl) ?_ (fun hHeld0 => ?_)
                · exact HB8.out.drew
                refine wpAnyH_take (i := 0) (v := ?_) rfl (by kernel_rfl) (by kernel_rfl) (by kernel_rfl) (fun _ _ _ h => h) (Or.inl ⟨by rfl, ?_⟩) hHeld0 ?_
                rotate_left
                · (intro w hSw; (try dsimp only at hSw); go_simp <;> (try with_reducible rfl))
                simp only [Act.put, List.getElem_toArray, List.getElem_cons_zero, List.getElem_cons_succ, List.setIfInBounds_toArray, List.set_cons_zero, List.set_cons_succ]
                refine wpAnyH_take (i := 1) (v := ?_) rfl (by kernel_rfl) (by kernel_rfl) (by kernel_rfl) (fun _ _ _ h => h) (Or.inl ⟨by rfl, ?_⟩) hHeld0 ?_
                rotate_left
                · (intro w hSw; (try dsimp only at hSw); go_simp <;> (try with_reducible rfl))
                simp only [Act.put, List.getElem_toArray, List.getElem_cons_zero, List.getElem_cons_succ, List.setIfInBounds_toArray, List.set_cons_zero, List.set_cons_succ]
                refine wpAnyH_take (i := 2) (v := ?_) rfl (by kernel_rfl) (by kernel_rfl) (by kernel_rfl) (fun _ _ _ h => h) (Or.inl ⟨by rfl, ?_⟩) hHeld0 ?_
                rotate_left
                · (intro w hSw; (try dsimp only at hSw); go_simp <;> (try with_reducible rfl))
                simp only [Act.put, List.getElem_toArray, List.getElem_cons_zero, List.getElem_cons_succ, List.setIfInBounds_toArray, List.set_cons_zero, List.set_cons_succ]
                refine wpAnyH_take (i := 3) (v := .agg (vals A).toArray) rfl (by kernel_rfl) (by kernel_rfl) (by kernel_rfl) (fun _ _ _ h => h) (yieldsIf_load_mid (by rfl) _ _ rfl _ _ rfl (vals A) _ (fun w hSw => hSw.x) Tryd.underlying26 rfl hsza) hHeld0 ?_
                simp only [Act.put, List.getElem_toArray, List.getElem_cons_zero, List.getElem_cons_succ, List.setIfInBounds_toArray, List.set_cons_zero, List.set_cons_succ]
                refine wpAnyH_take (i := 4) (v := ?_) rfl (by kernel_rfl) (by kernel_rfl) (by kernel_rfl) (fun _ _ _ h => h) (Or.inl ⟨by rfl, ?_⟩) hHeld0 ?_
                rotate_left
                · (intro w hSw; (try dsimp only at hSw); go_simp <;> (try with_reducible rfl))
                simp only [Act.put, List.getElem_toArray, List.getElem_cons_zero, List.getElem_cons_succ, List.setIfInBounds_toArray, List.set_cons_zero, List.set_cons_succ]
                refine wpAnyH_take (i := 5) (v := ?_) rfl (by kernel_rfl) (by kernel_rfl) (by kernel_rfl) (fun _ _ _ h => h) (Or.inl ⟨by rfl, ?_⟩) hHeld0 ?_
                rotate_left
                · (intro w hSw; (try dsimp only at hSw); go_simp <;> (try with_reducible rfl))
                simp only [Act.put, List.getElem_toArray, List.getElem_cons_zero, List.getElem_cons_succ, List.setIfInBounds_toArray, List.set_cons_zero, List.set_cons_succ]
                refine wpAnyH_take (i := 6) (v := ?_) rfl (by kernel_rfl) (by kernel_rfl) (by kernel_rfl) (fun _ _ _ h => h) (Or.inl ⟨by rfl, ?_⟩) hHeld0 ?_
                rotate_left
                · (intro w hSw; (try dsimp only at hSw); go_simp <;> (try with_reducible rfl))
                simp only [Act.put, List.getElem_toArray, List.getElem_cons_zero, List.getElem_cons_succ, List.setIfInBounds_toArray, List.set_cons_zero, List.set_cons_succ]
                refine wpAnyH_take (i := 7) (v := ?_) rfl (by kernel_rfl) (by kernel_rfl) (by kernel_rfl) (fun _ _ _ h => h) (Or.inl ⟨by rfl, ?_⟩) hHeld0 ?_
                rotate_left
                · (intro w hSw; (try dsimp only at hSw); go_simp <;> (try with_reducible rfl))
                simp only [Act.put, List.getElem_toArray, List.getElem_cons_zero, List.getElem_cons_succ, List.setIfInBounds_toArray, List.set_cons_zero, List.set_cons_succ]
                refine wpAnyH_take (i := 8) (v := .agg (vals B).toArray) rfl (by kernel_rfl) (by kernel_rfl) (by kernel_rfl) (fun _ _ _ h => h) (yieldsIf_load_mid (by rfl) _ _ rfl _ _ rfl (vals B) _ (fun w hSw => hSw.y) Tryd.underlying26 rfl hszb) hHeld0 ?_
                simp only [Act.put, List.getElem_toArray, List.getElem_cons_zero, List.getElem_cons_succ, List.setIfInBounds_toArray, List.set_cons_zero, List.set_cons_succ]
                refine wpAnyH_take (i := 9) (v := ?_) rfl (by kernel_rfl) (by kernel_rfl) (by kernel_rfl) (fun _ _ _ h => h) (Or.inl ⟨by rfl, ?_⟩) hHeld0 ?_
                rotate_left
                · (intro w hSw; (try dsimp only at hSw); go_simp <;> (try with_reducible rfl))
                simp only [Act.put, List.getElem_toArray, List.getElem_cons_zero, List.getElem_cons_succ, List.setIfInBounds_toArray, List.set_cons_zero, List.set_cons_succ]
                refine wpAnyH_take (i := 10) (v := ?_) rfl (by kernel_rfl) (by kernel_rfl) (by kernel_rfl) (fun _ _ _ h => h) (Or.inl ⟨by rfl, ?_⟩) hHeld0 ?_
                rotate_left
                · (intro w hSw; (try dsimp only at hSw); go_simp <;> (try with_reducible rfl))
                simp only [Act.put, List.getElem_toArray, List.getElem_cons_zero, List.getElem_cons_succ, List.setIfInBounds_toArray, List.set_cons_zero, List.set_cons_succ]
                refine wpAnyH_take (i := 11) (v := ?_) rfl (by kernel_rfl) (by kernel_rfl) (by kernel_rfl) (fun _ _ _ h => h) (Or.inl ⟨by rfl, ?_⟩) hHeld0 ?_
                rotate_left
                · (intro w hSw; (try dsimp only at hSw); go_simp <;> (try with_reducible rfl))
                simp only [Act.put, List.getElem_toArray, List.getElem_cons_zero, List.getElem_cons_succ, List.setIfInBounds_toArray, List.set_cons_zero, List.set_cons_succ]
                refine wpAnyH_take (i := 12) (v := ?_) rfl (by kernel_rfl) (by kernel_rfl) (by kernel_rfl) (fun _ _ _ h => h) (Or.inl ⟨by rfl, ?_⟩) hHeld0 ?_
                rotate_left
                · (intro w hSw; (try dsimp only at hSw); go_simp <;> (try with_reducible rfl))
                simp only [Act.put, List.getElem_toArray, List.getElem_cons_zero, List.getElem_cons_succ, List.setIfInBounds_toArray, List.set_cons_zero, List.set_cons_succ]
                refine wpAnyH_ready (rs := [13]) (by kernel_rfl) (by simp) ?_
                refine AllReadyH.cons rfl (fun K hK => ?_) AllReadyH.nil
                go_simp
                go_wp2_with ((go_at_call 23; refine (HCL1.out _ _ _ hHeld0.below hHeld0.p hHeld0.q).mono ?_; rintro e w9 ⟨rfl, hb9⟩))
                refine hK.out _ _ (by exact hHeld0.call hb9) (fun hHeld1 => ?_)
                clear hK K hHeld0
                try simp only [Act.put, List.getElem_toArray, List.getElem_cons_zero, List.getElem_cons_succ, List.setIfInBounds_toArray, List.set_cons_zero, List.set_cons_succ]
                refine wpAnyH_take (i := 14) (v := ?_) rfl (by kernel_rfl) (by kernel_rfl) (by kernel_rfl) (fun _ _ _ h => h) (Or.inl ⟨by rfl, ?_⟩) hHeld1 ?_
                rotate_left
                · (intro w hSw; (try dsimp only at hSw); go_simp <;> (try with_reducible rfl))
                simp only [Act.put, List.getElem_toArray, List.getElem_cons_zero, List.getElem_cons_succ, List.setIfInBounds_toArray, List.set_cons_zero, List.set_cons_succ]
                refine wpAnyH_done (by kernel_rfl) ?_ _
                go_wp2
                go_ret
                exact ⟨rfl, hHeld1.below⟩
            · have hki : ¬ (k : Int) < (n : Int) := by omega
              clear HDA HDB HCL HPA HPB HLG HQL HNA HNB
              go_wp2
              exact bodyPost_ret (v := .bool true) (by simp [results, Tryd.results7]) rfl ⟨rfl, hb⟩
        · rw [decide_eq_false h4] at hqxy
          rw [← h3] at HTY ⊢
          generalize rootD AS = X at *
          generalize rootD BS = Y at *
          have HX := hide hX
          have HY := hide hY
          generalize AS.length = n at *
          have hne3 : ((n : Int) != (n : Int)) = false := by simp
          clear hd he ht hX hY h1 h2 h3 h4
          go_enter Tryd.func7, Tryd.ntmps7
          go_wp2_with fail
          refine (HRO.out w (Below.refl _ _)).mono ?_
          rintro e w1 ⟨rfl, hb1⟩
          have HSw1 : Hid (BoxS w [] w1) := ⟨hb1, fun p hp => by cases hp⟩
          clear hb1
          go_wp2_with (first
            | (go_at_call 10; have hx_ := HSw3; clear hx_; refine (HTY.out _ HSw3.out.below).mono ?_; rintro e w4 ⟨rfl, hbw4⟩; have HSw4 := hide (HSw3.out.call hbw4); clear hbw4)
            | (refine te_store (vals (List.replicate 32 0)) Y w4.heap.size rfl (.tmp 8) (.tmp 27) rfl rfl rfl rfl (Is.new w4 _ _) (by simp [vals]) HY.out ?_; intro w5 hiw5 hbw5 hzw5; have hbw5' : Below w4.heap.size w4 w5 := (below_alloc w4 (.cells (vals (List.replicate 32 0)).toArray 26)).trans (hbw5.under (below_alloc w4 _).size (Nat.le_refl _)); have HSw5 := hide (HSw4.out.new hbw5' hiw5); clear hiw5 hbw5 hbw5' hzw5)
            | (go_at_call 10; refine (HTX.out _ HSw1.out.below).mono ?_; rintro e w2 ⟨rfl, hbw2⟩; have HSw2 := hide (HSw1.out.call hbw2); clear hbw2)
            | (refine te_store (vals (List.replicate 32 0)) X w2.heap.size rfl (.tmp 6) (.tmp 22) rfl rfl rfl rfl (Is.new w2 _ _) (by simp [vals]) HX.out ?_; intro w3 hiw3 hbw3 hzw3; have hbw3' : Below w2.heap.size w2 w3 := (below_alloc w2 (.cells (vals (List.replicate 32 0)).toArray 26)).trans (hbw3.under (below_alloc w2 _).size (Nat.le_refl _)); have HSw3 := hide (HSw2.out.new hbw3' hiw3); clear hiw3 hbw3 hbw3' hzw3)
            | (refine wpList_load_arrG 26 (vals X) (w2.heap.size) (.tmp 6) rfl rfl (by rfl) (HSw5.out.get (w2.heap.size) X (by simp)) Tryd.underlying26 size_dig (by rw [vals_length]; exact HX.out) ?_)
            | (refine wpList_load_arrG 26 (vals Y) (w4.heap.size) (.tmp 8) rfl rfl (by rfl) (HSw5.out.get (w4.heap.size) Y (by simp)) Tryd.underlying26 size_dig (by rw [vals_length]; exact HY.out) ?_))
          exact bodyPost_ret (v := .bool true) (by simp [results, Tryd.results7]) rfl ⟨rfl, HSw5.out.below⟩
      · generalize rootD AS = X at *
        generalize rootD BS = Y at *
        have HX := hide hX
        have HY := hide hY
        generalize AS.length = n at *
        generalize BS.length = m at *
        have hne : ¬ (n : Int) = (m : Int) := by omega
        have hne2 : ((n : Int) == (m : Int)) = false := by simpa using hne
        have hne3 : ((n : Int) != (m : Int)) = true := by simp [bne, hne2]
        clear hd he ht hX hY h1 h2 h3 hqxy
        go_enter Tryd.func7, Tryd.ntmps7
        go_wp2_with fail
        refine (HRO.out w (Below.refl _ _)).mono ?_
        rintro e w1 ⟨rfl, hb1⟩
        have HSw1 : Hid (BoxS w [] w1) := ⟨hb1, fun p hp => by cases hp⟩
        clear hb1
        go_wp2_with (first
          | (go_at_call 10; have hx_ := HSw3; clear hx_; refine (HTY.out _ HSw3.out.below).mono ?_; rintro e w4 ⟨rfl, hbw4⟩; have HSw4 := hide (HSw3.out.call hbw4); clear hbw4)
          | (refine te_store (vals (List.replicate 32 0)) Y w4.heap.size rfl (.tmp 8) (.tmp 27) rfl rfl rfl rfl (Is.new w4 _ _) (by simp [vals]) HY.out ?_; intro w5 hiw5 hbw5 hzw5; have hbw5' : Below w4.heap.size w4 w5 := (below_alloc w4 (.cells (vals (List.replicate 32 0)).toArray 26)).trans (hbw5.under (below_alloc w4 _).size (Nat.le_refl _)); have HSw5 := hide (HSw4.out.new hbw5' hiw5); clear hiw5 hbw5 hbw5' hzw5)
          | (go_at_call 10; refine (HTX.out _ HSw1.out.below).mono ?_; rintro e w2 ⟨rfl, hbw2⟩; have HSw2 := hide (HSw1.out.call hbw2); clear hbw2)
          | (refine te_store (vals (List.replicate 32 0)) X w2.heap.size rfl (.tmp 6) (.tmp 22) rfl rfl rfl rfl (Is.new w2 _ _) (by simp [vals]) HX.out ?_; intro w3 hiw3 hbw3 hzw3; have hbw3' : Below w2.heap.size w2 w3 := (below_alloc w2 (.cells (vals (List.replicate 32 0)).toArray 26)).trans (hbw3.under (below_alloc w2 _).size (Nat.le_refl _)); have HSw3 := hide (HSw2.out.new hbw3' hiw3); clear hiw3 hbw3 hbw3' hzw3))
        exact bodyPost_ret (v := .bool true) (by simp [results, Tryd.results7]) rfl ⟨rfl, HSw5.out.below⟩
    · rw [te_errV_ne h2] at HTY
      generalize rootE BS.length = ey at *
      generalize rootD AS = X at *
      generalize rootD BS = Y at *
      have HX := hide hX
      have HY := hide hY
      generalize AS.length = n at *
      generalize BS.length = m at *
      clear hd he ht hX hY h1 h2 hqxy
      go_enter Tryd.func7, Tryd.ntmps7
      go_wp2_with fail
      refine (HRO.out w (Below.refl _ _)).mono ?_
      rintro e w1 ⟨rfl, hb1⟩
      have HSw1 : Hid (BoxS w [] w1) := ⟨hb1, fun p hp => by cases hp⟩
      clear hb1
      go_wp2_with (first
        | (go_at_call 10; have hx_ := HSw3; clear hx_; refine (HTY.out _ HSw3.out.below).mono ?_; rintro e w4 ⟨rfl, hbw4⟩; have HSw4 := hide (HSw3.out.call hbw4); clear hbw4)
        | (refine te_store (vals (List.replicate 32 0)) Y w4.heap.size rfl (.tmp 8) (.tmp 27) rfl rfl rfl rfl (Is.new w4 _ _) (by simp [vals]) HY.out ?_; intro w5 hiw5 hbw5 hzw5; have hbw5' : Below w4.heap.size w4 w5 := (below_alloc w4 (.cells (vals (List.replicate 32 0)).toArray 26)).trans (hbw5.under (below_alloc w4 _).size (Nat.le_refl _)); have HSw5 := hide (HSw4.out.new hbw5' hiw5); clear hiw5 hbw5 hbw5' hzw5)
        | (go_at_call 10; refine (HTX.out _ HSw1.out.below).mono ?_; rintro e w2 ⟨rfl, hbw2⟩; have HSw2 := hide (HSw1.out.call hbw2); clear hbw2)
        | (refine te_store (vals (List.replicate 32 0)) X w2.heap.size rfl (.tmp 6) (.tmp 22) rfl rfl rfl rfl (Is.new w2 _ _) (by simp [vals]) HX.out ?_; intro w3 hiw3 hbw3 hzw3; have hbw3' : Below w2.heap.size w2 w3 := (below_alloc w2 (.cells (vals (List.replicate 32 0)).toArray 26)).trans (hbw3.under (below_alloc w2 _).size (Nat.le_refl _)); have HSw3 := hide (HSw2.out.new hbw3' hiw3); clear hiw3 hbw3 hbw3' hzw3))
      exact bodyPost_ret (v := .bool true) (by simp [results, Tryd.results7]) rfl ⟨rfl, HSw5.out.below⟩
  · rw [te_errV_ne h1] at HTX
    generalize rootE AS.length = ex at *
    generalize errV (rootE BS.length) = ey at *
    generalize rootD AS = X at *
    generalize rootD BS = Y at *
    have HX := hide hX
    have HY := hide hY
    generalize AS.length = n at *
    generalize BS.length = m at *
    clear hd he ht hX hY h1 hqxy
    go_enter Tryd.func7, Tryd.ntmps7
    go_wp2_with fail
    refine (HRO.out w (Below.refl _ _)).mono ?_
    rintro e w1 ⟨rfl, hb1⟩
    have HSw1 : Hid (BoxS w [] w1) := ⟨hb1, fun p hp => by cases hp⟩
    clear hb1
    go_wp2_with (first
      | (go_at_call 10; have hx_ := HSw3; clear hx_; refine (HTY.out _ HSw3.out.below).mono ?_; rintro e w4 ⟨rfl, hbw4⟩; have HSw4 := hide (HSw3.out.call hbw4); clear hbw4)
      | (refine te_store (vals (List.replicate 32 0)) Y w4.heap.size rfl (.tmp 8) (.tmp 27) rfl rfl rfl rfl (Is.new w4 _ _) (by simp [vals]) HY.out ?_; intro w5 hiw5 hbw5 hzw5; have hbw5' : Below w4.heap.size w4 w5 := (below_alloc w4 (.cells (vals (List.replicate 32 0)).toArray 26)).trans (hbw5.under (below_alloc w4 _).size (Nat.le_refl _)); have HSw5 := hide (HSw4.out.new hbw5' hiw5); clear hiw5 hbw5 hbw5' hzw5)
      | (go_at_call 10; refine (HTX.out _ HSw1.out.below).mono ?_; rintro e w2 ⟨rfl, hbw2⟩; have HSw2 := hide (HSw1.out.call hbw2); clear hbw2)
      | (refine te_store (vals (List.replicate 32 0)) X w2.heap.size rfl (.tmp 6) (.tmp 22) rfl rfl rfl rfl (Is.new w2 _ _) (by simp [vals]) HX.out ?_; intro w3 hiw3 hbw3 hzw3; have hbw3' : Below w2.heap.size w2 w3 := (below_alloc w2 (.cells (vals (List.replicate 32 0)).toArray 26)).trans (hbw3.under (below_alloc w2 _).size (Nat.le_refl _)); have HSw3 := hide (HSw2.out.new hbw3' hiw3); clear hiw3 hbw3 hbw3' hzw3))
    exact bodyPost_ret (v := .bool true) (by simp [results, Tryd.results7]) rfl ⟨rfl, HSw5.out.below⟩
end Go.Proofs.YtphdnbflogobfaaDoor
