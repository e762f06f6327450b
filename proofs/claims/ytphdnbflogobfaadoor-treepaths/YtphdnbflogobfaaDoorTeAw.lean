/- The walk of TreePaths. -/
import Derived.Test.YtphdnbflogobfaaDoorTeRw
import Derived.Test.YtphdnbflogobfaaDoorTeDg
import Derived.Deep.Cut
import Derived.Deep.CutRange
namespace Go.Proofs.YtphdnbflogobfaaDoor
open Go.RowKit
set_option linter.unusedVariables false
set_option linter.unusedSimpArgs false

set_option maxRecDepth 100000 in
set_option maxHeartbeats 8000000 in
theorem treePaths_walk (v : Value) (DS : List (List Int)) (i : Int) (l : List Int) (n : Int) (u : Value) (PS : List (List Int)) (w : World) (hd : HasDigs w v DS) (hl : l.length = 32) (hlb : Sz.Byt l) (he : HasDigs w u PS) (ht : Tab w) (hw : 1 < w.heap.size) (hE : ErrVar w) :
    Calls Tryd.prog 4 #[v, .int .i64 i, .agg (vals l).toArray, .int .i64 n, u] w fun e w' => e = .returned (.bool true) ∧ Below w.heap.size w w' := by
  have HS0 : Hid (BoxS w [(w.heap.size, l)] (w.alloc (.cells (vals l).toArray 26))) := ⟨below_alloc w _, fun p hp => by rw [List.mem_singleton.1 hp]; exact Is.new w _ _⟩
  have HTP := hide (fun W (hW : Below w.heap.size w W) => path_any v DS i W (hd.below hW) (ht.below hW hw) (Nat.lt_of_lt_of_le hw hW.size))
  have HTF := hide (fun W (hW : Below w.heap.size w W) => fold_any l i n u PS W hl hlb (he.below hW) (ht.below hW hw) (Nat.lt_of_lt_of_le hw hW.size))
  have HER : Hid (∀ W c, Below w.heap.size w W → Calls Tryd.prog 11 #[errV c, .int .i64 c] W fun e w' => e = .returned (.bool true) ∧ Below W.heap.size W w') := hide (fun W c hW => by
    have := error_any c c W (hE.below hW)
    rwa [beq_self_eq_true] at this)
  have hDk := foldD_ok l i n PS hl hlb
  have HTN := hide (fun W (hW : Below w.heap.size w W) => node_any l (foldD l i n PS) W hl hDk.1 hlb hDk.2 (ht.below hW hw) (Nat.lt_of_lt_of_le hw hW.size))
  have HRN := hide (fun W => rnode_any l (foldD l i n PS) W hl hDk.1 hlb hDk.2)
  have hRl := Te.nd_length l (foldD l i n PS)
  have HA1 : Hid (256 < DS.length → pathE i DS.length = 4 ∧ pathD DS i = []) := hide (fun h => ⟨by unfold pathE; rw [if_pos h], by unfold pathD; rw [if_pos h]⟩)
  have HA2 : Hid (¬ 256 < DS.length → i < 0 ∨ (DS.length : Int) ≤ i → pathE i DS.length = 2 ∧ pathD DS i = []) := hide (fun h h2 => ⟨by unfold pathE; rw [if_neg h, if_pos h2], by unfold pathD; rw [if_neg h, if_pos h2]⟩)
  have HA3 : Hid (¬ 256 < DS.length → ¬ (i < 0 ∨ (DS.length : Int) ≤ i) → pathE i DS.length = 0 ∧ ∀ W, Below w.heap.size w W → Calls Tryd.prog 14 #[v, .int .i64 i] W fun e w' => ∃ t, e = .returned t ∧ OwnDigs w' W.heap.size t (pathD DS i) ∧ Below W.heap.size W w') := hide (fun h h2 => ⟨by unfold pathE; rw [if_neg h, if_neg h2], fun W hW => by
    obtain ⟨b, off, cap, rfl, hc, hm, hat⟩ := (hd.below hW).at' (by omega)
    have := rpath_any DS.length DS i.toNat b off cap W rfl (by omega) (by omega) (by omega) hat hc hm
    have e : pathD DS i = Te.path DS i.toNat := by unfold pathD; rw [if_neg h, if_neg h2]
    rw [e]
    rwa [show ((i.toNat : Nat) : Int) = i by omega] at this⟩)
  have HPS : Hid ((pathD DS i).length ≤ 1000) := hide (by
    unfold pathD
    split
    · simp
    · split
      · simp
      · exact Nat.le_trans (path_small DS i.toNat DS.length rfl (by omega) (by omega)) (by omega))
  have HB1 : Hid ((n < 1 ∨ 256 < n ∨ i < 0 ∨ n ≤ i) → foldE i n PS.length = 2 ∧ foldD l i n PS = List.replicate 32 0) := hide (fun h => by
    have e : foldE i n PS.length = 2 := by unfold foldE; rw [if_pos h]
    exact ⟨e, by unfold foldD; rw [e, if_neg (by omega)]⟩)
  have HB2 : Hid (¬ (n < 1 ∨ 256 < n ∨ i < 0 ∨ n ≤ i) → PS.length ≠ Te.long i.toNat n.toNat → foldE i n PS.length = 3 ∧ foldD l i n PS = List.replicate 32 0) := hide (fun h h2 => by
    have e : foldE i n PS.length = 3 := by unfold foldE; rw [if_neg h, if_pos h2]
    exact ⟨e, by unfold foldD; rw [e, if_neg (by omega)]⟩)
  have HB3 : Hid (¬ (n < 1 ∨ 256 < n ∨ i < 0 ∨ n ≤ i) → PS.length = Te.long i.toNat n.toNat → foldE i n PS.length = 0 ∧ ∀ W, Below w.heap.size w W → Calls Tryd.prog 18 #[.agg (vals l).toArray, .int .i64 i, .int .i64 n, u] W fun e w' => e = .returned (.agg (vals (foldD l i n PS)).toArray) ∧ Below W.heap.size W w') := hide (fun h h2 => by
    have e : foldE i n PS.length = 0 := by unfold foldE; rw [if_neg h, if_neg (by simpa using h2)]
    refine ⟨e, fun W hW => ?_⟩
    have := rfolded_any n.toNat l i.toNat u PS W hl hlb (by omega) (by omega) (by omega) (he.below hW) h2
    have e2 : foldD l i n PS = Te.folded l i.toNat n.toNat PS := by unfold foldD; rw [e, if_pos rfl]
    rw [e2]
    rwa [show ((i.toNat : Nat) : Int) = i by omega, show ((n.toNat : Nat) : Int) = n by omega] at this)
  have HLG : Hid (¬ (n < 1 ∨ 256 < n ∨ i < 0 ∨ n ≤ i) → ∀ W, Calls Tryd.prog 17 #[.int .i64 i, .int .i64 n] W fun e w' => e = .returned (.int .i64 (Te.long i.toNat n.toNat : Int)) ∧ Below W.heap.size W w') := hide (fun h W => by
    have := rlong_any n.toNat i.toNat W (by omega) (by omega) (by omega)
    rwa [show ((i.toNat : Nat) : Int) = i by omega, show ((n.toNat : Nat) : Int) = n by omega] at this)
  have hDl := hDk.1
  have hgd := guard_dig
  obtain ⟨a1, c1, rfl, _, _⟩ := hd.form
  obtain ⟨a2, c2, rfl, _, _⟩ := he.form
  have hqR := fun w' => dig_eq _ _ hRl hRl w'
  rw [decide_eq_true rfl] at hqR
  have hqD := fun w' => dig_eq _ _ hDl hDl w'
  rw [decide_eq_true rfl] at hqD
  generalize Te.nd l (foldD l i n PS) = R at *
  generalize foldD l i n PS = DD at *
  generalize foldE i n PS.length = F at *
  generalize pathE i DS.length = E at *
  generalize pathD DS i = P at *
  generalize Te.long i.toNat n.toNat = M at *
  generalize DS.length = N at *
  generalize PS.length = q at *
  have HL32 := hide hl
  have HD32 := hide hDl
  have hszl : (Tryd.prog.info? 26).map (·.size) = some (vals l).length := by rw [vals_length, hl]; exact size_dig
  have hszd : (Tryd.prog.info? 26).map (·.size) = some (vals DD).length := by rw [vals_length, hDl]; exact size_dig
  clear hd he ht hE hl hlb hDk hRl hDl
  go_enter Tryd.func4, Tryd.ntmps4
  go_upto_if 21 with fail
  go_cut [11, 12] from 19 to 32 (fun e t wx => e = .int .i64 E ∧ HasDigs wx t P ∧ (∃ ta tc, t = .slice ta P.length tc) ∧ BoxS w [(w.heap.size, l)] wx)
  case first =>
    clear HTP HTF HER HTN HRN HPS HB1 HB2 HB3 HLG hqR hqD hszl hszd
    by_cases hN : 256 < N
    · have hA := HA1.out hN
      have hNi : (256 : Int) < (N : Int) := by omega
      have HA := hide hA
      clear hA HA1 HA2 HA3
      go_wp2
      go_meet
      case rel => exact ⟨by rw [HA.out.1], by rw [HA.out.2]; exact (OwnDigs.nil _ 0).has, ⟨none, 0, by rw [HA.out.2]; rfl⟩, HS0.out⟩
    · have hNi : ¬ (256 : Int) < (N : Int) := by omega
      by_cases hi : i < 0
      · have HA := hide (HA2.out hN (.inl hi))
        clear HA1 HA2 HA3
        go_wp2
        go_meet
        case rel => exact ⟨by rw [HA.out.1], by rw [HA.out.2]; exact (OwnDigs.nil _ 0).has, ⟨none, 0, by rw [HA.out.2]; rfl⟩, HS0.out⟩
      · by_cases hj : (N : Int) ≤ i
        · have HA := hide (HA2.out hN (.inr hj))
          clear HA1 HA2 HA3
          go_wp2
          go_meet
          case rel => exact ⟨by rw [HA.out.1], by rw [HA.out.2]; exact (OwnDigs.nil _ 0).has, ⟨none, 0, by rw [HA.out.2]; rfl⟩, HS0.out⟩
        · have HA := hide (HA3.out hN (by omega))
          clear HA1 HA2 HA3
          go_wp2_with (go_at_call 14; refine (HA.out.2 _ HS0.out.below).mono ?_; rintro e w1 ⟨t, rfl, ho1, hb1⟩; have HO1 := hide ho1; have HS1 := hide (HS0.out.call hb1); clear ho1 hb1)
          go_meet
          case rel => exact ⟨by rw [HA.out.1], HO1.out.has, HO1.out.form, HS1.out⟩
  case rest =>
    obtain ⟨rfl, hP, ⟨ta, tc, rfl⟩, hS⟩ := hcut
    obtain ⟨w2, hw2⟩ : ∃ q, q = wc := ⟨_, rfl⟩
    subst hw2
    have HP2 := hide hP
    have HS2 := hide hS
    have HPL : Hid (P.length ≤ 1000) := HPS.out
    clear hP hS HA1 HA2 HA3 HPS HS0
    go_upto_region 15 with (first
      | (go_at_call 16; refine (HDG.out).mono ?_; rintro e w5 ⟨rfl, hb5⟩; have HS5 := hide (HS4.out.call hb5); clear hb5)
      | (go_at_call 11; refine (HER.out _ _ HS3.out.below).mono ?_; rintro e w4 ⟨rfl, hb4⟩; have HS4 := hide (HS3.out.call hb4); have HDG := hide (digests_same _ _ P w4 HPL.out (HO3.out.below hb4) ((HP2.out.below (HQ3.out)).below hb4)); clear hb4)
      | (go_at_call 15; refine (HTP.out _ HS2.out.below).mono ?_; rintro e w3 ⟨t3, rfl, ho3, hb3⟩; have HO3 := hide ho3.has; have HS3 := hide (HS2.out.call hb3); have HQ3 := hide hb3; obtain ⟨pa, pc, rfl⟩ := ho3.form; clear ho3 hb3))
    have HS5S := hide HS5.out.below.size
    have HS5L := hide (HS5.out.get w.heap.size l (by simp)).lt
    clear HTP HO3 HP2 HDG HPL HQ3 HS2 HS3 HS4
    have HSB : Hid (BoxS w [(w5.heap.size, List.replicate 32 0), (w.heap.size, l)] (w5.alloc (.cells (vals (List.replicate 32 0)).toArray 26))) := HS5.out.new (below_alloc w5 _) (Is.new w5 _ _)
    go_cut [65] from 51 to 65 (fun c wx => (∃ bad : Bool, c = .bool bad ∧ (bad = true ↔ (n < 1 ∨ 256 < n ∨ i < 0 ∨ n ≤ i))) ∧ BoxS w [(w5.heap.size, List.replicate 32 0), (w.heap.size, l)] wx)
    case first =>
      clear HTF HER HTN HRN hqR hqD hszl hszd HS5 HB1 HB2 HB3 HLG
      have hcases : n < 1 ∨ (¬ n < 1 ∧ 256 < n) ∨ (¬ n < 1 ∧ ¬ 256 < n ∧ i < 0) ∨ (¬ n < 1 ∧ ¬ 256 < n ∧ ¬ i < 0 ∧ n ≤ i) ∨ (¬ n < 1 ∧ ¬ 256 < n ∧ ¬ i < 0 ∧ ¬ n ≤ i) := by omega
      rcases hcases with h1 | ⟨h1, h2⟩ | ⟨h1, h2, h3⟩ | ⟨h1, h2, h3, h4⟩ | ⟨h1, h2, h3, h4⟩
      · have HT : Hid (n < 1 ∨ 256 < n ∨ i < 0 ∨ n ≤ i) := hide (by omega)
        go_wp2
        go_meet
        case rel => exact ⟨⟨_, rfl, ⟨fun _ => HT.out, fun _ => rfl⟩⟩, HSB.out⟩
      · have HT : Hid (n < 1 ∨ 256 < n ∨ i < 0 ∨ n ≤ i) := hide (by omega)
        go_wp2
        go_meet
        case rel => exact ⟨⟨_, rfl, ⟨fun _ => HT.out, fun _ => rfl⟩⟩, HSB.out⟩
      · have HT : Hid (n < 1 ∨ 256 < n ∨ i < 0 ∨ n ≤ i) := hide (by omega)
        go_wp2
        go_meet
        case rel => exact ⟨⟨_, rfl, ⟨fun _ => HT.out, fun _ => rfl⟩⟩, HSB.out⟩
      · have HT : Hid (n < 1 ∨ 256 < n ∨ i < 0 ∨ n ≤ i) := hide (by omega)
        go_wp2
        go_meet
        case rel => exact ⟨⟨_, rfl, ⟨fun _ => HT.out, fun _ => rfl⟩⟩, HSB.out⟩
      · have HT : Hid (¬ (n < 1 ∨ 256 < n ∨ i < 0 ∨ n ≤ i)) := hide (by omega)
        go_wp2
        go_meet
        case rel => exact ⟨⟨_, rfl, ⟨fun h => (by cases h), fun h => absurd h HT.out⟩⟩, HSB.out⟩
    case rest =>
    obtain ⟨⟨bad, rfl, hbad⟩, hSB⟩ := hcut
    obtain ⟨wb, hwb⟩ : ∃ q, q = wc := ⟨_, rfl⟩
    subst hwb
    obtain ⟨g, hg⟩ : ∃ g, g = w5.heap.size := ⟨_, rfl⟩
    rw [← hg] at hSB HS5S HS5L ⊢
    have HSB := hide hSB
    have HBAD := hide hbad
    clear hSB HS5 hg hbad
    go_upto_if 65 with fail
    go_cut [11] from 66 to 76 (fun e wx => e = .int .i64 F ∧ BoxS w [(g, DD), (w.heap.size, l)] wx)
    case first =>
      clear HTF HER HTN HRN hqR hqD hszl hszd
      by_cases hb : n < 1 ∨ 256 < n ∨ i < 0 ∨ n ≤ i
      · have HA := hide (HB1.out hb)
        obtain rfl : bad = true := HBAD.out.2 hb
        clear hb HB1 HB2 HB3 HLG HBAD
        go_wp2
        go_meet
        case rel => exact ⟨by rw [HA.out.1], by rw [HA.out.2]; exact HSB.out⟩
      · have HLG1 := hide (HLG.out hb)
        obtain rfl : bad = false := by cases bad with | false => rfl | true => exact absurd (HBAD.out.1 rfl) hb
        by_cases hq : q = M
        · have HA := hide (HB3.out hb hq)
          have hne3 : ((M : Int) != (M : Int)) = false := by simp
          subst hq
          clear hb HB1 HB2 HB3 HLG
          go_wp2_with (first
            | (go_at_call 17; refine (HLG1.out _).mono ?_; rintro e w6 ⟨rfl, hb6⟩; have HS6 := hide (HSB.out.call hb6); clear hb6)
            | (refine te_load l w.heap.size 0 rfl (.tmp 7) rfl rfl ((HS6.out.get w.heap.size l (by simp)).range) HL32.out ?_)
            | (go_at_call 18; refine (HA.out.2 _ HS6.out.below).mono ?_; rintro e w8 ⟨rfl, hb8⟩; have HS8 := hide (HS6.out.call hb8); clear hb8)
            | (refine te_store (vals (List.replicate 32 0)) DD g rfl (.tmp 17) (.tmp 76) rfl rfl rfl rfl (HS8.out.get g _ (by simp)) (by simp [vals]) HD32.out ?_; intro w9 hi9 hb9 hz9; have HS9 : Hid (BoxS w [(g, DD), (w.heap.size, l)] w9) := ⟨HS8.out.below.trans (hb9.under HS8.out.below.size HS5S.out), fun p hp => by
                rcases List.mem_cons.1 hp with rfl | hp
                · exact hi9
                · rw [List.mem_singleton.1 hp]
                  have hi := HS8.out.get w.heap.size l (by simp)
                  exact hi.only hb9 hi.lt (by have := HS5L.out; omega)⟩; clear hi9 hb9 hz9))
          go_meet
          case rel => exact ⟨by rw [HA.out.1], HS9.out⟩
        · have HA := hide (HB2.out hb hq)
          have hne : ¬ (q : Int) = (M : Int) := by omega
          have hne2 : ((q : Int) == (M : Int)) = false := by simpa using hne
          have hne3 : ((q : Int) != (M : Int)) = true := by simp [bne, hne2]
          clear hb HB1 HB2 HB3 HLG hq
          go_wp2_with (go_at_call 17; refine (HLG1.out _).mono ?_; rintro e w6 ⟨rfl, hb6⟩; have HS6 := hide (HSB.out.call hb6); clear hb6)
          go_meet
          case rel => exact ⟨by rw [HA.out.1], by rw [HA.out.2]; exact HS6.out⟩
    case rest =>
      obtain ⟨rfl, hS⟩ := hcut
      obtain ⟨w6, hw6⟩ : ∃ q, q = wc := ⟨_, rfl⟩
      subst hw6
      have HS6 := hide hS
      clear hS HB1 HB2 HB3 HLG HSB HBAD
      go_wp2_with (first
        | (refine te_load l (w.heap.size) 0 rfl (.tmp 7) rfl rfl ((HS6.out.get (w.heap.size) l (by simp)).range) HL32.out ?_)
        | (go_at_call 19; refine (HTF.out _ HS6.out.below).mono ?_; rintro e w7 ⟨rfl, hb7⟩; have HS7 := hide (HS6.out.call hb7); clear hb7)
        | (refine te_store (vals (List.replicate 32 0)) DD w7.heap.size rfl (.tmp 18) (.tmp 83) rfl rfl rfl rfl (Is.new w7 _ _) (by simp [vals]) HD32.out ?_; intro w8 hiw8 hbw8 hzw8; have hbw8' : Below w7.heap.size w7 w8 := (below_alloc w7 (.cells (vals (List.replicate 32 0)).toArray 26)).trans (hbw8.under (below_alloc w7 _).size (Nat.le_refl _)); have HS8 := hide (HS7.out.new hbw8' hiw8); clear hiw8 hbw8 hbw8' hzw8)
        | (go_at_call 11; refine (HER.out _ _ HS8.out.below).mono ?_; rintro e w9 ⟨rfl, hb9⟩; have HS9 := hide (HS8.out.call hb9); clear hb9))
      obtain ⟨g0, hg0⟩ : ∃ g0, g0 = w.heap.size := ⟨_, rfl⟩
      have HS9b : BoxS w [(w7.heap.size, DD), (g, DD), (g0, l)] w9 := by rw [hg0]; exact HS9.out
      rw [← hg0]
      clear hg0
      refine wp_region_held_drew (S := fun W : World => BoxS w [(w7.heap.size, DD), (g, DD), (g0, l)] W) (by kernel_rfl) ?_ (fun hHeld0 => ?_)
      · exact HS9b.drew
      refine wpAnyH_take (i := 0) (v := ?_) rfl (by kernel_rfl) (by kernel_rfl) (by kernel_rfl) (fun _ _ _ h => h) (Or.inl ⟨by rfl, ?_⟩) hHeld0 ?_
      rotate_left
      · (intro w hSw; (try dsimp only at hSw); go_simp <;> (try with_reducible rfl))
      simp only [Act.put, List.getElem_toArray, List.getElem_cons_zero, List.getElem_cons_succ, List.setIfInBounds_toArray, List.set_cons_zero, List.set_cons_succ]
      refine wpAnyH_take (i := 1) (v := ?_) rfl (by kernel_rfl) (by kernel_rfl) (by kernel_rfl) (fun _ _ _ h => h) (Or.inl ⟨by rfl, ?_⟩) hHeld0 ?_
      rotate_left
      · (intro w hSw; (try dsimp only at hSw); go_simp <;> (try with_reducible rfl))
      simp only [Act.put, List.getElem_toArray, List.getElem_cons_zero, List.getElem_cons_succ, List.setIfInBounds_toArray, List.set_cons_zero, List.set_cons_succ]
      refine wpAnyH_take (i := 2) (v := .agg (vals DD).toArray) rfl (by kernel_rfl) (by kernel_rfl) (by kernel_rfl) (fun _ _ _ h => h) (yieldsIf_load_mid (by rfl) _ _ rfl _ _ rfl (vals DD) _ (fun w hSw => (hSw.get w7.heap.size DD (by simp)).range) Tryd.underlying26 rfl hszd) hHeld0 ?_
      simp only [Act.put, List.getElem_toArray, List.getElem_cons_zero, List.getElem_cons_succ, List.setIfInBounds_toArray, List.set_cons_zero, List.set_cons_succ]
      refine wpAnyH_take (i := 3) (v := .agg (vals DD).toArray) rfl (by kernel_rfl) (by kernel_rfl) (by kernel_rfl) (fun _ _ _ h => h) (yieldsIf_load_mid (by rfl) _ _ rfl _ _ rfl (vals DD) _ (fun w hSw => (hSw.get g DD (by simp)).range) Tryd.underlying26 rfl hszd) hHeld0 ?_
      simp only [Act.put, List.getElem_toArray, List.getElem_cons_zero, List.getElem_cons_succ, List.setIfInBounds_toArray, List.set_cons_zero, List.set_cons_succ]
      refine wpAnyH_take (i := 4) (v := ?_) rfl (by kernel_rfl) (by kernel_rfl) (by kernel_rfl) (fun _ _ _ h => h) (Or.inl ⟨by rfl, ?_⟩) hHeld0 ?_
      rotate_left
      · (intro w hSw; (try dsimp only at hSw); go_simp <;> (try with_reducible rfl))
      simp only [Act.put, List.getElem_toArray, List.getElem_cons_zero, List.getElem_cons_succ, List.setIfInBounds_toArray, List.set_cons_zero, List.set_cons_succ]
      refine wpAnyH_take (i := 5) (v := ?_) rfl (by kernel_rfl) (by kernel_rfl) (by kernel_rfl) (fun _ _ _ h => h) (Or.inl ⟨by rfl, ?_⟩) hHeld0 ?_
      rotate_left
      · (intro w hSw; (try dsimp only at hSw); go_simp <;> (try with_reducible rfl))
      simp only [Act.put, List.getElem_toArray, List.getElem_cons_zero, List.getElem_cons_succ, List.setIfInBounds_toArray, List.set_cons_zero, List.set_cons_succ]
      refine wpAnyH_take (i := 6) (v := ?_) rfl (by kernel_rfl) (by kernel_rfl) (by kernel_rfl) (fun _ _ _ h => h) (Or.inl ⟨by rfl, ?_⟩) hHeld0 ?_
      rotate_left
      · (intro w hSw; (try dsimp only at hSw); go_simp <;> (try with_reducible rfl))
      simp only [Act.put, List.getElem_toArray, List.getElem_cons_zero, List.getElem_cons_succ, List.setIfInBounds_toArray, List.set_cons_zero, List.set_cons_succ]
      refine wpAnyH_take (i := 7) (v := .agg (vals l).toArray) rfl (by kernel_rfl) (by kernel_rfl) (by kernel_rfl) (fun _ _ _ h => h) (yieldsIf_load_mid (by rfl) _ _ rfl _ _ rfl (vals l) _ (fun w hSw => (hSw.get g0 l (by simp)).range) Tryd.underlying26 rfl hszl) hHeld0 ?_
      simp only [Act.put, List.getElem_toArray, List.getElem_cons_zero, List.getElem_cons_succ, List.setIfInBounds_toArray, List.set_cons_zero, List.set_cons_succ]
      refine wpAnyH_take (i := 8) (v := .agg (vals DD).toArray) rfl (by kernel_rfl) (by kernel_rfl) (by kernel_rfl) (fun _ _ _ h => h) (yieldsIf_load_mid (by rfl) _ _ rfl _ _ rfl (vals DD) _ (fun w hSw => (hSw.get w7.heap.size DD (by simp)).range) Tryd.underlying26 rfl hszd) hHeld0 ?_
      simp only [Act.put, List.getElem_toArray, List.getElem_cons_zero, List.getElem_cons_succ, List.setIfInBounds_toArray, List.set_cons_zero, List.set_cons_succ]
      refine wpAnyH_take (i := 10) (v := .agg (vals l).toArray) rfl (by kernel_rfl) (by kernel_rfl) (by kernel_rfl) (fun _ _ _ h => h) (yieldsIf_load_mid (by rfl) _ _ rfl _ _ rfl (vals l) _ (fun w hSw => (hSw.get g0 l (by simp)).range) Tryd.underlying26 rfl hszl) hHeld0 ?_
      simp only [Act.put, List.getElem_toArray, List.getElem_cons_zero, List.getElem_cons_succ, List.setIfInBounds_toArray, List.set_cons_zero, List.set_cons_succ]
      refine wpAnyH_take (i := 11) (v := .agg (vals DD).toArray) rfl (by kernel_rfl) (by kernel_rfl) (by kernel_rfl) (fun _ _ _ h => h) (yieldsIf_load_mid (by rfl) _ _ rfl _ _ rfl (vals DD) _ (fun w hSw => (hSw.get w7.heap.size DD (by simp)).range) Tryd.underlying26 rfl hszd) hHeld0 ?_
      simp only [Act.put, List.getElem_toArray, List.getElem_cons_zero, List.getElem_cons_succ, List.setIfInBounds_toArray, List.set_cons_zero, List.set_cons_succ]
      refine wpAnyH_ready (rs := [9]) (by kernel_rfl) (by simp) ?_
      refine AllReadyH.cons rfl (fun K hK => ?_) AllReadyH.nil
      go_simp
      go_wp2_with ((go_at_call 20; refine (HTN.out _ hHeld0.below).mono ?_; rintro e wm ⟨rfl, hbm⟩))
      refine hK.out _ _ (by exact hHeld0.call hbm) (fun hHeld1 => ?_)
      clear hK K hHeld0
      try simp only [Act.put, List.getElem_toArray, List.getElem_cons_zero, List.getElem_cons_succ, List.setIfInBounds_toArray, List.set_cons_zero, List.set_cons_succ]
      refine wpAnyH_ready (rs := [12]) (by kernel_rfl) (by simp) ?_
      refine AllReadyH.cons rfl (fun K hK => ?_) AllReadyH.nil
      go_simp
      go_wp2_with ((go_at_call 21; refine (HRN.out _).mono ?_; rintro e wn ⟨rfl, hbn⟩))
      refine hK.out _ _ (by exact hHeld1.call hbn) (fun hHeld2 => ?_)
      clear hK K hHeld1
      try simp only [Act.put, List.getElem_toArray, List.getElem_cons_zero, List.getElem_cons_succ, List.setIfInBounds_toArray, List.set_cons_zero, List.set_cons_succ]
      refine wpAnyH_take (i := 13) (v := ?_) rfl (by kernel_rfl) (by kernel_rfl) (by kernel_rfl) (fun _ _ _ h => h) (Or.inl ⟨by rfl, ?_⟩) hHeld2 ?_
      rotate_left
      · (intro w hSw; (try dsimp only at hSw); go_simp <;> (try with_reducible rfl))
      simp only [Act.put, List.getElem_toArray, List.getElem_cons_zero, List.getElem_cons_succ, List.setIfInBounds_toArray, List.set_cons_zero, List.set_cons_succ]
      refine wpAnyH_take (i := 14) (v := ?_) rfl (by kernel_rfl) (by kernel_rfl) (by kernel_rfl) (fun _ _ _ h => h) (Or.inl ⟨by rfl, ?_⟩) hHeld2 ?_
      rotate_left
      · (intro w hSw; (try dsimp only at hSw); go_simp <;> (try with_reducible rfl))
      simp only [Act.put, List.getElem_toArray, List.getElem_cons_zero, List.getElem_cons_succ, List.setIfInBounds_toArray, List.set_cons_zero, List.set_cons_succ]
      refine wpAnyH_take (i := 15) (v := ?_) rfl (by kernel_rfl) (by kernel_rfl) (by kernel_rfl) (fun _ _ _ h => h) (Or.inl ⟨by rfl, ?_⟩) hHeld2 ?_
      rotate_left
      · (intro w hSw; (try dsimp only at hSw); go_simp <;> (try with_reducible rfl))
      simp only [Act.put, List.getElem_toArray, List.getElem_cons_zero, List.getElem_cons_succ, List.setIfInBounds_toArray, List.set_cons_zero, List.set_cons_succ]
      refine wpAnyH_done (by kernel_rfl) ?_ _
      go_wp2
      exact bodyPost_ret (v := .bool true) (by simp [results, Tryd.results4]) rfl ⟨rfl, hHeld2.below⟩
end Go.Proofs.YtphdnbflogobfaaDoor
