/- The contracts of tree.pathOf and tree.sides. -/
import Derived.Test.YtphdnbflogobfaaDoorTeRt
namespace Go.Proofs.YtphdnbflogobfaaDoor
open Go.RowKit
set_option linter.unusedVariables false
set_option linter.unusedSimpArgs false

theorem long_small (i n : Nat) (h1 : 1 ≤ n) (h : n ≤ 256) : Te.long i n ≤ 8 := Nat.le_trans (Te.long_le n i h1) (Te.bits_pow 8 _ (by omega))
theorem path_small (DS : List (List Int)) (i n : Nat) (hn : DS.length = n) (h1 : 1 ≤ n) (h : n ≤ 256) : (Te.path DS i).length ≤ 8 := by
  rw [Te.path_length n DS i hn h1]; exact long_small i n h1 h

set_option maxRecDepth 100000 in
set_option maxHeartbeats 400000 in
theorem pathOf_any (n : Nat) : ∀ (DS : List (List Int)) (i b off cap : Nat) (w : World), DS.length = n → 1 ≤ n → n ≤ 256 → i < n → DigsAt w b off DS → n ≤ cap → cap ≤ maxLen → Tab w → 1 < w.heap.size →
    Calls Tryd.prog 30 #[.slice (some ⟨b, off, none⟩) n cap, .int .i64 (i : Int)] w fun e w' => ∃ v, e = .returned v ∧ OwnDigs w' w.heap.size v (Te.path DS i) ∧ Below w.heap.size w w' := by
  induction n using Nat.strongRecOn with
  | _ n ih =>
    intro DS i b off cap w hn h1 h256 hin hd hc hm ht hw
    by_cases h2 : 2 ≤ n
    · have hp := Te.half_pos n
      have hl := Te.half_lt n h2
      have HH := hide (fun W => halves_any b off n cap W h2 h256 hc hm)
      have htl : (DS.take (Te.half n)).length = Te.half n := by rw [List.length_take]; omega
      have hdl : (DS.drop (Te.half n)).length = n - Te.half n := by rw [List.length_drop]; omega
      have hra := root_ok (Te.half n) (DS.take (Te.half n)) htl hp (hd.1.take _)
      have hrc := root_ok (n - Te.half n) (DS.drop (Te.half n)) hdl (by omega) (hd.1.drop _)
      have hn1 : ¬ (n : Int) = 1 := by omega
      have hn2 : ((n : Int) == 1) = false := by simpa using hn1
      by_cases hik : i < Te.half n
      · have hps := path_small (DS.take (Te.half n)) i (Te.half n) htl hp (by omega)
        have HA : Hid (∀ W, Below w.heap.size w W → Calls Tryd.prog 30 #[.slice (some ⟨b, off, none⟩) (Te.half n) (Te.half n), .int .i64 (i : Int)] W fun e w' => ∃ v, e = .returned v ∧ OwnDigs w' W.heap.size v (Te.path (DS.take (Te.half n)) i) ∧ Below W.heap.size W w') := hide (fun W hW =>
          ih (Te.half n) hl (DS.take (Te.half n)) i b off (Te.half n) W htl hp (by omega) hik ((hd.below hW).take _) (Nat.le_refl _) (by omega) (ht.below hW hw) (Nat.lt_of_lt_of_le hw hW.size))
        have HC : Hid (∀ W, Below w.heap.size w W → Calls Tryd.prog 27 #[.slice (some ⟨b, off + Te.half n * 32, none⟩) (n - Te.half n) (cap - Te.half n)] W fun e w' => e = .returned (.agg (vals (Te.root (DS.drop (Te.half n)))).toArray) ∧ Below W.heap.size W w') := hide (fun W hW =>
          rootOf_any (n - Te.half n) (DS.drop (Te.half n)) b (off + Te.half n * 32) (cap - Te.half n) W hdl (by omega) (by omega) ((hd.below hW).drop _) (by omega) (by omega) (ht.below hW hw) (Nat.lt_of_lt_of_le hw hW.size))
        have e : Te.path DS i = Te.path (DS.take (Te.half n)) i ++ [Te.root (DS.drop (Te.half n))] := by rw [← hn] at hik ⊢; exact Te.path_left DS i (by omega) hik
        rw [e]
        have HRC := hide hrc
        have HPS := hide hps
        generalize Te.path (DS.take (Te.half n)) i = P at *
        generalize Te.root (DS.drop (Te.half n)) = R at *
        generalize Te.half n = k at *
        have hik2 : (i : Int) < (k : Int) := by omega
        have HB := hide (Below.refl w.heap.size w)
        clear ih hd ht hra hrc hps e
        go_enter Tryd.func30, Tryd.ntmps30
        go_wp2_with fail
        refine (HH.out _).mono ?_
        rintro e w1 ⟨rfl, hb1⟩
        have HB1 := hide (HB.out.trans (hb1.mono HB.out.size))
        clear hb1
        go_wp2_with fail
        refine (HA.out _ HB1.out).mono ?_
        rintro e w2 ⟨v2, rfl, ho2, hb2⟩
        have HB2 := hide (HB1.out.trans (hb2.mono HB1.out.size))
        have HO2 := hide (ho2.low HB1.out.size)
        obtain ⟨a2, c2, rfl⟩ := ho2.form
        clear hb2 ho2
        go_wp2_with fail
        refine (HC.out _ HB2.out).mono ?_
        rintro e w3 ⟨rfl, hb3⟩
        have HB3 := hide (HB2.out.trans (hb3.mono HB2.out.size))
        have HO3 := hide (HO2.out.below hb3)
        clear hb3
        go_wp2_with (first
          | (refine te_build R rfl (.tmp 23) rfl rfl HRC.out.1 ?_)
          | (at_builtin; refine te_append _ rfl (.tmp 21) (.tmp 24) rfl w.heap.size _ P rfl R w3.heap.size 1 rfl (HO3.out.below (below_alloc _ _)) (Is.new _ _ _) HRC.out.1 HRC.out.2 (by have := HPS.out; omega) (Nat.le_trans HB3.out.size (below_alloc w3 _).size) ?_; intro v6 w6 ho6 hg6 hv6))
        exact bodyPost_ret (v := v6) (by simp [results, Tryd.results30]) rfl ⟨v6, rfl, ho6, (HB3.out.alloc HB3.out.size _).grown hg6 (Nat.le_trans HB3.out.size (below_alloc w3 (.cells (vals R).toArray 26)).size) (fun r hr => (HO3.out.block r hr).1)⟩
      · have hps := path_small (DS.drop (Te.half n)) (i - Te.half n) (n - Te.half n) hdl (by omega) (by omega)
        have HA : Hid (∀ W, Below w.heap.size w W → Calls Tryd.prog 30 #[.slice (some ⟨b, off + Te.half n * 32, none⟩) (n - Te.half n) (cap - Te.half n), .int .i64 ((i : Int) - (Te.half n : Int))] W fun e w' => ∃ v, e = .returned v ∧ OwnDigs w' W.heap.size v (Te.path (DS.drop (Te.half n)) (i - Te.half n)) ∧ Below W.heap.size W w') := hide (fun W hW => by
          have := ih (n - Te.half n) (by omega) (DS.drop (Te.half n)) (i - Te.half n) b (off + Te.half n * 32) (cap - Te.half n) W hdl (by omega) (by omega) (by omega) ((hd.below hW).drop _) (by omega) (by omega) (ht.below hW hw) (Nat.lt_of_lt_of_le hw hW.size)
          rwa [show (((i - Te.half n : Nat)) : Int) = (i : Int) - (Te.half n : Int) by omega] at this)
        have HC : Hid (∀ W, Below w.heap.size w W → Calls Tryd.prog 27 #[.slice (some ⟨b, off, none⟩) (Te.half n) (Te.half n)] W fun e w' => e = .returned (.agg (vals (Te.root (DS.take (Te.half n)))).toArray) ∧ Below W.heap.size W w') := hide (fun W hW =>
          rootOf_any (Te.half n) (DS.take (Te.half n)) b off (Te.half n) W htl hp (by omega) ((hd.below hW).take _) (Nat.le_refl _) (by omega) (ht.below hW hw) (Nat.lt_of_lt_of_le hw hW.size))
        have e : Te.path DS i = Te.path (DS.drop (Te.half n)) (i - Te.half n) ++ [Te.root (DS.take (Te.half n))] := by rw [← hn] at hik ⊢; exact Te.path_right DS i (by omega) hik
        rw [e]
        have HRC := hide hra
        have HPS := hide hps
        generalize Te.path (DS.drop (Te.half n)) (i - Te.half n) = P at *
        generalize Te.root (DS.take (Te.half n)) = R at *
        generalize Te.half n = k at *
        have hik2 : ¬ (i : Int) < (k : Int) := by omega
        have hwr : wrap64 ((i : Int) - (k : Int)) = (i : Int) - (k : Int) := by simp [wrap64]; omega
        have HB := hide (Below.refl w.heap.size w)
        clear ih hd ht hra hrc hps e
        go_enter Tryd.func30, Tryd.ntmps30
        go_wp2_with fail
        refine (HH.out _).mono ?_
        rintro e w1 ⟨rfl, hb1⟩
        have HB1 := hide (HB.out.trans (hb1.mono HB.out.size))
        clear hb1
        go_wp2_with fail
        refine (HA.out _ HB1.out).mono ?_
        rintro e w2 ⟨v2, rfl, ho2, hb2⟩
        have HB2 := hide (HB1.out.trans (hb2.mono HB1.out.size))
        have HO2 := hide (ho2.low HB1.out.size)
        obtain ⟨a2, c2, rfl⟩ := ho2.form
        clear hb2 ho2
        go_wp2_with fail
        refine (HC.out _ HB2.out).mono ?_
        rintro e w3 ⟨rfl, hb3⟩
        have HB3 := hide (HB2.out.trans (hb3.mono HB2.out.size))
        have HO3 := hide (HO2.out.below hb3)
        clear hb3
        go_wp2_with (first
          | (refine te_build R rfl (.tmp 33) rfl rfl HRC.out.1 ?_)
          | (at_builtin; refine te_append _ rfl (.tmp 31) (.tmp 34) rfl w.heap.size _ P rfl R w3.heap.size 1 rfl (HO3.out.below (below_alloc _ _)) (Is.new _ _ _) HRC.out.1 HRC.out.2 (by have := HPS.out; omega) (Nat.le_trans HB3.out.size (below_alloc w3 _).size) ?_; intro v6 w6 ho6 hg6 hv6))
        exact bodyPost_ret (v := v6) (by simp [results, Tryd.results30]) rfl ⟨v6, rfl, ho6, (HB3.out.alloc HB3.out.size _).grown hg6 (Nat.le_trans HB3.out.size (below_alloc w3 (.cells (vals R).toArray 26)).size) (fun r hr => (HO3.out.block r hr).1)⟩
    · have hn1 : n = 1 := by omega
      subst hn1
      rw [Te.path_one DS i hn]
      clear ih hd ht
      go_enter Tryd.func30, Tryd.ntmps30
      go_wp2
      exact bodyPost_ret (v := .slice none 0 0) (by simp [results, Tryd.results30]) rfl ⟨_, rfl, OwnDigs.nil _ _, Below.refl _ _⟩
end Go.Proofs.YtphdnbflogobfaaDoor
