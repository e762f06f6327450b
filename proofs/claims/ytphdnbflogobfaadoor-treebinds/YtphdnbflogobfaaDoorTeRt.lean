/- The contract of tree.rootOf. -/
import Derived.Test.YtphdnbflogobfaaDoorTeHf
import Derived.Test.YtphdnbflogobfaaDoorTeNd
namespace Go.Proofs.YtphdnbflogobfaaDoor
open Go.RowKit
set_option linter.unusedVariables false
set_option linter.unusedSimpArgs false

theorem root_ok (n : Nat) : ∀ (DS : List (List Int)), DS.length = n → 1 ≤ n → DigOk DS → (Te.root DS).length = 32 ∧ Sz.Byt (Te.root DS) := by
  intro DS hn h1 hd
  by_cases h2 : 2 ≤ n
  · rw [Te.root_more DS (by omega)]
    exact ⟨Te.nd_length _ _, Te.nd_byt _ _⟩
  · have := hd.get 0 (by omega)
    have e : Te.root DS = DS.getD 0 [] := by rw [Te.root, dif_pos (by omega)]
    rw [e]; exact this

set_option maxRecDepth 100000 in
set_option maxHeartbeats 400000 in
theorem rootOf_any (n : Nat) : ∀ (DS : List (List Int)) (b off cap : Nat) (w : World), DS.length = n → 1 ≤ n → n ≤ 256 → DigsAt w b off DS → n ≤ cap → cap ≤ maxLen → Tab w → 1 < w.heap.size →
    Calls Tryd.prog 27 #[.slice (some ⟨b, off, none⟩) n cap] w fun e w' => e = .returned (.agg (vals (Te.root DS)).toArray) ∧ Below w.heap.size w w' := by
  induction n using Nat.strongRecOn with
  | _ n ih =>
    intro DS b off cap w hn h1 h256 hd hc hm ht hw
    have HI := hide (Is.new w (vals (List.replicate 32 0)) 26)
    have HB := hide (below_alloc w (.cells (vals (List.replicate 32 0)).toArray 26))
    have HR := hide (root_ok n DS hn h1 hd.1)
    by_cases h2 : 2 ≤ n
    · have hp := Te.half_pos n
      have hl := Te.half_lt n h2
      have HH := hide (fun W => halves_any b off n cap W h2 h256 hc hm)
      have HA : Hid (∀ W, Below w.heap.size w W → Calls Tryd.prog 27 #[.slice (some ⟨b, off, none⟩) (Te.half n) (Te.half n)] W fun e w' => e = .returned (.agg (vals (Te.root (DS.take (Te.half n)))).toArray) ∧ Below W.heap.size W w') := hide (fun W hW =>
        ih (Te.half n) hl (DS.take (Te.half n)) b off (Te.half n) W (by rw [List.length_take]; omega) hp (by omega) ((hd.below hW).take _) (Nat.le_refl _) (by omega) (ht.below hW hw) (Nat.lt_of_lt_of_le hw hW.size))
      have HC : Hid (∀ W, Below w.heap.size w W → Calls Tryd.prog 27 #[.slice (some ⟨b, off + Te.half n * 32, none⟩) (n - Te.half n) (cap - Te.half n)] W fun e w' => e = .returned (.agg (vals (Te.root (DS.drop (Te.half n)))).toArray) ∧ Below W.heap.size W w') := hide (fun W hW =>
        ih (n - Te.half n) (by omega) (DS.drop (Te.half n)) b (off + Te.half n * 32) (cap - Te.half n) W (by rw [List.length_drop]; omega) (by omega) (by omega) ((hd.below hW).drop _) (by omega) (by omega) (ht.below hW hw) (Nat.lt_of_lt_of_le hw hW.size))
      have hra := root_ok (Te.half n) (DS.take (Te.half n)) (by rw [List.length_take]; omega) hp (hd.1.take _)
      have hrc := root_ok (n - Te.half n) (DS.drop (Te.half n)) (by rw [List.length_drop]; omega) (by omega) (hd.1.drop _)
      have HN : Hid (∀ W, Below w.heap.size w W → Calls Tryd.prog 20 #[.agg (vals (Te.root (DS.take (Te.half n)))).toArray, .agg (vals (Te.root (DS.drop (Te.half n)))).toArray] W fun e w' => e = .returned (.agg (vals (Te.root DS)).toArray) ∧ Below W.heap.size W w') := hide (fun W hW => by
        have := node_any _ _ W hra.1 hrc.1 hra.2 hrc.2 (ht.below hW hw) (Nat.lt_of_lt_of_le hw hW.size)
        have e := Te.root_more DS (by omega)
        rw [hn] at e
        rwa [← e] at this)
      generalize Te.root (DS.take (Te.half n)) = A at *
      generalize Te.root (DS.drop (Te.half n)) = C at *
      generalize Te.root DS = R at *
      generalize Te.half n = k at *
      have hn1 : ¬ (n : Int) = 1 := by omega
      have hn2 : ((n : Int) == 1) = false := by simpa using hn1
      clear ih hd ht hra hrc
      go_enter Tryd.func27, Tryd.ntmps27
      go_wp2_with fail
      refine (HH.out _).mono ?_
      rintro e w1 ⟨rfl, hb1⟩
      have HB1 := hide (HB.out.trans (hb1.mono HB.out.size))
      have HI1 := hide (HI.out.below hb1 HI.out.lt)
      clear hb1
      go_wp2_with fail
      refine (HA.out _ HB1.out).mono ?_
      rintro e w2 ⟨rfl, hb2⟩
      have HB2 := hide (HB1.out.trans (hb2.mono HB1.out.size))
      have HI2 := hide (HI1.out.below hb2 HI1.out.lt)
      clear hb2
      go_wp2_with fail
      refine (HC.out _ HB2.out).mono ?_
      rintro e w3 ⟨rfl, hb3⟩
      have HB3 := hide (HB2.out.trans (hb3.mono HB2.out.size))
      have HI3 := hide (HI2.out.below hb3 HI2.out.lt)
      clear hb3
      go_wp2_with fail
      refine (HN.out _ HB3.out).mono ?_
      rintro e w4 ⟨rfl, hb4⟩
      have HB4 := hide (HB3.out.trans (hb4.mono HB3.out.size))
      have HI4 := hide (HI3.out.below hb4 HI3.out.lt)
      clear hb4
      go_wp2_with (refine te_store (vals (List.replicate 32 0)) R w.heap.size rfl (.tmp 2) (.tmp 20) rfl rfl rfl rfl HI4.out (by simp [vals]) HR.out.1 ?_; intro w7 hi7 hb7 hz7)
      have hr := hi7.cellsOf Tryd.underlying26 (by rw [vals_length, HR.out.1]; exact size_dig)
      exact bodyPost_ret (v := .agg (vals R).toArray) (results_cell1 Tryd.results27 rfl hr) rfl ⟨rfl, HB4.out.trans (hb7.under HB4.out.size (Nat.le_refl _))⟩
    · have hn1 : n = 1 := by omega
      subst hn1
      have e : Te.root DS = DS.getD 0 [] := by rw [Te.root, dif_pos (by omega)]
      have HG := hide (range_keep (hd.2.2 0 (by omega)) (below_alloc w (.cells (vals (List.replicate 32 0)).toArray 26)) hd.2.1)
      rw [Nat.zero_mul, Nat.add_zero] at HG
      rw [e] at HR ⊢
      generalize DS.getD 0 [] = R at *
      clear ih hd ht
      go_enter Tryd.func27, Tryd.ntmps27
      go_wp2_with (first
        | (refine te_load R b off rfl (.tmp 9) rfl rfl HG.out HR.out.1 ?_)
        | (refine te_store (vals (List.replicate 32 0)) R w.heap.size rfl (.tmp 2) (.tmp 10) rfl rfl rfl rfl HI.out (by simp [vals]) HR.out.1 ?_; intro w7 hi7 hb7 hz7))
      have hr := hi7.cellsOf Tryd.underlying26 (by rw [vals_length, HR.out.1]; exact size_dig)
      exact bodyPost_ret (v := .agg (vals R).toArray) (results_cell1 Tryd.results27 rfl hr) rfl ⟨rfl, HB.out.trans (hb7.under HB.out.size (Nat.le_refl _))⟩
end Go.Proofs.YtphdnbflogobfaaDoor
