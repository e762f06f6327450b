/- The walk of TreeProves: a leaf and its path are the root. -/
import Derived.Test.YtphdnbflogobfaaDoorTeSo
namespace Go.Proofs.YtphdnbflogobfaaDoor
open Go.RowKit
set_option linter.unusedVariables false
set_option linter.unusedSimpArgs false

set_option maxRecDepth 100000 in
set_option maxHeartbeats 8000000 in
theorem treeProves_walk (v : Value) (DS : List (List Int)) (i : Int) (w : World) (hd : HasDigs w v DS) (ht : Tab w) (hw : 1 < w.heap.size) :
    Calls Tryd.prog 5 #[v, .int .i64 i] w fun e w' => e = .returned (.bool true) ∧ Below w.heap.size w w' := by
  have HRO := hide (fun W (hW : Below w.heap.size w W) => rooted_any W (ht.below hW hw) (Nat.lt_of_lt_of_le hw hW.size))
  have hgd := guard_dig
  by_cases hbad : 256 < DS.length ∨ i < 0 ∨ (DS.length : Int) ≤ i
  · obtain ⟨a, cap, rfl, hc, hm⟩ := hd.form
    generalize DS.length = n at *
    clear hd ht
    have hcases : (256 : Int) < (n : Int) ∨ (¬ (256 : Int) < (n : Int) ∧ i < 0) ∨ (¬ (256 : Int) < (n : Int) ∧ ¬ i < 0 ∧ (n : Int) ≤ i) := by omega
    clear hbad
    rcases hcases with h1 | ⟨h1, h2⟩ | ⟨h1, h2, h3⟩
    · go_enter Tryd.func5, Tryd.ntmps5
      go_wp2_with fail
      refine (HRO.out w (Below.refl _ _)).mono ?_
      rintro e w1 ⟨rfl, hb1⟩
      have HSw1 : Hid (BoxS w [] w1) := ⟨hb1, fun p hp => by cases hp⟩
      clear hb1
      go_wp2
      exact bodyPost_ret (v := .bool true) (by simp [results, Tryd.results5]) rfl ⟨rfl, HSw1.out.below⟩
    · go_enter Tryd.func5, Tryd.ntmps5
      go_wp2_with fail
      refine (HRO.out w (Below.refl _ _)).mono ?_
      rintro e w1 ⟨rfl, hb1⟩
      have HSw1 : Hid (BoxS w [] w1) := ⟨hb1, fun p hp => by cases hp⟩
      clear hb1
      go_wp2
      exact bodyPost_ret (v := .bool true) (by simp [results, Tryd.results5]) rfl ⟨rfl, HSw1.out.below⟩
    · go_enter Tryd.func5, Tryd.ntmps5
      go_wp2_with fail
      refine (HRO.out w (Below.refl _ _)).mono ?_
      rintro e w1 ⟨rfl, hb1⟩
      have HSw1 : Hid (BoxS w [] w1) := ⟨hb1, fun p hp => by cases hp⟩
      clear hb1
      go_wp2
      exact bodyPost_ret (v := .bool true) (by simp [results, Tryd.results5]) rfl ⟨rfl, HSw1.out.below⟩
  · obtain ⟨k, rfl⟩ : ∃ k : Nat, i = k := ⟨i.toNat, by omega⟩
    obtain ⟨b, off, cap, rfl, hc, hm, hat⟩ := hd.at' (by omega)
    have hk : k < DS.length := by omega
    have hpe : pathE (k : Int) DS.length = 0 := by unfold pathE; rw [if_neg (by omega), if_neg (by omega)]
    have hpd : pathD DS (k : Int) = Te.path DS k := by unfold pathD; rw [if_neg (by omega), if_neg (by omega)]; rfl
    have hre : rootE DS.length = 0 := by unfold rootE; rw [if_neg (by omega)]
    have hrd : rootD DS = Te.root DS := by unfold rootD; rw [if_neg (by omega), if_neg (by omega)]
    have hL := hat.1.get k hk
    have HRG := hide (hat.2.2 k hk)
    have hbl := hat.2.1
    have hplen := Te.path_length DS.length DS k rfl (by omega)
    have hpl : (Te.path DS k).length ≤ Te.bits (DS.length - 1) := by rw [hplen]; exact Te.long_le DS.length k (by omega)
    have HB8 : Hid (Te.bits (DS.length - 1) ≤ 8) := Te.bits_pow 8 _ (by omega)
    have hfe : foldE (k : Int) (DS.length : Int) (Te.path DS k).length = 0 := by
      unfold foldE; rw [if_neg (by omega), if_neg (by rw [hplen]; simp)]
    have hfd : foldD (DS.getD k []) (k : Int) (DS.length : Int) (Te.path DS k) = rootD DS := by
      unfold foldD; rw [hfe, if_pos rfl, hrd]; exact Te.fold_path DS.length DS k rfl hk
    have HTR := hide (fun W (hW : Below w.heap.size w W) => root_any _ DS W (hd.below hW) (ht.below hW hw) (Nat.lt_of_lt_of_le hw hW.size))
    have HTP := hide (fun W (hW : Below w.heap.size w W) => path_any _ DS (k : Int) W (hd.below hW) (ht.below hW hw) (Nat.lt_of_lt_of_le hw hW.size))
    have HTF : Hid (∀ W u, Below w.heap.size w W → HasDigs W u (Te.path DS k) → Calls Tryd.prog 19 #[.agg (vals (DS.getD k [])).toArray, .int .i64 (k : Int), .int .i64 (DS.length : Int), u] W fun e w' => e = .returned (.tuple #[.agg (vals (rootD DS)).toArray, .nilIface]) ∧ Below W.heap.size W w') := hide (fun W u hW hu => by
      have := fold_any (DS.getD k []) (k : Int) (DS.length : Int) u (Te.path DS k) W hL.1 hL.2 hu (ht.below hW hw) (Nat.lt_of_lt_of_le hw hW.size)
      rwa [hfe, hfd, show errV 0 = .nilIface from rfl] at this)
    rw [hre, show errV 0 = .nilIface from rfl] at HTR
    rw [hpe, hpd, show errV 0 = .nilIface from rfl] at HTP
    have hR := (rootD_ok DS hd.2).1
    have hqr := fun w' => dig_eq (rootD DS) (rootD DS) hR hR w'
    rw [decide_eq_true rfl] at hqr
    have HR := hide hR
    have HL := hide hL.1
    clear hd ht hat hplen hfe hfd hpe hpd hre hrd hR hL
    generalize Te.path DS k = P at *
    generalize rootD DS = R at *
    generalize DS.getD k [] = L at *
    generalize DS.length = n at *
    have hg1 : ¬ (256 : Int) < (n : Int) := by omega
    have hg2 : ¬ (k : Int) < 0 := by omega
    have hg3 : ¬ (n : Int) ≤ (k : Int) := by omega
    have hg4 : (k : Int) < (n : Int) := by omega
    have hn1 : 1 ≤ n := by omega
    have hn256 : n ≤ 256 := by omega
    clear hbad
    go_enter Tryd.func5, Tryd.ntmps5
    go_wp2_with fail
    refine (HRO.out w (Below.refl _ _)).mono ?_
    rintro e w1 ⟨rfl, hb1⟩
    have HSw1 : Hid (BoxS w [] w1) := ⟨hb1, fun p hp => by cases hp⟩
    clear hb1
    go_wp2_with (first
      | (go_at_call 10; refine (HTR.out _ HSw1.out.below).mono ?_; rintro e w2 ⟨rfl, hbw2⟩; have HSw2 := hide (HSw1.out.call hbw2); clear hbw2)
      | (refine te_store (vals (List.replicate 32 0)) R w2.heap.size rfl (.tmp 6) (.tmp 33) rfl rfl rfl rfl (Is.new w2 _ _) (by simp [vals]) HR.out ?_; intro w3 hiw3 hbw3 hzw3; have hbw3' : Below w2.heap.size w2 w3 := (below_alloc w2 (.cells (vals (List.replicate 32 0)).toArray 26)).trans (hbw3.under (below_alloc w2 _).size (Nat.le_refl _)); have HSw3 := hide (HSw2.out.new hbw3' hiw3); clear hiw3 hbw3 hbw3' hzw3)
      | (go_at_call 15; refine (HTP.out _ HSw3.out.below).mono ?_; rintro e w4 ⟨u, rfl, ho4, hb4⟩; have HSw4 := hide (HSw3.out.call hb4); have HO4 := hide ho4.has; clear hb4 ho4; obtain ⟨ua, uc, rfl, _, _⟩ := HO4.out.form)
      | (refine te_load L b (off + k * 32) rfl (.tmp 44) rfl rfl (range_keep HRG.out HSw4.out.below hbl) HL.out ?_)
      | (go_at_call 19; refine (HTF.out _ _ HSw4.out.below HO4.out).mono ?_; rintro e w5 ⟨rfl, hb5⟩; have HSw5 := hide (HSw4.out.call hb5); clear hb5)
      | (refine te_store (vals (List.replicate 32 0)) R w5.heap.size rfl (.tmp 10) (.tmp 51) rfl rfl rfl rfl (Is.new w5 _ _) (by simp [vals]) HR.out ?_; intro w6 hiw6 hbw6 hzw6; have hbw6' : Below w5.heap.size w5 w6 := (below_alloc w5 (.cells (vals (List.replicate 32 0)).toArray 26)).trans (hbw6.under (below_alloc w5 _).size (Nat.le_refl _)); have HSw6 := hide (HSw5.out.new hbw6' hiw6); clear hiw6 hbw6 hbw6' hzw6))
    have HPL : Hid (P.length ≤ Te.bits (n - 1)) := hide hpl
    generalize P.length = p at *
    clear HRO HTR HTP HTF HO4 HRG HSw1 HSw3 HSw4 HSw5 hpl
    go_loopw [12, 13] (fun m c wr => ∃ x y : Nat, m = .int .i64 (x : Int) ∧ c = .int .i64 (y : Int) ∧ x + Te.bits y = Te.bits (n - 1) ∧ y ≤ 255 ∧ x ≤ 8 ∧ Below w6.heap.size w6 wr) (fun _ c _ => (intOf c).toNat)
    case atStart => exact ⟨0, n - 1, rfl, by go_num, by omega, by omega, by omega, Below.refl _ _⟩
    case round =>
      obtain ⟨x, y, rfl, rfl, hxy, hy, hx, hbr⟩ := hrel
      by_cases hy0 : y = 0
      · have hyi : ¬ (0 : Int) < (y : Int) := by omega
        have hb0 : Te.bits y = 0 := by rw [hy0]; rfl
        have hpx : (p : Int) ≤ (x : Int) := by have := HPL.out; omega
        have HSwr := hide (HSw6.out.call hbr)
        clear hxy hy0 hb0 HSw6
        go_wp2_with (first
          | (refine wpList_load_arrG 26 (vals R) (w5.heap.size) (.tmp 10) rfl rfl (by rfl) (HSwr.out.get (w5.heap.size) R (by simp)) Tryd.underlying26 size_dig (by rw [vals_length]; exact HR.out) ?_)
          | (refine wpList_load_arrG 26 (vals R) (w2.heap.size) (.tmp 6) rfl rfl (by rfl) (HSwr.out.get (w2.heap.size) R (by simp)) Tryd.underlying26 size_dig (by rw [vals_length]; exact HR.out) ?_))
        exact bodyPost_ret (v := .bool true) (by simp [results, Tryd.results5]) rfl ⟨rfl, HSwr.out.below⟩
      · have hyi : (0 : Int) < (y : Int) := by omega
        have hbh := Te.bits_half y hy0
        have hx8 : x + 1 ≤ 8 := by
          have := HB8.out
          omega
        have HXY : Hid (x + 1 + Te.bits (y / 2) = Te.bits (n - 1)) := by show _ = _; omega
        clear hxy hbh HSw6 HPL HR HL hqr
        go_wp2
        go_roundw
        case rel => exact ⟨x + 1, y / 2, by go_num, by go_num, HXY.out, by omega, hx8, hbr⟩
        case measure => simp [intOf]; omega
end Go.Proofs.YtphdnbflogobfaaDoor
