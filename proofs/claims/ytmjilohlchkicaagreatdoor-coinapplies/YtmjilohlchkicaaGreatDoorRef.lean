/- The contracts of the document's own functions (package moneyerref1) on numbers: Put, Num, SizeBytes, Packed. -/
import Derived.Test.YtmjilohlchkicaaGreatDoorOwns
import Derived.Test.YtmjilohlchkicaaGreatDoorGRf
import Derived.Test.YtmjilohlchkicaaGreatDoorZRd
namespace Go.Proofs.YtmjilohlchkicaaGreatDoor
open Go.RowKit
set_option linter.unusedVariables false

theorem wr_small (n : Int) (h : n < 253) (h0 : 0 ≤ n) : Sz.wr n = [n] := by
  have e : Sz.fst n = n := by unfold Sz.fst; rw [if_pos h]
  unfold Sz.wr; rw [Sz.wid_fst n h0 h, e]; rfl

set_option maxHeartbeats 800000 in
theorem rbytes_any (n : Int) (w : World) (h : 0 ≤ n) (hn : n ≤ 9223372036854775807) :
    Calls Tryz.prog 73 #[.int .i64 n] w fun e w' => ∃ v, e = .returned v ∧ Own w' w.heap.size v (Sz.wr n) ∧ Below w.heap.size w w' := by
  by_cases h1 : n < 253
  · have e := wr_small n h1 h
    have HE := hide e
    clear e
    go_enter Tryz.func73, Tryz.ntmps73
    go_wp2
    go_ret
    exact ⟨_, rfl, by rw [HE.out]; exact Own.one w w.heap.size n (Nat.le_refl _), (Below.refl _ _).alloc (Nat.le_refl _) _⟩
  · by_cases h2 : n ≤ 65535
    · have e : Sz.wr n = [253] ++ Sz.low 2 n := by
        have e1 : Sz.fst n = 253 := by unfold Sz.fst; rw [if_neg h1, if_pos h2]
        unfold Sz.wr; rw [e1]; rfl
      have HE := hide e
      have hp := rput_any n 2 w h hn (by omega) (by omega)
      have HP := hide hp
      clear e hp
      have hl := Sz.low_length 2 n
      have HL : Hid (([253] : List Int).length + (Sz.low 2 n).length ≤ 180000000000000) := by show 1 + _ ≤ _; rw [hl]; omega
      clear hl
      have h2' : ¬ (65535 : Int) < n := by omega
      have h3' : ¬ (4294967295 : Int) < n := by omega
      go_enter Tryz.func73, Tryz.ntmps73
      go_wp2_with fail
      refine HP.out.mono ?_
      rintro e w1 ⟨b, rfl, hh, hb1⟩
      have hb2 : ∀ o, Below w1.heap.size w1 (w1.alloc o) := fun o => (Below.refl _ _).alloc (Nat.le_refl _) _
      have HB2 := hide hb2
      clear hb2
      go_wp2_with (at_builtin; refine wpList_append_bytes _ rfl _ _ rfl w.heap.size _ _ rfl (Own.one _ _ _ hb1.size) _ _ rfl (hh.below (HB2.out _)) HL.out (Nat.le_trans hb1.size (HB2.out _).size) ?_; intro v3 w3 ho3 hg3)
      go_ret
      refine ⟨v3, rfl, by rw [HE.out]; exact ho3, ?_⟩
      exact (hb1.alloc hb1.size _).grown hg3 (Nat.le_trans hb1.size (HB2.out _).size) (fun q hq => ((Own.one w1 _ 0 hb1.size).block q hq).1)
    · by_cases h3 : n ≤ 4294967295
      · have e : Sz.wr n = [254] ++ Sz.low 4 n := by
          have e1 : Sz.fst n = 254 := by unfold Sz.fst; rw [if_neg h1, if_neg h2, if_pos h3]
          unfold Sz.wr; rw [e1]; rfl
        have HE := hide e
        have hp := rput_any n 4 w h hn (by omega) (by omega)
        have HP := hide hp
        clear e hp
        have hl := Sz.low_length 4 n
        have HL : Hid (([254] : List Int).length + (Sz.low 4 n).length ≤ 180000000000000) := by show 1 + _ ≤ _; rw [hl]; omega
        clear hl
        have h2' : (65535 : Int) < n := by omega
        have h3' : ¬ (4294967295 : Int) < n := by omega
        go_enter Tryz.func73, Tryz.ntmps73
        go_wp2_with fail
        refine HP.out.mono ?_
        rintro e w1 ⟨b, rfl, hh, hb1⟩
        have hb2 : ∀ o, Below w1.heap.size w1 (w1.alloc o) := fun o => (Below.refl _ _).alloc (Nat.le_refl _) _
        have HB2 := hide hb2
        clear hb2
        go_wp2_with (at_builtin; refine wpList_append_bytes _ rfl _ _ rfl w.heap.size _ _ rfl (Own.one _ _ _ hb1.size) _ _ rfl (hh.below (HB2.out _)) HL.out (Nat.le_trans hb1.size (HB2.out _).size) ?_; intro v3 w3 ho3 hg3)
        go_ret
        refine ⟨v3, rfl, by rw [HE.out]; exact ho3, ?_⟩
        exact (hb1.alloc hb1.size _).grown hg3 (Nat.le_trans hb1.size (HB2.out _).size) (fun q hq => ((Own.one w1 _ 0 hb1.size).block q hq).1)
      · have e : Sz.wr n = [255] ++ Sz.low 8 n := by
          have e1 : Sz.fst n = 255 := by unfold Sz.fst; rw [if_neg h1, if_neg h2, if_neg h3]
          unfold Sz.wr; rw [e1]; rfl
        have HE := hide e
        have hp := rput_any n 8 w h hn (by omega) (by omega)
        have HP := hide hp
        clear e hp
        have hl := Sz.low_length 8 n
        have HL : Hid (([255] : List Int).length + (Sz.low 8 n).length ≤ 180000000000000) := by show 1 + _ ≤ _; rw [hl]; omega
        clear hl
        have h2' : (65535 : Int) < n := by omega
        have h3' : (4294967295 : Int) < n := by omega
        go_enter Tryz.func73, Tryz.ntmps73
        go_wp2_with fail
        refine HP.out.mono ?_
        rintro e w1 ⟨b, rfl, hh, hb1⟩
        have hb2 : ∀ o, Below w1.heap.size w1 (w1.alloc o) := fun o => (Below.refl _ _).alloc (Nat.le_refl _) _
        have HB2 := hide hb2
        clear hb2
        go_wp2_with (at_builtin; refine wpList_append_bytes _ rfl _ _ rfl w.heap.size _ _ rfl (Own.one _ _ _ hb1.size) _ _ rfl (hh.below (HB2.out _)) HL.out (Nat.le_trans hb1.size (HB2.out _).size) ?_; intro v3 w3 ho3 hg3)
        go_ret
        refine ⟨v3, rfl, by rw [HE.out]; exact ho3, ?_⟩
        exact (hb1.alloc hb1.size _).grown hg3 (Nat.le_trans hb1.size (HB2.out _).size) (fun q hq => ((Own.one w1 _ 0 hb1.size).block q hq).1)

set_option maxHeartbeats 400000 in
theorem rpacked_any (v : Value) (l : List Int) (w : World) (h : Has w v l) (hn : l.length ≤ 170000000000000) :
    Calls Tryz.prog 74 #[v] w fun e w' => ∃ v', e = .returned v' ∧ Own w' w.heap.size v' (Sz.wr (l.length : Nat) ++ l) ∧ Below w.heap.size w w' := by
  have H1 := hide h
  obtain ⟨a, cap, rfl⟩ : ∃ a cap, v = .slice a l.length cap := by
    rcases h with ⟨a, c, rfl, rfl, _⟩ | ⟨b, off, cap, rfl, _⟩
    · exact ⟨a, c, rfl⟩
    · exact ⟨_, _, rfl⟩
  clear h
  have h9 := Sz.wr_le9 (l.length : Nat)
  have HL : Hid ((Sz.wr (l.length : Nat)).length + l.length ≤ 180000000000000) := by show _ ≤ _; omega
  clear h9
  go_enter Tryz.func74, Tryz.ntmps74
  go_wp2_with fail
  refine (rbytes_any (l.length : Nat) _ (by omega) (by omega)).mono ?_
  rintro e w1 ⟨v1, rfl, ho1, hb1⟩
  go_wp2_with (at_builtin; refine wpList_append_bytes _ rfl _ _ rfl w.heap.size _ _ rfl ho1 _ _ rfl (H1.out.below hb1) HL.out hb1.size ?_; intro v3 w3 ho3 hg3)
  go_ret
  exact ⟨v3, rfl, ho3, hb1.grown hg3 hb1.size (fun q hq => (ho1.block q hq).1)⟩
end Go.Proofs.YtmjilohlchkicaaGreatDoor
