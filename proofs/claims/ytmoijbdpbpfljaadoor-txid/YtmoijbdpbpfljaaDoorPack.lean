/- The contracts of slices.Grow (on nil), slices.Concat (of two) and size.Pack: the bytes with how many they are ahead of them, in new memory. -/
import Derived.Test.YtmoijbdpbpfljaaDoorOwns
import Derived.Test.YtmoijbdpbpfljaaDoorWrite
import Derived.Lib.AppendZeros
namespace Go.Proofs.YtmoijbdpbpfljaaDoor
open Go.RowKit
set_option linter.unusedVariables false

set_option maxHeartbeats 400000 in
theorem grow_any (n : Nat) (w : World) (h0 : 0 < n) (hn : n ≤ 180000000000000) :
    Calls Tryd.prog 75 #[.slice none 0 0, .int .i64 n] w fun e w' => ∃ v, e = .returned v ∧ Own w' w.heap.size v [] ∧ Below w.heap.size w w' := by
  obtain ⟨i, hi, hz, hs, hby⟩ := info_u8
  have hrun := fun ty => Go.Lib.run_append_nil_zeros (P := Tryd.prog) w 26 3 ty 5 i (.int .u8 0) .i64 .i64 Tryd.underlying26 Tryd.underlying3 hi hz n h0 (by omega) (by omega) (by rw [hby]; omega)
  have hge := grownCap_ge w n 0 5
  have hle := grownCap_le_maxLen w n 0 5 (by unfold maxLen; omega)
  have HR := hide hrun
  clear hrun hi hz hs hby
  generalize hC : grownCap w n 0 5 = C at *
  have hC2 : (0 : Int) ≤ (C : Int) := by omega
  have HL := hide hle
  unfold maxLen at hle
  go_enter Tryd.func75, Tryd.ntmps75
  go_wp2_with (at_builtin; refine Go.Lib.wpList_append_run _ rfl _ _ 26 3 rfl _ _ rfl rfl _ _ (HR.out _) ?_)
  go_ret
  refine ⟨_, rfl, ⟨rfl, .inr ⟨w.heap.size, C, _, rfl, Nat.le_refl _, heap_alloc_new w.drew _, Nat.zero_le _, HL.out, ?_, by simp [vals]⟩⟩, ((Below.refl _ _).drew).alloc (Nat.le_refl _) _⟩
  simp only [Array.size_append, size_zeroCells]
  simp
  omega

theorem Has.slice {w : World} {v : Value} {l : List Int} (h : Has w v l) : ∃ a cap, v = .slice a l.length cap ∧ cap ≤ maxLen ∧ l.length ≤ maxLen := by
  rcases h with ⟨a, c, rfl, rfl, hm, _⟩ | ⟨b, off, cap, rfl, _, h1, h2, _⟩
  · exact ⟨a, c, rfl, hm, Nat.zero_le _⟩
  · exact ⟨_, _, rfl, h2, by omega⟩

set_option maxHeartbeats 800000 in
theorem concat_two (B : Nat) (v1 v2 : Value) (l1 l2 : List Int) (w : World) (hc1 : w.cell? ⟨B, 0, none⟩ = some v1) (hc2 : w.cell? ⟨B, 1, none⟩ = some v2) (h1 : Has w v1 l1) (h2 : Has w v2 l2) (h0 : 0 < l1.length + l2.length) (hn : l1.length + l2.length ≤ 180000000000000) :
    Calls Tryd.prog 72 #[.slice (some ⟨B, 0, none⟩) 2 2] w fun e w' => ∃ v, e = .returned v ∧ Own w' w.heap.size v (l1 ++ l2) ∧ Below w.heap.size w w' := by
  have hB : B < w.heap.size := World.block_lt_of_cell? w ⟨B, 0, none⟩ hc1
  have H1 := hide h1
  have H2 := hide h2
  obtain ⟨a1, cap1, rfl, -, -⟩ := h1.slice
  obtain ⟨a2, cap2, rfl, -, -⟩ := h2.slice
  clear h1 h2
  have HL1 : Hid (l1.length + l2.length ≤ 180000000000000) := hn
  generalize hn1 : l1.length = n1 at *
  generalize hn2 : l2.length = n2 at *
  have HN1 := hide hn1
  have HN2 := hide hn2
  clear hn1 hn2
  have hg := grow_any (n1 + n2) w h0 hn
  rw [Int.natCast_add] at hg
  have HG := hide hg
  clear hg
  go_enter Tryd.func72, Tryd.ntmps72
  go_wp2_with fail
  refine wp_loop_rounds 3 ?_
  rw [rounds_succ]
  go_wp2_with fail
  rw [rounds_succ]
  go_wp2_with fail
  rw [rounds_succ]
  go_wp2_with fail
  refine HG.out.mono ?_
  rintro e w1 ⟨v, rfl, hown, hbel⟩
  have hc1' : w1.cell? ⟨B, 0, none⟩ = some (.slice a1 n1 cap1) := by rw [hbel.cell (p := ⟨B, 0, none⟩) hB]; exact hc1
  have hh1 := H1.out.below hbel
  have hbn1 : ([] : List Int).length + l1.length ≤ 180000000000000 := by rw [HN1.out]; simp; omega
  have HB1 := hide hbn1
  clear hbn1
  go_wp2_with fail
  refine wp_loop_rounds 3 ?_
  rw [rounds_succ]
  go_wp2_with (at_builtin; refine wpList_append_bytes _ rfl _ _ rfl w.heap.size _ _ rfl hown _ _ rfl hh1 HB1.out hbel.size ?_; intro v2 w2 hown2 hgr2)
  have hbel2 : Below w.heap.size w w2 := hbel.grown hgr2 hbel.size (fun q hq => (hown.block q hq).1)
  have hc2' : w2.cell? ⟨B, 1, none⟩ = some (.slice a2 n2 cap2) := by rw [hbel2.cell (p := ⟨B, 1, none⟩) hB]; exact hc2
  have hh2 := H2.out.below hbel2
  have hbn2 : ([] ++ l1 : List Int).length + l2.length ≤ 180000000000000 := by rw [List.nil_append, HN1.out, HN2.out]; exact hn
  have HB2 := hide hbn2
  clear hbn2
  rw [rounds_succ]
  go_wp2_with (at_builtin; refine wpList_append_bytes _ rfl _ _ rfl w.heap.size _ _ rfl hown2 _ _ rfl hh2 HB2.out hbel2.size ?_; intro v3 w3 hown3 hgr3)
  have hbel3 : Below w.heap.size w w3 := hbel2.grown hgr3 hbel2.size (fun q hq => (hown2.block q hq).1)
  rw [rounds_succ]
  go_wp2_with fail
  go_ret
  exact ⟨v3, rfl, by rw [List.nil_append] at hown3; exact hown3, hbel3⟩

set_option maxHeartbeats 800000 in
theorem pack_any (v : Value) (l : List Int) (w : World) (h : Has w v l) (hn : l.length ≤ 170000000000000) :
    Calls Tryd.prog 63 #[v] w fun e w' => ∃ v', e = .returned v' ∧ Own w' w.heap.size v' (Sz.wr (l.length : Nat) ++ l) ∧ Below w.heap.size w w' := by
  have H1 := hide h
  obtain ⟨a, cap, rfl, -, -⟩ := h.slice
  clear h
  generalize hn1 : l.length = n at *
  have HN := hide hn1
  clear hn1
  go_enter Tryd.func63, Tryd.ntmps63
  go_wp2_with fail
  refine (write_yes n _ (by omega) (by omega)).mono ?_
  rintro e w1 ⟨rfl, hx, hbel⟩
  have H2 := H1.out.below hbel
  have h9 := Sz.wr_le9 n
  have hp := Sz.wr_pos n
  go_wp2_with fail
  have hb2 : ∀ o, Below w1.heap.size w1 (w1.alloc o) := fun o => (Below.refl _ _).alloc (Nat.le_refl _) _
  refine (concat_two w1.heap.size _ _ (Sz.wr n) l _ (by simp) (by simp) (hx.below (hb2 _)) (H2.below (hb2 _)) (by omega) (by rw [HN.out]; omega)).mono ?_
  rintro e w2 ⟨v', rfl, hown, hbel2⟩
  have hbel3 : Below w.heap.size w w2 := (hbel.alloc hbel.size _).trans (hbel2.mono (Nat.le_trans hbel.size (hb2 _).size))
  have hown2 := hown.mono (Nat.le_trans hbel.size (hb2 _).size)
  go_wp2
  go_ret
  exact ⟨v', rfl, hown2, hbel3⟩
end Go.Proofs.YtmoijbdpbpfljaaDoor
