/- The texts Read, Reads, Write, Pack, Unpack, one behind the other. -/
import Derived.Test.YtmjilohlchkicaaGreatDoorBase
import Derived.Deep.QuietTactic
import Derived.BigQuiet
import Derived.Test.YtmjilohlchkicaaGreatDoorAs
import Derived.Test.YtmjilohlchkicaaGreatDoorOwns
import Derived.Lib.AppendZeros
import Derived.Lib.SliceRun
/- The contract of size.Read: the five ways in which it answers, and that it turns nothing. -/
namespace Go.Proofs.YtmjilohlchkicaaGreatDoor
open Go.RowKit
set_option linter.unusedVariables false

theorem drewN_below (w : World) (n : Nat) : Below w.heap.size w (w.drewN n) := by
  induction n with
  | zero => exact Below.refl _ _
  | succ n ih => exact ih.drew

/-- The bytes behind the first one. -/
theorem has_mid {w : World} {b off cap len : Nat} {l : List Int} (p k : Nat) (hl : l.length = len) (hc : ∀ j, j < l.length → w.cell? ⟨b, off + j, none⟩ = some (.int .u8 (l.getD j 0))) (hcap : len ≤ cap) (hm : cap ≤ maxLen)
    (hk : 0 < k) (hw : p + 1 + k ≤ len) : Has w (.slice (some ⟨b, off + (p + 1), none⟩) k (cap - (p + 1))) ((l.drop (p + 1)).take k) := by
  have e : ((l.drop (p + 1)).take k).length = k := by rw [List.length_take, List.length_drop]; omega
  refine .inr ⟨b, off + (p + 1), cap - (p + 1), by rw [e], by omega, by omega, by omega, fun j hj => ?_⟩
  have := hc (p + 1 + j) (by omega)
  rw [show off + (p + 1) + j = off + (p + 1 + j) from by omega, this]
  have e2 : ((l.drop (p + 1)).take k).getD j 0 = l.getD (p + 1 + j) 0 := by
    simp only [List.getD, List.getElem?_take, List.getElem?_drop]
    rw [if_pos (by omega)]
  rw [e2]

end Go.Proofs.YtmjilohlchkicaaGreatDoor

/- The contract of size.Read in one piece. -/
namespace Go.Proofs.YtmjilohlchkicaaGreatDoor
open Go.RowKit
set_option linter.unusedVariables false

end Go.Proofs.YtmjilohlchkicaaGreatDoor

/- The contract of size.Write: what it answers for each number, and that nothing that was there is turned. -/
namespace Go.Proofs.YtmjilohlchkicaaGreatDoor
open Go.RowKit
set_option linter.unusedVariables false

set_option maxHeartbeats 400000 in
theorem write_neg (n : Int) (w : World) (h : n < 0) :
    Calls Tryz.prog 104 #[.int .i64 n] w fun e w' => e = .returned (.tuple #[.slice none 0 0, .iface 27 (.int .i64 2)]) ∧ w = w' := by
  go_enter Tryz.func104, Tryz.ntmps104
  go_wp2
  go_ret2
  exact ⟨rfl, rfl⟩

set_option maxHeartbeats 400000 in
theorem write_yes (n : Int) (w : World) (h : 0 ≤ n) (hn : n ≤ 9223372036854775807) :
    Calls Tryz.prog 104 #[.int .i64 n] w fun e w' => e = .returned (.tuple #[.slice (some ⟨w.heap.size, 0, none⟩) (Sz.wr n).length (Sz.wr n).length, .nilIface]) ∧
      Has w' (.slice (some ⟨w.heap.size, 0, none⟩) (Sz.wr n).length (Sz.wr n).length) (Sz.wr n) ∧ Below w.heap.size w w' := by
  have hf := Sz.fst_bd n h
  have hw8 := Sz.wid_le (Sz.fst n)
  have hnn : ¬ n < 0 := by omega
  have hwr : IntKind.u64.wrap n = n := by simp [IntKind.wrap, IntKind.bits, IntKind.signed]; omega
  have hmk := fun w => make_bytes (1 + Sz.wid (Sz.fst n)) (by omega) w
  rw [show (((1 + Sz.wid (Sz.fst n) : Nat)) : Int) = 1 + (Sz.wid (Sz.fst n) : Int) from by omega] at hmk
  have hz0 := zeros_get (1 + Sz.wid (Sz.fst n)) 0 (by omega)
  have HW : Hid (Sz.wr n = Sz.fst n :: Sz.low (Sz.wid (Sz.fst n)) n) := rfl
  have HZ : Hid (∀ j, j < 1 + Sz.wid (Sz.fst n) → (zeros (1 + Sz.wid (Sz.fst n)))[j]? = some (.int .u8 0)) := fun j hj => zeros_get _ j hj
  go_enter Tryz.func104, Tryz.ntmps104
  go_wp2_with (first
    | (go_at_call 112; refine (firstOf_any n _ h (by omega)).mono ?_; rintro e w' ⟨rfl, rfl⟩)
    | (go_at_call 113; refine (behind_any _ _).mono ?_; rintro e w' ⟨rfl, rfl⟩))
  generalize hk : Sz.wid (Sz.fst n) = k at *
  go_loopw [0, 6] (fun m i wr => ∃ q : Nat, q ≤ k ∧ i = .int .i64 q ∧ m = .int .i64 (n / Sz.pw (k - q)) ∧ Below w.heap.size w wr ∧ (∀ j, wr.frozen? ⟨w.heap.size, j, none⟩ = false) ∧
      ∀ j, j < 1 + k → wr.cell? ⟨w.heap.size, j, none⟩ = some (.int .u8 ((Sz.part k q n).getD j 0))) (fun _ i _ => (intOf i).toNat)
  case atStart =>
    refine ⟨k, Nat.le_refl _, by go_num, by simp [Sz.pw], (Below.refl _ _).alloc (Nat.le_refl _) _, fun j => by simp, fun j hj => ?_⟩
    rw [World.cell?_alloc_new, Sz.part_full]
    have hz := HZ.out j hj
    have hsz : (zeros (1 + k)).size = 1 + k := by simp [zeros, madeCells]
    cases j with
    | zero => rw [Array.getElem?_setIfInBounds, if_pos rfl, if_pos (by omega)]; rfl
    | succ j => simp only [Array.getElem?_setIfInBounds]; rw [if_neg (by omega), hz]; simp [List.getD, show j < k from by omega]
  case round =>
    obtain ⟨q, hq, rfl, rfl, hbel, hfr, hcell⟩ := hrel
    have hm0 : 0 ≤ n / Sz.pw (k - q) := Int.ediv_nonneg h (Int.le_of_lt (Sz.pw_pos _))
    have hm1 : n / Sz.pw (k - q) ≤ n := Int.ediv_le_self _ h
    by_cases h0 : 0 < q
    · have hcq := hcell q (by omega)
      have hfq := hfr q
      have hq1 : (q : Int) < 1 + (k : Int) := by omega
      have HC : Hid (∀ j, j < 1 + k → wr.cell? ⟨w.heap.size, j, none⟩ = some (.int .u8 ((Sz.part k q n).getD j 0))) := hcell
      clear hcell
      go_wp2
      go_roundw
      case rel =>
        refine ⟨q - 1, by omega, by go_num, ?_, hbel.setCell (Nat.le_refl _) _, fun j => by rw [World.frozen?_setCell]; exact hfr j, fun j hj => ?_⟩
        · rw [show k - (q - 1) = (k - q) + 1 from by omega, Sz.ediv_pw]
        · rw [cell_stored hcq, HC.out j hj, Sz.part_step k (q - 1) n h (by omega) j, show q - 1 + 1 = q from by omega]
          by_cases e : j = q
          · rw [if_pos e, if_pos e]
          · rw [if_neg e, if_neg e]
      case measure => simp [intOf]; omega
    · obtain rfl : q = 0 := by omega
      go_wp2
      go_ret2
      have hl : (Sz.wr n).length = 1 + k := by rw [Sz.wr_length, hk]
      refine ⟨by rw [hl]; rfl, .inr ⟨w.heap.size, 0, 1 + k, by rw [hl], by omega, by omega, by unfold maxLen; omega, fun j hj => ?_⟩, hbel⟩
      rw [Nat.zero_add, hcell j (by omega), Sz.part_zero, HW.out]
end Go.Proofs.YtmjilohlchkicaaGreatDoor

/- The contracts of slices.Grow (on nil), slices.Concat (of two) and size.Pack: the bytes with how many they are ahead of them, in new memory. -/
namespace Go.Proofs.YtmjilohlchkicaaGreatDoor
open Go.RowKit
set_option linter.unusedVariables false

set_option maxHeartbeats 400000 in
theorem grow_any (n : Nat) (w : World) (h0 : 0 < n) (hn : n ≤ 180000000000000) :
    Calls Tryz.prog 117 #[.slice none 0 0, .int .i64 n] w fun e w' => ∃ v, e = .returned v ∧ Own w' w.heap.size v [] ∧ Below w.heap.size w w' := by
  obtain ⟨i, hi, hz, hs, hby⟩ := info_u8
  have hrun := fun ty => Go.Lib.run_append_nil_zeros (P := Tryz.prog) w 73 3 ty 5 i (.int .u8 0) .i64 .i64 Tryz.underlying73 Tryz.underlying3 hi hz n h0 (by omega) (by omega) (by rw [hby]; omega)
  have hge := grownCap_ge w n 0 5
  have hle := grownCap_le_maxLen w n 0 5 (by unfold maxLen; omega)
  have HR := hide hrun
  clear hrun hi hz hs hby
  generalize hC : grownCap w n 0 5 = C at *
  have hC2 : (0 : Int) ≤ (C : Int) := by omega
  have HL := hide hle
  unfold maxLen at hle
  go_enter Tryz.func117, Tryz.ntmps117
  go_wp2_with (at_builtin; refine Go.Lib.wpList_append_run _ rfl _ _ 73 3 rfl _ _ rfl rfl _ _ (HR.out _) ?_)
  go_ret
  refine ⟨_, rfl, ⟨rfl, .inr ⟨w.heap.size, C, _, rfl, Nat.le_refl _, heap_alloc_new w.drew _, Nat.zero_le _, HL.out, ?_, by simp [vals]⟩⟩, ((Below.refl _ _).drew).alloc (Nat.le_refl _) _⟩
  simp only [Array.size_append, size_zeroCells]
  simp
  omega

theorem Has.slice {w : World} {v : Value} {l : List Int} (h : Has w v l) : ∃ a cap, v = .slice a l.length cap ∧ cap ≤ maxLen ∧ l.length ≤ maxLen := by
  rcases h with ⟨a, c, rfl, rfl, hm, _⟩ | ⟨b, off, cap, rfl, _, h1, h2, _⟩
  · exact ⟨a, c, rfl, hm, Nat.zero_le _⟩
  · exact ⟨_, _, rfl, h2, by omega⟩

set_option maxHeartbeats 800000 in
theorem concat_two (B : Nat) (v1 v2 : Value) (l1 l2 : List Int) (w : World) (hc1 : w.cell? ⟨B, 0, none⟩ = some v1) (hc2 : w.cell? ⟨B, 1, none⟩ = some v2) (h1 : Has w v1 l1) (h2 : Has w v2 l2) (h0 : 0 < l1.length + l2.length) (hn : l1.length + l2.length ≤ 180000000000000) :
    Calls Tryz.prog 116 #[.slice (some ⟨B, 0, none⟩) 2 2] w fun e w' => ∃ v, e = .returned v ∧ Own w' w.heap.size v (l1 ++ l2) ∧ Below w.heap.size w w' := by
  have hB : B < w.heap.size := World.block_lt_of_cell? w ⟨B, 0, none⟩ hc1
  have H1 := hide h1
  have H2 := hide h2
  obtain ⟨a1, cap1, rfl, -, -⟩ := h1.slice
  obtain ⟨a2, cap2, rfl, -, -⟩ := h2.slice
  clear h1 h2
  have HL1 : Hid (l1.length + l2.length ≤ 180000000000000) := hn
  generalize hn1 : l1.length = n1 at *
  generalize hn2 : l2.length = n2 at *
  have HN1 := hide hn1
  have HN2 := hide hn2
  clear hn1 hn2
  have hg := grow_any (n1 + n2) w h0 hn
  rw [Int.natCast_add] at hg
  have HG := hide hg
  clear hg
  go_enter Tryz.func116, Tryz.ntmps116
  go_wp2_with fail
  refine wp_loop_rounds 3 ?_
  rw [rounds_succ]
  go_wp2_with fail
  rw [rounds_succ]
  go_wp2_with fail
  rw [rounds_succ]
  go_wp2_with fail
  refine HG.out.mono ?_
  rintro e w1 ⟨v, rfl, hown, hbel⟩
  have hc1' : w1.cell? ⟨B, 0, none⟩ = some (.slice a1 n1 cap1) := by rw [hbel.cell (p := ⟨B, 0, none⟩) hB]; exact hc1
  have hh1 := H1.out.below hbel
  have hbn1 : ([] : List Int).length + l1.length ≤ 180000000000000 := by rw [HN1.out]; simp; omega
  have HB1 := hide hbn1
  clear hbn1
  go_wp2_with fail
  refine wp_loop_rounds 3 ?_
  rw [rounds_succ]
  go_wp2_with (at_builtin; refine wpList_append_bytes _ rfl _ _ rfl w.heap.size _ _ rfl hown _ _ rfl hh1 HB1.out hbel.size ?_; intro v2 w2 hown2 hgr2)
  have hbel2 : Below w.heap.size w w2 := hbel.grown hgr2 hbel.size (fun q hq => (hown.block q hq).1)
  have hc2' : w2.cell? ⟨B, 1, none⟩ = some (.slice a2 n2 cap2) := by rw [hbel2.cell (p := ⟨B, 1, none⟩) hB]; exact hc2
  have hh2 := H2.out.below hbel2
  have hbn2 : ([] ++ l1 : List Int).length + l2.length ≤ 180000000000000 := by rw [List.nil_append, HN1.out, HN2.out]; exact hn
  have HB2 := hide hbn2
  clear hbn2
  rw [rounds_succ]
  go_wp2_with (at_builtin; refine wpList_append_bytes _ rfl _ _ rfl w.heap.size _ _ rfl hown2 _ _ rfl hh2 HB2.out hbel2.size ?_; intro v3 w3 hown3 hgr3)
  have hbel3 : Below w.heap.size w w3 := hbel2.grown hgr3 hbel2.size (fun q hq => (hown2.block q hq).1)
  rw [rounds_succ]
  go_wp2_with fail
  go_ret
  exact ⟨v3, rfl, by rw [List.nil_append] at hown3; exact hown3, hbel3⟩

set_option maxHeartbeats 800000 in
theorem pack_any (v : Value) (l : List Int) (w : World) (h : Has w v l) (hn : l.length ≤ 170000000000000) :
    Calls Tryz.prog 114 #[v] w fun e w' => ∃ v', e = .returned v' ∧ Own w' w.heap.size v' (Sz.wr (l.length : Nat) ++ l) ∧ Below w.heap.size w w' := by
  have H1 := hide h
  obtain ⟨a, cap, rfl, -, -⟩ := h.slice
  clear h
  generalize hn1 : l.length = n at *
  have HN := hide hn1
  clear hn1
  go_enter Tryz.func114, Tryz.ntmps114
  go_wp2_with fail
  refine (write_yes n _ (by omega) (by omega)).mono ?_
  rintro e w1 ⟨rfl, hx, hbel⟩
  have H2 := H1.out.below hbel
  have h9 := Sz.wr_le9 n
  have hp := Sz.wr_pos n
  go_wp2_with fail
  have hb2 : ∀ o, Below w1.heap.size w1 (w1.alloc o) := fun o => (Below.refl _ _).alloc (Nat.le_refl _) _
  refine (concat_two w1.heap.size _ _ (Sz.wr n) l _ (by simp) (by simp) (hx.below (hb2 _)) (H2.below (hb2 _)) (by omega) (by rw [HN.out]; omega)).mono ?_
  rintro e w2 ⟨v', rfl, hown, hbel2⟩
  have hbel3 : Below w.heap.size w w2 := (hbel.alloc hbel.size _).trans (hbel2.mono (Nat.le_trans hbel.size (hb2 _).size))
  have hown2 := hown.mono (Nat.le_trans hbel.size (hb2 _).size)
  go_wp2
  go_ret
  exact ⟨v', rfl, hown2, hbel3⟩
end Go.Proofs.YtmjilohlchkicaaGreatDoor

/- The contracts of bytes.Clone and of size.Unpack. -/
namespace Go.Proofs.YtmjilohlchkicaaGreatDoor
open Go.RowKit
set_option linter.unusedVariables false

/-- A new empty slice: a block with no cells. -/
theorem Own.empty (w : World) (base : Nat) (hb : base ≤ w.heap.size) : Own (w.alloc (.cells #[] 5)) base (.slice (some ⟨w.heap.size, 0, none⟩) 0 0) [] :=
  ⟨rfl, .inr ⟨w.heap.size, 0, #[], rfl, hb, heap_alloc_new w _, Nat.le_refl _, Nat.zero_le _, rfl, rfl⟩⟩

set_option maxHeartbeats 400000 in
theorem clone_some (a : Addr) (n cap : Nat) (l : List Int) (w : World) (h : Has w (.slice (some a) n cap) l) (hn : l.length ≤ 180000000000000) :
    Calls Tryz.prog 65 #[.slice (some a) n cap] w fun e w' => ∃ v, e = .returned v ∧ Own w' w.heap.size v l ∧ Below w.heap.size w w' := by
  have H1 := hide h
  clear h
  have heq : ∀ w, (binOp .eql 73 (.slice (some a) n cap) (.slice none 0 0)).run Tryz.prog w = .ok (.bool false) w := fun w => Go.Lib.run_eql_slice_nil w _ _ (some a) n cap 0 0 Tryz.underlying73
  have hb : ∀ o, Below w.heap.size w (w.alloc o) := fun o => (Below.refl _ _).alloc (Nat.le_refl _) _
  have HB := hide hb
  clear hb
  go_enter Tryz.func65, Tryz.ntmps65
  go_wp2_with (at_builtin; refine wpList_append_bytes _ rfl _ _ rfl w.heap.size _ [] rfl (Own.empty w w.heap.size (Nat.le_refl _)) _ l rfl (H1.out.below (HB.out _)) (by simpa using hn) (HB.out _).size ?_; intro v2 w2 hown2 hgr2)
  go_ret
  exact ⟨v2, rfl, hown2, (HB.out _).grown hgr2 (HB.out _).size (fun q hq => ((Own.empty w w.heap.size (Nat.le_refl _)).block q hq).1)⟩

theorem rd_err (l : List Int) (p : Int) (h : (Sz.rd l p).2.2 ≠ 0) : (Sz.rd l p).1 = 0 ∧ (Sz.rd l p).2.1 = 0 := (Sz.rd_ok l p).resolve_left h

end Go.Proofs.YtmjilohlchkicaaGreatDoor
