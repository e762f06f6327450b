/- The texts TxR, TxU, TxP, TxO, TxE, one behind the other. -/
import Derived.Test.YtbdnbjemocjlaaaGreatDoorZTc
import Derived.Test.YtbdnbjemocjlaaaGreatDoorZRd
import Derived.WalkLawsBesides
import Derived.Deep.RegionHeld2
/- tx's reader: numbers, packed bytes. -/
namespace Go.Proofs.YtbdnbjemocjlaaaGreatDoor
open Go.RowKit
set_option linter.unusedVariables false
set_option linter.unusedSimpArgs false

/-- What a reading breaks off with. -/
def panNo : List PanicEntry := [{ v := .iface 119 (.agg #[]), recovered := false }]
theorem pmust_true (w : World) : Calls Tryz.prog 56 #[.bool true] w fun e w' => e = .returned (.tuple #[]) ∧ w = w' := by
  go_enter Tryz.func56, Tryz.ntmps56
  go_wp2
  go_end0
  exact ⟨rfl, rfl⟩
theorem pmust_false (w : World) : Calls Tryz.prog 56 #[.bool false] w fun e w' => e = .panicked panNo ∧ w = w' := by
  go_enter Tryz.func56, Tryz.ntmps56
  go_wp2
  exact ⟨rfl, rfl, rfl⟩
/-- Nothing that was there has turned but block g. -/
def But (g : Nat) (w w' : World) : Prop := Only g w.heap.size w w'
theorem But.refl (g : Nat) (w : World) : But g w w := Only.refl _ _ _
theorem But.trans {g : Nat} {a b c : World} (h : But g a b) (k : But g b c) : But g a c := Only.trans h (k.mono h.size)
theorem But.call {g : Nat} {w w' : World} (h : Below w.heap.size w w') : But g w w' := Only.of_below h (Nat.le_refl _)
theorem But.under {g B : Nat} {w w' : World} (h : But g w w') (hB : B ≤ w.heap.size) (hg : B ≤ g) : Below B w w' := Only.below h hB hg
theorem But.kept {w w' : World} {g b : Nat} {c : List Value} {t : TypeId} (k : But g w w') (h : Is w b c t) (hne : b ≠ g) : Is w' b c t := h.only k h.lt hne

theorem But.cell (w : World) (R i : Nat) (v : Value) : But R w (w.setCell ⟨R, i, none⟩ v) := Only.setCell (Only.refl R w.heap.size w) (p := ⟨R, i, none⟩) (.inl rfl) v
/-- A reader of bytes in block R, at a place. -/
structure RdS (w0 : World) (R : Nat) (bv : Value) (l : List Int) (p : Nat) (w : World) : Prop where
  hR : w0.heap.size ≤ R
  hb : Below w0.heap.size w0 w
  is : Is w R [bv, .int .i64 (p : Int)] 122
theorem RdS.after {w0 w w' : World} {R : Nat} {bv : Value} {l : List Int} {p q : Nat} (h : RdS w0 R bv l p w) (hb : But R w w') (hi : Is w' R [bv, .int .i64 (q : Int)] 122) : RdS w0 R bv l q w' :=
  ⟨h.hR, h.hb.trans (hb.under h.hb.size h.hR), hi⟩
/-- What a part of the reading does. -/
def ReadsSo {α : Type} (w0 : World) (R : Nat) (bv : Value) (l : List Int) (w : World) (r : Option (α × Nat)) (M : α → Value → World → Prop) (e : Ending) (w' : World) : Prop :=
  But R w w' ∧ match r with
  | none => e = .panicked panNo
  | some x => ∃ v, e = .returned v ∧ M x.1 v w' ∧ RdS w0 R bv l x.2 w'

theorem rd_cell {w w' : World} {a : Addr} {v : Value} (h : w.cell? a = some v) (hb : Below w.heap.size w w') : w'.cell? a = some v := by rw [hb.cell (p := a) (World.block_lt_of_cell? w a h)]; exact h
theorem rd_keep {w W W' : World} {R : Nat} {u v : Value} {c : List Value} {t : TypeId} (h : Below w.heap.size w W ∧ W.cell? ⟨R, 0, none⟩ = some u ∧ W.cell? ⟨R, 1, none⟩ = some v) (hb : Below w.heap.size w W') (hi : Is w R c t) (h0 : w.cell? ⟨R, 0, none⟩ = some u) (h1 : w.cell? ⟨R, 1, none⟩ = some v) : Below w.heap.size w W' ∧ W'.cell? ⟨R, 0, none⟩ = some u ∧ W'.cell? ⟨R, 1, none⟩ = some v :=
  ⟨hb, rd_cell h0 hb, rd_cell h1 hb⟩

set_option maxRecDepth 100000 in
set_option maxHeartbeats 2000000 in
theorem pnumber_any (w0 : World) (R : Nat) (bv : Value) (l : List Int) (p : Nat) (w : World) (hs : RdS w0 R bv l p w) (hl : Has w0 bv l) (hbt : Sz.Byt l) :
    Calls Tryz.prog 71 #[.pointer (some ⟨R, 0, none⟩)] w fun e w' => ReadsSo w0 R bv l w (Tm.num l p) (fun x v _ => v = .int .i64 x) e w' := by
  obtain ⟨ba, bc, rfl, _, _⟩ := hl.shape
  have HST := hide hs
  have HI := hide hs.is
  have hc0 := hs.is.cell 0
  have hc1 := hs.is.cell 1
  simp only [List.getElem?_cons_zero, List.getElem?_cons_succ] at hc0 hc1
  have HRD : Hid (∀ W, Below w.heap.size w W → Calls Tryz.prog 82 #[.slice ba l.length bc, .int .i64 (p : Int)] W fun e w' => e = .returned (.tuple #[.int .i64 (Sz.rd l p).1, .int .i64 (Sz.rd l p).2.1, errV (Sz.rd l p).2.2]) ∧ Below w.heap.size w w') := hide (fun W hW => by
    refine (read_any _ l p W ((hl.below hs.hb).below hW) hbt).mono ?_
    rintro e w1 ⟨rfl, hb⟩
    exact ⟨rfl, hW.trans (hb.mono hW.size)⟩)
  unfold Tm.num
  by_cases h0 : (Sz.rd l p).2.2 = 0
  · rw [if_pos h0]
    obtain ⟨r1, r2, r3, r4, r5⟩ := Sz.wr_rd l p (Sz.rd l p).1 (Sz.rd l p).2.1 hbt (by rw [← h0])
    obtain ⟨q, hq⟩ : ∃ q : Nat, q = (Sz.rd l p).2.1.toNat := ⟨_, rfl⟩
    have hq2 : (Sz.rd l p).2.1 = (q : Int) := by omega
    rw [h0, hq2, show errV 0 = .nilIface from rfl] at HRD
    rw [← hq]
    generalize (Sz.rd l p).1 = n at *
    clear h0 r1 r2 r3 r4 r5 hq hq2 hs hl hbt
    go_enter Tryz.func71, Tryz.ntmps71
    go_wp2
    refine wp_region_held_drew (S := fun W : World => Below w.heap.size w W ∧ W.cell? ⟨R, 0, none⟩ = some (.slice ba l.length bc) ∧ W.cell? ⟨R, 1, none⟩ = some (.int .i64 (p : Int))) (by kernel_rfl) ?_ (fun hHeld0 => ?_)
    · exact ⟨(Below.refl _ _).drew, hc0, hc1⟩
    refine wpAnyH_take (i := 0) (v := ?_) rfl (by kernel_rfl) (by kernel_rfl) (by kernel_rfl) (fun _ _ _ h => h) (Or.inl ⟨by rfl, ?_⟩) hHeld0 ?_
    rotate_left
    · (intro w hSw; (try dsimp only at hSw); go_simp <;> (try with_reducible rfl))
    simp only [Act.put, List.getElem_toArray, List.getElem_cons_zero, List.getElem_cons_succ, List.setIfInBounds_toArray, List.set_cons_zero, List.set_cons_succ]
    refine wpAnyH_take (i := 1) (v := ?_) rfl (by kernel_rfl) (by kernel_rfl) (by kernel_rfl) (fun _ _ _ h => h) (Or.inl ⟨by rfl, ?_⟩) hHeld0 ?_
    rotate_left
    · (intro w hSw; (try dsimp only at hSw); go_simp <;> (try with_reducible rfl))
    simp only [Act.put, List.getElem_toArray, List.getElem_cons_zero, List.getElem_cons_succ, List.setIfInBounds_toArray, List.set_cons_zero, List.set_cons_succ]
    refine wpAnyH_take (i := 2) (v := ?_) rfl (by kernel_rfl) (by kernel_rfl) (by kernel_rfl) (fun _ _ _ h => h) (Or.inl ⟨by rfl, ?_⟩) hHeld0 ?_
    rotate_left
    · (intro w hSw; (try dsimp only at hSw); go_simp <;> (try with_reducible rfl))
    simp only [Act.put, List.getElem_toArray, List.getElem_cons_zero, List.getElem_cons_succ, List.setIfInBounds_toArray, List.set_cons_zero, List.set_cons_succ]
    refine wpAnyH_take (i := 3) (v := ?_) rfl (by kernel_rfl) (by kernel_rfl) (by kernel_rfl) (fun _ _ _ h => h) (Or.inl ⟨by rfl, ?_⟩) hHeld0 ?_
    rotate_left
    · (intro w hSw; (try dsimp only at hSw); go_simp <;> (try with_reducible rfl))
    simp only [Act.put, List.getElem_toArray, List.getElem_cons_zero, List.getElem_cons_succ, List.setIfInBounds_toArray, List.set_cons_zero, List.set_cons_succ]
    refine wpAnyH_take (i := 4) (v := ?_) rfl (by kernel_rfl) (by kernel_rfl) (by kernel_rfl) (fun _ _ _ h => h) (Or.inl ⟨by rfl, ?_⟩) hHeld0 ?_
    rotate_left
    · (intro w hSw; (try dsimp only at hSw); go_simp <;> (try with_reducible rfl))
    simp only [Act.put, List.getElem_toArray, List.getElem_cons_zero, List.getElem_cons_succ, List.setIfInBounds_toArray, List.set_cons_zero, List.set_cons_succ]
    refine wpAnyH_take (i := 5) (v := ?_) rfl (by kernel_rfl) (by kernel_rfl) (by kernel_rfl) (fun _ _ _ h => h) (Or.inl ⟨by rfl, ?_⟩) hHeld0 ?_
    rotate_left
    · (intro w hSw; (try dsimp only at hSw); go_simp <;> (try with_reducible rfl))
    simp only [Act.put, List.getElem_toArray, List.getElem_cons_zero, List.getElem_cons_succ, List.setIfInBounds_toArray, List.set_cons_zero, List.set_cons_succ]
    refine wpAnyH_take (i := 6) (v := ?_) rfl (by kernel_rfl) (by kernel_rfl) (by kernel_rfl) (fun _ _ _ h => h) (Or.inl ⟨by rfl, ?_⟩) hHeld0 ?_
    rotate_left
    · (intro w hSw; (try dsimp only at hSw); go_simp <;> (try with_reducible rfl))
    simp only [Act.put, List.getElem_toArray, List.getElem_cons_zero, List.getElem_cons_succ, List.setIfInBounds_toArray, List.set_cons_zero, List.set_cons_succ]
    refine wpAnyH_take (i := 7) (v := ?_) rfl (by kernel_rfl) (by kernel_rfl) (by kernel_rfl) (fun _ _ _ h => h) (Or.inl ⟨by rfl, ?_⟩) hHeld0 ?_
    rotate_left
    · (intro w hSw; (try dsimp only at hSw); go_simp <;> (try with_reducible rfl))
    simp only [Act.put, List.getElem_toArray, List.getElem_cons_zero, List.getElem_cons_succ, List.setIfInBounds_toArray, List.set_cons_zero, List.set_cons_succ]
    refine wpAnyH_ready (rs := [8]) (by kernel_rfl) (by simp) ?_
    refine AllReadyH.cons rfl (fun K hK => ?_) AllReadyH.nil
    go_simp
    go_wp2_with ((go_at_call 82; refine (HRD.out _ hHeld0.1).mono ?_; rintro e W1 ⟨rfl, hb1⟩))
    refine hK.out _ _ (by exact rd_keep hHeld0 hb1 HI.out hc0 hc1) (fun hHeld1 => ?_)
    clear hK K hHeld0
    try simp only [Act.put, List.getElem_toArray, List.getElem_cons_zero, List.getElem_cons_succ, List.setIfInBounds_toArray, List.set_cons_zero, List.set_cons_succ]
    refine wpAnyH_take (i := 9) (v := ?_) rfl (by kernel_rfl) (by kernel_rfl) (by kernel_rfl) (fun _ _ _ h => h) (Or.inl ⟨by rfl, ?_⟩) hHeld1 ?_
    rotate_left
    · (intro w hSw; (try dsimp only at hSw); go_simp <;> (try with_reducible rfl))
    simp only [Act.put, List.getElem_toArray, List.getElem_cons_zero, List.getElem_cons_succ, List.setIfInBounds_toArray, List.set_cons_zero, List.set_cons_succ]
    refine wpAnyH_take (i := 10) (v := ?_) rfl (by kernel_rfl) (by kernel_rfl) (by kernel_rfl) (fun _ _ _ h => h) (Or.inl ⟨by rfl, ?_⟩) hHeld1 ?_
    rotate_left
    · (intro w hSw; (try dsimp only at hSw); go_simp <;> (try with_reducible rfl))
    simp only [Act.put, List.getElem_toArray, List.getElem_cons_zero, List.getElem_cons_succ, List.setIfInBounds_toArray, List.set_cons_zero, List.set_cons_succ]
    refine wpAnyH_take (i := 11) (v := ?_) rfl (by kernel_rfl) (by kernel_rfl) (by kernel_rfl) (fun _ _ _ h => h) (Or.inl ⟨by rfl, ?_⟩) hHeld1 ?_
    rotate_left
    · (intro w hSw; (try dsimp only at hSw); go_simp <;> (try with_reducible rfl))
    simp only [Act.put, List.getElem_toArray, List.getElem_cons_zero, List.getElem_cons_succ, List.setIfInBounds_toArray, List.set_cons_zero, List.set_cons_succ]
    refine wpAnyH_take (i := 12) (v := ?_) rfl (by kernel_rfl) (by kernel_rfl) (by kernel_rfl) (fun _ _ _ h => h) (Or.inl ⟨by rfl, ?_⟩) hHeld1 ?_
    rotate_left
    · (intro w hSw; (try dsimp only at hSw); go_simp <;> (try with_reducible rfl))
    simp only [Act.put, List.getElem_toArray, List.getElem_cons_zero, List.getElem_cons_succ, List.setIfInBounds_toArray, List.set_cons_zero, List.set_cons_succ]
    refine wpAnyH_take (i := 13) (v := ?_) rfl (by kernel_rfl) (by kernel_rfl) (by kernel_rfl) (fun _ _ _ h => h) (Or.inl ⟨by rfl, ?_⟩) hHeld1 ?_
    rotate_left
    · (intro w hSw; (try dsimp only at hSw); go_simp <;> (try with_reducible rfl))
    simp only [Act.put, List.getElem_toArray, List.getElem_cons_zero, List.getElem_cons_succ, List.setIfInBounds_toArray, List.set_cons_zero, List.set_cons_succ]
    refine wpAnyH_take (i := 14) (v := ?_) rfl (by kernel_rfl) (by kernel_rfl) (by kernel_rfl) (fun _ _ _ h => h) (Or.inl ⟨by rfl, ?_⟩) hHeld1 ?_
    rotate_left
    · (intro w hSw; (try dsimp only at hSw); go_simp <;> (try with_reducible rfl))
    simp only [Act.put, List.getElem_toArray, List.getElem_cons_zero, List.getElem_cons_succ, List.setIfInBounds_toArray, List.set_cons_zero, List.set_cons_succ]
    refine wpAnyH_take (i := 15) (v := ?_) rfl (by kernel_rfl) (by kernel_rfl) (by kernel_rfl) (fun _ _ _ h => h) (Or.inl ⟨by rfl, ?_⟩) hHeld1 ?_
    rotate_left
    · (intro w hSw; (try dsimp only at hSw); go_simp <;> (try with_reducible rfl))
    simp only [Act.put, List.getElem_toArray, List.getElem_cons_zero, List.getElem_cons_succ, List.setIfInBounds_toArray, List.set_cons_zero, List.set_cons_succ]
    refine wpAnyH_done (by kernel_rfl) ?_ _
    have HB1 := hide hb1
    have HI1 := hide (HI.out.below hb1 HI.out.lt)
    clear hHeld1 hb1
    have hcR := HI1.out.cell 1
    have hfR := HI1.out.frozen
    simp only [List.getElem?_cons_zero, List.getElem?_cons_succ] at hcR
    go_wp2_with fail
    refine (pmust_true W1).mono ?_
    rintro e w2 ⟨rfl, rfl⟩
    go_wp2
    have hb2 : But R w (W1.setCell ⟨R, 1, none⟩ (.int .i64 (q : Int))) := (But.call HB1.out).trans (But.cell W1 R 1 _)
    have hi2 := HI1.out.set 1 (.int .i64 (q : Int))
    go_ret
    exact ⟨hb2, _, rfl, rfl, HST.out.after hb2 hi2⟩
  · rw [if_neg h0]
    have hce : errV (Sz.rd l p).2.2 = .iface 27 (.int .i64 (Sz.rd l p).2.2) := by unfold errV; rw [if_neg h0]
    rw [hce] at HRD
    clear h0 hce hs hl hbt
    generalize (Sz.rd l p).1 = n at *
    generalize (Sz.rd l p).2.1 = m at *
    generalize (Sz.rd l p).2.2 = c at *
    go_enter Tryz.func71, Tryz.ntmps71
    go_wp2
    refine wp_region_held_drew (S := fun W : World => Below w.heap.size w W ∧ W.cell? ⟨R, 0, none⟩ = some (.slice ba l.length bc) ∧ W.cell? ⟨R, 1, none⟩ = some (.int .i64 (p : Int))) (by kernel_rfl) ?_ (fun hHeld0 => ?_)
    · exact ⟨(Below.refl _ _).drew, hc0, hc1⟩
    refine wpAnyH_take (i := 0) (v := ?_) rfl (by kernel_rfl) (by kernel_rfl) (by kernel_rfl) (fun _ _ _ h => h) (Or.inl ⟨by rfl, ?_⟩) hHeld0 ?_
    rotate_left
    · (intro w hSw; (try dsimp only at hSw); go_simp <;> (try with_reducible rfl))
    simp only [Act.put, List.getElem_toArray, List.getElem_cons_zero, List.getElem_cons_succ, List.setIfInBounds_toArray, List.set_cons_zero, List.set_cons_succ]
    refine wpAnyH_take (i := 1) (v := ?_) rfl (by kernel_rfl) (by kernel_rfl) (by kernel_rfl) (fun _ _ _ h => h) (Or.inl ⟨by rfl, ?_⟩) hHeld0 ?_
    rotate_left
    · (intro w hSw; (try dsimp only at hSw); go_simp <;> (try with_reducible rfl))
    simp only [Act.put, List.getElem_toArray, List.getElem_cons_zero, List.getElem_cons_succ, List.setIfInBounds_toArray, List.set_cons_zero, List.set_cons_succ]
    refine wpAnyH_take (i := 2) (v := ?_) rfl (by kernel_rfl) (by kernel_rfl) (by kernel_rfl) (fun _ _ _ h => h) (Or.inl ⟨by rfl, ?_⟩) hHeld0 ?_
    rotate_left
    · (intro w hSw; (try dsimp only at hSw); go_simp <;> (try with_reducible rfl))
    simp only [Act.put, List.getElem_toArray, List.getElem_cons_zero, List.getElem_cons_succ, List.setIfInBounds_toArray, List.set_cons_zero, List.set_cons_succ]
    refine wpAnyH_take (i := 3) (v := ?_) rfl (by kernel_rfl) (by kernel_rfl) (by kernel_rfl) (fun _ _ _ h => h) (Or.inl ⟨by rfl, ?_⟩) hHeld0 ?_
    rotate_left
    · (intro w hSw; (try dsimp only at hSw); go_simp <;> (try with_reducible rfl))
    simp only [Act.put, List.getElem_toArray, List.getElem_cons_zero, List.getElem_cons_succ, List.setIfInBounds_toArray, List.set_cons_zero, List.set_cons_succ]
    refine wpAnyH_take (i := 4) (v := ?_) rfl (by kernel_rfl) (by kernel_rfl) (by kernel_rfl) (fun _ _ _ h => h) (Or.inl ⟨by rfl, ?_⟩) hHeld0 ?_
    rotate_left
    · (intro w hSw; (try dsimp only at hSw); go_simp <;> (try with_reducible rfl))
    simp only [Act.put, List.getElem_toArray, List.getElem_cons_zero, List.getElem_cons_succ, List.setIfInBounds_toArray, List.set_cons_zero, List.set_cons_succ]
    refine wpAnyH_take (i := 5) (v := ?_) rfl (by kernel_rfl) (by kernel_rfl) (by kernel_rfl) (fun _ _ _ h => h) (Or.inl ⟨by rfl, ?_⟩) hHeld0 ?_
    rotate_left
    · (intro w hSw; (try dsimp only at hSw); go_simp <;> (try with_reducible rfl))
    simp only [Act.put, List.getElem_toArray, List.getElem_cons_zero, List.getElem_cons_succ, List.setIfInBounds_toArray, List.set_cons_zero, List.set_cons_succ]
    refine wpAnyH_take (i := 6) (v := ?_) rfl (by kernel_rfl) (by kernel_rfl) (by kernel_rfl) (fun _ _ _ h => h) (Or.inl ⟨by rfl, ?_⟩) hHeld0 ?_
    rotate_left
    · (intro w hSw; (try dsimp only at hSw); go_simp <;> (try with_reducible rfl))
    simp only [Act.put, List.getElem_toArray, List.getElem_cons_zero, List.getElem_cons_succ, List.setIfInBounds_toArray, List.set_cons_zero, List.set_cons_succ]
    refine wpAnyH_take (i := 7) (v := ?_) rfl (by kernel_rfl) (by kernel_rfl) (by kernel_rfl) (fun _ _ _ h => h) (Or.inl ⟨by rfl, ?_⟩) hHeld0 ?_
    rotate_left
    · (intro w hSw; (try dsimp only at hSw); go_simp <;> (try with_reducible rfl))
    simp only [Act.put, List.getElem_toArray, List.getElem_cons_zero, List.getElem_cons_succ, List.setIfInBounds_toArray, List.set_cons_zero, List.set_cons_succ]
    refine wpAnyH_ready (rs := [8]) (by kernel_rfl) (by simp) ?_
    refine AllReadyH.cons rfl (fun K hK => ?_) AllReadyH.nil
    go_simp
    go_wp2_with ((go_at_call 82; refine (HRD.out _ hHeld0.1).mono ?_; rintro e W1 ⟨rfl, hb1⟩))
    refine hK.out _ _ (by exact rd_keep hHeld0 hb1 HI.out hc0 hc1) (fun hHeld1 => ?_)
    clear hK K hHeld0
    try simp only [Act.put, List.getElem_toArray, List.getElem_cons_zero, List.getElem_cons_succ, List.setIfInBounds_toArray, List.set_cons_zero, List.set_cons_succ]
    refine wpAnyH_take (i := 9) (v := ?_) rfl (by kernel_rfl) (by kernel_rfl) (by kernel_rfl) (fun _ _ _ h => h) (Or.inl ⟨by rfl, ?_⟩) hHeld1 ?_
    rotate_left
    · (intro w hSw; (try dsimp only at hSw); go_simp <;> (try with_reducible rfl))
    simp only [Act.put, List.getElem_toArray, List.getElem_cons_zero, List.getElem_cons_succ, List.setIfInBounds_toArray, List.set_cons_zero, List.set_cons_succ]
    refine wpAnyH_take (i := 10) (v := ?_) rfl (by kernel_rfl) (by kernel_rfl) (by kernel_rfl) (fun _ _ _ h => h) (Or.inl ⟨by rfl, ?_⟩) hHeld1 ?_
    rotate_left
    · (intro w hSw; (try dsimp only at hSw); go_simp <;> (try with_reducible rfl))
    simp only [Act.put, List.getElem_toArray, List.getElem_cons_zero, List.getElem_cons_succ, List.setIfInBounds_toArray, List.set_cons_zero, List.set_cons_succ]
    refine wpAnyH_take (i := 11) (v := ?_) rfl (by kernel_rfl) (by kernel_rfl) (by kernel_rfl) (fun _ _ _ h => h) (Or.inl ⟨by rfl, ?_⟩) hHeld1 ?_
    rotate_left
    · (intro w hSw; (try dsimp only at hSw); go_simp <;> (try with_reducible rfl))
    simp only [Act.put, List.getElem_toArray, List.getElem_cons_zero, List.getElem_cons_succ, List.setIfInBounds_toArray, List.set_cons_zero, List.set_cons_succ]
    refine wpAnyH_take (i := 12) (v := ?_) rfl (by kernel_rfl) (by kernel_rfl) (by kernel_rfl) (fun _ _ _ h => h) (Or.inl ⟨by rfl, ?_⟩) hHeld1 ?_
    rotate_left
    · (intro w hSw; (try dsimp only at hSw); go_simp <;> (try with_reducible rfl))
    simp only [Act.put, List.getElem_toArray, List.getElem_cons_zero, List.getElem_cons_succ, List.setIfInBounds_toArray, List.set_cons_zero, List.set_cons_succ]
    refine wpAnyH_take (i := 13) (v := ?_) rfl (by kernel_rfl) (by kernel_rfl) (by kernel_rfl) (fun _ _ _ h => h) (Or.inl ⟨by rfl, ?_⟩) hHeld1 ?_
    rotate_left
    · (intro w hSw; (try dsimp only at hSw); go_simp <;> (try with_reducible rfl))
    simp only [Act.put, List.getElem_toArray, List.getElem_cons_zero, List.getElem_cons_succ, List.setIfInBounds_toArray, List.set_cons_zero, List.set_cons_succ]
    refine wpAnyH_take (i := 14) (v := ?_) rfl (by kernel_rfl) (by kernel_rfl) (by kernel_rfl) (fun _ _ _ h => h) (Or.inl ⟨by rfl, ?_⟩) hHeld1 ?_
    rotate_left
    · (intro w hSw; (try dsimp only at hSw); go_simp <;> (try with_reducible rfl))
    simp only [Act.put, List.getElem_toArray, List.getElem_cons_zero, List.getElem_cons_succ, List.setIfInBounds_toArray, List.set_cons_zero, List.set_cons_succ]
    refine wpAnyH_take (i := 15) (v := ?_) rfl (by kernel_rfl) (by kernel_rfl) (by kernel_rfl) (fun _ _ _ h => h) (Or.inl ⟨by rfl, ?_⟩) hHeld1 ?_
    rotate_left
    · (intro w hSw; (try dsimp only at hSw); go_simp <;> (try with_reducible rfl))
    simp only [Act.put, List.getElem_toArray, List.getElem_cons_zero, List.getElem_cons_succ, List.setIfInBounds_toArray, List.set_cons_zero, List.set_cons_succ]
    refine wpAnyH_done (by kernel_rfl) ?_ _
    have HB1 := hide hb1
    have HI1 := hide (HI.out.below hb1 HI.out.lt)
    clear hHeld1 hb1
    have hcR := HI1.out.cell 1
    have hfR := HI1.out.frozen
    simp only [List.getElem?_cons_zero, List.getElem?_cons_succ] at hcR
    go_wp2_with fail
    refine (pmust_false W1).mono ?_
    rintro e w2 ⟨rfl, rfl⟩
    exact ⟨rfl, But.call HB1.out, rfl⟩
end Go.Proofs.YtbdnbjemocjlaaaGreatDoor

/- size.Unpack, what it gives in a block of its own. -/
namespace Go.Proofs.YtbdnbjemocjlaaaGreatDoor
open Go.RowKit
set_option linter.unusedVariables false
set_option linter.unusedSimpArgs false

set_option maxHeartbeats 400000 in
theorem unpack_okO (b off cap : Nat) (l : List Int) (p q : Nat) (n : Nat) (w : World) (h : Has w (.slice (some ⟨b, off, none⟩) l.length cap) l) (hb : Sz.Byt l) (hr : Sz.rd l (p : Int) = ((n : Int), (q : Int), 0))
    (hq : q ≤ l.length) (hm : cap ≤ maxLen) (hcap : l.length ≤ cap) (hbig : l.length ≤ 180000000000000) (hc : ∀ j, j < l.length → w.cell? ⟨b, off + j, none⟩ = some (.int .u8 (l.getD j 0))) (hn : q + n ≤ l.length) :
    Calls Tryz.prog 84 #[.slice (some ⟨b, off, none⟩) l.length cap, .int .i64 p] w fun e w' => ∃ v, e = .returned (.tuple #[v, .int .i64 ((q : Int) + (n : Int)), .nilIface]) ∧ Own w' w.heap.size v ((l.drop q).take n) ∧ Below w.heap.size w w' := by
  have hrd := read_any _ l (p : Int) w h hb
  rw [hr] at hrd
  have HR := hide hrd
  have hel : ((l.drop q).take n).length = n := by rw [List.length_take, List.length_drop]; omega
  have hHas : ∀ w', Below w.heap.size w w' → Has w' (.slice (if cap = q then some ⟨b, off, none⟩ else some ⟨b, off + q, none⟩) n (cap - q)) ((l.drop q).take n) := fun w' hw' => by
    refine Has.below (w := w) ?_ hw'
    by_cases h0 : n = 0
    · subst h0
      exact .inl ⟨_, _, rfl, by simp, by omega, by split <;> (intro h; cases h)⟩
    · rw [if_neg (by omega)]
      refine .inr ⟨b, off + q, cap - q, by rw [hel], by omega, by omega, by omega, fun j hj => ?_⟩
      have := hc (q + j) (by omega)
      rw [show off + q + j = off + (q + j) from by omega, this]
      have e2 : ((l.drop q).take n).getD j 0 = l.getD (q + j) 0 := by
        simp only [List.getD, List.getElem?_take, List.getElem?_drop]
        rw [if_pos (by omega)]
      rw [e2]
  have HH := hide hHas
  have HE := hide hel
  clear hrd hr h hb hc hHas hel
  generalize (l.drop q).take n = r at *
  generalize l.length = len at *
  unfold maxLen at hm
  have h1 : ¬ (len : Int) - (q : Int) < (n : Int) := by omega
  have h2 : (q : Int) + (n : Int) ≤ (len : Int) := by omega
  have h3 : (len : Int) ≤ (cap : Int) := by omega
  by_cases hcq : cap = q
  · subst hcq
    have HC : Hid (∀ w', Below w.heap.size w w' → Has w' (.slice (some ⟨b, off, none⟩) n 0) r) := fun w' hw' => by
      have := HH.out w' hw'
      rw [if_pos rfl, Nat.sub_self] at this
      exact this
    clear HH
    have hlen : r.length ≤ 180000000000000 := by rw [HE.out]; omega
    go_enter Tryz.func84, Tryz.ntmps84
    go_wp2_with fail
    refine HR.out.mono ?_
    rintro e w1 ⟨rfl, hbel⟩
    simp only [errV, if_true]
    go_wp2_with fail
    refine (clone_some _ _ _ r _ (HC.out _ hbel) hlen).mono ?_
    rintro e w2 ⟨v, rfl, hown, hbel2⟩
    go_wp2
    go_ret3
    exact ⟨v, rfl, hown.mono hbel.size, hbel.trans (hbel2.mono hbel.size)⟩
  · have HC : Hid (∀ w', Below w.heap.size w w' → Has w' (.slice (some ⟨b, off + q, none⟩) n (cap - q)) r) := fun w' hw' => by
      have := HH.out w' hw'
      rw [if_neg hcq] at this
      exact this
    clear HH
    have hlen : r.length ≤ 180000000000000 := by rw [HE.out]; omega
    go_enter Tryz.func84, Tryz.ntmps84
    go_wp2_with fail
    refine HR.out.mono ?_
    rintro e w1 ⟨rfl, hbel⟩
    simp only [errV, if_true]
    go_wp2_with fail
    refine (clone_some _ _ _ r _ (HC.out _ hbel) hlen).mono ?_
    rintro e w2 ⟨v, rfl, hown, hbel2⟩
    go_wp2
    go_ret3
    exact ⟨v, rfl, hown.mono hbel.size, hbel.trans (hbel2.mono hbel.size)⟩

/-- The contract in one piece. -/
theorem unpack_own (v : Value) (l : List Int) (p : Int) (w : World) (h : Has w v l) (hb : Sz.Byt l) (hbig : l.length ≤ 180000000000000) :
    Calls Tryz.prog 84 #[v, .int .i64 p] w fun e w' => ∃ v', e = .returned (.tuple #[v', .int .i64 (Sz.unp l p).2.1, errV (Sz.unp l p).2.2]) ∧ Own w' w.heap.size v' (Sz.unp l p).1 ∧ Below w.heap.size w w' := by
  by_cases he : (Sz.rd l p).2.2 = 0
  · obtain ⟨n, q, hr⟩ : ∃ n q, Sz.rd l p = (n, q, 0) := ⟨(Sz.rd l p).1, (Sz.rd l p).2.1, by rw [← he]⟩
    have hp : ¬ p < 0 := fun hp => by rw [Sz.rd_neg l p hp] at he; simp at he
    obtain ⟨k, rfl⟩ := Int.eq_ofNat_of_zero_le (show 0 ≤ p by omega)
    obtain ⟨hn0, hn1, hq, hle, _⟩ := Sz.wr_rd l k n q hb hr
    by_cases hfew : (l.length : Int) - q < n
    · have e : Sz.unp l (k : Int) = ([], 0, 3) := by unfold Sz.unp; rw [hr, if_neg (by simp), if_pos hfew]
      rw [e]
      refine (unpack_few v l k q n w h hb hr (by omega) (by omega) hn0 hn1 hfew).mono ?_
      rintro e w' ⟨rfl, hbel⟩
      exact ⟨_, rfl, Own.nil _ _, hbel⟩
    · obtain ⟨n', rfl⟩ := Int.eq_ofNat_of_zero_le hn0
      obtain ⟨q', rfl⟩ := Int.eq_ofNat_of_zero_le (show 0 ≤ q by omega)
      have e : Sz.unp l (k : Int) = ((l.drop q').take n', (q' : Int) + (n' : Int), 0) := by unfold Sz.unp; rw [hr, if_neg (by simp), if_neg hfew]; rfl
      rw [e]
      have hpos := Sz.wr_pos (n' : Int)
      have H := h
      rcases h with ⟨a, cap, rfl, rfl, _⟩ | ⟨b, off, cap, rfl, h0, hcap, hm, hc⟩
      · exact absurd hle (by simp only [List.length_nil]; omega)
      · refine (unpack_okO b off cap l k q' n' w H hb hr (by omega) hm hcap hbig hc (by omega)).mono ?_
        rintro e w' ⟨v, rfl, hv, hbel⟩
        exact ⟨v, rfl, hv, hbel⟩
  · have e : Sz.unp l p = ([], 0, (Sz.rd l p).2.2) := by unfold Sz.unp; rw [if_pos he]
    rw [e]
    refine (unpack_err v l p w h hb he).mono ?_
    rintro e w' ⟨rfl, hbel⟩
    exact ⟨_, rfl, Own.nil _ _, hbel⟩
end Go.Proofs.YtbdnbjemocjlaaaGreatDoor

/- tx's reader: packed bytes, counts. -/
namespace Go.Proofs.YtbdnbjemocjlaaaGreatDoor
open Go.RowKit
set_option linter.unusedVariables false
set_option linter.unusedSimpArgs false

theorem unp_ok (l : List Int) (p : Nat) (hbt : Sz.Byt l) (h : (Sz.unp l p).2.2 = 0) : 0 ≤ (Sz.unp l p).2.1 := by
  unfold Sz.unp at h ⊢
  by_cases h0 : (Sz.rd l p).2.2 = 0
  · obtain ⟨r1, r2, r3, r4, r5⟩ := Sz.wr_rd l p (Sz.rd l p).1 (Sz.rd l p).2.1 hbt (by rw [← h0])
    rw [if_neg (by omega)]
    split
    · exact Int.le_refl _
    · show 0 ≤ (Sz.rd l p).2.1 + (Sz.rd l p).1
      omega
  · rw [if_pos h0]
    exact Int.le_refl _

theorem row_but {w w' : World} {base R : Nat} {T : TypeId} {s : Nat} {v : Value} {n : Nat} {cs : List Value} (h : w.ownsRow base T s v n cs) (hb : But R w w') (hR : R < base) : w'.ownsRow base T s v n cs := by
  refine ⟨h.1, ?_⟩
  rcases h.2 with h0 | ⟨g', cap, cur, rfl, hbg, hg', hn, hc, hs, ht⟩
  · exact .inl h0
  · have hlt : g' < w.heap.size := by
      rcases Nat.lt_or_ge g' w.heap.size with hlt | hge
      · exact hlt
      · rw [Array.getElem?_eq_none hge] at hg'; cases hg'
    exact .inr ⟨g', cap, cur, rfl, hbg, by rw [hb.block g' hlt (by omega)]; exact hg', hn, hc, hs, ht⟩
theorem own_but {w w' : World} {base R : Nat} {v : Value} {l : List Int} (h : Own w base v l) (hb : But R w w') (hR : R < base) : Own w' base v l := row_but h hb hR

set_option maxRecDepth 100000 in
set_option maxHeartbeats 2000000 in
theorem ppacked_any (w0 : World) (R : Nat) (bv : Value) (l : List Int) (p : Nat) (w : World) (hs : RdS w0 R bv l p w) (hl : Has w0 bv l) (hbt : Sz.Byt l) (hbig : l.length ≤ 180000000000000) :
    Calls Tryz.prog 80 #[.pointer (some ⟨R, 0, none⟩)] w fun e w' => ReadsSo w0 R bv l w (Tm.thing l p) (fun x v W => Own W w.heap.size v x) e w' := by
  obtain ⟨ba, bc, rfl, _, _⟩ := hl.shape
  have HST := hide hs
  have HI := hide hs.is
  have HRL := hide hs.is.lt
  have hc0 := hs.is.cell 0
  have hc1 := hs.is.cell 1
  simp only [List.getElem?_cons_zero, List.getElem?_cons_succ] at hc0 hc1
  have HRD : Hid (∀ W, Below w.heap.size w W → Calls Tryz.prog 84 #[.slice ba l.length bc, .int .i64 (p : Int)] W fun e w' => ∃ a n c, e = .returned (.tuple #[.slice a n c, .int .i64 (Sz.unp l p).2.1, errV (Sz.unp l p).2.2]) ∧ Own w' w.heap.size (.slice a n c) (Sz.unp l p).1 ∧ Below w.heap.size w w') := hide (fun W hW => by
    refine (unpack_own _ l p W ((hl.below hs.hb).below hW) hbt hbig).mono ?_
    rintro e w1 ⟨v, rfl, ho, hb⟩
    obtain ⟨a, c, rfl, _, _⟩ := ho.form
    exact ⟨a, _, c, rfl, ho.mono hW.size, hW.trans (hb.mono hW.size)⟩)
  unfold Tm.thing
  by_cases h0 : (Sz.unp l p).2.2 = 0
  · rw [if_pos h0]
    have r1 := unp_ok l p hbt h0
    obtain ⟨q, hq⟩ : ∃ q : Nat, q = (Sz.unp l p).2.1.toNat := ⟨_, rfl⟩
    have hq2 : (Sz.unp l p).2.1 = (q : Int) := by omega
    rw [h0, hq2, show errV 0 = .nilIface from rfl] at HRD
    rw [← hq]
    generalize (Sz.unp l p).1 = n at *
    clear h0 r1 hq hq2 hs hl hbt hbig
    go_enter Tryz.func80, Tryz.ntmps80
    go_wp2
    refine wp_region_held_drew (S := fun W : World => Below w.heap.size w W ∧ W.cell? ⟨R, 0, none⟩ = some (.slice ba l.length bc) ∧ W.cell? ⟨R, 1, none⟩ = some (.int .i64 (p : Int))) (by kernel_rfl) ?_ (fun hHeld0 => ?_)
    · exact ⟨(Below.refl _ _).drew, hc0, hc1⟩
    refine wpAnyH_take (i := 0) (v := ?_) rfl (by kernel_rfl) (by kernel_rfl) (by kernel_rfl) (fun _ _ _ h => h) (Or.inl ⟨by rfl, ?_⟩) hHeld0 ?_
    rotate_left
    · (intro w hSw; (try dsimp only at hSw); go_simp <;> (try with_reducible rfl))
    simp only [Act.put, List.getElem_toArray, List.getElem_cons_zero, List.getElem_cons_succ, List.setIfInBounds_toArray, List.set_cons_zero, List.set_cons_succ]
    refine wpAnyH_take (i := 1) (v := ?_) rfl (by kernel_rfl) (by kernel_rfl) (by kernel_rfl) (fun _ _ _ h => h) (Or.inl ⟨by rfl, ?_⟩) hHeld0 ?_
    rotate_left
    · (intro w hSw; (try dsimp only at hSw); go_simp <;> (try with_reducible rfl))
    simp only [Act.put, List.getElem_toArray, List.getElem_cons_zero, List.getElem_cons_succ, List.setIfInBounds_toArray, List.set_cons_zero, List.set_cons_succ]
    refine wpAnyH_take (i := 2) (v := ?_) rfl (by kernel_rfl) (by kernel_rfl) (by kernel_rfl) (fun _ _ _ h => h) (Or.inl ⟨by rfl, ?_⟩) hHeld0 ?_
    rotate_left
    · (intro w hSw; (try dsimp only at hSw); go_simp <;> (try with_reducible rfl))
    simp only [Act.put, List.getElem_toArray, List.getElem_cons_zero, List.getElem_cons_succ, List.setIfInBounds_toArray, List.set_cons_zero, List.set_cons_succ]
    refine wpAnyH_take (i := 3) (v := ?_) rfl (by kernel_rfl) (by kernel_rfl) (by kernel_rfl) (fun _ _ _ h => h) (Or.inl ⟨by rfl, ?_⟩) hHeld0 ?_
    rotate_left
    · (intro w hSw; (try dsimp only at hSw); go_simp <;> (try with_reducible rfl))
    simp only [Act.put, List.getElem_toArray, List.getElem_cons_zero, List.getElem_cons_succ, List.setIfInBounds_toArray, List.set_cons_zero, List.set_cons_succ]
    refine wpAnyH_take (i := 4) (v := ?_) rfl (by kernel_rfl) (by kernel_rfl) (by kernel_rfl) (fun _ _ _ h => h) (Or.inl ⟨by rfl, ?_⟩) hHeld0 ?_
    rotate_left
    · (intro w hSw; (try dsimp only at hSw); go_simp <;> (try with_reducible rfl))
    simp only [Act.put, List.getElem_toArray, List.getElem_cons_zero, List.getElem_cons_succ, List.setIfInBounds_toArray, List.set_cons_zero, List.set_cons_succ]
    refine wpAnyH_take (i := 5) (v := ?_) rfl (by kernel_rfl) (by kernel_rfl) (by kernel_rfl) (fun _ _ _ h => h) (Or.inl ⟨by rfl, ?_⟩) hHeld0 ?_
    rotate_left
    · (intro w hSw; (try dsimp only at hSw); go_simp <;> (try with_reducible rfl))
    simp only [Act.put, List.getElem_toArray, List.getElem_cons_zero, List.getElem_cons_succ, List.setIfInBounds_toArray, List.set_cons_zero, List.set_cons_succ]
    refine wpAnyH_take (i := 6) (v := ?_) rfl (by kernel_rfl) (by kernel_rfl) (by kernel_rfl) (fun _ _ _ h => h) (Or.inl ⟨by rfl, ?_⟩) hHeld0 ?_
    rotate_left
    · (intro w hSw; (try dsimp only at hSw); go_simp <;> (try with_reducible rfl))
    simp only [Act.put, List.getElem_toArray, List.getElem_cons_zero, List.getElem_cons_succ, List.setIfInBounds_toArray, List.set_cons_zero, List.set_cons_succ]
    refine wpAnyH_take (i := 7) (v := ?_) rfl (by kernel_rfl) (by kernel_rfl) (by kernel_rfl) (fun _ _ _ h => h) (Or.inl ⟨by rfl, ?_⟩) hHeld0 ?_
    rotate_left
    · (intro w hSw; (try dsimp only at hSw); go_simp <;> (try with_reducible rfl))
    simp only [Act.put, List.getElem_toArray, List.getElem_cons_zero, List.getElem_cons_succ, List.setIfInBounds_toArray, List.set_cons_zero, List.set_cons_succ]
    refine wpAnyH_ready (rs := [8]) (by kernel_rfl) (by simp) ?_
    refine AllReadyH.cons rfl (fun K hK => ?_) AllReadyH.nil
    go_simp
    go_wp2_with ((go_at_call 84; refine (HRD.out _ hHeld0.1).mono ?_; rintro e W1 ⟨ua, un, uc, rfl, hx1, hb1⟩))
    refine hK.out _ _ (by exact rd_keep hHeld0 hb1 HI.out hc0 hc1) (fun hHeld1 => ?_)
    clear hK K hHeld0
    try simp only [Act.put, List.getElem_toArray, List.getElem_cons_zero, List.getElem_cons_succ, List.setIfInBounds_toArray, List.set_cons_zero, List.set_cons_succ]
    refine wpAnyH_take (i := 9) (v := ?_) rfl (by kernel_rfl) (by kernel_rfl) (by kernel_rfl) (fun _ _ _ h => h) (Or.inl ⟨by rfl, ?_⟩) hHeld1 ?_
    rotate_left
    · (intro w hSw; (try dsimp only at hSw); go_simp <;> (try with_reducible rfl))
    simp only [Act.put, List.getElem_toArray, List.getElem_cons_zero, List.getElem_cons_succ, List.setIfInBounds_toArray, List.set_cons_zero, List.set_cons_succ]
    refine wpAnyH_take (i := 10) (v := ?_) rfl (by kernel_rfl) (by kernel_rfl) (by kernel_rfl) (fun _ _ _ h => h) (Or.inl ⟨by rfl, ?_⟩) hHeld1 ?_
    rotate_left
    · (intro w hSw; (try dsimp only at hSw); go_simp <;> (try with_reducible rfl))
    simp only [Act.put, List.getElem_toArray, List.getElem_cons_zero, List.getElem_cons_succ, List.setIfInBounds_toArray, List.set_cons_zero, List.set_cons_succ]
    refine wpAnyH_take (i := 11) (v := ?_) rfl (by kernel_rfl) (by kernel_rfl) (by kernel_rfl) (fun _ _ _ h => h) (Or.inl ⟨by rfl, ?_⟩) hHeld1 ?_
    rotate_left
    · (intro w hSw; (try dsimp only at hSw); go_simp <;> (try with_reducible rfl))
    simp only [Act.put, List.getElem_toArray, List.getElem_cons_zero, List.getElem_cons_succ, List.setIfInBounds_toArray, List.set_cons_zero, List.set_cons_succ]
    refine wpAnyH_take (i := 12) (v := ?_) rfl (by kernel_rfl) (by kernel_rfl) (by kernel_rfl) (fun _ _ _ h => h) (Or.inl ⟨by rfl, ?_⟩) hHeld1 ?_
    rotate_left
    · (intro w hSw; (try dsimp only at hSw); go_simp <;> (try with_reducible rfl))
    simp only [Act.put, List.getElem_toArray, List.getElem_cons_zero, List.getElem_cons_succ, List.setIfInBounds_toArray, List.set_cons_zero, List.set_cons_succ]
    refine wpAnyH_take (i := 13) (v := ?_) rfl (by kernel_rfl) (by kernel_rfl) (by kernel_rfl) (fun _ _ _ h => h) (Or.inl ⟨by rfl, ?_⟩) hHeld1 ?_
    rotate_left
    · (intro w hSw; (try dsimp only at hSw); go_simp <;> (try with_reducible rfl))
    simp only [Act.put, List.getElem_toArray, List.getElem_cons_zero, List.getElem_cons_succ, List.setIfInBounds_toArray, List.set_cons_zero, List.set_cons_succ]
    refine wpAnyH_take (i := 14) (v := ?_) rfl (by kernel_rfl) (by kernel_rfl) (by kernel_rfl) (fun _ _ _ h => h) (Or.inl ⟨by rfl, ?_⟩) hHeld1 ?_
    rotate_left
    · (intro w hSw; (try dsimp only at hSw); go_simp <;> (try with_reducible rfl))
    simp only [Act.put, List.getElem_toArray, List.getElem_cons_zero, List.getElem_cons_succ, List.setIfInBounds_toArray, List.set_cons_zero, List.set_cons_succ]
    refine wpAnyH_take (i := 15) (v := ?_) rfl (by kernel_rfl) (by kernel_rfl) (by kernel_rfl) (fun _ _ _ h => h) (Or.inl ⟨by rfl, ?_⟩) hHeld1 ?_
    rotate_left
    · (intro w hSw; (try dsimp only at hSw); go_simp <;> (try with_reducible rfl))
    simp only [Act.put, List.getElem_toArray, List.getElem_cons_zero, List.getElem_cons_succ, List.setIfInBounds_toArray, List.set_cons_zero, List.set_cons_succ]
    refine wpAnyH_done (by kernel_rfl) ?_ _
    have HB1 := hide hb1
    have HI1 := hide (HI.out.below hb1 HI.out.lt)
    have HX1 := hide hx1
    clear hHeld1 hb1 hx1
    have hcR := HI1.out.cell 1
    have hfR := HI1.out.frozen
    simp only [List.getElem?_cons_zero, List.getElem?_cons_succ] at hcR
    go_wp2_with fail
    refine (pmust_true W1).mono ?_
    rintro e w2 ⟨rfl, rfl⟩
    go_wp2
    have hb2 : But R w (W1.setCell ⟨R, 1, none⟩ (.int .i64 (q : Int))) := (But.call HB1.out).trans (But.cell W1 R 1 _)
    have hi2 := HI1.out.set 1 (.int .i64 (q : Int))
    go_ret
    exact ⟨hb2, _, rfl, own_but HX1.out (But.cell W1 R 1 _) HRL.out, HST.out.after hb2 hi2⟩
  · rw [if_neg h0]
    have hce : errV (Sz.unp l p).2.2 = .iface 27 (.int .i64 (Sz.unp l p).2.2) := by unfold errV; rw [if_neg h0]
    rw [hce] at HRD
    clear h0 hce hs hl hbt hbig
    generalize (Sz.unp l p).1 = n at *
    generalize (Sz.unp l p).2.1 = m at *
    generalize (Sz.unp l p).2.2 = c at *
    go_enter Tryz.func80, Tryz.ntmps80
    go_wp2
    refine wp_region_held_drew (S := fun W : World => Below w.heap.size w W ∧ W.cell? ⟨R, 0, none⟩ = some (.slice ba l.length bc) ∧ W.cell? ⟨R, 1, none⟩ = some (.int .i64 (p : Int))) (by kernel_rfl) ?_ (fun hHeld0 => ?_)
    · exact ⟨(Below.refl _ _).drew, hc0, hc1⟩
    refine wpAnyH_take (i := 0) (v := ?_) rfl (by kernel_rfl) (by kernel_rfl) (by kernel_rfl) (fun _ _ _ h => h) (Or.inl ⟨by rfl, ?_⟩) hHeld0 ?_
    rotate_left
    · (intro w hSw; (try dsimp only at hSw); go_simp <;> (try with_reducible rfl))
    simp only [Act.put, List.getElem_toArray, List.getElem_cons_zero, List.getElem_cons_succ, List.setIfInBounds_toArray, List.set_cons_zero, List.set_cons_succ]
    refine wpAnyH_take (i := 1) (v := ?_) rfl (by kernel_rfl) (by kernel_rfl) (by kernel_rfl) (fun _ _ _ h => h) (Or.inl ⟨by rfl, ?_⟩) hHeld0 ?_
    rotate_left
    · (intro w hSw; (try dsimp only at hSw); go_simp <;> (try with_reducible rfl))
    simp only [Act.put, List.getElem_toArray, List.getElem_cons_zero, List.getElem_cons_succ, List.setIfInBounds_toArray, List.set_cons_zero, List.set_cons_succ]
    refine wpAnyH_take (i := 2) (v := ?_) rfl (by kernel_rfl) (by kernel_rfl) (by kernel_rfl) (fun _ _ _ h => h) (Or.inl ⟨by rfl, ?_⟩) hHeld0 ?_
    rotate_left
    · (intro w hSw; (try dsimp only at hSw); go_simp <;> (try with_reducible rfl))
    simp only [Act.put, List.getElem_toArray, List.getElem_cons_zero, List.getElem_cons_succ, List.setIfInBounds_toArray, List.set_cons_zero, List.set_cons_succ]
    refine wpAnyH_take (i := 3) (v := ?_) rfl (by kernel_rfl) (by kernel_rfl) (by kernel_rfl) (fun _ _ _ h => h) (Or.inl ⟨by rfl, ?_⟩) hHeld0 ?_
    rotate_left
    · (intro w hSw; (try dsimp only at hSw); go_simp <;> (try with_reducible rfl))
    simp only [Act.put, List.getElem_toArray, List.getElem_cons_zero, List.getElem_cons_succ, List.setIfInBounds_toArray, List.set_cons_zero, List.set_cons_succ]
    refine wpAnyH_take (i := 4) (v := ?_) rfl (by kernel_rfl) (by kernel_rfl) (by kernel_rfl) (fun _ _ _ h => h) (Or.inl ⟨by rfl, ?_⟩) hHeld0 ?_
    rotate_left
    · (intro w hSw; (try dsimp only at hSw); go_simp <;> (try with_reducible rfl))
    simp only [Act.put, List.getElem_toArray, List.getElem_cons_zero, List.getElem_cons_succ, List.setIfInBounds_toArray, List.set_cons_zero, List.set_cons_succ]
    refine wpAnyH_take (i := 5) (v := ?_) rfl (by kernel_rfl) (by kernel_rfl) (by kernel_rfl) (fun _ _ _ h => h) (Or.inl ⟨by rfl, ?_⟩) hHeld0 ?_
    rotate_left
    · (intro w hSw; (try dsimp only at hSw); go_simp <;> (try with_reducible rfl))
    simp only [Act.put, List.getElem_toArray, List.getElem_cons_zero, List.getElem_cons_succ, List.setIfInBounds_toArray, List.set_cons_zero, List.set_cons_succ]
    refine wpAnyH_take (i := 6) (v := ?_) rfl (by kernel_rfl) (by kernel_rfl) (by kernel_rfl) (fun _ _ _ h => h) (Or.inl ⟨by rfl, ?_⟩) hHeld0 ?_
    rotate_left
    · (intro w hSw; (try dsimp only at hSw); go_simp <;> (try with_reducible rfl))
    simp only [Act.put, List.getElem_toArray, List.getElem_cons_zero, List.getElem_cons_succ, List.setIfInBounds_toArray, List.set_cons_zero, List.set_cons_succ]
    refine wpAnyH_take (i := 7) (v := ?_) rfl (by kernel_rfl) (by kernel_rfl) (by kernel_rfl) (fun _ _ _ h => h) (Or.inl ⟨by rfl, ?_⟩) hHeld0 ?_
    rotate_left
    · (intro w hSw; (try dsimp only at hSw); go_simp <;> (try with_reducible rfl))
    simp only [Act.put, List.getElem_toArray, List.getElem_cons_zero, List.getElem_cons_succ, List.setIfInBounds_toArray, List.set_cons_zero, List.set_cons_succ]
    refine wpAnyH_ready (rs := [8]) (by kernel_rfl) (by simp) ?_
    refine AllReadyH.cons rfl (fun K hK => ?_) AllReadyH.nil
    go_simp
    go_wp2_with ((go_at_call 84; refine (HRD.out _ hHeld0.1).mono ?_; rintro e W1 ⟨ua, un, uc, rfl, hx1, hb1⟩))
    refine hK.out _ _ (by exact rd_keep hHeld0 hb1 HI.out hc0 hc1) (fun hHeld1 => ?_)
    clear hK K hHeld0
    try simp only [Act.put, List.getElem_toArray, List.getElem_cons_zero, List.getElem_cons_succ, List.setIfInBounds_toArray, List.set_cons_zero, List.set_cons_succ]
    refine wpAnyH_take (i := 9) (v := ?_) rfl (by kernel_rfl) (by kernel_rfl) (by kernel_rfl) (fun _ _ _ h => h) (Or.inl ⟨by rfl, ?_⟩) hHeld1 ?_
    rotate_left
    · (intro w hSw; (try dsimp only at hSw); go_simp <;> (try with_reducible rfl))
    simp only [Act.put, List.getElem_toArray, List.getElem_cons_zero, List.getElem_cons_succ, List.setIfInBounds_toArray, List.set_cons_zero, List.set_cons_succ]
    refine wpAnyH_take (i := 10) (v := ?_) rfl (by kernel_rfl) (by kernel_rfl) (by kernel_rfl) (fun _ _ _ h => h) (Or.inl ⟨by rfl, ?_⟩) hHeld1 ?_
    rotate_left
    · (intro w hSw; (try dsimp only at hSw); go_simp <;> (try with_reducible rfl))
    simp only [Act.put, List.getElem_toArray, List.getElem_cons_zero, List.getElem_cons_succ, List.setIfInBounds_toArray, List.set_cons_zero, List.set_cons_succ]
    refine wpAnyH_take (i := 11) (v := ?_) rfl (by kernel_rfl) (by kernel_rfl) (by kernel_rfl) (fun _ _ _ h => h) (Or.inl ⟨by rfl, ?_⟩) hHeld1 ?_
    rotate_left
    · (intro w hSw; (try dsimp only at hSw); go_simp <;> (try with_reducible rfl))
    simp only [Act.put, List.getElem_toArray, List.getElem_cons_zero, List.getElem_cons_succ, List.setIfInBounds_toArray, List.set_cons_zero, List.set_cons_succ]
    refine wpAnyH_take (i := 12) (v := ?_) rfl (by kernel_rfl) (by kernel_rfl) (by kernel_rfl) (fun _ _ _ h => h) (Or.inl ⟨by rfl, ?_⟩) hHeld1 ?_
    rotate_left
    · (intro w hSw; (try dsimp only at hSw); go_simp <;> (try with_reducible rfl))
    simp only [Act.put, List.getElem_toArray, List.getElem_cons_zero, List.getElem_cons_succ, List.setIfInBounds_toArray, List.set_cons_zero, List.set_cons_succ]
    refine wpAnyH_take (i := 13) (v := ?_) rfl (by kernel_rfl) (by kernel_rfl) (by kernel_rfl) (fun _ _ _ h => h) (Or.inl ⟨by rfl, ?_⟩) hHeld1 ?_
    rotate_left
    · (intro w hSw; (try dsimp only at hSw); go_simp <;> (try with_reducible rfl))
    simp only [Act.put, List.getElem_toArray, List.getElem_cons_zero, List.getElem_cons_succ, List.setIfInBounds_toArray, List.set_cons_zero, List.set_cons_succ]
    refine wpAnyH_take (i := 14) (v := ?_) rfl (by kernel_rfl) (by kernel_rfl) (by kernel_rfl) (fun _ _ _ h => h) (Or.inl ⟨by rfl, ?_⟩) hHeld1 ?_
    rotate_left
    · (intro w hSw; (try dsimp only at hSw); go_simp <;> (try with_reducible rfl))
    simp only [Act.put, List.getElem_toArray, List.getElem_cons_zero, List.getElem_cons_succ, List.setIfInBounds_toArray, List.set_cons_zero, List.set_cons_succ]
    refine wpAnyH_take (i := 15) (v := ?_) rfl (by kernel_rfl) (by kernel_rfl) (by kernel_rfl) (fun _ _ _ h => h) (Or.inl ⟨by rfl, ?_⟩) hHeld1 ?_
    rotate_left
    · (intro w hSw; (try dsimp only at hSw); go_simp <;> (try with_reducible rfl))
    simp only [Act.put, List.getElem_toArray, List.getElem_cons_zero, List.getElem_cons_succ, List.setIfInBounds_toArray, List.set_cons_zero, List.set_cons_succ]
    refine wpAnyH_done (by kernel_rfl) ?_ _
    have HB1 := hide hb1
    have HI1 := hide (HI.out.below hb1 HI.out.lt)
    have HX1 := hide hx1
    clear hHeld1 hb1 hx1
    have hcR := HI1.out.cell 1
    have hfR := HI1.out.frozen
    simp only [List.getElem?_cons_zero, List.getElem?_cons_succ] at hcR
    go_wp2_with fail
    refine (pmust_false W1).mono ?_
    rintro e w2 ⟨rfl, rfl⟩
    exact ⟨rfl, But.call HB1.out, rfl⟩

set_option maxRecDepth 100000 in
set_option maxHeartbeats 1000000 in
theorem pcount_any (w0 : World) (R : Nat) (bv : Value) (l : List Int) (p : Nat) (most : Int) (w : World) (hs : RdS w0 R bv l p w) (hl : Has w0 bv l) (hbt : Sz.Byt l) :
    Calls Tryz.prog 68 #[.pointer (some ⟨R, 0, none⟩), .int .i64 most] w fun e w' => ReadsSo w0 R bv l w (Tm.cnt most l p) (fun x v _ => v = .int .i64 (x : Nat)) e w' := by
  have HN := hide (fun W (hW : RdS w0 R bv l p W) => pnumber_any w0 R bv l p W hW hl hbt)
  have HS := hide hs
  have hpos : ∀ x q, Tm.num l p = some (x, q) → 0 ≤ x := by
    intro x q h
    unfold Tm.num at h
    split at h
    · rename_i h0
      obtain ⟨r1, _⟩ := Sz.wr_rd l p (Sz.rd l p).1 (Sz.rd l p).2.1 hbt (by rw [← h0])
      cases h
      exact r1
    · cases h
  unfold Tm.cnt
  clear hs hl hbt
  cases hx : Tm.num l p with
  | none =>
    rw [hx] at HN
    simp only [Option.bind_none]
    clear hx hpos
    go_enter Tryz.func68, Tryz.ntmps68
    go_wp2_with fail
    refine (HN.out _ HS.out).mono ?_
    rintro e w1 ⟨hb, rfl⟩
    exact ⟨rfl, hb, rfl⟩
  | some x =>
    obtain ⟨x, q⟩ := x
    have hp := hpos x q hx
    rw [hx] at HN
    simp only [Option.bind_some]
    clear hx hpos
    by_cases hm : x ≤ most
    · rw [if_pos hm]
      have hxx : ((x.toNat : Nat) : Int) = x := by omega
      have HXX := hide hxx
      clear hxx hp
      go_enter Tryz.func68, Tryz.ntmps68
      go_wp2_with fail
      refine (HN.out _ HS.out).mono ?_
      rintro e w1 ⟨hb1, v, rfl, rfl, hs1⟩
      have HB1 := hide hb1
      have HS1 := hide hs1
      clear hb1 hs1
      go_wp2_with (refine (pmust_true w1).mono ?_)
      rintro e w2 ⟨rfl, rfl⟩
      go_wp2
      go_ret
      exact ⟨HB1.out, _, rfl, by show Value.int .i64 x = Value.int .i64 ((x.toNat : Nat) : Int); rw [HXX.out], HS1.out⟩
    · rw [if_neg hm]
      have hd : decide (x ≤ most) = false := decide_eq_false hm
      clear hp hm
      go_enter Tryz.func68, Tryz.ntmps68
      go_wp2_with fail
      refine (HN.out _ HS.out).mono ?_
      rintro e w1 ⟨hb1, v, rfl, rfl, hs1⟩
      have HB1 := hide hb1
      clear hb1 hs1
      go_wp2_with (refine (pmust_false w1).mono ?_)
      rintro e w2 ⟨rfl, rfl⟩
      exact ⟨rfl, HB1.out, rfl⟩
end Go.Proofs.YtbdnbjemocjlaaaGreatDoor

/- tx's reader: what a part's boxes hold; an operation. -/
namespace Go.Proofs.YtbdnbjemocjlaaaGreatDoor
open Go.RowKit
set_option linter.unusedVariables false
set_option linter.unusedSimpArgs false

/-- A part of the reading that has a box of its own (behind its result's): where the reader is, and what the box holds. -/
structure PtS (w0 w : World) (R : Nat) (bv : Value) (l : List Int) (t : TypeId) (z : List Value) (q : Nat) (c : List Value) (W : World) : Prop where
  rd : RdS w0 R bv l q W
  lt : R < w.heap.size
  but : But R w W
  res : Is W w.heap.size z t
  box : Is W (w.heap.size + 1) c t
theorem PtS.start {w0 w : World} {R : Nat} {bv : Value} {l : List Int} {q : Nat} (h : RdS w0 R bv l q w) (t : TypeId) (z : List Value) : PtS w0 w R bv l t z q z ((w.alloc (.cells z.toArray t)).alloc (.cells z.toArray t)) :=
  have hb := But.call (g := R) (below_alloc2 w (.cells z.toArray t) (.cells z.toArray t))
  ⟨h.after hb (h.is.below (below_alloc2 w _ _) h.is.lt), h.is.lt, hb, (Is.new w z t).alloc _, Is.new' _ t (by simp)⟩
theorem PtS.call {w0 w W W' : World} {R : Nat} {bv : Value} {l : List Int} {t : TypeId} {z c : List Value} {q q' : Nat} (h : PtS w0 w R bv l t z q c W) (hb : But R W W') (hs : RdS w0 R bv l q' W') : PtS w0 w R bv l t z q' c W' :=
  ⟨hs, h.lt, h.but.trans hb, hb.kept h.res (by have := h.lt; omega), hb.kept h.box (by have := h.lt; omega)⟩
theorem PtS.set {w0 w W : World} {R : Nat} {bv : Value} {l : List Int} {t : TypeId} {z c : List Value} {q : Nat} (h : PtS w0 w R bv l t z q c W) (i : Nat) (v : Value) : PtS w0 w R bv l t z q (c.set i v) (W.setCell ⟨w.heap.size + 1, i, none⟩ v) :=
  have hlt := h.lt
  have hb : But R w (W.setCell ⟨w.heap.size + 1, i, none⟩ v) := Only.setCell h.but (p := ⟨w.heap.size + 1, i, none⟩) (.inr (by show w.heap.size ≤ w.heap.size + 1; omega)) v
  ⟨⟨h.rd.hR, h.rd.hb.setCell (by show w0.heap.size ≤ w.heap.size + 1; have := h.rd.hR; omega) v, h.rd.is.other _ v (by show w.heap.size + 1 ≠ R; omega)⟩, hlt, hb, h.res.other _ v (by show w.heap.size + 1 ≠ w.heap.size; omega), h.box.set i v⟩
/-- A row of one's own behind the box stays when the box is laid anew. -/
theorem row_set {W : World} {base g i : Nat} {T : TypeId} {s : Nat} {v : Value} {n : Nat} {cs : List Value} (h : W.ownsRow base T s v n cs) (u : Value) (hg : g < base) : (W.setCell ⟨g, i, none⟩ u).ownsRow base T s v n cs := row_but h (But.cell W g i u) hg
/-- What a part gives, its result laid. -/
theorem PtS.done {w0 w W W' : World} {R : Nat} {bv : Value} {l : List Int} {t : TypeId} {z c : List Value} {q : Nat} (h : PtS w0 w R bv l t z q c W) (hb : Below w.heap.size W W') : But R w W' ∧ RdS w0 R bv l q W' :=
  have hbut : But R w W' := Only.trans h.but (Only.of_below hb (Nat.le_refl _))
  ⟨hbut, ⟨h.rd.hR, h.rd.hb.trans (hb.mono (by have := h.rd.hR; have := h.lt; omega)), h.rd.is.below hb h.lt⟩⟩

theorem But.row (w : World) (g : Nat) (cs : Array Value) : But g w (w.setRow g cs) := Only.setRow (Only.refl g w.heap.size w) (.inl rfl) cs

set_option maxRecDepth 100000 in
set_option maxHeartbeats 4000000 in
theorem pop_any (w0 : World) (R : Nat) (bv : Value) (l : List Int) (p : Nat) (w : World) (hs : RdS w0 R bv l p w) (hl : Has w0 bv l) (hbt : Sz.Byt l) (hbig : l.length ≤ 180000000000000) :
    Calls Tryz.prog 81 #[.pointer (some ⟨R, 0, none⟩)] w fun e w' => ReadsSo w0 R bv l w (Tm.opR l p) (fun x v W => ∃ dv, v = .agg #[.int .i64 x.op, .int .i64 x.n, dv] ∧ Own W w.heap.size dv x.data) e w' := by
  have HN := hide (fun q W (hW : RdS w0 R bv l q W) => pnumber_any w0 R bv l q W hW hl hbt)
  have HP := hide (fun q W (hW : RdS w0 R bv l q W) => ppacked_any w0 R bv l q W hW hl hbt hbig)
  have HS0 := hide (PtS.start hs 65 [.int .i64 0, .int .i64 0, .slice none 0 0])
  clear hs hl hbt hbig
  go_enter Tryz.func81, Tryz.ntmps81
  go_wp2_with fail
  refine (HN.out p _ HS0.out.rd).mono ?_
  rintro e w1 ⟨hb1, hm1⟩
  have HB1 := hide hb1
  cases h1 : Tm.num l p with
  | none =>
    rw [h1] at hm1
    subst hm1
    exact ⟨rfl, HS0.out.but.trans HB1.out, by unfold Tm.opR; rw [h1]; rfl⟩
  | some x1 =>
  rw [h1] at hm1
  obtain ⟨v1, rfl, rfl, hs1⟩ := hm1
  obtain ⟨x1, q1⟩ := x1
  have HE1 := hide h1
  have HS1 := hide (HS0.out.call HB1.out hs1)
  clear h1 hs1 hb1 HB1
  have hc1 := HS1.out.box.cell 0
  have hf1 := HS1.out.box.frozen
  simp only [List.getElem?_cons_zero, List.getElem?_cons_succ] at hc1
  have HS2 := hide (HS1.out.set 0 (.int .i64 x1))
  go_wp2_with fail
  refine (HN.out q1 _ HS2.out.rd).mono ?_
  rintro e w2 ⟨hb2, hm2⟩
  have HB2 := hide hb2
  cases h2 : Tm.num l q1 with
  | none =>
    rw [h2] at hm2
    subst hm2
    exact ⟨rfl, HS2.out.but.trans HB2.out, by unfold Tm.opR; rw [HE1.out, Option.bind_some, h2]; rfl⟩
  | some x2 =>
  rw [h2] at hm2
  obtain ⟨v2, rfl, rfl, hs2⟩ := hm2
  obtain ⟨x2, q2⟩ := x2
  have HE2 := hide h2
  have HS3 := hide (HS2.out.call HB2.out hs2)
  clear h2 hs2 hb2 HB2 hc1 hf1
  have hc1 := HS3.out.box.cell 1
  have hf1 := HS3.out.box.frozen
  simp only [List.set_cons_zero, List.set_cons_succ, List.getElem?_cons_zero, List.getElem?_cons_succ] at hc1
  have HS4 := hide (HS3.out.set 1 (.int .i64 x2))
  go_wp2_with fail
  refine (HP.out q2 _ HS4.out.rd).mono ?_
  rintro e w3 ⟨hb3, hm3⟩
  have HB3 := hide hb3
  cases h3 : Tm.thing l q2 with
  | none =>
    rw [h3] at hm3
    subst hm3
    exact ⟨rfl, HS4.out.but.trans HB3.out, by unfold Tm.opR; rw [HE1.out, Option.bind_some, HE2.out, Option.bind_some, h3]; rfl⟩
  | some x3 =>
  rw [h3] at hm3
  obtain ⟨v3, rfl, ho3, hs3⟩ := hm3
  obtain ⟨x3, q3⟩ := x3
  obtain ⟨ua, uc, rfl, _, _⟩ := ho3.form
  have HE3 := hide h3
  have HO3 := hide ho3
  have HS5 := hide (HS4.out.call HB3.out hs3)
  have HSZ := hide HS4.out.box.lt
  have HSY := hide HS4.out.res.lt
  clear h3 hs3 hb3 HB3 hc1 hf1 ho3
  have hc1 := HS5.out.box.cell 2
  have hf1 := HS5.out.box.frozen
  simp only [List.set_cons_zero, List.set_cons_succ, List.getElem?_cons_zero, List.getElem?_cons_succ] at hc1
  have HS6 := hide (HS5.out.set 2 (.slice ua x3.length uc))
  clear HS3 HS4 HS2 HS1 HS0
  go_wp2_with (first
    | (refine wpList_load_part 65 [.int .i64 x1, .int .i64 x2, .slice ua x3.length uc] (w.heap.size + 1) 0 rfl (.tmp 3) rfl rfl (is_range HS6.out.box) Tryz.underlying65 rfl size_op rfl ?_)
    | (refine wpList_store_any3 65 [.int .i64 0, .int .i64 0, .slice none 0 0] [.int .i64 x1, .int .i64 x2, .slice ua x3.length uc] w.heap.size rfl (.tmp 2) (.tmp 13) rfl rfl rfl rfl HS6.out.res size_op rfl rfl (by intro v hv; simp only [List.mem_cons, List.not_mem_nil, or_false] at hv; rcases hv with rfl | rfl | rfl <;> rfl) ?_; intro w9 hi9 hw9))
  have hbr := But.row (w3.setCell ⟨w.heap.size + 1, 2, none⟩ (.slice ua x3.length uc)) w.heap.size ([.int .i64 x1, .int .i64 x2, .slice ua x3.length uc] : List Value).toArray
  rw [← hw9] at hbr
  have ho9 := row_but (row_set (i := 2) HO3.out (.slice ua x3.length uc) HSZ.out) hbr HSY.out
  have hdn := HS6.out.done (hbr.under (by have := HS6.out.res.lt; omega) (Nat.le_refl _))
  exact bodyPost_ret (v := .agg #[.int .i64 x1, .int .i64 x2, .slice ua x3.length uc]) (results_cell1 Tryz.results81 rfl (hi9.loadS Tryz.underlying65 (by kernel_rfl))) rfl ⟨hdn.1, by unfold Tm.opR; rw [HE1.out, Option.bind_some, HE2.out, Option.bind_some, HE3.out]; exact ⟨_, rfl, ⟨_, rfl, Own.mono ho9 (Nat.le_of_lt HSY.out)⟩, hdn.2⟩⟩
end Go.Proofs.YtbdnbjemocjlaaaGreatDoor

/- What rests on blocks that nobody lays anew; rows that grow, of things that rest on such blocks. -/
namespace Go.Proofs.YtbdnbjemocjlaaaGreatDoor
open Go.RowKit
set_option linter.unusedVariables false
set_option linter.unusedSimpArgs false

/-- A fact that rests on the blocks of which S holds. -/
def Dep (S : Nat → Prop) (F : World → Prop) (W : World) : Prop := ∀ W', W.heap.size ≤ W'.heap.size → (∀ k, S k → W'.heap[k]? = W.heap[k]?) → F W'
theorem Dep.out {S : Nat → Prop} {F : World → Prop} {W : World} (h : Dep S F W) : F W := h W (Nat.le_refl _) (fun _ _ => rfl)
theorem Dep.step {S : Nat → Prop} {F : World → Prop} {W W' : World} (h : Dep S F W) (hs : W.heap.size ≤ W'.heap.size) (hk : ∀ k, S k → W'.heap[k]? = W.heap[k]?) : Dep S F W' :=
  fun W2 h2 k2 => h W2 (Nat.le_trans hs h2) (fun k hk' => (k2 k hk').trans (hk k hk'))
theorem Dep.more {S S' : Nat → Prop} {F : World → Prop} {W : World} (h : Dep S F W) (hS : ∀ k, S k → S' k) : Dep S' F W := fun W2 h2 k2 => h W2 h2 (fun k hk => k2 k (hS k hk))
theorem Dep.map {S : Nat → Prop} {F G : World → Prop} {W : World} (h : Dep S F W) (hG : ∀ W, F W → G W) : Dep S G W := fun W2 h2 k2 => hG _ (h W2 h2 k2)
theorem Dep.and {S : Nat → Prop} {F G : World → Prop} {W : World} (h : Dep S F W) (k : Dep S G W) : Dep S (fun W => F W ∧ G W) W := fun W2 h2 k2 => ⟨h W2 h2 k2, k W2 h2 k2⟩
/-- A fact that rests on blocks from lo on. -/
def Itm (lo : Nat) (W : World) (F : World → Prop) : Prop := ∃ S : Nat → Prop, (∀ k, S k → lo ≤ k ∧ k < W.heap.size) ∧ Dep S F W
theorem Itm.out {lo : Nat} {W : World} {F : World → Prop} (h : Itm lo W F) : F W := by obtain ⟨S, _, h⟩ := h; exact h.out
theorem Itm.but {lo R : Nat} {W W' : World} {F : World → Prop} (h : Itm lo W F) (hb : But R W W') (hR : R < lo) : Itm lo W' F := by
  obtain ⟨S, h1, h2⟩ := h
  exact ⟨S, fun k hk => ⟨(h1 k hk).1, Nat.lt_of_lt_of_le (h1 k hk).2 hb.size⟩, h2.step hb.size (fun k hk => hb.block k (h1 k hk).2 (by have := (h1 k hk).1; omega))⟩
theorem Itm.mono {lo lo' : Nat} {W : World} {F : World → Prop} (h : Itm lo W F) (hl : lo' ≤ lo) : Itm lo' W F := by
  obtain ⟨S, h1, h2⟩ := h
  exact ⟨S, fun k hk => ⟨Nat.le_trans hl (h1 k hk).1, (h1 k hk).2⟩, h2⟩
theorem Itm.map {lo : Nat} {W : World} {F G : World → Prop} (h : Itm lo W F) (hG : ∀ W, F W → G W) : Itm lo W G := by
  obtain ⟨S, h1, h2⟩ := h
  exact ⟨S, h1, h2.map hG⟩
theorem row_dep {W : World} {base s n : Nat} {e : TypeId} {v : Value} {cs : List Value} (h : W.ownsRow base e s v n cs) : Dep (fun k => v.ownBlock = some k) (fun W => W.ownsRow base e s v n cs) W := by
  intro W' hs hk
  refine ⟨h.1, ?_⟩
  rcases h.2 with h0 | ⟨g', cap, cur, rfl, hbg, hg', hn, hc, hs', ht⟩
  · exact .inl h0
  · exact .inr ⟨g', cap, cur, rfl, hbg, by rw [hk g' rfl]; exact hg', hn, hc, hs', ht⟩
theorem row_itm {W : World} {base s n : Nat} {e : TypeId} {v : Value} {cs : List Value} (h : W.ownsRow base e s v n cs) : Itm base W (fun W => W.ownsRow base e s v n cs) :=
  ⟨fun k => v.ownBlock = some k, fun k hk => World.ownsRow.lt h k hk, row_dep h⟩

/-- A row of one's own, and what is said of the things in it. -/
structure Acc (W : World) (base : Nat) (e : TypeId) (s n : Nat) (v : Value) (cs : List Value) (F : World → Prop) : Prop where
  ex : ∃ S : Nat → Prop, (∀ k, S k → base ≤ k ∧ k < W.heap.size) ∧ (∀ b, v.ownBlock = some b → ¬ S b) ∧ Dep S F W
  own : W.ownsRow base e s v n cs
theorem Acc.nil (W : World) (base : Nat) (e : TypeId) (s : Nat) {F : World → Prop} (hF : ∀ W, F W) : Acc W base e s 0 (.slice none 0 0) [] F :=
  ⟨⟨fun _ => False, fun k hk => hk.elim, fun b hb => fun h => h, fun W' _ _ => hF W'⟩, World.ownsRow_nil W base e s⟩
theorem Acc.but {W W' : World} {base s n R : Nat} {e : TypeId} {v : Value} {cs : List Value} {F : World → Prop} (h : Acc W base e s n v cs F) (hb : But R W W') (hR : R < base) : Acc W' base e s n v cs F := by
  obtain ⟨⟨S, h1, h2, h3⟩, ho⟩ := h
  exact ⟨⟨S, fun k hk => ⟨(h1 k hk).1, Nat.lt_of_lt_of_le (h1 k hk).2 hb.size⟩, h2, h3.step hb.size (fun k hk => hb.block k (h1 k hk).2 (by have := (h1 k hk).1; omega))⟩, row_but ho hb hR⟩
theorem Acc.itm {W : World} {base s n : Nat} {e : TypeId} {v : Value} {cs : List Value} {F : World → Prop} (h : Acc W base e s n v cs F) : Itm base W (fun W => W.ownsRow base e s v n cs ∧ F W) := by
  obtain ⟨⟨S, h1, h2, h3⟩, ho⟩ := h
  exact ⟨fun k => S k ∨ v.ownBlock = some k, fun k hk => hk.elim (h1 k) (fun e => World.ownsRow.lt ho k e), ((row_dep ho).more (fun k hk => .inr hk)).and (h3.more (fun k hk => .inl hk))⟩
theorem Acc.app {W W' : World} {base s n n' lo : Nat} {e : TypeId} {v v' : Value} {cs cs' : List Value} {F G : World → Prop} (h : Acc W base e s n v cs F) (hi : Itm lo W G) (hlo : ∀ b, v.ownBlock = some b → b < lo) (hbl : base ≤ lo)
    (ho : W'.ownsRow base e s v' n' cs') (hg : W.grownBy W' v.ownBlock) (hv : v'.ownBlock = v.ownBlock ∨ v'.ownBlock = some W.heap.size) : Acc W' base e s n' v' cs' (fun W => F W ∧ G W) := by
  obtain ⟨⟨S, h1, h2, h3⟩, ho0⟩ := h
  obtain ⟨S2, k1, k2⟩ := hi
  have hsz := hg.size
  refine ⟨⟨fun k => S k ∨ S2 k, fun k hk => ?_, fun b hb hs => ?_, ?_⟩, ho⟩
  · rcases hk with hk | hk
    · exact ⟨(h1 k hk).1, Nat.lt_of_lt_of_le (h1 k hk).2 hsz⟩
    · exact ⟨Nat.le_trans hbl (k1 k hk).1, Nat.lt_of_lt_of_le (k1 k hk).2 hsz⟩
  · rcases hv with hv | hv
    · rw [hv] at hb
      rcases hs with hs | hs
      · exact h2 b hb hs
      · exact absurd (hlo b hb) (by have := (k1 b hs).1; omega)
    · rw [hv] at hb
      cases hb
      rcases hs with hs | hs
      · exact absurd (h1 _ hs).2 (by omega)
      · exact absurd (k1 _ hs).2 (by omega)
  · have hS : ∀ k, (S k ∨ S2 k) → W'.heap[k]? = W.heap[k]? := fun k hk => by
      rcases hk with hk | hk
      · exact hg.block k (h1 k hk).2 (fun e => h2 k e.symm hk)
      · exact hg.block k (k1 k hk).2 (fun e => absurd (hlo k e.symm) (by have := (k1 k hk).1; omega))
    exact ((h3.more (fun k hk => .inl hk)).and (k2.more (fun k hk => .inr hk))).step hsz hS
end Go.Proofs.YtbdnbjemocjlaaaGreatDoor
