/- The texts TxD, TxF, TxOu, TxN, TxIn, one behind the other. -/
import Derived.Test.YtbdnbjemocjlaaaGreatDoorZTr
import Derived.Test.YtbdnbjemocjlaaaGreatDoorShEq
import Derived.Laws.CopyOwn
import Derived.Test.YtbdnbjemocjlaaaGreatDoorZTw
import Derived.Deep.MidRow
/- tx's reader: a digest. -/
namespace Go.Proofs.YtbdnbjemocjlaaaGreatDoor
open Go.RowKit
set_option linter.unusedVariables false
set_option linter.unusedSimpArgs false

theorem wpList_load_arrD (t : TypeId) (c : List Value) (b : Nat) {n m : Nat} {e : TypeId} {w : World} {ops : Array Oper} {rest : List Oper} {o : Oper} {a : Act} {Q : Exit → Act → World → Prop} (hgd : o.guard = none) (s : Operand) (ho : o.op = .load t s) (hs : a.eval s = .pointer (some ⟨b, 0, none⟩))
    (hi : Is w b c t) (hu : Tryz.prog.underlying t = some (.array n e)) (hz : Sized t m) (hc : c.length = m)
    (h : wpList Tryz.prog ops Q rest (a.put o.dst (.agg c.toArray)) w) : wpList Tryz.prog ops Q (o :: rest) a w := wpList_load_arr t c b hi hu hz hc hgd s ho hs h
theorem wpList_store_anyD (t : TypeId) (c c' : List Value) (b : Nat) {m : Nat} {w : World} {ops : Array Oper} {rest : List Oper} {o : Oper} {a : Act} {Q : Exit → Act → World → Prop} (hgd : o.guard = none) (s x : Operand) (ho : o.op = .store t s x) (hs : a.eval s = .pointer (some ⟨b, 0, none⟩)) (hx : a.eval x = .agg c'.toArray) (hd : o.dst = none)
    (hi : Is w b c t) (hz : Sized t m) (hc : c.length = m) (hc' : c'.length = m) (h1 : ∀ v ∈ c', v.oneCell' = true)
    (h : ∀ w2, Is w2 b c' t → (∀ B w0, Below B w0 w → B ≤ b → Below B w0 w2) → (∀ b' c2 t2, b' ≠ b → Is w b' c2 t2 → Is w2 b' c2 t2) → w2.heap.size = w.heap.size → wpList Tryz.prog ops Q rest a w2) : wpList Tryz.prog ops Q (o :: rest) a w := wpList_store_any t c c' b hi hz hc hc' h1 hgd s x ho hs hx hd h

set_option maxRecDepth 100000 in
set_option maxHeartbeats 4000000 in
theorem pdigest_any (w0 : World) (R : Nat) (bv : Value) (l : List Int) (p : Nat) (w : World) (hs : RdS w0 R bv l p w) (hl : Has w0 bv l) (hp : p ≤ l.length) :
    Calls Tryz.prog 79 #[.pointer (some ⟨R, 0, none⟩)] w fun e w' => ReadsSo w0 R bv l w (Tm.dig l p) (fun x v _ => v = .agg (vals x).toArray) e w' := by
  have HST := hide hs
  have HRL := hide hs.is.lt
  have hzd := zero_dig
  obtain ⟨Z, hZ⟩ : ∃ Z, Z = vals (List.replicate 32 0) := ⟨_, rfl⟩
  rw [← hZ] at hzd
  have hZl : Z.length = 32 := by rw [hZ]; simp [vals]
  have hZp : ¬ Z = [] := by intro h; rw [h] at hZl; cases hZl
  have HZL := hide hZl
  have HB0 := hide (below_alloc2 w (.cells Z.toArray 34) (.cells Z.toArray 34))
  have HIA := hide (hs.is.below HB0.out hs.is.lt)
  have HZA := hide ((Is.new w Z 34).alloc (.cells Z.toArray 34))
  have HYA : Hid (Is ((w.alloc (.cells Z.toArray 34)).alloc (.cells Z.toArray 34)) (w.heap.size + 1) Z 34) := Is.new' _ 34 (by simp)
  have hcA0 := HIA.out.cell 0
  have hcA1 := HIA.out.cell 1
  simp only [List.getElem?_cons_zero, List.getElem?_cons_succ] at hcA0 hcA1
  unfold Tm.dig
  by_cases h0 : p + 32 ≤ l.length
  · rw [if_pos h0]
    have HL := hl
    rcases hl with ⟨a, cap, rfl, rfl, _⟩ | ⟨b, off, bc, rfl, h1, h2, h3, h4⟩
    · exact absurd h0 (by simp)
    have HDl : ((l.drop p).take 32).length = 32 := by rw [List.length_take, List.length_drop]; omega
    have hsrc : ∀ W, Below (w.heap.size + 2) ((w.alloc (.cells Z.toArray 34)).alloc (.cells Z.toArray 34)) W → ∀ (j : Nat) (v : Value), (vals ((l.drop p).take 32))[j]? = some v → W.cell? ⟨b, off + p + j, none⟩ = some v := fun W hW j v hv => by
      have hj : j < 32 := by
        have := (List.getElem?_eq_some_iff.1 hv).1
        rw [vals_length, HDl] at this
        exact this
      have hq := h4 (p + j) (by omega)
      have hbl : b < w0.heap.size := World.block_lt_of_cell? w0 _ hq
      have hs0 := HST.out.hb.size
      have e2 : v = .int .u8 (l.getD (p + j) 0) := by
        unfold vals at hv
        rw [List.getElem?_map, List.getElem?_take_of_lt hj, List.getElem?_drop] at hv
        simp only [List.getD]
        cases hh : l[p + j]? with
        | none => rw [hh] at hv; cases hv
        | some x => rw [hh] at hv; simp only [Option.map_some, Option.some.injEq] at hv; rw [← hv]; rfl
      rw [e2, show off + p + j = off + (p + j) from by omega, hW.cell (p := ⟨b, off + (p + j), none⟩) (by show b < w.heap.size + 2; omega), HB0.out.cell (p := ⟨b, off + (p + j), none⟩) (by show b < w.heap.size; omega), HST.out.hb.cell (p := ⟨b, off + (p + j), none⟩) hbl]
      exact hq
    have HSRC := hide hsrc
    have HDL := hide HDl
    clear HDl hsrc h4 HL
    generalize (l.drop p).take 32 = D at *
    obtain ⟨ll, hll⟩ : ∃ n, n = l.length := ⟨_, rfl⟩
    rw [← hll] at h0 h1 h2 HIA HST hcA0 ⊢
    have HLL := hide hll
    unfold maxLen at h3
    have hge : decide ((32 : Int) ≤ (ll : Int) - (p : Int)) = true := decide_eq_true (by omega)
    have hge2 : (32 : Int) ≤ (ll : Int) - (p : Int) := by omega
    have hsw : IntKind.i64.wrap ((ll : Int) - (p : Int)) = (ll : Int) - (p : Int) := IntWalk.i64_in _ (by omega)
    have hpw : IntKind.i64.wrap ((p : Int) + 32) = (p : Int) + 32 := IntWalk.i64_in _ (by omega)
    have hcne : ¬ bc = p := by omega
    have hk1 : (p : Int) ≤ (ll : Int) := by omega
    have hk2 : (p : Int) ≤ (bc : Int) := by omega
    have hk3 : p ≤ ll := by omega
    clear hs hll hZ hZl hp
    go_enter Tryz.func79, Tryz.ntmps79
    go_wp2
    refine wp_region_held_drew (S := fun W : World => Below (w.heap.size + 2) ((w.alloc (.cells Z.toArray 34)).alloc (.cells Z.toArray 34)) W ∧ W.cell? ⟨R, 0, none⟩ = some (.slice (some ⟨b, off, none⟩) ll bc) ∧ W.cell? ⟨R, 1, none⟩ = some (.int .i64 (p : Int))) (by kernel_rfl) ?_ (fun hHeld0 => ?_)
    · exact ⟨(Below.refl _ _).drew, hcA0, hcA1⟩
    refine wpAnyH_take (i := 0) (v := ?_) rfl (by kernel_rfl) (by kernel_rfl) (by kernel_rfl) (fun _ _ _ h => h) (Or.inl ⟨by rfl, ?_⟩) hHeld0 ?_
    rotate_left
    · (intro w hSw; (try dsimp only at hSw); go_simp <;> (try with_reducible rfl))
    simp only [Act.put, List.getElem_toArray, List.getElem_cons_zero, List.getElem_cons_succ, List.setIfInBounds_toArray, List.set_cons_zero, List.set_cons_succ]
    refine wpAnyH_take (i := 1) (v := ?_) rfl (by kernel_rfl) (by kernel_rfl) (by kernel_rfl) (fun _ _ _ h => h) (Or.inl ⟨by rfl, ?_⟩) hHeld0 ?_
    rotate_left
    · (intro w hSw; (try dsimp only at hSw); go_simp <;> (try with_reducible rfl))
    simp only [Act.put, List.getElem_toArray, List.getElem_cons_zero, List.getElem_cons_succ, List.setIfInBounds_toArray, List.set_cons_zero, List.set_cons_succ]
    refine wpAnyH_take (i := 2) (v := ?_) rfl (by kernel_rfl) (by kernel_rfl) (by kernel_rfl) (fun _ _ _ h => h) (Or.inl ⟨by rfl, ?_⟩) hHeld0 ?_
    rotate_left
    · (intro w hSw; (try dsimp only at hSw); go_simp <;> (try with_reducible rfl))
    simp only [Act.put, List.getElem_toArray, List.getElem_cons_zero, List.getElem_cons_succ, List.setIfInBounds_toArray, List.set_cons_zero, List.set_cons_succ]
    refine wpAnyH_take (i := 3) (v := ?_) rfl (by kernel_rfl) (by kernel_rfl) (by kernel_rfl) (fun _ _ _ h => h) (Or.inl ⟨by rfl, ?_⟩) hHeld0 ?_
    rotate_left
    · (intro w hSw; (try dsimp only at hSw); go_simp <;> (try with_reducible rfl))
    simp only [Act.put, List.getElem_toArray, List.getElem_cons_zero, List.getElem_cons_succ, List.setIfInBounds_toArray, List.set_cons_zero, List.set_cons_succ]
    refine wpAnyH_take (i := 4) (v := ?_) rfl (by kernel_rfl) (by kernel_rfl) (by kernel_rfl) (fun _ _ _ h => h) (Or.inl ⟨by rfl, ?_⟩) hHeld0 ?_
    rotate_left
    · (intro w hSw; (try dsimp only at hSw); go_simp <;> (try with_reducible rfl))
    simp only [Act.put, List.getElem_toArray, List.getElem_cons_zero, List.getElem_cons_succ, List.setIfInBounds_toArray, List.set_cons_zero, List.set_cons_succ]
    refine wpAnyH_take (i := 5) (v := ?_) rfl (by kernel_rfl) (by kernel_rfl) (by kernel_rfl) (fun _ _ _ h => h) (Or.inl ⟨by rfl, ?_⟩) hHeld0 ?_
    rotate_left
    · (intro w hSw; (try dsimp only at hSw); go_simp <;> (try with_reducible rfl))
    simp only [Act.put, List.getElem_toArray, List.getElem_cons_zero, List.getElem_cons_succ, List.setIfInBounds_toArray, List.set_cons_zero, List.set_cons_succ]
    refine wpAnyH_take (i := 6) (v := ?_) rfl (by kernel_rfl) (by kernel_rfl) (by kernel_rfl) (fun _ _ _ h => h) (Or.inl ⟨by rfl, ?_⟩) hHeld0 ?_
    rotate_left
    · (intro w hSw; (try dsimp only at hSw); go_simp <;> (try with_reducible rfl))
    simp only [Act.put, List.getElem_toArray, List.getElem_cons_zero, List.getElem_cons_succ, List.setIfInBounds_toArray, List.set_cons_zero, List.set_cons_succ]
    refine wpAnyH_take (i := 7) (v := ?_) rfl (by kernel_rfl) (by kernel_rfl) (by kernel_rfl) (fun _ _ _ h => h) (Or.inl ⟨by rfl, ?_⟩) hHeld0 ?_
    rotate_left
    · (intro w hSw; (try dsimp only at hSw); go_simp <;> (try with_reducible rfl))
    simp only [Act.put, List.getElem_toArray, List.getElem_cons_zero, List.getElem_cons_succ, List.setIfInBounds_toArray, List.set_cons_zero, List.set_cons_succ]
    refine wpAnyH_take (i := 8) (v := ?_) rfl (by kernel_rfl) (by kernel_rfl) (by kernel_rfl) (fun _ _ _ h => h) (Or.inl ⟨by rfl, ?_⟩) hHeld0 ?_
    rotate_left
    · (intro w hSw; (try dsimp only at hSw); go_simp <;> (try with_reducible rfl))
    simp only [Act.put, List.getElem_toArray, List.getElem_cons_zero, List.getElem_cons_succ, List.setIfInBounds_toArray, List.set_cons_zero, List.set_cons_succ]
    refine wpAnyH_take (i := 9) (v := ?_) rfl (by kernel_rfl) (by kernel_rfl) (by kernel_rfl) (fun _ _ _ h => h) (Or.inl ⟨by rfl, ?_⟩) hHeld0 ?_
    rotate_left
    · (intro w hSw; (try dsimp only at hSw); go_simp <;> (try with_reducible rfl))
    simp only [Act.put, List.getElem_toArray, List.getElem_cons_zero, List.getElem_cons_succ, List.setIfInBounds_toArray, List.set_cons_zero, List.set_cons_succ]
    refine wpAnyH_take (i := 10) (v := ?_) rfl (by kernel_rfl) (by kernel_rfl) (by kernel_rfl) (fun _ _ _ h => h) (Or.inl ⟨by rfl, ?_⟩) hHeld0 ?_
    rotate_left
    · (intro w hSw; (try dsimp only at hSw); go_simp <;> (try with_reducible rfl))
    simp only [Act.put, List.getElem_toArray, List.getElem_cons_zero, List.getElem_cons_succ, List.setIfInBounds_toArray, List.set_cons_zero, List.set_cons_succ]
    refine wpAnyH_ready (rs := [11]) (by kernel_rfl) (by simp) ?_
    refine AllReadyH.cons rfl (fun K hK => ?_) AllReadyH.nil
    go_simp
    go_wp2_with ((go_at_call 56; refine (pmust_true _).mono ?_; rintro e W1 ⟨rfl, hww⟩))
    refine hK.out _ _ (by exact hww ▸ hHeld0) (fun hHeld1 => ?_)
    clear hK K hHeld0
    try simp only [Act.put, List.getElem_toArray, List.getElem_cons_zero, List.getElem_cons_succ, List.setIfInBounds_toArray, List.set_cons_zero, List.set_cons_succ]
    refine wpAnyH_done (by kernel_rfl) ?_ _
    have HB1 := hide hHeld1.1
    have HI1 := hide (HIA.out.below (HB1.out) (by have := HRL.out; omega))
    have HZ1 := hide (HZA.out.below HB1.out (by omega))
    have HY1 := hide (HYA.out.below HB1.out (by omega))
    clear hHeld1 hcA0 hcA1 hww
    have hcR0 := HI1.out.cell 0
    have hcR1 := HI1.out.cell 1
    simp only [List.getElem?_cons_zero, List.getElem?_cons_succ] at hcR0 hcR1
    have hcD0 : W1.drew.cell? ⟨R, 0, none⟩ = some (.slice (some ⟨b, off, none⟩) ll bc) := hcR0
    have hcD1 : W1.drew.cell? ⟨R, 1, none⟩ = some (.int .i64 (p : Int)) := hcR1
    go_wp2_with fail
    refine wp_region_held_drew (S := fun W : World => W.cell? ⟨R, 0, none⟩ = some (.slice (some ⟨b, off, none⟩) ll bc)) (by kernel_rfl) ?_ (fun hHeld0 => ?_)
    · exact hcD0
    refine wpAnyH_take (i := 0) (v := ?_) rfl (by kernel_rfl) (by kernel_rfl) (by kernel_rfl) (fun _ _ _ h => h) (Or.inl ⟨by rfl, ?_⟩) hHeld0 ?_
    rotate_left
    · (intro w hSw; (try dsimp only at hSw); go_simp <;> (try with_reducible rfl))
    simp only [Act.put, List.getElem_toArray, List.getElem_cons_zero, List.getElem_cons_succ, List.setIfInBounds_toArray, List.set_cons_zero, List.set_cons_succ]
    refine wpAnyH_take (i := 1) (v := ?_) rfl (by kernel_rfl) (by kernel_rfl) (by kernel_rfl) (fun _ _ _ h => h) (Or.inl ⟨by rfl, ?_⟩) hHeld0 ?_
    rotate_left
    · (intro w hSw; (try dsimp only at hSw); go_simp <;> (try with_reducible rfl))
    simp only [Act.put, List.getElem_toArray, List.getElem_cons_zero, List.getElem_cons_succ, List.setIfInBounds_toArray, List.set_cons_zero, List.set_cons_succ]
    refine wpAnyH_take (i := 2) (v := ?_) rfl (by kernel_rfl) (by kernel_rfl) (by kernel_rfl) (fun _ _ _ h => h) (Or.inl ⟨by rfl, ?_⟩) hHeld0 ?_
    rotate_left
    · (intro w hSw; (try dsimp only at hSw); go_simp <;> (try with_reducible rfl))
    simp only [Act.put, List.getElem_toArray, List.getElem_cons_zero, List.getElem_cons_succ, List.setIfInBounds_toArray, List.set_cons_zero, List.set_cons_succ]
    refine wpAnyH_take (i := 4) (v := ?_) rfl (by kernel_rfl) (by kernel_rfl) (by kernel_rfl) (fun _ _ _ h => h) (Or.inl ⟨by rfl, ?_⟩) hHeld0 ?_
    rotate_left
    · (intro w hSw; (try dsimp only at hSw); go_simp <;> (try with_reducible rfl))
    simp only [Act.put, List.getElem_toArray, List.getElem_cons_zero, List.getElem_cons_succ, List.setIfInBounds_toArray, List.set_cons_zero, List.set_cons_succ]
    refine wpAnyH_take (i := 5) (v := ?_) rfl (by kernel_rfl) (by kernel_rfl) (by kernel_rfl) (fun _ _ _ h => h) (Or.inl ⟨by rfl, ?_⟩) hHeld0 ?_
    rotate_left
    · (intro w hSw; (try dsimp only at hSw); go_simp <;> (try with_reducible rfl))
    simp only [Act.put, List.getElem_toArray, List.getElem_cons_zero, List.getElem_cons_succ, List.setIfInBounds_toArray, List.set_cons_zero, List.set_cons_succ]
    refine wpAnyH_take (i := 6) (v := ?_) rfl (by kernel_rfl) (by kernel_rfl) (by kernel_rfl) (fun _ _ _ h => h) (Or.inl ⟨by rfl, ?_⟩) hHeld0 ?_
    rotate_left
    · (intro w hSw; (try dsimp only at hSw); go_simp <;> (try with_reducible rfl))
    simp only [Act.put, List.getElem_toArray, List.getElem_cons_zero, List.getElem_cons_succ, List.setIfInBounds_toArray, List.set_cons_zero, List.set_cons_succ]
    refine wpAnyH_take (i := 7) (v := ?_) rfl (by kernel_rfl) (by kernel_rfl) (by kernel_rfl) (fun _ _ _ h => h) (Or.inl ⟨by rfl, ?_⟩) hHeld0 ?_
    rotate_left
    · (intro w hSw; (try dsimp only at hSw); go_simp <;> (try with_reducible rfl))
    simp only [Act.put, List.getElem_toArray, List.getElem_cons_zero, List.getElem_cons_succ, List.setIfInBounds_toArray, List.set_cons_zero, List.set_cons_succ]
    refine wpAnyH_take (i := 8) (v := ?_) rfl (by kernel_rfl) (by kernel_rfl) (by kernel_rfl) (fun _ _ _ h => h) (Or.inl ⟨by rfl, ?_⟩) hHeld0 ?_
    rotate_left
    · (intro w hSw; (try dsimp only at hSw); go_simp <;> (try with_reducible rfl))
    simp only [Act.put, List.getElem_toArray, List.getElem_cons_zero, List.getElem_cons_succ, List.setIfInBounds_toArray, List.set_cons_zero, List.set_cons_succ]
    refine wpAnyH_take (i := 9) (v := ?_) rfl (by kernel_rfl) (by kernel_rfl) (by kernel_rfl) (fun _ _ _ h => h) (Or.inl ⟨by rfl, ?_⟩) hHeld0 ?_
    rotate_left
    · (intro w hSw; (try dsimp only at hSw); go_simp <;> (try with_reducible rfl))
    simp only [Act.put, List.getElem_toArray, List.getElem_cons_zero, List.getElem_cons_succ, List.setIfInBounds_toArray, List.set_cons_zero, List.set_cons_succ]
    refine wpAnyH_take (i := 10) (v := ?_) rfl (by kernel_rfl) (by kernel_rfl) (by kernel_rfl) (fun _ _ _ h => h) (Or.inl ⟨by rfl, ?_⟩) hHeld0 ?_
    rotate_left
    · (intro w hSw; (try dsimp only at hSw); go_simp <;> (try with_reducible rfl))
    simp only [Act.put, List.getElem_toArray, List.getElem_cons_zero, List.getElem_cons_succ, List.setIfInBounds_toArray, List.set_cons_zero, List.set_cons_succ]
    refine wpAnyH_take (i := 11) (v := ?_) rfl (by kernel_rfl) (by kernel_rfl) (by kernel_rfl) (fun _ _ _ h => h) (Or.inl ⟨by rfl, ?_⟩) hHeld0 ?_
    rotate_left
    · (intro w hSw; (try dsimp only at hSw); go_simp <;> (try with_reducible rfl))
    simp only [Act.put, List.getElem_toArray, List.getElem_cons_zero, List.getElem_cons_succ, List.setIfInBounds_toArray, List.set_cons_zero, List.set_cons_succ]
    refine wpAnyH_ready (rs := [3, 12]) (by kernel_rfl) (by simp) ?_
    refine AllReadyH.cons rfl (fun K hK => ?_) ?_
    ·
      go_simp
      refine hK.out _ _ (by exact hHeld0) (fun hHeld1 => ?_)
      clear hK K hHeld0
      try simp only [Act.put, List.getElem_toArray, List.getElem_cons_zero, List.getElem_cons_succ, List.setIfInBounds_toArray, List.set_cons_zero, List.set_cons_succ]
      refine wpAnyH_ready (rs := [12]) (by kernel_rfl) (by simp) ?_
      refine AllReadyH.cons rfl (fun K hK => ?_) AllReadyH.nil
      go_simp
      refine hK.out _ _ (by exact hHeld1) (fun hHeld2 => ?_)
      clear hK K hHeld1
      try simp only [Act.put, List.getElem_toArray, List.getElem_cons_zero, List.getElem_cons_succ, List.setIfInBounds_toArray, List.set_cons_zero, List.set_cons_succ]
      refine wpAnyH_take (i := 13) (v := ?_) rfl (by kernel_rfl) (by kernel_rfl) (by kernel_rfl) (fun _ _ _ h => h) (Or.inl ⟨by rfl, ?_⟩) hHeld2 ?_
      rotate_left
      · (intro w hSw; (try dsimp only at hSw); go_simp <;> (try with_reducible rfl))
      simp only [Act.put, List.getElem_toArray, List.getElem_cons_zero, List.getElem_cons_succ, List.setIfInBounds_toArray, List.set_cons_zero, List.set_cons_succ]
      refine wpAnyH_ready (rs := [14]) (by kernel_rfl) (by simp) ?_
      refine AllReadyH.cons rfl (fun K hK => ?_) AllReadyH.nil
      refine step_copy_splice rfl (.tmp 20) (.tmp 29) 26 26 rfl 5 Tryz.underlying26 size_u8 _ _ 32 32 (ll - p) (bc - p) rfl rfl (w.heap.size + 1) 0 Z 34 HY1.out.drew (vals D) (by rw [vals_length, HDL.out]; exact (Nat.min_eq_right (by omega)).symm) (fun _ => ⟨rfl, _, rfl, fun j v hv => ?_⟩) (by rw [vals_length, HDL.out, HZL.out]; omega) (vals_one _) (w.heap.size + 1) W1.drew (Below.refl _ _) (Nat.le_refl _) ?_
      · rw [Addr.add_lit]
        exact HSRC.out _ HB1.out j v hv
      intro w6 hI6 hb6
      have hD6 : Is w6 (w.heap.size + 1) (vals D) 34 := by have := hI6.out; rwa [splice, List.take_zero, List.nil_append, List.drop_eq_nil_of_le (by rw [HZL.out, vals_length, HDL.out]; omega), List.append_nil] at this
      have HI6 := hide ((HI1.out.drew).below hb6 (by have := HRL.out; omega))
      have HD6 := hide hD6
      have HZ6 := hide ((HZ1.out.drew).below hb6 (by omega))
      have HB6 := hide hb6
      have hb6x := hb6
      have hk6a : Below w.heap.size ((w.alloc (.cells Z.toArray 34)).alloc (.cells Z.toArray 34)) W1.drew := HB1.out.drew.mono (by omega)
      have hk6b : Below w.heap.size W1.drew w6 := hb6x.mono (by omega)
      have HBW := hide (HB0.out.trans (hk6a.trans hk6b))
      clear hk6a hk6b hb6x
      clear hI6 hb6 hD6
      have hcS0 := HI6.out.cell 0
      have hcS1 := HI6.out.cell 1
      have hcSf := HI6.out.frozen
      simp only [List.getElem?_cons_zero, List.getElem?_cons_succ] at hcS0 hcS1
      rw [vals_length, HDL.out]
      refine hK.out _ _ (by exact hcS0) (fun hHeld3 => ?_)
      clear hK K hHeld2
      try simp only [Act.put, List.getElem_toArray, List.getElem_cons_zero, List.getElem_cons_succ, List.setIfInBounds_toArray, List.set_cons_zero, List.set_cons_succ]
      refine wpAnyH_take (i := 15) (v := ?_) rfl (by kernel_rfl) (by kernel_rfl) (by kernel_rfl) (fun _ _ _ h => h) (Or.inl ⟨by rfl, ?_⟩) hHeld3 ?_
      rotate_left
      · (intro w hSw; (try dsimp only at hSw); go_simp <;> (try with_reducible rfl))
      simp only [Act.put, List.getElem_toArray, List.getElem_cons_zero, List.getElem_cons_succ, List.setIfInBounds_toArray, List.set_cons_zero, List.set_cons_succ]
      refine wpAnyH_take (i := 16) (v := ?_) rfl (by kernel_rfl) (by kernel_rfl) (by kernel_rfl) (fun _ _ _ h => h) (Or.inl ⟨by rfl, ?_⟩) hHeld3 ?_
      rotate_left
      · (intro w hSw; (try dsimp only at hSw); go_simp <;> (try with_reducible rfl))
      simp only [Act.put, List.getElem_toArray, List.getElem_cons_zero, List.getElem_cons_succ, List.setIfInBounds_toArray, List.set_cons_zero, List.set_cons_succ]
      refine wpAnyH_take (i := 17) (v := ?_) rfl (by kernel_rfl) (by kernel_rfl) (by kernel_rfl) (fun _ _ _ h => h) (Or.inl ⟨by rfl, ?_⟩) hHeld3 ?_
      rotate_left
      · (intro w hSw; (try dsimp only at hSw); go_simp <;> (try with_reducible rfl))
      simp only [Act.put, List.getElem_toArray, List.getElem_cons_zero, List.getElem_cons_succ, List.setIfInBounds_toArray, List.set_cons_zero, List.set_cons_succ]
      refine wpAnyH_ready (rs := [18]) (by kernel_rfl) (by simp) ?_
      refine AllReadyH.cons rfl (fun K hK => ?_) AllReadyH.nil
      have HI7 := hide (HI6.out.set 1 (.int .i64 ((p : Int) + 32)))
      have HD7 := hide (HD6.out.other ⟨R, 1, none⟩ (.int .i64 ((p : Int) + 32)) (by show R ≠ w.heap.size + 1; have := HRL.out; omega))
      have HZ7 := hide (HZ6.out.other ⟨R, 1, none⟩ (.int .i64 ((p : Int) + 32)) (by show R ≠ w.heap.size; have := HRL.out; omega))
      have hcS7 := HI7.out.cell 0
      simp only [List.set_cons_succ, List.set_cons_zero, List.getElem?_cons_zero] at hcS7
      go_simp
      refine hK.out _ _ (by exact hcS7) (fun hHeld4 => ?_)
      clear hK K hHeld3
      try simp only [Act.put, List.getElem_toArray, List.getElem_cons_zero, List.getElem_cons_succ, List.setIfInBounds_toArray, List.set_cons_zero, List.set_cons_succ]
      refine wpAnyH_done (by kernel_rfl) ?_ _
      have HB7 := hide (HB6.out)
      go_wp2_with (first
        | (refine wpList_load_arrD 34 (vals D) (w.heap.size + 1) rfl (.tmp 3) rfl rfl HD7.out Tryz.underlying34 size_dig (by rw [vals_length]; exact HDL.out) ?_)
        | (refine wpList_store_anyD 34 Z (vals D) w.heap.size rfl (.tmp 2) (.tmp 34) rfl rfl rfl rfl HZ7.out size_dig HZL.out (by rw [vals_length]; exact HDL.out) (vals_one _) ?_; intro w8 hi8 hb8 hk8 hz8))
      have hr := hi8.cellsOf Tryz.underlying34 (by rw [vals_length, HDL.out]; exact size_dig)
      have hb9 : Below w.heap.size (w6.setCell ⟨R, 1, none⟩ (.int .i64 ((p : Int) + 32))) w8 := hb8 _ _ (Below.refl _ _) (Nat.le_refl _)
      have hbut : But R w w8 := Only.trans ((But.call HBW.out).trans (But.cell w6 R 1 _)) (Only.of_below hb9 (Nat.le_refl _))
      exact bodyPost_ret (v := .agg (vals D).toArray) (results_cell1 Tryz.results79 rfl hr) rfl ⟨hbut, _, rfl, rfl, HST.out.after hbut (by have := HI7.out.below hb9 HRL.out; exact this)⟩
    refine AllReadyH.cons rfl (fun K hK => ?_) AllReadyH.nil
    go_simp
    refine hK.out _ _ (by exact hHeld0) (fun hHeld1 => ?_)
    clear hK K hHeld0
    try simp only [Act.put, List.getElem_toArray, List.getElem_cons_zero, List.getElem_cons_succ, List.setIfInBounds_toArray, List.set_cons_zero, List.set_cons_succ]
    refine wpAnyH_take (i := 13) (v := ?_) rfl (by kernel_rfl) (by kernel_rfl) (by kernel_rfl) (fun _ _ _ h => h) (Or.inl ⟨by rfl, ?_⟩) hHeld1 ?_
    rotate_left
    · (intro w hSw; (try dsimp only at hSw); go_simp <;> (try with_reducible rfl))
    simp only [Act.put, List.getElem_toArray, List.getElem_cons_zero, List.getElem_cons_succ, List.setIfInBounds_toArray, List.set_cons_zero, List.set_cons_succ]
    refine wpAnyH_ready (rs := [3, 14]) (by kernel_rfl) (by simp) ?_
    refine AllReadyH.cons rfl (fun K hK => ?_) ?_
    ·
      go_simp
      refine hK.out _ _ (by exact hHeld1) (fun hHeld2 => ?_)
      clear hK K hHeld1
      try simp only [Act.put, List.getElem_toArray, List.getElem_cons_zero, List.getElem_cons_succ, List.setIfInBounds_toArray, List.set_cons_zero, List.set_cons_succ]
      refine wpAnyH_ready (rs := [14]) (by kernel_rfl) (by simp) ?_
      refine AllReadyH.cons rfl (fun K hK => ?_) AllReadyH.nil
      refine step_copy_splice rfl (.tmp 20) (.tmp 29) 26 26 rfl 5 Tryz.underlying26 size_u8 _ _ 32 32 (ll - p) (bc - p) rfl rfl (w.heap.size + 1) 0 Z 34 HY1.out.drew (vals D) (by rw [vals_length, HDL.out]; exact (Nat.min_eq_right (by omega)).symm) (fun _ => ⟨rfl, _, rfl, fun j v hv => ?_⟩) (by rw [vals_length, HDL.out, HZL.out]; omega) (vals_one _) (w.heap.size + 1) W1.drew (Below.refl _ _) (Nat.le_refl _) ?_
      · rw [Addr.add_lit]
        exact HSRC.out _ HB1.out j v hv
      intro w6 hI6 hb6
      have hD6 : Is w6 (w.heap.size + 1) (vals D) 34 := by have := hI6.out; rwa [splice, List.take_zero, List.nil_append, List.drop_eq_nil_of_le (by rw [HZL.out, vals_length, HDL.out]; omega), List.append_nil] at this
      have HI6 := hide ((HI1.out.drew).below hb6 (by have := HRL.out; omega))
      have HD6 := hide hD6
      have HZ6 := hide ((HZ1.out.drew).below hb6 (by omega))
      have HB6 := hide hb6
      have hb6x := hb6
      have hk6a : Below w.heap.size ((w.alloc (.cells Z.toArray 34)).alloc (.cells Z.toArray 34)) W1.drew := HB1.out.drew.mono (by omega)
      have hk6b : Below w.heap.size W1.drew w6 := hb6x.mono (by omega)
      have HBW := hide (HB0.out.trans (hk6a.trans hk6b))
      clear hk6a hk6b hb6x
      clear hI6 hb6 hD6
      have hcS0 := HI6.out.cell 0
      have hcS1 := HI6.out.cell 1
      have hcSf := HI6.out.frozen
      simp only [List.getElem?_cons_zero, List.getElem?_cons_succ] at hcS0 hcS1
      rw [vals_length, HDL.out]
      refine hK.out _ _ (by exact hcS0) (fun hHeld3 => ?_)
      clear hK K hHeld2
      try simp only [Act.put, List.getElem_toArray, List.getElem_cons_zero, List.getElem_cons_succ, List.setIfInBounds_toArray, List.set_cons_zero, List.set_cons_succ]
      refine wpAnyH_take (i := 15) (v := ?_) rfl (by kernel_rfl) (by kernel_rfl) (by kernel_rfl) (fun _ _ _ h => h) (Or.inl ⟨by rfl, ?_⟩) hHeld3 ?_
      rotate_left
      · (intro w hSw; (try dsimp only at hSw); go_simp <;> (try with_reducible rfl))
      simp only [Act.put, List.getElem_toArray, List.getElem_cons_zero, List.getElem_cons_succ, List.setIfInBounds_toArray, List.set_cons_zero, List.set_cons_succ]
      refine wpAnyH_take (i := 16) (v := ?_) rfl (by kernel_rfl) (by kernel_rfl) (by kernel_rfl) (fun _ _ _ h => h) (Or.inl ⟨by rfl, ?_⟩) hHeld3 ?_
      rotate_left
      · (intro w hSw; (try dsimp only at hSw); go_simp <;> (try with_reducible rfl))
      simp only [Act.put, List.getElem_toArray, List.getElem_cons_zero, List.getElem_cons_succ, List.setIfInBounds_toArray, List.set_cons_zero, List.set_cons_succ]
      refine wpAnyH_take (i := 17) (v := ?_) rfl (by kernel_rfl) (by kernel_rfl) (by kernel_rfl) (fun _ _ _ h => h) (Or.inl ⟨by rfl, ?_⟩) hHeld3 ?_
      rotate_left
      · (intro w hSw; (try dsimp only at hSw); go_simp <;> (try with_reducible rfl))
      simp only [Act.put, List.getElem_toArray, List.getElem_cons_zero, List.getElem_cons_succ, List.setIfInBounds_toArray, List.set_cons_zero, List.set_cons_succ]
      refine wpAnyH_ready (rs := [18]) (by kernel_rfl) (by simp) ?_
      refine AllReadyH.cons rfl (fun K hK => ?_) AllReadyH.nil
      have HI7 := hide (HI6.out.set 1 (.int .i64 ((p : Int) + 32)))
      have HD7 := hide (HD6.out.other ⟨R, 1, none⟩ (.int .i64 ((p : Int) + 32)) (by show R ≠ w.heap.size + 1; have := HRL.out; omega))
      have HZ7 := hide (HZ6.out.other ⟨R, 1, none⟩ (.int .i64 ((p : Int) + 32)) (by show R ≠ w.heap.size; have := HRL.out; omega))
      have hcS7 := HI7.out.cell 0
      simp only [List.set_cons_succ, List.set_cons_zero, List.getElem?_cons_zero] at hcS7
      go_simp
      refine hK.out _ _ (by exact hcS7) (fun hHeld4 => ?_)
      clear hK K hHeld3
      try simp only [Act.put, List.getElem_toArray, List.getElem_cons_zero, List.getElem_cons_succ, List.setIfInBounds_toArray, List.set_cons_zero, List.set_cons_succ]
      refine wpAnyH_done (by kernel_rfl) ?_ _
      have HB7 := hide (HB6.out)
      go_wp2_with (first
        | (refine wpList_load_arrD 34 (vals D) (w.heap.size + 1) rfl (.tmp 3) rfl rfl HD7.out Tryz.underlying34 size_dig (by rw [vals_length]; exact HDL.out) ?_)
        | (refine wpList_store_anyD 34 Z (vals D) w.heap.size rfl (.tmp 2) (.tmp 34) rfl rfl rfl rfl HZ7.out size_dig HZL.out (by rw [vals_length]; exact HDL.out) (vals_one _) ?_; intro w8 hi8 hb8 hk8 hz8))
      have hr := hi8.cellsOf Tryz.underlying34 (by rw [vals_length, HDL.out]; exact size_dig)
      have hb9 : Below w.heap.size (w6.setCell ⟨R, 1, none⟩ (.int .i64 ((p : Int) + 32))) w8 := hb8 _ _ (Below.refl _ _) (Nat.le_refl _)
      have hbut : But R w w8 := Only.trans ((But.call HBW.out).trans (But.cell w6 R 1 _)) (Only.of_below hb9 (Nat.le_refl _))
      exact bodyPost_ret (v := .agg (vals D).toArray) (results_cell1 Tryz.results79 rfl hr) rfl ⟨hbut, _, rfl, rfl, HST.out.after hbut (by have := HI7.out.below hb9 HRL.out; exact this)⟩
    refine AllReadyH.cons rfl (fun K hK => ?_) AllReadyH.nil
    refine step_copy_splice rfl (.tmp 20) (.tmp 29) 26 26 rfl 5 Tryz.underlying26 size_u8 _ _ 32 32 (ll - p) (bc - p) rfl rfl (w.heap.size + 1) 0 Z 34 HY1.out.drew (vals D) (by rw [vals_length, HDL.out]; exact (Nat.min_eq_right (by omega)).symm) (fun _ => ⟨rfl, _, rfl, fun j v hv => ?_⟩) (by rw [vals_length, HDL.out, HZL.out]; omega) (vals_one _) (w.heap.size + 1) W1.drew (Below.refl _ _) (Nat.le_refl _) ?_
    · rw [Addr.add_lit]
      exact HSRC.out _ HB1.out j v hv
    intro w6 hI6 hb6
    have hD6 : Is w6 (w.heap.size + 1) (vals D) 34 := by have := hI6.out; rwa [splice, List.take_zero, List.nil_append, List.drop_eq_nil_of_le (by rw [HZL.out, vals_length, HDL.out]; omega), List.append_nil] at this
    have HI6 := hide ((HI1.out.drew).below hb6 (by have := HRL.out; omega))
    have HD6 := hide hD6
    have HZ6 := hide ((HZ1.out.drew).below hb6 (by omega))
    have HB6 := hide hb6
    have hb6x := hb6
    have hk6a : Below w.heap.size ((w.alloc (.cells Z.toArray 34)).alloc (.cells Z.toArray 34)) W1.drew := HB1.out.drew.mono (by omega)
    have hk6b : Below w.heap.size W1.drew w6 := hb6x.mono (by omega)
    have HBW := hide (HB0.out.trans (hk6a.trans hk6b))
    clear hk6a hk6b hb6x
    clear hI6 hb6 hD6
    have hcS0 := HI6.out.cell 0
    have hcS1 := HI6.out.cell 1
    have hcSf := HI6.out.frozen
    simp only [List.getElem?_cons_zero, List.getElem?_cons_succ] at hcS0 hcS1
    rw [vals_length, HDL.out]
    refine hK.out _ _ (by exact hcS0) (fun hHeld2 => ?_)
    clear hK K hHeld1
    try simp only [Act.put, List.getElem_toArray, List.getElem_cons_zero, List.getElem_cons_succ, List.setIfInBounds_toArray, List.set_cons_zero, List.set_cons_succ]
    refine wpAnyH_ready (rs := [3]) (by kernel_rfl) (by simp) ?_
    refine AllReadyH.cons rfl (fun K hK => ?_) AllReadyH.nil
    go_simp
    refine hK.out _ _ (by exact hHeld2) (fun hHeld3 => ?_)
    clear hK K hHeld2
    try simp only [Act.put, List.getElem_toArray, List.getElem_cons_zero, List.getElem_cons_succ, List.setIfInBounds_toArray, List.set_cons_zero, List.set_cons_succ]
    refine wpAnyH_take (i := 15) (v := ?_) rfl (by kernel_rfl) (by kernel_rfl) (by kernel_rfl) (fun _ _ _ h => h) (Or.inl ⟨by rfl, ?_⟩) hHeld3 ?_
    rotate_left
    · (intro w hSw; (try dsimp only at hSw); go_simp <;> (try with_reducible rfl))
    simp only [Act.put, List.getElem_toArray, List.getElem_cons_zero, List.getElem_cons_succ, List.setIfInBounds_toArray, List.set_cons_zero, List.set_cons_succ]
    refine wpAnyH_take (i := 16) (v := ?_) rfl (by kernel_rfl) (by kernel_rfl) (by kernel_rfl) (fun _ _ _ h => h) (Or.inl ⟨by rfl, ?_⟩) hHeld3 ?_
    rotate_left
    · (intro w hSw; (try dsimp only at hSw); go_simp <;> (try with_reducible rfl))
    simp only [Act.put, List.getElem_toArray, List.getElem_cons_zero, List.getElem_cons_succ, List.setIfInBounds_toArray, List.set_cons_zero, List.set_cons_succ]
    refine wpAnyH_take (i := 17) (v := ?_) rfl (by kernel_rfl) (by kernel_rfl) (by kernel_rfl) (fun _ _ _ h => h) (Or.inl ⟨by rfl, ?_⟩) hHeld3 ?_
    rotate_left
    · (intro w hSw; (try dsimp only at hSw); go_simp <;> (try with_reducible rfl))
    simp only [Act.put, List.getElem_toArray, List.getElem_cons_zero, List.getElem_cons_succ, List.setIfInBounds_toArray, List.set_cons_zero, List.set_cons_succ]
    refine wpAnyH_ready (rs := [18]) (by kernel_rfl) (by simp) ?_
    refine AllReadyH.cons rfl (fun K hK => ?_) AllReadyH.nil
    have HI7 := hide (HI6.out.set 1 (.int .i64 ((p : Int) + 32)))
    have HD7 := hide (HD6.out.other ⟨R, 1, none⟩ (.int .i64 ((p : Int) + 32)) (by show R ≠ w.heap.size + 1; have := HRL.out; omega))
    have HZ7 := hide (HZ6.out.other ⟨R, 1, none⟩ (.int .i64 ((p : Int) + 32)) (by show R ≠ w.heap.size; have := HRL.out; omega))
    have hcS7 := HI7.out.cell 0
    simp only [List.set_cons_succ, List.set_cons_zero, List.getElem?_cons_zero] at hcS7
    go_simp
    refine hK.out _ _ (by exact hcS7) (fun hHeld4 => ?_)
    clear hK K hHeld3
    try simp only [Act.put, List.getElem_toArray, List.getElem_cons_zero, List.getElem_cons_succ, List.setIfInBounds_toArray, List.set_cons_zero, List.set_cons_succ]
    refine wpAnyH_done (by kernel_rfl) ?_ _
    have HB7 := hide (HB6.out)
    go_wp2_with (first
      | (refine wpList_load_arrD 34 (vals D) (w.heap.size + 1) rfl (.tmp 3) rfl rfl HD7.out Tryz.underlying34 size_dig (by rw [vals_length]; exact HDL.out) ?_)
      | (refine wpList_store_anyD 34 Z (vals D) w.heap.size rfl (.tmp 2) (.tmp 34) rfl rfl rfl rfl HZ7.out size_dig HZL.out (by rw [vals_length]; exact HDL.out) (vals_one _) ?_; intro w8 hi8 hb8 hk8 hz8))
    have hr := hi8.cellsOf Tryz.underlying34 (by rw [vals_length, HDL.out]; exact size_dig)
    have hb9 : Below w.heap.size (w6.setCell ⟨R, 1, none⟩ (.int .i64 ((p : Int) + 32))) w8 := hb8 _ _ (Below.refl _ _) (Nat.le_refl _)
    have hbut : But R w w8 := Only.trans ((But.call HBW.out).trans (But.cell w6 R 1 _)) (Only.of_below hb9 (Nat.le_refl _))
    exact bodyPost_ret (v := .agg (vals D).toArray) (results_cell1 Tryz.results79 rfl hr) rfl ⟨hbut, _, rfl, rfl, HST.out.after hbut (by have := HI7.out.below hb9 HRL.out; exact this)⟩
  · rw [if_neg h0]
    obtain ⟨ba, bc, rfl, h1, h2⟩ := hl.shape
    unfold maxLen at h2
    obtain ⟨ll, hll⟩ : ∃ n, n = l.length := ⟨_, rfl⟩
    rw [← hll] at h0 hp h2 hcA0
    have hge : decide ((32 : Int) ≤ (ll : Int) - (p : Int)) = false := decide_eq_false (by omega)
    have hge2 : ¬ (32 : Int) ≤ (ll : Int) - (p : Int) := by omega
    have hsw : IntKind.i64.wrap ((ll : Int) - (p : Int)) = (ll : Int) - (p : Int) := IntWalk.i64_in _ (by omega)
    clear hs hl hll hZ hZl hge2 h0 h1 HIA
    go_enter Tryz.func79, Tryz.ntmps79
    go_wp2
    refine wp_region_held_drew (S := fun W : World => Below (w.heap.size + 2) ((w.alloc (.cells Z.toArray 34)).alloc (.cells Z.toArray 34)) W ∧ W.cell? ⟨R, 0, none⟩ = some (.slice ba ll bc) ∧ W.cell? ⟨R, 1, none⟩ = some (.int .i64 (p : Int))) (by kernel_rfl) ?_ (fun hHeld0 => ?_)
    · exact ⟨(Below.refl _ _).drew, hcA0, hcA1⟩
    refine wpAnyH_take (i := 0) (v := ?_) rfl (by kernel_rfl) (by kernel_rfl) (by kernel_rfl) (fun _ _ _ h => h) (Or.inl ⟨by rfl, ?_⟩) hHeld0 ?_
    rotate_left
    · (intro w hSw; (try dsimp only at hSw); go_simp <;> (try with_reducible rfl))
    simp only [Act.put, List.getElem_toArray, List.getElem_cons_zero, List.getElem_cons_succ, List.setIfInBounds_toArray, List.set_cons_zero, List.set_cons_succ]
    refine wpAnyH_take (i := 1) (v := ?_) rfl (by kernel_rfl) (by kernel_rfl) (by kernel_rfl) (fun _ _ _ h => h) (Or.inl ⟨by rfl, ?_⟩) hHeld0 ?_
    rotate_left
    · (intro w hSw; (try dsimp only at hSw); go_simp <;> (try with_reducible rfl))
    simp only [Act.put, List.getElem_toArray, List.getElem_cons_zero, List.getElem_cons_succ, List.setIfInBounds_toArray, List.set_cons_zero, List.set_cons_succ]
    refine wpAnyH_take (i := 2) (v := ?_) rfl (by kernel_rfl) (by kernel_rfl) (by kernel_rfl) (fun _ _ _ h => h) (Or.inl ⟨by rfl, ?_⟩) hHeld0 ?_
    rotate_left
    · (intro w hSw; (try dsimp only at hSw); go_simp <;> (try with_reducible rfl))
    simp only [Act.put, List.getElem_toArray, List.getElem_cons_zero, List.getElem_cons_succ, List.setIfInBounds_toArray, List.set_cons_zero, List.set_cons_succ]
    refine wpAnyH_take (i := 3) (v := ?_) rfl (by kernel_rfl) (by kernel_rfl) (by kernel_rfl) (fun _ _ _ h => h) (Or.inl ⟨by rfl, ?_⟩) hHeld0 ?_
    rotate_left
    · (intro w hSw; (try dsimp only at hSw); go_simp <;> (try with_reducible rfl))
    simp only [Act.put, List.getElem_toArray, List.getElem_cons_zero, List.getElem_cons_succ, List.setIfInBounds_toArray, List.set_cons_zero, List.set_cons_succ]
    refine wpAnyH_take (i := 4) (v := ?_) rfl (by kernel_rfl) (by kernel_rfl) (by kernel_rfl) (fun _ _ _ h => h) (Or.inl ⟨by rfl, ?_⟩) hHeld0 ?_
    rotate_left
    · (intro w hSw; (try dsimp only at hSw); go_simp <;> (try with_reducible rfl))
    simp only [Act.put, List.getElem_toArray, List.getElem_cons_zero, List.getElem_cons_succ, List.setIfInBounds_toArray, List.set_cons_zero, List.set_cons_succ]
    refine wpAnyH_take (i := 5) (v := ?_) rfl (by kernel_rfl) (by kernel_rfl) (by kernel_rfl) (fun _ _ _ h => h) (Or.inl ⟨by rfl, ?_⟩) hHeld0 ?_
    rotate_left
    · (intro w hSw; (try dsimp only at hSw); go_simp <;> (try with_reducible rfl))
    simp only [Act.put, List.getElem_toArray, List.getElem_cons_zero, List.getElem_cons_succ, List.setIfInBounds_toArray, List.set_cons_zero, List.set_cons_succ]
    refine wpAnyH_take (i := 6) (v := ?_) rfl (by kernel_rfl) (by kernel_rfl) (by kernel_rfl) (fun _ _ _ h => h) (Or.inl ⟨by rfl, ?_⟩) hHeld0 ?_
    rotate_left
    · (intro w hSw; (try dsimp only at hSw); go_simp <;> (try with_reducible rfl))
    simp only [Act.put, List.getElem_toArray, List.getElem_cons_zero, List.getElem_cons_succ, List.setIfInBounds_toArray, List.set_cons_zero, List.set_cons_succ]
    refine wpAnyH_take (i := 7) (v := ?_) rfl (by kernel_rfl) (by kernel_rfl) (by kernel_rfl) (fun _ _ _ h => h) (Or.inl ⟨by rfl, ?_⟩) hHeld0 ?_
    rotate_left
    · (intro w hSw; (try dsimp only at hSw); go_simp <;> (try with_reducible rfl))
    simp only [Act.put, List.getElem_toArray, List.getElem_cons_zero, List.getElem_cons_succ, List.setIfInBounds_toArray, List.set_cons_zero, List.set_cons_succ]
    refine wpAnyH_take (i := 8) (v := ?_) rfl (by kernel_rfl) (by kernel_rfl) (by kernel_rfl) (fun _ _ _ h => h) (Or.inl ⟨by rfl, ?_⟩) hHeld0 ?_
    rotate_left
    · (intro w hSw; (try dsimp only at hSw); go_simp <;> (try with_reducible rfl))
    simp only [Act.put, List.getElem_toArray, List.getElem_cons_zero, List.getElem_cons_succ, List.setIfInBounds_toArray, List.set_cons_zero, List.set_cons_succ]
    refine wpAnyH_take (i := 9) (v := ?_) rfl (by kernel_rfl) (by kernel_rfl) (by kernel_rfl) (fun _ _ _ h => h) (Or.inl ⟨by rfl, ?_⟩) hHeld0 ?_
    rotate_left
    · (intro w hSw; (try dsimp only at hSw); go_simp <;> (try with_reducible rfl))
    simp only [Act.put, List.getElem_toArray, List.getElem_cons_zero, List.getElem_cons_succ, List.setIfInBounds_toArray, List.set_cons_zero, List.set_cons_succ]
    refine wpAnyH_take (i := 10) (v := ?_) rfl (by kernel_rfl) (by kernel_rfl) (by kernel_rfl) (fun _ _ _ h => h) (Or.inl ⟨by rfl, ?_⟩) hHeld0 ?_
    rotate_left
    · (intro w hSw; (try dsimp only at hSw); go_simp <;> (try with_reducible rfl))
    simp only [Act.put, List.getElem_toArray, List.getElem_cons_zero, List.getElem_cons_succ, List.setIfInBounds_toArray, List.set_cons_zero, List.set_cons_succ]
    refine wpAnyH_ready (rs := [11]) (by kernel_rfl) (by simp) ?_
    refine AllReadyH.cons rfl (fun K hK => ?_) AllReadyH.nil
    go_simp
    go_wp2_with ((go_at_call 56; refine (pmust_false _).mono ?_; rintro e W1 ⟨rfl, hww⟩))
    exact ⟨rfl, hww ▸ (But.call (HB0.out.trans (hHeld0.1.mono (by omega)))), rfl⟩

end Go.Proofs.YtbdnbjemocjlaaaGreatDoor

/- tx's reader: a row in a box grows by a thing that was read. -/
namespace Go.Proofs.YtbdnbjemocjlaaaGreatDoor
open Go.RowKit
set_option linter.unusedVariables false
set_option linter.unusedSimpArgs false

theorem elemOps : Elem 55 65 3 := elem_of (.agg #[.int .i64 0, .int .i64 0, .slice none 0 0]) 40 Tryz.underlying55 (by kernel_rfl) (by omega) rfl (by omega)
/-- What an append of one leaves. -/
def AppG (W : World) (base : Nat) (e : TypeId) (s n : Nat) (v : Value) (cs news : List Value) (v' : Value) (W' : World) : Prop :=
  W'.ownsRow base e s v' (n + 1) (cs ++ news) ∧ W.grownBy W' v.ownBlock ∧ (v'.ownBlock = v.ownBlock ∨ v'.ownBlock = some W.heap.size)
theorem run_app1 {T e : TypeId} {s : Nat} (he : Elem T e s) (W : World) (base n : Nat) (v : Value) (cs news : List Value) (hown : W.ownsRow base e s v n cs) (b c : Nat) (hr : W.rangeAt b 0 news) (hl : news.length = s) (h1 : ∀ u ∈ news, u.oneCell' = true) (hbd : n + 1 ≤ 1000000) (hbase : base ≤ W.heap.size) (ty : TypeId) :
    ∃ v' W', (Builtin.append_ #[T, T] ty #[v, .slice (some ⟨b, 0, none⟩) 1 c]).run Tryz.prog W = .ok v' W' ∧ AppG W base e s n v cs news v' W' := by
  obtain ⟨v', W', h1, h2, h3, h4⟩ := run_append_gen W base T e s he v n cs hown ⟨b, 0, none⟩ 1 c (by omega) news (by omega) (fun j u hu => by rw [Addr.add_lit]; exact hr j u hu) h1 hbd hbase ty
  exact ⟨v', W', h1, h2, h3, h4⟩
theorem RdS.drew {w0 w : World} {R : Nat} {bv : Value} {l : List Int} {p : Nat} (h : RdS w0 R bv l p w) : RdS w0 R bv l p w.drew := ⟨h.hR, h.hb.drew, h.is.drew⟩
theorem But.drew {R : Nat} {a w : World} (h : But R a w) : But R a w.drew := Only.drew h
theorem PtS.drew {w0 w W : World} {R : Nat} {bv : Value} {l : List Int} {t : TypeId} {z c : List Value} {q : Nat} (h : PtS w0 w R bv l t z q c W) : PtS w0 w R bv l t z q c W.drew :=
  ⟨h.rd.drew, h.lt, h.but.drew, h.res.drew, h.box.drew⟩
theorem Acc.drew {W : World} {base s n : Nat} {e : TypeId} {v : Value} {cs : List Value} {F : World → Prop} (h : Acc W base e s n v cs F) : Acc W.drew base e s n v cs F := by
  obtain ⟨⟨S, h1, h2, h3⟩, ho⟩ := h
  exact ⟨⟨S, h1, h2, h3.step (Nat.le_refl _) (fun k _ => rfl)⟩, ho⟩
theorem PtS.alloc {w0 w W : World} {R : Nat} {bv : Value} {l : List Int} {t : TypeId} {z c : List Value} {q : Nat} (h : PtS w0 w R bv l t z q c W) (o : Obj) : PtS w0 w R bv l t z q c (W.alloc o) :=
  have hb := below_alloc W o
  ⟨⟨h.rd.hR, h.rd.hb.trans (hb.mono h.rd.hb.size), h.rd.is.alloc _⟩, h.lt, h.but.trans (But.call hb), h.res.alloc _, h.box.alloc _⟩
theorem But.grown {R : Nat} {W W' : World} {r : Option Nat} (hg : W.grownBy W' r) : Only (r.getD 0) W.heap.size W W' :=
  ⟨hg.os, hg.tape, hg.output, hg.size, fun k hk hn => hg.block k hk (fun e => hn (by rw [← e]; rfl))⟩
theorem PtS.grown {w0 w W W' : World} {R : Nat} {bv : Value} {l : List Int} {t : TypeId} {z c : List Value} {q : Nat} {r : Option Nat} (h : PtS w0 w R bv l t z q c W) (hg : W.grownBy W' r) (hr : ∀ b, r = some b → w.heap.size + 2 ≤ b) : PtS w0 w R bv l t z q c W' := by
  have hlt := h.lt
  have hkeep : ∀ k, k < w.heap.size + 2 → k < W.heap.size → W'.heap[k]? = W.heap[k]? := fun k hk hk2 => hg.block k hk2 (fun e => by have := hr k e.symm; omega)
  have hsz := h.box.lt
  have hb : Below (w.heap.size + 2) W W' := ⟨hg.os, hg.tape, hg.output, hg.size, fun k hk => hkeep k hk (by omega)⟩
  exact ⟨⟨h.rd.hR, h.rd.hb.trans (hb.mono (by have := h.rd.hR; omega)), h.rd.is.below hb (by omega)⟩, hlt, Only.trans h.but (Only.of_below hb (by omega)), h.res.below hb (by omega), h.box.below hb (by omega)⟩
/-- How the rest of a repeated reading goes on. -/
theorem rep_zero {α : Type} (f : Nat → Option (α × Nat)) (p : Nat) : Tm.rep f 0 p = some ([], p) := rfl
theorem rep_some {α : Type} {f : Nat → Option (α × Nat)} {p q : Nat} {x : α} {d : Nat} (h : f p = some (x, q)) : Tm.rep f (d + 1) p = (Tm.rep f d q).map fun y => (x :: y.1, y.2) := by
  simp only [Tm.rep, h, Option.bind_some]
theorem rep_none {α : Type} {f : Nat → Option (α × Nat)} {p : Nat} {d : Nat} (h : f p = none) : Tm.rep f (d + 1) p = none := by
  simp only [Tm.rep, h, Option.bind_none]
/-- So far A was read, and d are left, at q. -/
def Todo {α : Type} (f : Nat → Option (α × Nat)) (all : Option (List α × Nat)) (A : List α) (d q : Nat) : Prop := all = (Tm.rep f d q).map fun y => (A ++ y.1, y.2)
theorem Todo.start {α : Type} (f : Nat → Option (α × Nat)) (m q : Nat) : Todo f (Tm.rep f m q) [] m q := by unfold Todo; cases Tm.rep f m q <;> simp
theorem Todo.next {α : Type} {f : Nat → Option (α × Nat)} {all : Option (List α × Nat)} {A : List α} {d q q' : Nat} {x : α} (h : Todo f all A (d + 1) q) (hx : f q = some (x, q')) : Todo f all (A ++ [x]) d q' := by
  unfold Todo at h ⊢
  rw [h, rep_some hx]
  cases Tm.rep f d q' <;> simp
theorem Todo.stop {α : Type} {f : Nat → Option (α × Nat)} {all : Option (List α × Nat)} {A : List α} {d q : Nat} (h : Todo f all A (d + 1) q) (hx : f q = none) : all = none := by
  unfold Todo at h
  rw [h, rep_none hx]; rfl
theorem Todo.end {α : Type} {f : Nat → Option (α × Nat)} {all : Option (List α × Nat)} {A : List α} {q : Nat} (h : Todo f all A 0 q) : all = some (A, q) := by
  unfold Todo at h
  rw [h, rep_zero]; simp
/-- Ops of one's own, their data told. -/
def FOps (L : List (Lk.Op × Value)) (W : World) : Prop := ∀ p ∈ L, Has W p.2 p.1.data ∧ Sz.Byt p.1.data
theorem row_hasOps {W : World} {base : Nat} {v : Value} {L : List (Lk.Op × Value)} (h : W.ownsRow base 65 3 v L.length (opCells L)) (hd : FOps L W) : HasOps W v L := by
  refine ⟨?_, hd⟩
  by_cases h0 : L.length = 0
  · have hL := List.eq_nil_of_length_eq_zero h0
    subst hL
    obtain ⟨a, cap, rfl⟩ := owns_form h
    exact .inl ⟨a, cap, rfl, rfl⟩
  · obtain ⟨g, cap, rfl, _, h2, h3, h4, hr⟩ := owns_some h (by omega)
    exact .inr ⟨g, 0, cap, rfl, by omega, h3, h4, h2, hr⟩
end Go.Proofs.YtbdnbjemocjlaaaGreatDoor

/- tx's reader: an out. -/
namespace Go.Proofs.YtbdnbjemocjlaaaGreatDoor
open Go.RowKit
set_option linter.unusedVariables false
set_option linter.unusedSimpArgs false

theorem Acc.map {W : World} {base s n : Nat} {e : TypeId} {v : Value} {cs : List Value} {F G : World → Prop} (h : Acc W base e s n v cs F) (hG : ∀ W, F W → G W) : Acc W base e s n v cs G := by
  obtain ⟨⟨S, h1, h2, h3⟩, ho⟩ := h
  exact ⟨⟨S, h1, h2, h3.map hG⟩, ho⟩
theorem fops_add {L : List (Lk.Op × Value)} {p : Lk.Op × Value} {W : World} (h : FOps L W) (hp : Has W p.2 p.1.data ∧ Sz.Byt p.1.data) : FOps (L ++ [p]) W := by
  intro x hx
  rcases List.mem_append.1 hx with hx | hx
  · exact h x hx
  · rw [List.mem_singleton.1 hx]; exact hp
theorem opsOf_add (L : List (Lk.Op × Value)) (p : Lk.Op × Value) : opsOf (L ++ [p]) = opsOf L ++ [p.1] := by simp [opsOf]
theorem cnt_le {most : Int} {b : List Int} {p m q : Nat} (h : Tm.cnt most b p = some (m, q)) : m ≤ most.toNat := by
  unfold Tm.cnt at h
  cases hx : Tm.num b p with
  | none => rw [hx] at h; cases h
  | some x =>
    rw [hx, Option.bind_some] at h
    split at h
    · cases h
      omega
    · cases h
theorem op_byt {b : List Int} (hb : Sz.Byt b) {p q : Nat} {x : Lk.Op} (h : Tm.opR b p = some (x, q)) : Sz.Byt x.data := by
  unfold Tm.opR at h
  cases h1 : Tm.num b p with
  | none => rw [h1] at h; cases h
  | some y1 =>
    rw [h1, Option.bind_some] at h
    cases h2 : Tm.num b y1.2 with
    | none => rw [h2] at h; cases h
    | some y2 =>
      rw [h2, Option.bind_some] at h
      cases h3 : Tm.thing b y2.2 with
      | none => rw [h3] at h; cases h
      | some y3 =>
        rw [h3] at h
        cases h
        exact (Tm.thing_sound b hb y2.2 y3.1 y3.2 (by rw [h3])).2.2.2.2

set_option maxRecDepth 100000 in
set_option maxHeartbeats 8000000 in
theorem pout_any (w0 : World) (R : Nat) (bv : Value) (l : List Int) (p : Nat) (w : World) (hs : RdS w0 R bv l p w) (hl : Has w0 bv l) (hbt : Sz.Byt l) (hbig : l.length ≤ 180000000000000) :
    Calls Tryz.prog 70 #[.pointer (some ⟨R, 0, none⟩)] w fun e w' => ReadsSo w0 R bv l w (Tm.outR l p) (fun x v W => ∃ X : OutV, v = .agg #[.int .i64 X.amount, X.lv] ∧ X.it = x ∧ Itm w.heap.size W (fun W => HasOps W X.lv X.L)) e w' := by
  have HN := hide (fun q W (hW : RdS w0 R bv l q W) => pnumber_any w0 R bv l q W hW hl hbt)
  have HC := hide (fun q W (hW : RdS w0 R bv l q W) => pcount_any w0 R bv l q 60 W hW hl hbt)
  have HPO := hide (fun q W (hW : RdS w0 R bv l q W) => pop_any w0 R bv l q W hW hl hbt hbig)
  have HBT := hide hbt
  have HS0 := hide (PtS.start hs 57 [.int .i64 0, .slice none 0 0])
  clear hs hl hbt hbig
  go_enter Tryz.func70, Tryz.ntmps70
  go_wp2_with fail
  refine (HN.out p _ HS0.out.rd).mono ?_
  rintro e w1 ⟨hb1, hm1⟩
  have HB1 := hide hb1
  cases h1 : Tm.num l p with
  | none =>
    rw [h1] at hm1
    subst hm1
    exact ⟨rfl, HS0.out.but.trans HB1.out, by unfold Tm.outR; rw [h1]; rfl⟩
  | some x1 =>
  rw [h1] at hm1
  obtain ⟨v1, rfl, rfl, hs1⟩ := hm1
  obtain ⟨x1, q1⟩ := x1
  have HE1 := hide h1
  have HS1 := hide (HS0.out.call HB1.out hs1)
  clear h1 hs1 hb1 HB1
  have hc1 := HS1.out.box.cell 0
  have hf1 := HS1.out.box.frozen
  simp only [List.getElem?_cons_zero, List.getElem?_cons_succ] at hc1
  have HS2 := hide (HS1.out.set 0 (.int .i64 x1))
  go_wp2_with fail
  refine (HC.out q1 _ HS2.out.rd).mono ?_
  rintro e w2 ⟨hb2, hm2⟩
  have HB2 := hide hb2
  cases h2 : Tm.cnt 60 l q1 with
  | none =>
    rw [h2] at hm2
    subst hm2
    exact ⟨rfl, HS2.out.but.trans HB2.out, by unfold Tm.outR; rw [HE1.out, Option.bind_some, h2]; rfl⟩
  | some x2 =>
  rw [h2] at hm2
  obtain ⟨v2, rfl, rfl, hs2⟩ := hm2
  obtain ⟨m, q2⟩ := x2
  have HM : Hid (m ≤ 60) := hide (cnt_le h2)
  have HE2 := hide h2
  have HS3 := hide (HS2.out.call HB2.out hs2)
  clear h2 hs2 hb2 HB2 hc1 hf1 HS0 HS1 HS2
  go_wp2
  go_loopw [9] (fun i wr => ∃ k : Nat, k ≤ m ∧ i = .int .i64 k ∧ ∃ (q : Nat) (L : List (Lk.Op × Value)) (va : Option Addr) (vc : Nat), PtS w0 w R bv l 57 [.int .i64 0, .slice none 0 0] q [.int .i64 x1, .slice va L.length vc] wr ∧ Acc wr (w.heap.size + 2) 65 3 L.length (.slice va L.length vc) (opCells L) (FOps L) ∧ Todo (Tm.opR l) (Tm.rep (Tm.opR l) m q2) (opsOf L) (m - k) q ∧ L.length = k) (fun i _ => m - (intOf i).toNat)
  case atStart => exact ⟨0, by omega, rfl, q2, [], none, 0, HS3.out, Acc.nil _ _ _ _ (fun W p hp => by cases hp), Todo.start _ _ _, rfl⟩
  case round =>
    obtain ⟨k, hk, rfl, q, L, va, vc, hpt, hac, hlf, hLk⟩ := hrel
    have HLK := hide hLk
    rw [hLk] at hpt hac
    have HPT := hide hpt
    have HAC := hide hac
    clear hLk
    by_cases hlt : k < m
    · obtain ⟨d, hd⟩ : ∃ d, m - k = d + 1 := ⟨m - k - 1, by omega⟩
      rw [hd] at hlf
      have HLF := hide hlf
      have hki : (k : Int) < (m : Int) := by omega
      have hcA := HPT.out.box.cell 1
      simp only [List.getElem?_cons_zero, List.getElem?_cons_succ] at hcA
      have hcB : wr.drew.cell? ⟨w.heap.size + 1, 1, none⟩ = some (.slice va k vc) := hcA
      clear hpt hac hlf hcA
      cases hx : Tm.opR l q with
      | none =>
        have HP1 : Hid (∀ W, RdS w0 R bv l q W → Calls Tryz.prog 81 #[.pointer (some ⟨R, 0, none⟩)] W fun e w' => But R W w' ∧ e = .panicked panNo) := hide (fun W hW => by have := HPO.out q W hW; rw [hx] at this; exact this)
        have HX := hide hx
        clear hx
        go_wp2_with fail
        refine wp_region_held_drew (S := fun _ : World => True) (by kernel_rfl) ?_ (fun hHeld0 => ?_)
        · trivial
        refine wpAnyH_take (i := 0) (v := ?_) rfl (by kernel_rfl) (by kernel_rfl) (by kernel_rfl) (fun _ _ _ h => h) (Or.inl ⟨by rfl, ?_⟩) hHeld0 ?_
        rotate_left
        · (intro w hSw; (try dsimp only at hSw); go_simp <;> (try with_reducible rfl))
        simp only [Act.put, List.getElem_toArray, List.getElem_cons_zero, List.getElem_cons_succ, List.setIfInBounds_toArray, List.set_cons_zero, List.set_cons_succ]
        refine wpAnyH_take (i := 2) (v := ?_) rfl (by kernel_rfl) (by kernel_rfl) (by kernel_rfl) (fun _ _ _ h => h) (Or.inl ⟨by rfl, ?_⟩) hHeld0 ?_
        rotate_left
        · (intro w hSw; (try dsimp only at hSw); go_simp <;> (try with_reducible rfl))
        simp only [Act.put, List.getElem_toArray, List.getElem_cons_zero, List.getElem_cons_succ, List.setIfInBounds_toArray, List.set_cons_zero, List.set_cons_succ]
        refine wpAnyH_ready (rs := [1, 3]) (by kernel_rfl) (by simp) ?_
        refine AllReadyH.cons rfl (fun K hK => ?_) ?_
        ·
          go_simp
          refine hK.out _ _ (by trivial) (fun hHeld1 => ?_)
          clear hK K hHeld0
          try simp only [Act.put, List.getElem_toArray, List.getElem_cons_zero, List.getElem_cons_succ, List.setIfInBounds_toArray, List.set_cons_zero, List.set_cons_succ]
          refine wpAnyH_ready (rs := [3]) (by kernel_rfl) (by simp) ?_
          refine AllReadyH.cons rfl (fun K hK => ?_) AllReadyH.nil
          go_simp
          go_wp2_with ((go_at_call 81; refine (HP1.out _ HPT.out.rd.drew).mono ?_; rintro e W1 ⟨hb1, rfl⟩))
          exact ⟨rfl, HPT.out.drew.but.trans hb1, by unfold Tm.outR; rw [HE1.out, Option.bind_some, HE2.out, Option.bind_some, HLF.out.stop HX.out]; rfl⟩
        refine AllReadyH.cons rfl (fun K hK => ?_) AllReadyH.nil
        go_simp
        go_wp2_with ((go_at_call 81; refine (HP1.out _ HPT.out.rd.drew).mono ?_; rintro e W1 ⟨hb1, rfl⟩))
        exact ⟨rfl, HPT.out.drew.but.trans hb1, by unfold Tm.outR; rw [HE1.out, Option.bind_some, HE2.out, Option.bind_some, HLF.out.stop HX.out]; rfl⟩
      | some xx =>
        obtain ⟨x, q'⟩ := xx
        have HP1 : Hid (∀ W, RdS w0 R bv l q W → Calls Tryz.prog 81 #[.pointer (some ⟨R, 0, none⟩)] W fun e w' => ∃ da dn dc, e = .returned (.agg #[.int .i64 x.op, .int .i64 x.n, .slice da dn dc]) ∧ But R W w' ∧ RdS w0 R bv l q' w' ∧ Itm W.heap.size w' (fun W => Has W (.slice da dn dc) x.data)) := hide (fun W hW => by
          have := HPO.out q W hW
          rw [hx] at this
          refine this.mono ?_
          rintro e w' ⟨hb, v, rfl, ⟨dv, rfl, ho⟩, hs⟩
          obtain ⟨da, dc, rfl, _, _⟩ := ho.form
          exact ⟨da, _, dc, rfl, hb, hs, (row_itm ho).map (fun W h => Own.has h)⟩)
        have HX := hide hx
        have HBY := hide (op_byt HBT.out hx)
        clear hx
        go_wp2_with fail
        refine wp_region_held_drew (S := fun _ : World => True) (by kernel_rfl) ?_ (fun hHeld0 => ?_)
        · trivial
        refine wpAnyH_take (i := 0) (v := ?_) rfl (by kernel_rfl) (by kernel_rfl) (by kernel_rfl) (fun _ _ _ h => h) (Or.inl ⟨by rfl, ?_⟩) hHeld0 ?_
        rotate_left
        · (intro w hSw; (try dsimp only at hSw); go_simp <;> (try with_reducible rfl))
        simp only [Act.put, List.getElem_toArray, List.getElem_cons_zero, List.getElem_cons_succ, List.setIfInBounds_toArray, List.set_cons_zero, List.set_cons_succ]
        refine wpAnyH_take (i := 2) (v := ?_) rfl (by kernel_rfl) (by kernel_rfl) (by kernel_rfl) (fun _ _ _ h => h) (Or.inl ⟨by rfl, ?_⟩) hHeld0 ?_
        rotate_left
        · (intro w hSw; (try dsimp only at hSw); go_simp <;> (try with_reducible rfl))
        simp only [Act.put, List.getElem_toArray, List.getElem_cons_zero, List.getElem_cons_succ, List.setIfInBounds_toArray, List.set_cons_zero, List.set_cons_succ]
        refine wpAnyH_ready (rs := [1, 3]) (by kernel_rfl) (by simp) ?_
        refine AllReadyH.cons rfl (fun K hK => ?_) ?_
        ·
          go_simp
          refine hK.out _ _ (by trivial) (fun hHeld1 => ?_)
          clear hK K hHeld0
          try simp only [Act.put, List.getElem_toArray, List.getElem_cons_zero, List.getElem_cons_succ, List.setIfInBounds_toArray, List.set_cons_zero, List.set_cons_succ]
          refine wpAnyH_ready (rs := [3]) (by kernel_rfl) (by simp) ?_
          refine AllReadyH.cons rfl (fun K hK => ?_) AllReadyH.nil
          go_simp
          go_wp2_with ((go_at_call 81; refine (HP1.out _ HPT.out.rd.drew).mono ?_; rintro e W1 ⟨da, dn, dc, rfl, hb1, hs1, hi1⟩))
          refine hK.out _ _ (by trivial) (fun hHeld2 => ?_)
          clear hK K hHeld1
          try simp only [Act.put, List.getElem_toArray, List.getElem_cons_zero, List.getElem_cons_succ, List.setIfInBounds_toArray, List.set_cons_zero, List.set_cons_succ]
          have HP2 := hide (HPT.out.drew.call hb1 hs1)
          have HA2 := hide (HAC.out.drew.but hb1 (by have := HPT.out.lt; omega))
          have HI2 := hide hi1
          clear hb1 hs1 hi1
          have hcC := HP2.out.box.cell 1
          simp only [List.getElem?_cons_zero, List.getElem?_cons_succ] at hcC
          refine wpAnyH_ready (rs := [4]) (by kernel_rfl) (by simp) ?_
          refine AllReadyH.cons rfl (fun K hK => ?_) AllReadyH.nil
          go_simp
          refine hK.out _ _ (by trivial) (fun hHeld3 => ?_)
          clear hK K hHeld2
          try simp only [Act.put, List.getElem_toArray, List.getElem_cons_zero, List.getElem_cons_succ, List.setIfInBounds_toArray, List.set_cons_zero, List.set_cons_succ]
          have HP3 := hide (HP2.out.alloc (.cells #[.int .i64 x.op, .int .i64 x.n, .slice da dn dc] 65))
          have HA3 := hide (HA2.out.but (But.call (g := R) (below_alloc W1 (.cells #[.int .i64 x.op, .int .i64 x.n, .slice da dn dc] 65))) (by have := HPT.out.lt; omega))
          have HI3 := hide (HI2.out.but (But.call (g := R) (below_alloc W1 (.cells #[.int .i64 x.op, .int .i64 x.n, .slice da dn dc] 65))) (by have := HPT.out.lt; have := HPT.out.box.lt; show R < wr.heap.size; omega))
          have HW3 := hide (Nat.lt_of_lt_of_le HP2.out.box.lt (below_alloc W1 (.cells #[.int .i64 x.op, .int .i64 x.n, .slice da dn dc] 65)).size)
          have hcE := HP3.out.box.cell 1
          simp only [List.getElem?_cons_zero, List.getElem?_cons_succ] at hcE
          refine wpAnyH_ready (rs := [5]) (by kernel_rfl) (by simp) ?_
          refine AllReadyH.cons rfl (fun K hK => ?_) AllReadyH.nil
          refine step_append_by (AppG (W1.alloc (.cells #[.int .i64 x.op, .int .i64 x.n, .slice da dn dc] 65)) (w.heap.size + 2) 65 3 k (.slice va k vc) (opCells L) [.int .i64 x.op, .int .i64 x.n, .slice da dn dc]) rfl (.tmp 12) (.tmp 15) rfl (.slice va k vc) (.slice (some ⟨W1.heap.size, 0, none⟩) 1 1) rfl rfl (fun ty => run_app1 elemOps _ _ _ _ _ [.int .i64 x.op, .int .i64 x.n, .slice da dn dc] HA3.out.own W1.heap.size 1 (is_range (Is.new W1 [.int .i64 x.op, .int .i64 x.n, .slice da dn dc] 65)) rfl (by intro u hu; simp only [List.mem_cons, List.not_mem_nil, or_false] at hu; rcases hu with rfl | rfl | rfl <;> rfl) (by have := HM.out; omega) (by have := HW3.out; omega) ty) ?_
          intro v2 W3 h3
          obtain ⟨va2, vc2, hv2⟩ := owns_form h3.1
          subst hv2
          have HP4 := hide (HP3.out.grown h3.2.1 (fun b hb => (World.ownsRow.lt HA3.out.own b hb).1))
          have HA4 := hide (HA3.out.app HI3.out (fun b hb => (World.ownsRow.lt HAC.out.own b hb).2) (by have := HPT.out.box.lt; show w.heap.size + 2 ≤ wr.heap.size; omega) h3.1 h3.2.1 h3.2.2)
          clear h3
          have hcF := HP4.out.box.cell 1
          have hfF := HP4.out.box.frozen
          simp only [List.getElem?_cons_zero, List.getElem?_cons_succ] at hcF
          refine hK.out _ _ (by trivial) (fun hHeld4 => ?_)
          clear hK K hHeld3
          try simp only [Act.put, List.getElem_toArray, List.getElem_cons_zero, List.getElem_cons_succ, List.setIfInBounds_toArray, List.set_cons_zero, List.set_cons_succ]
          refine wpAnyH_take (i := 6) (v := ?_) rfl (by kernel_rfl) (by kernel_rfl) (by kernel_rfl) (fun _ _ _ h => h) (Or.inl ⟨by rfl, ?_⟩) hHeld4 ?_
          rotate_left
          · (intro w hSw; (try dsimp only at hSw); go_simp <;> (try with_reducible rfl))
          simp only [Act.put, List.getElem_toArray, List.getElem_cons_zero, List.getElem_cons_succ, List.setIfInBounds_toArray, List.set_cons_zero, List.set_cons_succ]
          refine wpAnyH_ready (rs := [7]) (by kernel_rfl) (by simp) ?_
          refine AllReadyH.cons rfl (fun K hK => ?_) AllReadyH.nil
          go_simp
          refine hK.out _ _ (by trivial) (fun hHeld5 => ?_)
          clear hK K hHeld4
          try simp only [Act.put, List.getElem_toArray, List.getElem_cons_zero, List.getElem_cons_succ, List.setIfInBounds_toArray, List.set_cons_zero, List.set_cons_succ]
          refine wpAnyH_done (by kernel_rfl) ?_ _
          have HP5 := hide (HP4.out.set 1 (.slice va2 (k + 1) vc2))
          have HA5 := hide (HA4.out.but (But.cell W3 (w.heap.size + 1) 1 (.slice va2 (k + 1) vc2)) (by omega))
          clear hcB hcC hcE hcF hfF HP2 HP3 HA2 HA3 HI2 HI3 HP4 HA4
          have hm60 := HM.out
          go_wp2
          go_roundw
          case rel => exact ⟨k + 1, by omega, by go_num, q', L ++ [(x, .slice da dn dc)], va2, vc2, by rw [List.length_append, HLK.out]; exact HP5.out, by rw [List.length_append, HLK.out, opCells_append]; exact HA5.out.map (fun W h => fops_add h.1 ⟨h.2, HBY.out⟩), by rw [opsOf_add, show m - (k + 1) = d from by omega]; exact HLF.out.next HX.out, by rw [List.length_append, HLK.out]; rfl⟩
          case measure => simp [intOf]; omega
        refine AllReadyH.cons rfl (fun K hK => ?_) AllReadyH.nil
        go_simp
        go_wp2_with ((go_at_call 81; refine (HP1.out _ HPT.out.rd.drew).mono ?_; rintro e W1 ⟨da, dn, dc, rfl, hb1, hs1, hi1⟩))
        refine hK.out _ _ (by trivial) (fun hHeld1 => ?_)
        clear hK K hHeld0
        try simp only [Act.put, List.getElem_toArray, List.getElem_cons_zero, List.getElem_cons_succ, List.setIfInBounds_toArray, List.set_cons_zero, List.set_cons_succ]
        have HP2 := hide (HPT.out.drew.call hb1 hs1)
        have HA2 := hide (HAC.out.drew.but hb1 (by have := HPT.out.lt; omega))
        have HI2 := hide hi1
        clear hb1 hs1 hi1
        have hcC := HP2.out.box.cell 1
        simp only [List.getElem?_cons_zero, List.getElem?_cons_succ] at hcC
        refine wpAnyH_ready (rs := [1, 4]) (by kernel_rfl) (by simp) ?_
        refine AllReadyH.cons rfl (fun K hK => ?_) ?_
        ·
          go_simp
          refine hK.out _ _ (by trivial) (fun hHeld2 => ?_)
          clear hK K hHeld1
          try simp only [Act.put, List.getElem_toArray, List.getElem_cons_zero, List.getElem_cons_succ, List.setIfInBounds_toArray, List.set_cons_zero, List.set_cons_succ]
          refine wpAnyH_ready (rs := [4]) (by kernel_rfl) (by simp) ?_
          refine AllReadyH.cons rfl (fun K hK => ?_) AllReadyH.nil
          go_simp
          refine hK.out _ _ (by trivial) (fun hHeld3 => ?_)
          clear hK K hHeld2
          try simp only [Act.put, List.getElem_toArray, List.getElem_cons_zero, List.getElem_cons_succ, List.setIfInBounds_toArray, List.set_cons_zero, List.set_cons_succ]
          have HP3 := hide (HP2.out.alloc (.cells #[.int .i64 x.op, .int .i64 x.n, .slice da dn dc] 65))
          have HA3 := hide (HA2.out.but (But.call (g := R) (below_alloc W1 (.cells #[.int .i64 x.op, .int .i64 x.n, .slice da dn dc] 65))) (by have := HPT.out.lt; omega))
          have HI3 := hide (HI2.out.but (But.call (g := R) (below_alloc W1 (.cells #[.int .i64 x.op, .int .i64 x.n, .slice da dn dc] 65))) (by have := HPT.out.lt; have := HPT.out.box.lt; show R < wr.heap.size; omega))
          have HW3 := hide (Nat.lt_of_lt_of_le HP2.out.box.lt (below_alloc W1 (.cells #[.int .i64 x.op, .int .i64 x.n, .slice da dn dc] 65)).size)
          have hcE := HP3.out.box.cell 1
          simp only [List.getElem?_cons_zero, List.getElem?_cons_succ] at hcE
          refine wpAnyH_ready (rs := [5]) (by kernel_rfl) (by simp) ?_
          refine AllReadyH.cons rfl (fun K hK => ?_) AllReadyH.nil
          refine step_append_by (AppG (W1.alloc (.cells #[.int .i64 x.op, .int .i64 x.n, .slice da dn dc] 65)) (w.heap.size + 2) 65 3 k (.slice va k vc) (opCells L) [.int .i64 x.op, .int .i64 x.n, .slice da dn dc]) rfl (.tmp 12) (.tmp 15) rfl (.slice va k vc) (.slice (some ⟨W1.heap.size, 0, none⟩) 1 1) rfl rfl (fun ty => run_app1 elemOps _ _ _ _ _ [.int .i64 x.op, .int .i64 x.n, .slice da dn dc] HA3.out.own W1.heap.size 1 (is_range (Is.new W1 [.int .i64 x.op, .int .i64 x.n, .slice da dn dc] 65)) rfl (by intro u hu; simp only [List.mem_cons, List.not_mem_nil, or_false] at hu; rcases hu with rfl | rfl | rfl <;> rfl) (by have := HM.out; omega) (by have := HW3.out; omega) ty) ?_
          intro v2 W3 h3
          obtain ⟨va2, vc2, hv2⟩ := owns_form h3.1
          subst hv2
          have HP4 := hide (HP3.out.grown h3.2.1 (fun b hb => (World.ownsRow.lt HA3.out.own b hb).1))
          have HA4 := hide (HA3.out.app HI3.out (fun b hb => (World.ownsRow.lt HAC.out.own b hb).2) (by have := HPT.out.box.lt; show w.heap.size + 2 ≤ wr.heap.size; omega) h3.1 h3.2.1 h3.2.2)
          clear h3
          have hcF := HP4.out.box.cell 1
          have hfF := HP4.out.box.frozen
          simp only [List.getElem?_cons_zero, List.getElem?_cons_succ] at hcF
          refine hK.out _ _ (by trivial) (fun hHeld4 => ?_)
          clear hK K hHeld3
          try simp only [Act.put, List.getElem_toArray, List.getElem_cons_zero, List.getElem_cons_succ, List.setIfInBounds_toArray, List.set_cons_zero, List.set_cons_succ]
          refine wpAnyH_take (i := 6) (v := ?_) rfl (by kernel_rfl) (by kernel_rfl) (by kernel_rfl) (fun _ _ _ h => h) (Or.inl ⟨by rfl, ?_⟩) hHeld4 ?_
          rotate_left
          · (intro w hSw; (try dsimp only at hSw); go_simp <;> (try with_reducible rfl))
          simp only [Act.put, List.getElem_toArray, List.getElem_cons_zero, List.getElem_cons_succ, List.setIfInBounds_toArray, List.set_cons_zero, List.set_cons_succ]
          refine wpAnyH_ready (rs := [7]) (by kernel_rfl) (by simp) ?_
          refine AllReadyH.cons rfl (fun K hK => ?_) AllReadyH.nil
          go_simp
          refine hK.out _ _ (by trivial) (fun hHeld5 => ?_)
          clear hK K hHeld4
          try simp only [Act.put, List.getElem_toArray, List.getElem_cons_zero, List.getElem_cons_succ, List.setIfInBounds_toArray, List.set_cons_zero, List.set_cons_succ]
          refine wpAnyH_done (by kernel_rfl) ?_ _
          have HP5 := hide (HP4.out.set 1 (.slice va2 (k + 1) vc2))
          have HA5 := hide (HA4.out.but (But.cell W3 (w.heap.size + 1) 1 (.slice va2 (k + 1) vc2)) (by omega))
          clear hcB hcC hcE hcF hfF HP2 HP3 HA2 HA3 HI2 HI3 HP4 HA4
          have hm60 := HM.out
          go_wp2
          go_roundw
          case rel => exact ⟨k + 1, by omega, by go_num, q', L ++ [(x, .slice da dn dc)], va2, vc2, by rw [List.length_append, HLK.out]; exact HP5.out, by rw [List.length_append, HLK.out, opCells_append]; exact HA5.out.map (fun W h => fops_add h.1 ⟨h.2, HBY.out⟩), by rw [opsOf_add, show m - (k + 1) = d from by omega]; exact HLF.out.next HX.out, by rw [List.length_append, HLK.out]; rfl⟩
          case measure => simp [intOf]; omega
        refine AllReadyH.cons rfl (fun K hK => ?_) AllReadyH.nil
        go_simp
        refine hK.out _ _ (by trivial) (fun hHeld2 => ?_)
        clear hK K hHeld1
        try simp only [Act.put, List.getElem_toArray, List.getElem_cons_zero, List.getElem_cons_succ, List.setIfInBounds_toArray, List.set_cons_zero, List.set_cons_succ]
        have HP3 := hide (HP2.out.alloc (.cells #[.int .i64 x.op, .int .i64 x.n, .slice da dn dc] 65))
        have HA3 := hide (HA2.out.but (But.call (g := R) (below_alloc W1 (.cells #[.int .i64 x.op, .int .i64 x.n, .slice da dn dc] 65))) (by have := HPT.out.lt; omega))
        have HI3 := hide (HI2.out.but (But.call (g := R) (below_alloc W1 (.cells #[.int .i64 x.op, .int .i64 x.n, .slice da dn dc] 65))) (by have := HPT.out.lt; have := HPT.out.box.lt; show R < wr.heap.size; omega))
        have HW3 := hide (Nat.lt_of_lt_of_le HP2.out.box.lt (below_alloc W1 (.cells #[.int .i64 x.op, .int .i64 x.n, .slice da dn dc] 65)).size)
        have hcE := HP3.out.box.cell 1
        simp only [List.getElem?_cons_zero, List.getElem?_cons_succ] at hcE
        refine wpAnyH_ready (rs := [1]) (by kernel_rfl) (by simp) ?_
        refine AllReadyH.cons rfl (fun K hK => ?_) AllReadyH.nil
        go_simp
        refine hK.out _ _ (by trivial) (fun hHeld3 => ?_)
        clear hK K hHeld2
        try simp only [Act.put, List.getElem_toArray, List.getElem_cons_zero, List.getElem_cons_succ, List.setIfInBounds_toArray, List.set_cons_zero, List.set_cons_succ]
        refine wpAnyH_ready (rs := [5]) (by kernel_rfl) (by simp) ?_
        refine AllReadyH.cons rfl (fun K hK => ?_) AllReadyH.nil
        refine step_append_by (AppG (W1.alloc (.cells #[.int .i64 x.op, .int .i64 x.n, .slice da dn dc] 65)) (w.heap.size + 2) 65 3 k (.slice va k vc) (opCells L) [.int .i64 x.op, .int .i64 x.n, .slice da dn dc]) rfl (.tmp 12) (.tmp 15) rfl (.slice va k vc) (.slice (some ⟨W1.heap.size, 0, none⟩) 1 1) rfl rfl (fun ty => run_app1 elemOps _ _ _ _ _ [.int .i64 x.op, .int .i64 x.n, .slice da dn dc] HA3.out.own W1.heap.size 1 (is_range (Is.new W1 [.int .i64 x.op, .int .i64 x.n, .slice da dn dc] 65)) rfl (by intro u hu; simp only [List.mem_cons, List.not_mem_nil, or_false] at hu; rcases hu with rfl | rfl | rfl <;> rfl) (by have := HM.out; omega) (by have := HW3.out; omega) ty) ?_
        intro v2 W3 h3
        obtain ⟨va2, vc2, hv2⟩ := owns_form h3.1
        subst hv2
        have HP4 := hide (HP3.out.grown h3.2.1 (fun b hb => (World.ownsRow.lt HA3.out.own b hb).1))
        have HA4 := hide (HA3.out.app HI3.out (fun b hb => (World.ownsRow.lt HAC.out.own b hb).2) (by have := HPT.out.box.lt; show w.heap.size + 2 ≤ wr.heap.size; omega) h3.1 h3.2.1 h3.2.2)
        clear h3
        have hcF := HP4.out.box.cell 1
        have hfF := HP4.out.box.frozen
        simp only [List.getElem?_cons_zero, List.getElem?_cons_succ] at hcF
        refine hK.out _ _ (by trivial) (fun hHeld4 => ?_)
        clear hK K hHeld3
        try simp only [Act.put, List.getElem_toArray, List.getElem_cons_zero, List.getElem_cons_succ, List.setIfInBounds_toArray, List.set_cons_zero, List.set_cons_succ]
        refine wpAnyH_take (i := 6) (v := ?_) rfl (by kernel_rfl) (by kernel_rfl) (by kernel_rfl) (fun _ _ _ h => h) (Or.inl ⟨by rfl, ?_⟩) hHeld4 ?_
        rotate_left
        · (intro w hSw; (try dsimp only at hSw); go_simp <;> (try with_reducible rfl))
        simp only [Act.put, List.getElem_toArray, List.getElem_cons_zero, List.getElem_cons_succ, List.setIfInBounds_toArray, List.set_cons_zero, List.set_cons_succ]
        refine wpAnyH_ready (rs := [7]) (by kernel_rfl) (by simp) ?_
        refine AllReadyH.cons rfl (fun K hK => ?_) AllReadyH.nil
        go_simp
        refine hK.out _ _ (by trivial) (fun hHeld5 => ?_)
        clear hK K hHeld4
        try simp only [Act.put, List.getElem_toArray, List.getElem_cons_zero, List.getElem_cons_succ, List.setIfInBounds_toArray, List.set_cons_zero, List.set_cons_succ]
        refine wpAnyH_done (by kernel_rfl) ?_ _
        have HP5 := hide (HP4.out.set 1 (.slice va2 (k + 1) vc2))
        have HA5 := hide (HA4.out.but (But.cell W3 (w.heap.size + 1) 1 (.slice va2 (k + 1) vc2)) (by omega))
        clear hcB hcC hcE hcF hfF HP2 HP3 HA2 HA3 HI2 HI3 HP4 HA4
        have hm60 := HM.out
        go_wp2
        go_roundw
        case rel => exact ⟨k + 1, by omega, by go_num, q', L ++ [(x, .slice da dn dc)], va2, vc2, by rw [List.length_append, HLK.out]; exact HP5.out, by rw [List.length_append, HLK.out, opCells_append]; exact HA5.out.map (fun W h => fops_add h.1 ⟨h.2, HBY.out⟩), by rw [opsOf_add, show m - (k + 1) = d from by omega]; exact HLF.out.next HX.out, by rw [List.length_append, HLK.out]; rfl⟩
        case measure => simp [intOf]; omega
    · have hke : k = m := by omega
      subst hke
      rw [Nat.sub_self] at hlf
      have HEN := hide hlf.end
      have hki : ¬ (k : Int) < (k : Int) := by omega
      clear hpt hac hlf HN HC HPO
      go_wp2_with (first
        | (refine wpList_load_part 57 [.int .i64 x1, .slice va k vc] (w.heap.size + 1) 0 rfl (.tmp 3) rfl rfl (is_range HPT.out.box) Tryz.underlying57 rfl size_out rfl ?_)
        | (refine wpList_store_any3 57 [.int .i64 0, .slice none 0 0] [.int .i64 x1, .slice va k vc] w.heap.size rfl (.tmp 2) (.tmp 19) rfl rfl rfl rfl HPT.out.res size_out rfl rfl (by intro v hv; simp only [List.mem_cons, List.not_mem_nil, or_false] at hv; rcases hv with rfl | rfl <;> rfl) ?_; intro w9 hi9 hw9; have hbr : But w.heap.size wr w9 := (by rw [hw9]; exact But.row wr w.heap.size _); clear hw9))
      have hdn := HPT.out.done (hbr.under (by have := HPT.out.res.lt; omega) (Nat.le_refl _))
      have hit := ((HAC.out.itm.but hbr (by omega)).mono (by omega : w.heap.size ≤ w.heap.size + 2)).map (G := fun W => HasOps W (.slice va k vc) L) (fun W h => row_hasOps (by rw [HLK.out]; exact h.1) h.2)
      exact bodyPost_ret (v := .agg #[.int .i64 x1, .slice va k vc]) (results_cell1 Tryz.results70 rfl (hi9.loadS Tryz.underlying57 (by kernel_rfl))) rfl ⟨hdn.1, by unfold Tm.outR; rw [HE1.out, Option.bind_some, HE2.out, Option.bind_some, HEN.out]; exact ⟨_, rfl, ⟨⟨x1, .slice va k vc, L⟩, rfl, rfl, hit⟩, hdn.2⟩⟩
end Go.Proofs.YtbdnbjemocjlaaaGreatDoor

/- tx's reader: many cells of a box stored; what an in's box holds. -/
namespace Go.Proofs.YtbdnbjemocjlaaaGreatDoor
open Go.RowKit
set_option linter.unusedVariables false
set_option linter.unusedSimpArgs false

theorem is_cells {b : Nat} {t : TypeId} : ∀ (cs : List Value) (off : Nat) (c : List Value) (w : World), Is w b c t → off + cs.length ≤ c.length → Is (w.setCells b off cs) b (c.take off ++ cs ++ c.drop (off + cs.length)) t
  | [], off, c, w, h, _ => by
    simp only [List.append_nil, List.length_nil, Nat.add_zero, List.take_append_drop]
    exact h
  | v :: r, off, c, w, h, hl => by
    rw [List.length_cons] at hl
    have h2 := is_cells r (off + 1) (c.set off v) _ (h.set off v) (by rw [List.length_set]; omega)
    have e : (c.set off v).take (off + 1) ++ r ++ (c.set off v).drop (off + 1 + r.length) = c.take off ++ (v :: r) ++ c.drop (off + (v :: r).length) := by
      rw [List.drop_set_of_lt (by omega), List.length_cons, show off + 1 + r.length = off + (r.length + 1) by omega]
      congr 1
      rw [List.take_succ_eq_append_getElem (by rw [List.length_set]; omega), List.getElem_set_self, List.take_set_of_le (Nat.le_refl _)]
      simp
    rw [e] at h2
    exact h2
theorem is_there {w : World} {b : Nat} {c : List Value} {t : TypeId} (h : Is w b c t) (off : Nat) {n : Nat} (hn : off + n ≤ c.length) : w.there b off n := fun j hj => by
  rw [h.cell, h.frozen, List.getElem?_eq_getElem (by omega)]
  exact ⟨rfl, rfl⟩
theorem pts_cells {w0 w : World} {R : Nat} {bv : Value} {l : List Int} {t : TypeId} {z : List Value} {q : Nat} : ∀ (cs : List Value) (off : Nat) (c : List Value) (W : World), PtS w0 w R bv l t z q c W → ∃ c', PtS w0 w R bv l t z q c' (W.setCells (w.heap.size + 1) off cs)
  | [], off, c, W, h => ⟨c, h⟩
  | v :: r, off, c, W, h => pts_cells r (off + 1) _ _ (h.set off v)
theorem PtS.cells {w0 w W : World} {R : Nat} {bv : Value} {l : List Int} {t : TypeId} {z c : List Value} {q : Nat} (h : PtS w0 w R bv l t z q c W) (cs : List Value) (off : Nat) (hl : off + cs.length ≤ c.length) : PtS w0 w R bv l t z q (c.take off ++ cs ++ c.drop (off + cs.length)) (W.setCells (w.heap.size + 1) off cs) := by
  obtain ⟨c', h2⟩ := pts_cells cs off c W h
  exact ⟨h2.rd, h2.lt, h2.but, h2.res, is_cells cs off c W h.box hl⟩
/-- A whole value into the midst of a box. -/
theorem wpList_store_part (t : TypeId) (c cs : List Value) (b off : Nat) {m : Nat} {tb : TypeId} {w : World} {ops : Array Oper} {rest : List Oper} {o : Oper} {a : Act} {Q : Exit → Act → World → Prop} (hgd : o.guard = none) (s x : Operand) (ho : o.op = .store t s x) (hs : a.eval s = .pointer (some ⟨b, off, none⟩)) (hx : a.eval x = .agg cs.toArray) (hd : o.dst = none)
    (hi : Is w b c tb) (hz : Sized t m) (hc : cs.length = m) (hl : off + m ≤ c.length) (h1 : ∀ v ∈ cs, v.oneCell' = true)
    (h : wpList Tryz.prog ops Q rest a (w.setCells b off cs)) : wpList Tryz.prog ops Q (o :: rest) a w := by
  refine wpList_store_mid hgd t s x ho b off cs.toArray hs hx (is_there hi off (by rw [List.size_toArray, hc]; exact hl)) (by rw [List.size_toArray, hc]; exact hz) (all_oneCell_toArray h1) ?_
  rw [hd]
  exact h
theorem in_set0 (Z V : List Value) (a v : Value) (hz : Z.length = 32) (hV : V.length = 32) : (Z ++ [a, v]).take 0 ++ V ++ (Z ++ [a, v]).drop (0 + V.length) = V ++ [a, v] := by
  rw [List.take_zero, List.nil_append, Nat.zero_add, hV, ← hz, List.drop_left]
theorem in_set32 (V : List Value) (a v x : Value) (hV : V.length = 32) : (V ++ [a, v]).set 32 x = V ++ [x, v] := by
  rw [← hV, List.set_append_right _ _ (Nat.le_refl _), Nat.sub_self]; rfl
theorem in_set33 (V : List Value) (a v x : Value) (hV : V.length = 32) : (V ++ [a, v]).set 33 x = V ++ [a, x] := by
  rw [show 33 = V.length + 1 by omega, List.set_append_right _ _ (by omega), show V.length + 1 - V.length = 1 by omega]; rfl
theorem in_get32 (V : List Value) (a v : Value) (hV : V.length = 32) : (V ++ [a, v])[32]? = some a := by
  rw [List.getElem?_append_right (by omega), hV]; rfl
theorem in_get33 (V : List Value) (a v : Value) (hV : V.length = 32) : (V ++ [a, v])[33]? = some v := by
  rw [List.getElem?_append_right (by omega), hV]; rfl
theorem in_one (D : List Int) (x : Int) (a : Option Addr) (n c : Nat) : ∀ v ∈ vals D ++ [.int .i64 x, .slice a n c], v.oneCell' = true := by
  intro v hv
  rcases List.mem_append.1 hv with hv | hv
  · exact vals_one _ v hv
  · simp only [List.mem_cons, List.not_mem_nil, or_false] at hv
    rcases hv with rfl | rfl <;> rfl
theorem elemKeys : Elem 52 26 1 := elem_of (.slice none 0 0) 24 Tryz.underlying52 (by kernel_rfl) (by omega) rfl (by omega)
/-- Keys of one's own, their bytes told. -/
def FKeys (K : List (List Int × Value)) (W : World) : Prop := ∀ p ∈ K, Has W p.2 p.1 ∧ Sz.Byt p.1
theorem fkeys_add {K : List (List Int × Value)} {p : List Int × Value} {W : World} (h : FKeys K W) (hp : Has W p.2 p.1 ∧ Sz.Byt p.1) : FKeys (K ++ [p]) W := by
  intro x hx
  rcases List.mem_append.1 hx with hx | hx
  · exact h x hx
  · rw [List.mem_singleton.1 hx]; exact hp
theorem row_hasKeys {W : World} {base : Nat} {v : Value} {K : List (List Int × Value)} (h : W.ownsRow base 26 1 v K.length (K.map Prod.snd)) (hd : FKeys K W) : HasKeys W v K := by
  refine ⟨?_, hd⟩
  by_cases h0 : K.length = 0
  · have hK := List.eq_nil_of_length_eq_zero h0
    subst hK
    rcases h.2 with ⟨rfl, _⟩ | ⟨g, cap, cur, rfl, _, _, hn, hc, _⟩
    · exact .inl ⟨none, 0, rfl, rfl, Nat.zero_le _⟩
    · exact .inl ⟨_, cap, rfl, rfl, hc⟩
  · obtain ⟨g, cap, rfl, _, h2, h3, h4, hr⟩ := owns_some h (by omega)
    exact .inr ⟨g, 0, cap, rfl, by omega, h3, h4, h2, hr⟩
end Go.Proofs.YtbdnbjemocjlaaaGreatDoor

/- tx's reader: an in. -/
namespace Go.Proofs.YtbdnbjemocjlaaaGreatDoor
open Go.RowKit
set_option linter.unusedVariables false
set_option linter.unusedSimpArgs false

set_option maxRecDepth 100000 in
set_option maxHeartbeats 8000000 in
theorem pin_any (w0 : World) (R : Nat) (bv : Value) (l : List Int) (p : Nat) (w : World) (hs : RdS w0 R bv l p w) (hl : Has w0 bv l) (hbt : Sz.Byt l) (hbig : l.length ≤ 180000000000000) (hp : p ≤ l.length) :
    Calls Tryz.prog 69 #[.pointer (some ⟨R, 0, none⟩)] w fun e w' => ReadsSo w0 R bv l w (Tm.inR l p) (fun x v W => ∃ X : InV, v = .agg (inCell X).toArray ∧ X.it = x ∧ X.tx.length = 32 ∧ Sz.Byt X.tx ∧ Itm w.heap.size W (fun W => HasKeys W X.kv X.K)) e w' := by
  have hzi := zero_in
  obtain ⟨Y, hY⟩ : ∃ Y, Y = vals (List.replicate 32 0) ++ ([.int .i64 0, .slice none 0 0] : List Value) := ⟨_, rfl⟩
  rw [← hY] at hzi
  have hYl : Y.length = 34 := by rw [hY]; simp [vals]
  have hYp : ¬ Y = [] := by intro h; rw [h] at hYl; cases hYl
  have HYL := hide hYl
  have HN := hide (fun q W (hW : RdS w0 R bv l q W) => pnumber_any w0 R bv l q W hW hl hbt)
  have HC := hide (fun q W (hW : RdS w0 R bv l q W) => pcount_any w0 R bv l q 30 W hW hl hbt)
  have HPK := hide (fun q W (hW : RdS w0 R bv l q W) => ppacked_any w0 R bv l q W hW hl hbt hbig)
  have HBT := hide hbt
  have HS0 := hide (PtS.start hs 54 Y)
  have HDG := hide (pdigest_any w0 R bv l p _ HS0.out.rd hl hp)
  have HY := hide hY
  clear hs hl hbt hbig hp hY hYl
  go_enter Tryz.func69, Tryz.ntmps69
  go_wp2_with fail
  refine HDG.out.mono ?_
  rintro e w1 ⟨hb1, hm1⟩
  have HB1 := hide hb1
  cases h1 : Tm.dig l p with
  | none =>
    rw [h1] at hm1
    subst hm1
    exact ⟨rfl, HS0.out.but.trans HB1.out, by unfold Tm.inR; rw [h1]; rfl⟩
  | some x1 =>
  rw [h1] at hm1
  obtain ⟨v1, rfl, rfl, hs1⟩ := hm1
  obtain ⟨D, q1⟩ := x1
  have hdok := (Tm.dig_sound l HBT.out p D q1 h1).2.2.2
  have HDB := hide hdok
  have HE1 := hide h1
  have HVL : Hid ((vals D).length = 32) := hide (by rw [vals_length]; exact hdok.1)
  have HS1 := hide (HS0.out.call HB1.out hs1)
  have HS2 : Hid (PtS w0 w R bv l 54 Y q1 (vals D ++ [.int .i64 0, .slice none 0 0]) (w1.setCells (w.heap.size + 1) 0 (vals D))) := hide (by
    have h := HS1.out.cells (vals D) 0 (by rw [HVL.out, HYL.out]; omega)
    have e : Y.take 0 ++ vals D ++ Y.drop (0 + (vals D).length) = vals D ++ [.int .i64 0, .slice none 0 0] := by rw [HY.out]; exact in_set0 _ _ _ _ (by simp [vals]) HVL.out
    rw [e] at h
    exact h)
  clear h1 hs1 hb1 HB1 hdok HDG
  go_wp2_with (first
    | (refine wpList_store_part 34 Y (vals D) (w.heap.size + 1) 0 rfl (.tmp 7) (.tmp 5) rfl rfl rfl rfl HS1.out.box size_dig HVL.out (by rw [HYL.out]; omega) (vals_one _) ?_))
  refine (HN.out q1 _ HS2.out.rd).mono ?_
  rintro e w2 ⟨hb2, hm2⟩
  have HB2 := hide hb2
  cases h2 : Tm.num l q1 with
  | none =>
    rw [h2] at hm2
    subst hm2
    exact ⟨rfl, HS2.out.but.trans HB2.out, by unfold Tm.inR; rw [HE1.out, Option.bind_some, h2]; rfl⟩
  | some x2 =>
  rw [h2] at hm2
  obtain ⟨v2, rfl, rfl, hs2⟩ := hm2
  obtain ⟨x2, q2⟩ := x2
  have HE2 := hide h2
  have HS3 := hide (HS2.out.call HB2.out hs2)
  clear h2 hs2 hb2 HB2
  have hc1 := HS3.out.box.cell 32
  have hf1 := HS3.out.box.frozen
  rw [in_get32 _ _ _ HVL.out] at hc1
  have HS4 : Hid (PtS w0 w R bv l 54 Y q2 (vals D ++ [.int .i64 x2, .slice none 0 0]) (w2.setCell ⟨w.heap.size + 1, 32, none⟩ (.int .i64 x2))) := hide (by
    have h := HS3.out.set 32 (.int .i64 x2)
    rw [in_set32 _ _ _ _ HVL.out] at h
    exact h)
  go_wp2_with fail
  refine (HC.out q2 _ HS4.out.rd).mono ?_
  rintro e w3 ⟨hb3, hm3⟩
  have HB3 := hide hb3
  cases h3 : Tm.cnt 30 l q2 with
  | none =>
    rw [h3] at hm3
    subst hm3
    exact ⟨rfl, HS4.out.but.trans HB3.out, by unfold Tm.inR; rw [HE1.out, Option.bind_some, HE2.out, Option.bind_some, h3]; rfl⟩
  | some x3 =>
  rw [h3] at hm3
  obtain ⟨v3, rfl, rfl, hs3⟩ := hm3
  obtain ⟨m, q3⟩ := x3
  have HM : Hid (m ≤ 30) := hide (cnt_le h3)
  have HE3 := hide h3
  have HS5 := hide (HS4.out.call HB3.out hs3)
  clear h3 hs3 hb3 HB3 hc1 hf1 HS0 HS1 HS2 HS3 HS4
  go_wp2
  go_loopw [14] (fun i wr => ∃ k : Nat, k ≤ m ∧ i = .int .i64 k ∧ ∃ (q : Nat) (KK : List (List Int × Value)) (va : Option Addr) (vc : Nat), PtS w0 w R bv l 54 Y q (vals D ++ [.int .i64 x2, .slice va KK.length vc]) wr ∧ Acc wr (w.heap.size + 2) 26 1 KK.length (.slice va KK.length vc) (KK.map Prod.snd) (FKeys KK) ∧ Todo (Tm.thing l) (Tm.rep (Tm.thing l) m q3) (KK.map Prod.fst) (m - k) q ∧ KK.length = k) (fun i _ => m - (intOf i).toNat)
  case atStart => exact ⟨0, by omega, rfl, q3, [], none, 0, HS5.out, Acc.nil _ _ _ _ (fun W p hp => by cases hp), Todo.start _ _ _, rfl⟩
  case round =>
    obtain ⟨k, hk, rfl, q, KK, va, vc, hpt, hac, hlf, hLk⟩ := hrel
    have HLK := hide hLk
    rw [hLk] at hpt hac
    have HPT := hide hpt
    have HAC := hide hac
    clear hLk
    by_cases hlt : k < m
    · obtain ⟨d, hd⟩ : ∃ d, m - k = d + 1 := ⟨m - k - 1, by omega⟩
      rw [hd] at hlf
      have HLF := hide hlf
      have hki : (k : Int) < (m : Int) := by omega
      have hcA := HPT.out.box.cell 33
      rw [in_get33 _ _ _ HVL.out] at hcA
      have hcB : wr.drew.cell? ⟨w.heap.size + 1, 33, none⟩ = some (.slice va k vc) := hcA
      clear hpt hac hlf hcA
      cases hx : Tm.thing l q with
      | none =>
        have HP1 : Hid (∀ W, RdS w0 R bv l q W → Calls Tryz.prog 80 #[.pointer (some ⟨R, 0, none⟩)] W fun e w' => But R W w' ∧ e = .panicked panNo) := hide (fun W hW => by have := HPK.out q W hW; rw [hx] at this; exact this)
        have HX := hide hx
        clear hx
        go_wp2_with fail
        refine wp_region_held_drew (S := fun _ : World => True) (by kernel_rfl) ?_ (fun hHeld0 => ?_)
        · trivial
        refine wpAnyH_take (i := 0) (v := ?_) rfl (by kernel_rfl) (by kernel_rfl) (by kernel_rfl) (fun _ _ _ h => h) (Or.inl ⟨by rfl, ?_⟩) hHeld0 ?_
        rotate_left
        · (intro w hSw; (try dsimp only at hSw); go_simp <;> (try with_reducible rfl))
        simp only [Act.put, List.getElem_toArray, List.getElem_cons_zero, List.getElem_cons_succ, List.setIfInBounds_toArray, List.set_cons_zero, List.set_cons_succ]
        refine wpAnyH_take (i := 2) (v := ?_) rfl (by kernel_rfl) (by kernel_rfl) (by kernel_rfl) (fun _ _ _ h => h) (Or.inl ⟨by rfl, ?_⟩) hHeld0 ?_
        rotate_left
        · (intro w hSw; (try dsimp only at hSw); go_simp <;> (try with_reducible rfl))
        simp only [Act.put, List.getElem_toArray, List.getElem_cons_zero, List.getElem_cons_succ, List.setIfInBounds_toArray, List.set_cons_zero, List.set_cons_succ]
        refine wpAnyH_ready (rs := [1, 3]) (by kernel_rfl) (by simp) ?_
        refine AllReadyH.cons rfl (fun K hK => ?_) ?_
        ·
          go_simp
          refine hK.out _ _ (by trivial) (fun hHeld1 => ?_)
          clear hK K hHeld0
          try simp only [Act.put, List.getElem_toArray, List.getElem_cons_zero, List.getElem_cons_succ, List.setIfInBounds_toArray, List.set_cons_zero, List.set_cons_succ]
          refine wpAnyH_ready (rs := [3]) (by kernel_rfl) (by simp) ?_
          refine AllReadyH.cons rfl (fun K hK => ?_) AllReadyH.nil
          go_simp
          go_wp2_with ((go_at_call 80; refine (HP1.out _ HPT.out.rd.drew).mono ?_; rintro e W1 ⟨hb1, rfl⟩))
          exact ⟨rfl, HPT.out.drew.but.trans hb1, by unfold Tm.inR; rw [HE1.out, Option.bind_some, HE2.out, Option.bind_some, HE3.out, Option.bind_some, HLF.out.stop HX.out]; rfl⟩
        refine AllReadyH.cons rfl (fun K hK => ?_) AllReadyH.nil
        go_simp
        go_wp2_with ((go_at_call 80; refine (HP1.out _ HPT.out.rd.drew).mono ?_; rintro e W1 ⟨hb1, rfl⟩))
        exact ⟨rfl, HPT.out.drew.but.trans hb1, by unfold Tm.inR; rw [HE1.out, Option.bind_some, HE2.out, Option.bind_some, HE3.out, Option.bind_some, HLF.out.stop HX.out]; rfl⟩
      | some xx =>
        obtain ⟨x, q'⟩ := xx
        have HP1 : Hid (∀ W, RdS w0 R bv l q W → Calls Tryz.prog 80 #[.pointer (some ⟨R, 0, none⟩)] W fun e w' => ∃ da dn dc, e = .returned (.slice da dn dc) ∧ But R W w' ∧ RdS w0 R bv l q' w' ∧ Itm W.heap.size w' (fun W => Has W (.slice da dn dc) x)) := hide (fun W hW => by
          have := HPK.out q W hW
          rw [hx] at this
          refine this.mono ?_
          rintro e w' ⟨hb, v, rfl, ho, hs⟩
          obtain ⟨da, dc, rfl, _, _⟩ := Own.form ho
          exact ⟨da, _, dc, rfl, hb, hs, (row_itm ho).map (fun W h => Own.has h)⟩)
        have HX := hide hx
        have HBY := hide (Tm.thing_sound l HBT.out q x q' hx).2.2.2.2
        clear hx
        go_wp2_with fail
        refine wp_region_held_drew (S := fun _ : World => True) (by kernel_rfl) ?_ (fun hHeld0 => ?_)
        · trivial
        refine wpAnyH_take (i := 0) (v := ?_) rfl (by kernel_rfl) (by kernel_rfl) (by kernel_rfl) (fun _ _ _ h => h) (Or.inl ⟨by rfl, ?_⟩) hHeld0 ?_
        rotate_left
        · (intro w hSw; (try dsimp only at hSw); go_simp <;> (try with_reducible rfl))
        simp only [Act.put, List.getElem_toArray, List.getElem_cons_zero, List.getElem_cons_succ, List.setIfInBounds_toArray, List.set_cons_zero, List.set_cons_succ]
        refine wpAnyH_take (i := 2) (v := ?_) rfl (by kernel_rfl) (by kernel_rfl) (by kernel_rfl) (fun _ _ _ h => h) (Or.inl ⟨by rfl, ?_⟩) hHeld0 ?_
        rotate_left
        · (intro w hSw; (try dsimp only at hSw); go_simp <;> (try with_reducible rfl))
        simp only [Act.put, List.getElem_toArray, List.getElem_cons_zero, List.getElem_cons_succ, List.setIfInBounds_toArray, List.set_cons_zero, List.set_cons_succ]
        refine wpAnyH_ready (rs := [1, 3]) (by kernel_rfl) (by simp) ?_
        refine AllReadyH.cons rfl (fun K hK => ?_) ?_
        ·
          go_simp
          refine hK.out _ _ (by trivial) (fun hHeld1 => ?_)
          clear hK K hHeld0
          try simp only [Act.put, List.getElem_toArray, List.getElem_cons_zero, List.getElem_cons_succ, List.setIfInBounds_toArray, List.set_cons_zero, List.set_cons_succ]
          refine wpAnyH_ready (rs := [3]) (by kernel_rfl) (by simp) ?_
          refine AllReadyH.cons rfl (fun K hK => ?_) AllReadyH.nil
          go_simp
          go_wp2_with ((go_at_call 80; refine (HP1.out _ HPT.out.rd.drew).mono ?_; rintro e W1 ⟨da, dn, dc, rfl, hb1, hs1, hi1⟩))
          refine hK.out _ _ (by trivial) (fun hHeld2 => ?_)
          clear hK K hHeld1
          try simp only [Act.put, List.getElem_toArray, List.getElem_cons_zero, List.getElem_cons_succ, List.setIfInBounds_toArray, List.set_cons_zero, List.set_cons_succ]
          have HP2 := hide (HPT.out.drew.call hb1 hs1)
          have HA2 := hide (HAC.out.drew.but hb1 (by have := HPT.out.lt; omega))
          have HI2 := hide hi1
          clear hb1 hs1 hi1
          have hcC := HP2.out.box.cell 33
          rw [in_get33 _ _ _ HVL.out] at hcC
          refine wpAnyH_ready (rs := [4]) (by kernel_rfl) (by simp) ?_
          refine AllReadyH.cons rfl (fun K hK => ?_) AllReadyH.nil
          go_simp
          refine hK.out _ _ (by trivial) (fun hHeld3 => ?_)
          clear hK K hHeld2
          try simp only [Act.put, List.getElem_toArray, List.getElem_cons_zero, List.getElem_cons_succ, List.setIfInBounds_toArray, List.set_cons_zero, List.set_cons_succ]
          have HP3 := hide (HP2.out.alloc (.cells #[.slice da dn dc] 26))
          have HA3 := hide (HA2.out.but (But.call (g := R) (below_alloc W1 (.cells #[.slice da dn dc] 26))) (by have := HPT.out.lt; omega))
          have HI3 := hide (HI2.out.but (But.call (g := R) (below_alloc W1 (.cells #[.slice da dn dc] 26))) (by have := HPT.out.lt; have := HPT.out.box.lt; show R < wr.heap.size; omega))
          have HW3 := hide (Nat.lt_of_lt_of_le HP2.out.box.lt (below_alloc W1 (.cells #[.slice da dn dc] 26)).size)
          have hcE := HP3.out.box.cell 33
          rw [in_get33 _ _ _ HVL.out] at hcE
          refine wpAnyH_ready (rs := [5]) (by kernel_rfl) (by simp) ?_
          refine AllReadyH.cons rfl (fun K hK => ?_) AllReadyH.nil
          refine step_append_by (AppG (W1.alloc (.cells #[.slice da dn dc] 26)) (w.heap.size + 2) 26 1 k (.slice va k vc) (KK.map Prod.snd) [.slice da dn dc]) rfl (.tmp 17) (.tmp 20) rfl (.slice va k vc) (.slice (some ⟨W1.heap.size, 0, none⟩) 1 1) rfl rfl (fun ty => run_app1 elemKeys _ _ _ _ _ [.slice da dn dc] HA3.out.own W1.heap.size 1 (is_range (Is.new W1 [.slice da dn dc] 26)) rfl (by intro u hu; simp only [List.mem_cons, List.not_mem_nil, or_false] at hu; subst hu; rfl) (by have := HM.out; omega) (by have := HW3.out; omega) ty) ?_
          intro v2 W3 h3
          obtain ⟨va2, vc2, hv2⟩ := owns_form h3.1
          subst hv2
          have HP4 := hide (HP3.out.grown h3.2.1 (fun b hb => (World.ownsRow.lt HA3.out.own b hb).1))
          have HA4 := hide (HA3.out.app HI3.out (fun b hb => (World.ownsRow.lt HAC.out.own b hb).2) (by have := HPT.out.box.lt; show w.heap.size + 2 ≤ wr.heap.size; omega) h3.1 h3.2.1 h3.2.2)
          clear h3
          have hcF := HP4.out.box.cell 33
          have hfF := HP4.out.box.frozen
          rw [in_get33 _ _ _ HVL.out] at hcF
          refine hK.out _ _ (by trivial) (fun hHeld4 => ?_)
          clear hK K hHeld3
          try simp only [Act.put, List.getElem_toArray, List.getElem_cons_zero, List.getElem_cons_succ, List.setIfInBounds_toArray, List.set_cons_zero, List.set_cons_succ]
          refine wpAnyH_take (i := 6) (v := ?_) rfl (by kernel_rfl) (by kernel_rfl) (by kernel_rfl) (fun _ _ _ h => h) (Or.inl ⟨by rfl, ?_⟩) hHeld4 ?_
          rotate_left
          · (intro w hSw; (try dsimp only at hSw); go_simp <;> (try with_reducible rfl))
          simp only [Act.put, List.getElem_toArray, List.getElem_cons_zero, List.getElem_cons_succ, List.setIfInBounds_toArray, List.set_cons_zero, List.set_cons_succ]
          refine wpAnyH_ready (rs := [7]) (by kernel_rfl) (by simp) ?_
          refine AllReadyH.cons rfl (fun K hK => ?_) AllReadyH.nil
          go_simp
          refine hK.out _ _ (by trivial) (fun hHeld5 => ?_)
          clear hK K hHeld4
          try simp only [Act.put, List.getElem_toArray, List.getElem_cons_zero, List.getElem_cons_succ, List.setIfInBounds_toArray, List.set_cons_zero, List.set_cons_succ]
          refine wpAnyH_done (by kernel_rfl) ?_ _
          have HP5 := hide (HP4.out.set 33 (.slice va2 (k + 1) vc2))
          have HA5 := hide (HA4.out.but (But.cell W3 (w.heap.size + 1) 33 (.slice va2 (k + 1) vc2)) (by omega))
          clear hcB hcC hcE hcF hfF HP2 HP3 HA2 HA3 HI2 HI3 HP4 HA4
          have hm60 := HM.out
          go_wp2
          go_roundw
          case rel => exact ⟨k + 1, by omega, by go_num, q', KK ++ [(x, .slice da dn dc)], va2, vc2, by rw [List.length_append, HLK.out]; have := HP5.out; rw [in_set33 _ _ _ _ HVL.out] at this; exact this, by rw [List.length_append, HLK.out, List.map_append]; exact HA5.out.map (fun W h => fkeys_add (p := (x, .slice da dn dc)) h.1 ⟨h.2, HBY.out⟩), by rw [List.map_append, show m - (k + 1) = d from by omega]; exact HLF.out.next HX.out, by rw [List.length_append, HLK.out]; rfl⟩
          case measure => simp [intOf]; omega
        refine AllReadyH.cons rfl (fun K hK => ?_) AllReadyH.nil
        go_simp
        go_wp2_with ((go_at_call 80; refine (HP1.out _ HPT.out.rd.drew).mono ?_; rintro e W1 ⟨da, dn, dc, rfl, hb1, hs1, hi1⟩))
        refine hK.out _ _ (by trivial) (fun hHeld1 => ?_)
        clear hK K hHeld0
        try simp only [Act.put, List.getElem_toArray, List.getElem_cons_zero, List.getElem_cons_succ, List.setIfInBounds_toArray, List.set_cons_zero, List.set_cons_succ]
        have HP2 := hide (HPT.out.drew.call hb1 hs1)
        have HA2 := hide (HAC.out.drew.but hb1 (by have := HPT.out.lt; omega))
        have HI2 := hide hi1
        clear hb1 hs1 hi1
        have hcC := HP2.out.box.cell 33
        rw [in_get33 _ _ _ HVL.out] at hcC
        refine wpAnyH_ready (rs := [1, 4]) (by kernel_rfl) (by simp) ?_
        refine AllReadyH.cons rfl (fun K hK => ?_) ?_
        ·
          go_simp
          refine hK.out _ _ (by trivial) (fun hHeld2 => ?_)
          clear hK K hHeld1
          try simp only [Act.put, List.getElem_toArray, List.getElem_cons_zero, List.getElem_cons_succ, List.setIfInBounds_toArray, List.set_cons_zero, List.set_cons_succ]
          refine wpAnyH_ready (rs := [4]) (by kernel_rfl) (by simp) ?_
          refine AllReadyH.cons rfl (fun K hK => ?_) AllReadyH.nil
          go_simp
          refine hK.out _ _ (by trivial) (fun hHeld3 => ?_)
          clear hK K hHeld2
          try simp only [Act.put, List.getElem_toArray, List.getElem_cons_zero, List.getElem_cons_succ, List.setIfInBounds_toArray, List.set_cons_zero, List.set_cons_succ]
          have HP3 := hide (HP2.out.alloc (.cells #[.slice da dn dc] 26))
          have HA3 := hide (HA2.out.but (But.call (g := R) (below_alloc W1 (.cells #[.slice da dn dc] 26))) (by have := HPT.out.lt; omega))
          have HI3 := hide (HI2.out.but (But.call (g := R) (below_alloc W1 (.cells #[.slice da dn dc] 26))) (by have := HPT.out.lt; have := HPT.out.box.lt; show R < wr.heap.size; omega))
          have HW3 := hide (Nat.lt_of_lt_of_le HP2.out.box.lt (below_alloc W1 (.cells #[.slice da dn dc] 26)).size)
          have hcE := HP3.out.box.cell 33
          rw [in_get33 _ _ _ HVL.out] at hcE
          refine wpAnyH_ready (rs := [5]) (by kernel_rfl) (by simp) ?_
          refine AllReadyH.cons rfl (fun K hK => ?_) AllReadyH.nil
          refine step_append_by (AppG (W1.alloc (.cells #[.slice da dn dc] 26)) (w.heap.size + 2) 26 1 k (.slice va k vc) (KK.map Prod.snd) [.slice da dn dc]) rfl (.tmp 17) (.tmp 20) rfl (.slice va k vc) (.slice (some ⟨W1.heap.size, 0, none⟩) 1 1) rfl rfl (fun ty => run_app1 elemKeys _ _ _ _ _ [.slice da dn dc] HA3.out.own W1.heap.size 1 (is_range (Is.new W1 [.slice da dn dc] 26)) rfl (by intro u hu; simp only [List.mem_cons, List.not_mem_nil, or_false] at hu; subst hu; rfl) (by have := HM.out; omega) (by have := HW3.out; omega) ty) ?_
          intro v2 W3 h3
          obtain ⟨va2, vc2, hv2⟩ := owns_form h3.1
          subst hv2
          have HP4 := hide (HP3.out.grown h3.2.1 (fun b hb => (World.ownsRow.lt HA3.out.own b hb).1))
          have HA4 := hide (HA3.out.app HI3.out (fun b hb => (World.ownsRow.lt HAC.out.own b hb).2) (by have := HPT.out.box.lt; show w.heap.size + 2 ≤ wr.heap.size; omega) h3.1 h3.2.1 h3.2.2)
          clear h3
          have hcF := HP4.out.box.cell 33
          have hfF := HP4.out.box.frozen
          rw [in_get33 _ _ _ HVL.out] at hcF
          refine hK.out _ _ (by trivial) (fun hHeld4 => ?_)
          clear hK K hHeld3
          try simp only [Act.put, List.getElem_toArray, List.getElem_cons_zero, List.getElem_cons_succ, List.setIfInBounds_toArray, List.set_cons_zero, List.set_cons_succ]
          refine wpAnyH_take (i := 6) (v := ?_) rfl (by kernel_rfl) (by kernel_rfl) (by kernel_rfl) (fun _ _ _ h => h) (Or.inl ⟨by rfl, ?_⟩) hHeld4 ?_
          rotate_left
          · (intro w hSw; (try dsimp only at hSw); go_simp <;> (try with_reducible rfl))
          simp only [Act.put, List.getElem_toArray, List.getElem_cons_zero, List.getElem_cons_succ, List.setIfInBounds_toArray, List.set_cons_zero, List.set_cons_succ]
          refine wpAnyH_ready (rs := [7]) (by kernel_rfl) (by simp) ?_
          refine AllReadyH.cons rfl (fun K hK => ?_) AllReadyH.nil
          go_simp
          refine hK.out _ _ (by trivial) (fun hHeld5 => ?_)
          clear hK K hHeld4
          try simp only [Act.put, List.getElem_toArray, List.getElem_cons_zero, List.getElem_cons_succ, List.setIfInBounds_toArray, List.set_cons_zero, List.set_cons_succ]
          refine wpAnyH_done (by kernel_rfl) ?_ _
          have HP5 := hide (HP4.out.set 33 (.slice va2 (k + 1) vc2))
          have HA5 := hide (HA4.out.but (But.cell W3 (w.heap.size + 1) 33 (.slice va2 (k + 1) vc2)) (by omega))
          clear hcB hcC hcE hcF hfF HP2 HP3 HA2 HA3 HI2 HI3 HP4 HA4
          have hm60 := HM.out
          go_wp2
          go_roundw
          case rel => exact ⟨k + 1, by omega, by go_num, q', KK ++ [(x, .slice da dn dc)], va2, vc2, by rw [List.length_append, HLK.out]; have := HP5.out; rw [in_set33 _ _ _ _ HVL.out] at this; exact this, by rw [List.length_append, HLK.out, List.map_append]; exact HA5.out.map (fun W h => fkeys_add (p := (x, .slice da dn dc)) h.1 ⟨h.2, HBY.out⟩), by rw [List.map_append, show m - (k + 1) = d from by omega]; exact HLF.out.next HX.out, by rw [List.length_append, HLK.out]; rfl⟩
          case measure => simp [intOf]; omega
        refine AllReadyH.cons rfl (fun K hK => ?_) AllReadyH.nil
        go_simp
        refine hK.out _ _ (by trivial) (fun hHeld2 => ?_)
        clear hK K hHeld1
        try simp only [Act.put, List.getElem_toArray, List.getElem_cons_zero, List.getElem_cons_succ, List.setIfInBounds_toArray, List.set_cons_zero, List.set_cons_succ]
        have HP3 := hide (HP2.out.alloc (.cells #[.slice da dn dc] 26))
        have HA3 := hide (HA2.out.but (But.call (g := R) (below_alloc W1 (.cells #[.slice da dn dc] 26))) (by have := HPT.out.lt; omega))
        have HI3 := hide (HI2.out.but (But.call (g := R) (below_alloc W1 (.cells #[.slice da dn dc] 26))) (by have := HPT.out.lt; have := HPT.out.box.lt; show R < wr.heap.size; omega))
        have HW3 := hide (Nat.lt_of_lt_of_le HP2.out.box.lt (below_alloc W1 (.cells #[.slice da dn dc] 26)).size)
        have hcE := HP3.out.box.cell 33
        rw [in_get33 _ _ _ HVL.out] at hcE
        refine wpAnyH_ready (rs := [1]) (by kernel_rfl) (by simp) ?_
        refine AllReadyH.cons rfl (fun K hK => ?_) AllReadyH.nil
        go_simp
        refine hK.out _ _ (by trivial) (fun hHeld3 => ?_)
        clear hK K hHeld2
        try simp only [Act.put, List.getElem_toArray, List.getElem_cons_zero, List.getElem_cons_succ, List.setIfInBounds_toArray, List.set_cons_zero, List.set_cons_succ]
        refine wpAnyH_ready (rs := [5]) (by kernel_rfl) (by simp) ?_
        refine AllReadyH.cons rfl (fun K hK => ?_) AllReadyH.nil
        refine step_append_by (AppG (W1.alloc (.cells #[.slice da dn dc] 26)) (w.heap.size + 2) 26 1 k (.slice va k vc) (KK.map Prod.snd) [.slice da dn dc]) rfl (.tmp 17) (.tmp 20) rfl (.slice va k vc) (.slice (some ⟨W1.heap.size, 0, none⟩) 1 1) rfl rfl (fun ty => run_app1 elemKeys _ _ _ _ _ [.slice da dn dc] HA3.out.own W1.heap.size 1 (is_range (Is.new W1 [.slice da dn dc] 26)) rfl (by intro u hu; simp only [List.mem_cons, List.not_mem_nil, or_false] at hu; subst hu; rfl) (by have := HM.out; omega) (by have := HW3.out; omega) ty) ?_
        intro v2 W3 h3
        obtain ⟨va2, vc2, hv2⟩ := owns_form h3.1
        subst hv2
        have HP4 := hide (HP3.out.grown h3.2.1 (fun b hb => (World.ownsRow.lt HA3.out.own b hb).1))
        have HA4 := hide (HA3.out.app HI3.out (fun b hb => (World.ownsRow.lt HAC.out.own b hb).2) (by have := HPT.out.box.lt; show w.heap.size + 2 ≤ wr.heap.size; omega) h3.1 h3.2.1 h3.2.2)
        clear h3
        have hcF := HP4.out.box.cell 33
        have hfF := HP4.out.box.frozen
        rw [in_get33 _ _ _ HVL.out] at hcF
        refine hK.out _ _ (by trivial) (fun hHeld4 => ?_)
        clear hK K hHeld3
        try simp only [Act.put, List.getElem_toArray, List.getElem_cons_zero, List.getElem_cons_succ, List.setIfInBounds_toArray, List.set_cons_zero, List.set_cons_succ]
        refine wpAnyH_take (i := 6) (v := ?_) rfl (by kernel_rfl) (by kernel_rfl) (by kernel_rfl) (fun _ _ _ h => h) (Or.inl ⟨by rfl, ?_⟩) hHeld4 ?_
        rotate_left
        · (intro w hSw; (try dsimp only at hSw); go_simp <;> (try with_reducible rfl))
        simp only [Act.put, List.getElem_toArray, List.getElem_cons_zero, List.getElem_cons_succ, List.setIfInBounds_toArray, List.set_cons_zero, List.set_cons_succ]
        refine wpAnyH_ready (rs := [7]) (by kernel_rfl) (by simp) ?_
        refine AllReadyH.cons rfl (fun K hK => ?_) AllReadyH.nil
        go_simp
        refine hK.out _ _ (by trivial) (fun hHeld5 => ?_)
        clear hK K hHeld4
        try simp only [Act.put, List.getElem_toArray, List.getElem_cons_zero, List.getElem_cons_succ, List.setIfInBounds_toArray, List.set_cons_zero, List.set_cons_succ]
        refine wpAnyH_done (by kernel_rfl) ?_ _
        have HP5 := hide (HP4.out.set 33 (.slice va2 (k + 1) vc2))
        have HA5 := hide (HA4.out.but (But.cell W3 (w.heap.size + 1) 33 (.slice va2 (k + 1) vc2)) (by omega))
        clear hcB hcC hcE hcF hfF HP2 HP3 HA2 HA3 HI2 HI3 HP4 HA4
        have hm60 := HM.out
        go_wp2
        go_roundw
        case rel => exact ⟨k + 1, by omega, by go_num, q', KK ++ [(x, .slice da dn dc)], va2, vc2, by rw [List.length_append, HLK.out]; have := HP5.out; rw [in_set33 _ _ _ _ HVL.out] at this; exact this, by rw [List.length_append, HLK.out, List.map_append]; exact HA5.out.map (fun W h => fkeys_add (p := (x, .slice da dn dc)) h.1 ⟨h.2, HBY.out⟩), by rw [List.map_append, show m - (k + 1) = d from by omega]; exact HLF.out.next HX.out, by rw [List.length_append, HLK.out]; rfl⟩
        case measure => simp [intOf]; omega
    · have hke : k = m := by omega
      subst hke
      rw [Nat.sub_self] at hlf
      have HEN := hide hlf.end
      have hki : ¬ (k : Int) < (k : Int) := by omega
      have HCL : Hid ((vals D ++ ([.int .i64 x2, .slice va k vc] : List Value)).length = 34) := hide (by rw [List.length_append, HVL.out]; rfl)
      clear hpt hac hlf HN HC HPK
      go_wp2_with (first
        | (refine wpList_load_part 54 (vals D ++ [.int .i64 x2, .slice va k vc]) (w.heap.size + 1) 0 rfl (.tmp 3) rfl rfl (is_range HPT.out.box) Tryz.underlying54 rfl size_in HCL.out ?_)
        | (refine wpList_store_any3 54 Y (vals D ++ [.int .i64 x2, .slice va k vc]) w.heap.size rfl (.tmp 2) (.tmp 24) rfl rfl rfl rfl HPT.out.res size_in HYL.out HCL.out (in_one D x2 va k vc) ?_; intro w9 hi9 hw9; have hbr : But w.heap.size wr w9 := (by rw [hw9]; exact But.row wr w.heap.size _); clear hw9))
      have hdn := HPT.out.done (hbr.under (by have := HPT.out.res.lt; omega) (Nat.le_refl _))
      have hit := ((HAC.out.itm.but hbr (by omega)).mono (by omega : w.heap.size ≤ w.heap.size + 2)).map (G := fun W => HasKeys W (.slice va k vc) KK) (fun W h => row_hasKeys (by rw [HLK.out]; exact h.1) h.2)
      exact bodyPost_ret (v := .agg (vals D ++ ([.int .i64 x2, .slice va k vc] : List Value)).toArray) (results_cell1 Tryz.results69 rfl (hi9.cellsOfS Tryz.underlying54 (by rw [HCL.out]; exact size_in))) rfl ⟨hdn.1, by unfold Tm.inR; rw [HE1.out, Option.bind_some, HE2.out, Option.bind_some, HE3.out, Option.bind_some, HEN.out]; exact ⟨_, rfl, ⟨⟨D, x2, .slice va k vc, KK⟩, rfl, rfl, HDB.out.1, HDB.out.2, hit⟩, hdn.2⟩⟩
end Go.Proofs.YtbdnbjemocjlaaaGreatDoor
