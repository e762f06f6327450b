/- The texts TxW, TxWi, TxWo, TxWr, TxB, one behind the other. -/
import Derived.Test.YtmjilohlchkicaaGreatDoorZTc
import Derived.Test.YtmjilohlchkicaaGreatDoorOwn2
import Derived.Test.YtmjilohlchkicaaGreatDoorZRd
import Derived.Deep.RegionHeld2
/- tx's writer: numbers and packed bytes behind each other. -/
namespace Go.Proofs.YtmjilohlchkicaaGreatDoor
open Go.RowKit
set_option linter.unusedVariables false
set_option linter.unusedSimpArgs false

theorem wpList_append_by {t : TypeId} {w : World} {ops : Array Oper} {rest : List Oper} {o : Oper} {a : Act} {Q : Exit → Act → World → Prop} (P : Value → World → Prop) (hgd : o.guard = none) (s y : Operand)
    (ho : o.op = .call { callee := .builtin .append, args := #[s, y], argTypes := #[t, t] }) (v x : Value) (hs : a.eval s = v) (hy : a.eval y = x)
    (hr : ∀ ty, ∃ v' w', (Builtin.append_ #[t, t] ty #[v, x]).run Tryz.prog w = .ok v' w' ∧ P v' w')
    (h : ∀ v' w', P v' w' → wpList Tryz.prog ops Q rest (a.put o.dst v') w') : wpList Tryz.prog ops Q (o :: rest) a w := by
  refine wpList_plain hgd fun K hK => ?_
  obtain ⟨v', w', hr', h2⟩ := hr o.type
  unfold Oper.wp
  simp only [execOp, ho, resolve, invoke, builtin, Sem.run_bind, Sem.run_pure, Result.andThen_ok, List.map_toArray, List.map_cons, List.map_nil, hs, hy, hr']
  exact hK _ _ (h v' w' h2)
theorem step_append_by {t : TypeId} {w : World} {ops : Array Oper} {o : Oper} {a : Act} {K : Act → World → Prop} {Q : Exit → Act → World → Prop} {E : Prop} (P : Value → World → Prop) (hgd : o.guard = none) (s y : Operand)
    (ho : o.op = .call { callee := .builtin .append, args := #[s, y], argTypes := #[t, t] }) (v x : Value) (hs : a.eval s = v) (hy : a.eval y = x)
    (hr : ∀ ty, ∃ v' w', (Builtin.append_ #[t, t] ty #[v, x]).run Tryz.prog w = .ok v' w' ∧ P v' w')
    (h : ∀ v' w', P v' w' → K (a.put o.dst v') w') :
    if Region.wanted o (yielded ops a.tmps) = true then Oper.wp Tryz.prog o a w K Q else E := by
  have hw : Region.wanted o (yielded ops a.tmps) = true := by simp [Region.wanted, hgd]
  rw [if_pos hw]
  obtain ⟨v', w', hr', h2⟩ := hr o.type
  unfold Oper.wp
  simp only [execOp, ho, resolve, invoke, builtin, Sem.run_bind, Sem.run_pure, Result.andThen_ok, List.map_toArray, List.map_cons, List.map_nil, hs, hy, hr']
  exact h v' w' h2
/-- What an append of bytes leaves. -/
def AppB (W : World) (base : Nat) (v : Value) (ys : List Int) (v' : Value) (W' : World) : Prop := Own W' base v' ys ∧ W.grownBy W' v.ownBlock ∧ (v'.ownBlock = v.ownBlock ∨ v'.ownBlock = some W.heap.size)
theorem run_append_src (W : World) (base : Nat) (v x : Value) (xs l : List Int) (hown : Own W base v xs) (hx : Has W x l) (h0 : 0 < l.length) (hbd : xs.length + l.length ≤ 1000000000) (hbase : base ≤ W.heap.size) (ty : TypeId) :
    ∃ v' W', (Builtin.append_ #[73, 73] ty #[v, x]).run Tryz.prog W = .ok v' W' ∧ AppB W base v (xs ++ l) v' W' := by
  rcases hx with ⟨a, cap, rfl, rfl, _⟩ | ⟨b, off, cap, rfl, h1, h2, h3, hc⟩
  · simp at h0
  · exact run_append_two W base v xs hown ⟨b, off, none⟩ cap l h0 (fun j u hu => by
      have hj : j < l.length := by have := (List.getElem?_eq_some_iff.1 hu).1; rwa [vals_length] at this
      rw [Addr.add_lit, hc j hj, ← hu, vals_get _ _ hj]) hbd hbase ty

/-- A writer in block R: what it has, in a row of its own that is none of the blocks of P. -/
def WS (w : World) (R : Nat) (P : Nat → Prop) (xs : List Int) : Prop := ∃ v, Is w R [v] 148 ∧ Own w (R + 1) v xs ∧ ∀ k, v.ownBlock = some k → ¬ P k
def Kept (P : Nat → Prop) (w w' : World) : Prop := ∀ k, P k → w'.heap[k]? = w.heap[k]?
theorem WS.call {w w' : World} {R : Nat} {P P' : Nat → Prop} {xs : List Int} (h : WS w R P xs) (hb : Below w.heap.size w w') (hP : ∀ k, k < w.heap.size → P' k → P k) : WS w' R P' xs := by
  obtain ⟨v, h1, h2, h3⟩ := h
  refine ⟨v, h1.below hb h1.lt, h2.below hb, fun k hk hp => h3 k hk (hP k ?_ hp)⟩
  exact (World.ownsRow.lt h2 k hk).2
theorem WS.next {W W' : World} {R : Nat} {P : Nat → Prop} {ys : List Int} {v v' : Value} (hI : Is W R [v] 148) (hown : ∀ k, v.ownBlock = some k → R + 1 ≤ k) (hv : ∀ k, v.ownBlock = some k → ¬ P k) (hP : ∀ k, P k → k < W.heap.size ∧ k ≠ R) (h : AppB W (R + 1) v ys v' W') :
    WS (W'.setCell ⟨R, 0, none⟩ v') R P ys ∧ Kept P W (W'.setCell ⟨R, 0, none⟩ v') ∧ Below R W (W'.setCell ⟨R, 0, none⟩ v') := by
  obtain ⟨h1, h2, h3⟩ := h
  have hne : some R ≠ v.ownBlock := fun e => by have := hown R e.symm; omega
  have hI' : Is W' R [v] 148 := by unfold Is; rw [h2.block R hI.lt hne]; exact hI
  have hv'R : v'.ownBlock ≠ some R := by
    rcases h3 with e | e
    · rw [e]; exact fun e => hne e.symm
    · rw [e]; intro e; injection e with e; have := hI.lt; omega
  refine ⟨⟨v', ?_, ?_, fun k hk hp => ?_⟩, fun k hp => ?_, ?_⟩
  · have := hI'.set 0 v'; exact this
  · exact ownsRow_setCell_other h1 (a := ⟨R, 0, none⟩) hv'R _
  · rcases h3 with e | e
    · rw [e] at hk; exact hv k hk hp
    · rw [e] at hk; injection hk with hk; have := (hP k hp).1; omega
  · obtain ⟨p1, p2⟩ := hP k hp
    rw [Below.heap_setCell _ _ _ _ p2, h2.block k p1 (fun e => hv k e.symm hp)]
  · exact ((Below.refl R W).grown h2 (Nat.le_of_lt hI.lt) (fun q hq => by have := hown q hq; omega)).setCell (Nat.le_refl _) _

theorem app_is {W W' : World} {R : Nat} {v v' : Value} {xs ys : List Int} (hI : Is W R [v] 148) (hO : Own W (R + 1) v xs) (h : AppB W (R + 1) v ys v' W') : Is W' R [v] 148 := by
  unfold Is; rw [h.2.1.block R hI.lt (fun e => by have := (World.ownsRow.lt hO R e.symm).1; omega)]; exact hI
theorem app_cell {W W' : World} {R : Nat} {v v' : Value} {xs ys : List Int} (hI : Is W R [v] 148) (hO : Own W (R + 1) v xs) (h : AppB W (R + 1) v ys v' W') : W'.cell? ⟨R, 0, none⟩ = some v := (app_is hI hO h).cell 0
theorem app_frozen {W W' : World} {R : Nat} {v v' : Value} {xs ys : List Int} (hI : Is W R [v] 148) (hO : Own W (R + 1) v xs) (h : AppB W (R + 1) v ys v' W') : W'.frozen? ⟨R, 0, none⟩ = false := (app_is hI hO h).frozen 0

set_option maxRecDepth 100000 in
set_option maxHeartbeats 1000000 in
theorem wnumber_any (R : Nat) (P : Nat → Prop) (xs : List Int) (n : Int) (w : World) (hP : ∀ k, P k → k < w.heap.size ∧ k ≠ R) (hs : WS w R P xs) (h0 : 0 ≤ n) (hn : n ≤ 9223372036854775807) (hl : xs.length + 9 ≤ 1000000000) :
    Calls Tryz.prog 82 #[.pointer (some ⟨R, 0, none⟩), .int .i64 n] w fun e w' => e = .returned (.tuple #[]) ∧ WS w' R P (xs ++ Sz.wr n) ∧ Kept P w w' ∧ Below R w w' := by
  obtain ⟨v, h1, h2, h3⟩ := hs
  have HW := hide (write_yes n w h0 hn)
  have HI := hide h1
  have HO := hide h2
  have HV := hide h3
  have HP := hide hP
  have hwl := Sz.wr_le9 n
  have hwp := Sz.wr_pos n
  have HLB : Hid (xs.length + (Sz.wr n).length ≤ 1000000000) := hide (by omega)
  have HL0 := hide hwp
  clear h1 h2 h3 hP h0 hn hl hwl hwp
  generalize Sz.wr n = l at *
  generalize hll : l.length = ll at *
  go_enter Tryz.func82, Tryz.ntmps82
  go_wp2_with fail
  refine HW.out.mono ?_
  rintro e w1 ⟨rfl, hh, hb⟩
  have HB := hide hb
  have HI1 := hide (HI.out.below hb HI.out.lt)
  have HO1 := hide (HO.out.below hb)
  have HH := hide hh
  have hcR := HI1.out.cell 0
  simp only [List.getElem?_cons_zero] at hcR
  clear hh hb
  go_wp2_with (at_builtin; refine wpList_append_by (AppB w1 (R + 1) v (xs ++ l)) rfl (.tmp 15) (.tmp 16) rfl v (.slice (some ⟨w.heap.size, 0, none⟩) ll ll) rfl rfl (fun ty => run_append_src w1 (R + 1) v _ xs l HO1.out HH.out (by rw [hll]; exact HL0.out) (by rw [hll]; exact HLB.out) HI1.out.lt ty) ?_; intro v2 w2 h2; obtain ⟨va, vc, hv2⟩ := owns_form h2.1; rw [List.length_append] at hv2; rw [hll] at hv2; subst hv2; have hcR2 := app_cell HI1.out HO1.out h2; have hfR2 := app_frozen HI1.out HO1.out h2)
  have hfin := WS.next (P := P) HI1.out (fun k hk => (World.ownsRow.lt HO1.out k hk).1) HV.out (fun k hk => ⟨Nat.lt_of_lt_of_le (HP.out k hk).1 HB.out.size, (HP.out k hk).2⟩) h2
  go_end0
  exact ⟨rfl, hfin.1, fun k hk => by rw [hfin.2.1 k hk, HB.out.block k (HP.out k hk).1], (HB.out.mono (Nat.le_of_lt HI.out.lt)).trans hfin.2.2⟩

set_option maxRecDepth 100000 in
set_option maxHeartbeats 2000000 in
theorem wpacked_any (R : Nat) (P : Nat → Prop) (xs : List Int) (x : Value) (l : List Int) (w : World) (hP : ∀ k, P k → k < w.heap.size ∧ k ≠ R) (hs : WS w R P xs) (hx : Has w x l) (hl : xs.length + (l.length + 9) ≤ 1000000000) :
    Calls Tryz.prog 105 #[.pointer (some ⟨R, 0, none⟩), x] w fun e w' => e = .returned (.tuple #[]) ∧ WS w' R P (xs ++ Sz.pk l) ∧ Kept P w w' ∧ Below R w w' := by
  obtain ⟨v, h1, h2, h3⟩ := hs
  obtain ⟨va, vc, rfl⟩ := owns_form h2
  obtain ⟨xa, xc, rfl, _, _⟩ := hx.shape
  have hwl := Sz.wr_le9 (l.length : Nat)
  have hwp := Sz.wr_pos (l.length : Nat)
  have hpl : (Sz.pk l).length = (Sz.wr (l.length : Nat)).length + l.length := Sz.pk_length l
  have hpk := pack_any _ l w.drew (hx.below ((Below.refl _ _).drew)) (by omega)
  have HPK0 := hide hpk
  obtain ⟨Lp, hLp⟩ : ∃ Lp, Lp = Sz.pk l := ⟨_, rfl⟩
  obtain ⟨pl, hpl2⟩ : ∃ n, n = Lp.length := ⟨_, rfl⟩
  have HPK : Hid (Calls Tryz.prog 114 #[.slice xa l.length xc] w.drew fun e w' => ∃ pa pc, e = .returned (.slice pa pl pc) ∧ Own w' w.heap.size (.slice pa pl pc) Lp ∧ Below w.heap.size w.drew w') := hide (by
    refine HPK0.out.mono ?_
    rintro e w1 ⟨v1, rfl, ho, hb⟩
    obtain ⟨pa, pc, rfl⟩ := owns_form ho
    rw [hpl2, hLp]
    exact ⟨pa, pc, rfl, ho, hb⟩)
  have HI := hide h1
  have HO := hide h2
  have HV := hide h3
  have HP := hide hP
  have HPL : Hid (Lp.length = pl) := hide hpl2.symm
  have HLB : Hid (xs.length + pl ≤ 1000000000) := hide (by rw [hpl2, hLp, hpl]; omega)
  have HL0 : Hid (0 < pl) := hide (by rw [hpl2, hLp, hpl]; omega)
  have hcR := h1.cell 0
  simp only [List.getElem?_cons_zero] at hcR
  rw [← hLp]
  clear h1 h2 h3 hP hx hl hwl hwp hpl hpk HPK0 hLp hpl2
  generalize l.length = ll at *
  go_enter Tryz.func105, Tryz.ntmps105
  refine wp_region_held_drew (S := fun _ : World => True) (by kernel_rfl) ?_ (fun hHeld0 => ?_)
  · trivial
  refine wpAnyH_take (i := 0) (v := ?_) rfl (by kernel_rfl) (by kernel_rfl) (by kernel_rfl) (fun _ _ _ h => h) (Or.inl ⟨by rfl, ?_⟩) hHeld0 ?_
  rotate_left
  · (intro w hSw; (try dsimp only at hSw); go_simp <;> (try with_reducible rfl))
  simp only [Act.put, List.getElem_toArray, List.getElem_cons_zero, List.getElem_cons_succ, List.setIfInBounds_toArray, List.set_cons_zero, List.set_cons_succ]
  refine wpAnyH_take (i := 1) (v := ?_) rfl (by kernel_rfl) (by kernel_rfl) (by kernel_rfl) (fun _ _ _ h => h) (Or.inl ⟨by rfl, ?_⟩) hHeld0 ?_
  rotate_left
  · (intro w hSw; (try dsimp only at hSw); go_simp <;> (try with_reducible rfl))
  simp only [Act.put, List.getElem_toArray, List.getElem_cons_zero, List.getElem_cons_succ, List.setIfInBounds_toArray, List.set_cons_zero, List.set_cons_succ]
  refine wpAnyH_take (i := 2) (v := ?_) rfl (by kernel_rfl) (by kernel_rfl) (by kernel_rfl) (fun _ _ _ h => h) (Or.inl ⟨by rfl, ?_⟩) hHeld0 ?_
  rotate_left
  · (intro w hSw; (try dsimp only at hSw); go_simp <;> (try with_reducible rfl))
  simp only [Act.put, List.getElem_toArray, List.getElem_cons_zero, List.getElem_cons_succ, List.setIfInBounds_toArray, List.set_cons_zero, List.set_cons_succ]
  refine wpAnyH_take (i := 3) (v := ?_) rfl (by kernel_rfl) (by kernel_rfl) (by kernel_rfl) (fun _ _ _ h => h) (Or.inl ⟨by rfl, ?_⟩) hHeld0 ?_
  rotate_left
  · (intro w hSw; (try dsimp only at hSw); go_simp <;> (try with_reducible rfl))
  simp only [Act.put, List.getElem_toArray, List.getElem_cons_zero, List.getElem_cons_succ, List.setIfInBounds_toArray, List.set_cons_zero, List.set_cons_succ]
  refine wpAnyH_take (i := 5) (v := ?_) rfl (by kernel_rfl) (by kernel_rfl) (by kernel_rfl) (fun _ _ _ h => h) (Or.inl ⟨by rfl, ?_⟩) hHeld0 ?_
  rotate_left
  · (intro w hSw; (try dsimp only at hSw); go_simp <;> (try with_reducible rfl))
  simp only [Act.put, List.getElem_toArray, List.getElem_cons_zero, List.getElem_cons_succ, List.setIfInBounds_toArray, List.set_cons_zero, List.set_cons_succ]
  refine wpAnyH_ready (rs := [4, 6]) (by kernel_rfl) (by simp) ?_
  refine AllReadyH.cons rfl (fun K hK => ?_) ?_
  ·
    go_simp
    refine hK.out _ _ (by trivial) (fun hHeld1 => ?_)
    clear hK K hHeld0
    try simp only [Act.put, List.getElem_toArray, List.getElem_cons_zero, List.getElem_cons_succ, List.setIfInBounds_toArray, List.set_cons_zero, List.set_cons_succ]
    refine wpAnyH_ready (rs := [6]) (by kernel_rfl) (by simp) ?_
    refine AllReadyH.cons rfl (fun K hK => ?_) AllReadyH.nil
    go_simp
    go_wp2_with ((go_at_call 114; refine HPK.out.mono ?_; rintro e W1 ⟨pa, pc, rfl, ho1, hb0⟩; have hb1 : Below w.heap.size w W1 := ((Below.refl _ _).drew).trans hb0; have hI1 := HI.out.below hb1 HI.out.lt; have hO1 := HO.out.below hb1; have hcR1 := hI1.cell 0; simp only [List.getElem?_cons_zero] at hcR1))
    refine hK.out _ _ (by trivial) (fun hHeld2 => ?_)
    clear hK K hHeld1
    try simp only [Act.put, List.getElem_toArray, List.getElem_cons_zero, List.getElem_cons_succ, List.setIfInBounds_toArray, List.set_cons_zero, List.set_cons_succ]
    refine wpAnyH_ready (rs := [7]) (by kernel_rfl) (by simp) ?_
    refine AllReadyH.cons rfl (fun K hK => ?_) AllReadyH.nil
    refine step_append_by (AppB W1 (R + 1) (.slice va xs.length vc) (xs ++ Lp)) rfl (.tmp 8) (.tmp 10) rfl (.slice va xs.length vc) (.slice pa pl pc) rfl rfl (fun ty => run_append_src W1 (R + 1) _ _ xs Lp hO1 ho1.has (by rw [HPL.out]; exact HL0.out) (by rw [HPL.out]; exact HLB.out) hI1.lt ty) ?_
    intro v2 W2 h2
    obtain ⟨va2, vc2, hv2⟩ := owns_form h2.1
    rw [List.length_append, HPL.out] at hv2
    subst hv2
    have hcR2 := app_cell hI1 hO1 h2
    have hfR2 := app_frozen hI1 hO1 h2
    refine hK.out _ _ (by trivial) (fun hHeld3 => ?_)
    clear hK K hHeld2
    try simp only [Act.put, List.getElem_toArray, List.getElem_cons_zero, List.getElem_cons_succ, List.setIfInBounds_toArray, List.set_cons_zero, List.set_cons_succ]
    refine wpAnyH_take (i := 8) (v := ?_) rfl (by kernel_rfl) (by kernel_rfl) (by kernel_rfl) (fun _ _ _ h => h) (Or.inl ⟨by rfl, ?_⟩) hHeld3 ?_
    rotate_left
    · (intro w hSw; (try dsimp only at hSw); go_simp <;> (try with_reducible rfl))
    simp only [Act.put, List.getElem_toArray, List.getElem_cons_zero, List.getElem_cons_succ, List.setIfInBounds_toArray, List.set_cons_zero, List.set_cons_succ]
    refine wpAnyH_take (i := 9) (v := ?_) rfl (by kernel_rfl) (by kernel_rfl) (by kernel_rfl) (fun _ _ _ h => h) (Or.inl ⟨by rfl, ?_⟩) hHeld3 ?_
    rotate_left
    · (intro w hSw; (try dsimp only at hSw); go_simp <;> (try with_reducible rfl))
    simp only [Act.put, List.getElem_toArray, List.getElem_cons_zero, List.getElem_cons_succ, List.setIfInBounds_toArray, List.set_cons_zero, List.set_cons_succ]
    refine wpAnyH_ready (rs := [10]) (by kernel_rfl) (by simp) ?_
    refine AllReadyH.cons rfl (fun K hK => ?_) AllReadyH.nil
    go_simp
    refine hK.out _ _ (by trivial) (fun hHeld4 => ?_)
    clear hK K hHeld3
    try simp only [Act.put, List.getElem_toArray, List.getElem_cons_zero, List.getElem_cons_succ, List.setIfInBounds_toArray, List.set_cons_zero, List.set_cons_succ]
    refine wpAnyH_done (by kernel_rfl) ?_ _
    have hfin := WS.next (P := P) hI1 (fun k hk => (World.ownsRow.lt hO1 k hk).1) HV.out (fun k hk => ⟨Nat.lt_of_lt_of_le (HP.out k hk).1 hb1.size, (HP.out k hk).2⟩) h2
    have HF := hide hfin
    have HBB := hide hb1
    clear hfin h2 hb1 hb0 ho1 hI1 hO1 hcR1 hcR2 hfR2
    go_end0
    exact ⟨rfl, HF.out.1, fun k hk => by rw [HF.out.2.1 k hk, HBB.out.block k (HP.out k hk).1], (HBB.out.mono (Nat.le_of_lt HI.out.lt)).trans HF.out.2.2⟩
  refine AllReadyH.cons rfl (fun K hK => ?_) AllReadyH.nil
  go_simp
  go_wp2_with ((go_at_call 114; refine HPK.out.mono ?_; rintro e W1 ⟨pa, pc, rfl, ho1, hb0⟩; have hb1 : Below w.heap.size w W1 := ((Below.refl _ _).drew).trans hb0; have hI1 := HI.out.below hb1 HI.out.lt; have hO1 := HO.out.below hb1; have hcR1 := hI1.cell 0; simp only [List.getElem?_cons_zero] at hcR1))
  refine hK.out _ _ (by trivial) (fun hHeld1 => ?_)
  clear hK K hHeld0
  try simp only [Act.put, List.getElem_toArray, List.getElem_cons_zero, List.getElem_cons_succ, List.setIfInBounds_toArray, List.set_cons_zero, List.set_cons_succ]
  refine wpAnyH_ready (rs := [4]) (by kernel_rfl) (by simp) ?_
  refine AllReadyH.cons rfl (fun K hK => ?_) AllReadyH.nil
  go_simp
  refine hK.out _ _ (by trivial) (fun hHeld2 => ?_)
  clear hK K hHeld1
  try simp only [Act.put, List.getElem_toArray, List.getElem_cons_zero, List.getElem_cons_succ, List.setIfInBounds_toArray, List.set_cons_zero, List.set_cons_succ]
  refine wpAnyH_ready (rs := [7]) (by kernel_rfl) (by simp) ?_
  refine AllReadyH.cons rfl (fun K hK => ?_) AllReadyH.nil
  refine step_append_by (AppB W1 (R + 1) (.slice va xs.length vc) (xs ++ Lp)) rfl (.tmp 8) (.tmp 10) rfl (.slice va xs.length vc) (.slice pa pl pc) rfl rfl (fun ty => run_append_src W1 (R + 1) _ _ xs Lp hO1 ho1.has (by rw [HPL.out]; exact HL0.out) (by rw [HPL.out]; exact HLB.out) hI1.lt ty) ?_
  intro v2 W2 h2
  obtain ⟨va2, vc2, hv2⟩ := owns_form h2.1
  rw [List.length_append, HPL.out] at hv2
  subst hv2
  have hcR2 := app_cell hI1 hO1 h2
  have hfR2 := app_frozen hI1 hO1 h2
  refine hK.out _ _ (by trivial) (fun hHeld3 => ?_)
  clear hK K hHeld2
  try simp only [Act.put, List.getElem_toArray, List.getElem_cons_zero, List.getElem_cons_succ, List.setIfInBounds_toArray, List.set_cons_zero, List.set_cons_succ]
  refine wpAnyH_take (i := 8) (v := ?_) rfl (by kernel_rfl) (by kernel_rfl) (by kernel_rfl) (fun _ _ _ h => h) (Or.inl ⟨by rfl, ?_⟩) hHeld3 ?_
  rotate_left
  · (intro w hSw; (try dsimp only at hSw); go_simp <;> (try with_reducible rfl))
  simp only [Act.put, List.getElem_toArray, List.getElem_cons_zero, List.getElem_cons_succ, List.setIfInBounds_toArray, List.set_cons_zero, List.set_cons_succ]
  refine wpAnyH_take (i := 9) (v := ?_) rfl (by kernel_rfl) (by kernel_rfl) (by kernel_rfl) (fun _ _ _ h => h) (Or.inl ⟨by rfl, ?_⟩) hHeld3 ?_
  rotate_left
  · (intro w hSw; (try dsimp only at hSw); go_simp <;> (try with_reducible rfl))
  simp only [Act.put, List.getElem_toArray, List.getElem_cons_zero, List.getElem_cons_succ, List.setIfInBounds_toArray, List.set_cons_zero, List.set_cons_succ]
  refine wpAnyH_ready (rs := [10]) (by kernel_rfl) (by simp) ?_
  refine AllReadyH.cons rfl (fun K hK => ?_) AllReadyH.nil
  go_simp
  refine hK.out _ _ (by trivial) (fun hHeld4 => ?_)
  clear hK K hHeld3
  try simp only [Act.put, List.getElem_toArray, List.getElem_cons_zero, List.getElem_cons_succ, List.setIfInBounds_toArray, List.set_cons_zero, List.set_cons_succ]
  refine wpAnyH_done (by kernel_rfl) ?_ _
  have hfin := WS.next (P := P) hI1 (fun k hk => (World.ownsRow.lt hO1 k hk).1) HV.out (fun k hk => ⟨Nat.lt_of_lt_of_le (HP.out k hk).1 hb1.size, (HP.out k hk).2⟩) h2
  have HF := hide hfin
  have HBB := hide hb1
  clear hfin h2 hb1 hb0 ho1 hI1 hO1 hcR1 hcR2 hfR2
  go_end0
  exact ⟨rfl, HF.out.1, fun k hk => by rw [HF.out.2.1 k hk, HBB.out.block k (HP.out k hk).1], (HBB.out.mono (Nat.le_of_lt HI.out.lt)).trans HF.out.2.2⟩
end Go.Proofs.YtmjilohlchkicaaGreatDoor

/- tx's writer: an in. -/
namespace Go.Proofs.YtmjilohlchkicaaGreatDoor
open Go.RowKit
set_option linter.unusedVariables false
set_option linter.unusedSimpArgs false

theorem tx_flat_le (ls : List (List Int)) (m : Nat) (h : ∀ l ∈ ls, l.length ≤ m) : ((ls.map Sz.pk).flatten).length ≤ ls.length * (m + 9) := by
  induction ls with
  | nil => simp
  | cons l r ih =>
    have h1 := ih (fun x hx => h x (by simp [hx]))
    have h2 := h l (by simp)
    have h3 := Sz.wr_le9 (l.length : Nat)
    have h4 := Sz.pk_length l
    rw [List.map_cons, List.flatten_cons, List.length_append, List.length_cons, Nat.succ_mul]
    omega

/-- A method of the writer that has a box of its own. -/
structure BoxS (w : World) (R : Nat) (P : Nat → Prop) (c : List Value) (t : TypeId) (xs : List Int) (W : World) : Prop where
  ws : WS W R (fun k => P k ∨ k = w.heap.size) xs
  apart : ∀ k, (P k ∨ k = w.heap.size) → k < W.heap.size ∧ k ≠ R
  kept : ∀ k, P k → W.heap[k]? = w.heap[k]?
  below : Below R w W
  box : Is W w.heap.size c t
theorem BoxS.start {w W3 : World} {R : Nat} {P : Nat → Prop} {c : List Value} {t : TypeId} {xs : List Int} (hP : ∀ k, P k → k < w.heap.size ∧ k ≠ R) (hR : R < w.heap.size) (hs : WS W3 R (fun k => P k ∨ k = w.heap.size) xs) (hk : Kept (fun k => P k ∨ k = w.heap.size) ((w.alloc (.cells c.toArray t)).drew) W3) (hb : Below R ((w.alloc (.cells c.toArray t)).drew) W3) : BoxS w R P c t xs W3 := by
  have hsz : w.heap.size + 1 ≤ W3.heap.size := by have := hb.size; have e : ((w.alloc (.cells c.toArray t)).drew).heap.size = w.heap.size + 1 := by show (w.alloc _).heap.size = _; simp
                                                  omega
  refine ⟨hs, fun k hp => ?_, fun k hp => ?_, ?_, ?_⟩
  · rcases hp with hp | rfl
    · have := hP k hp; exact ⟨by omega, this.2⟩
    · exact ⟨by omega, by omega⟩
  · rw [hk k (.inl hp)]
    exact Below.heap_alloc w _ k (hP k hp).1
  · exact (((Below.refl R w).alloc (Nat.le_of_lt hR) _).drew).trans hb
  · unfold Is
    rw [hk w.heap.size (.inr rfl)]
    exact Is.new w c t
theorem BoxS.next {w W W' : World} {R : Nat} {P : Nat → Prop} {c : List Value} {t : TypeId} {xs ys : List Int} (h : BoxS w R P c t xs W) (hs : WS W' R (fun k => P k ∨ k = w.heap.size) ys) (hk : Kept (fun k => P k ∨ k = w.heap.size) W W') (hb : Below R W W') : BoxS w R P c t ys W' :=
  ⟨hs, fun k hp => ⟨Nat.lt_of_lt_of_le (h.apart k hp).1 hb.size, (h.apart k hp).2⟩, fun k hp => by rw [hk k (.inl hp), h.kept k hp], h.below.trans hb, by unfold Is; rw [hk w.heap.size (.inr rfl)]; exact h.box⟩
theorem BoxS.out {w W : World} {R : Nat} {P : Nat → Prop} {c : List Value} {t : TypeId} {xs : List Int} (h : BoxS w R P c t xs W) : WS W R P xs := by
  obtain ⟨v, h1, h2, h3⟩ := h.ws
  exact ⟨v, h1, h2, fun k hk hp => h3 k hk (.inl hp)⟩
theorem BoxS.keptP {w W : World} {R : Nat} {P : Nat → Prop} {c : List Value} {t : TypeId} {xs : List Int} (h : BoxS w R P c t xs W) (hP : ∀ k, P k → k < w.heap.size ∧ k ≠ R) : Kept P w W := h.kept

set_option maxRecDepth 100000 in
set_option maxHeartbeats 4000000 in
theorem win_any (R : Nat) (P : Nat → Prop) (xs : List Int) (x : InV) (w0 w : World) (hR : w0.heap.size ≤ R) (hb0 : Below w0.heap.size w0 w) (hP : ∀ k, P k → k < w.heap.size ∧ k ≠ R) (hs : WS w R P xs) (h32 : x.tx.length = 32) (hbt : Sz.Byt x.tx) (hk : HasKeys w0 x.kv x.K) (h0 : 0 ≤ x.at') (h1 : x.at' ≤ 9223372036854775807) (h30 : x.K.length ≤ 30) (h3000 : ∀ p ∈ x.K, p.1.length ≤ 3000) (hl : xs.length + 100000 ≤ 1000000000) :
    Calls Tryz.prog 83 #[.pointer (some ⟨R, 0, none⟩), .agg (inCell x).toArray] w fun e w' => e = .returned (.tuple #[]) ∧ WS w' R P (xs ++ Tm.inB x.it) ∧ Kept P w w' ∧ Below R w w' := by
  obtain ⟨v, i1, i2, i3⟩ := hs
  obtain ⟨va, vc, rfl⟩ := owns_form i2
  obtain ⟨tx, at', kv, K⟩ := x
  simp only at h32 hbt hk h0 h1 h30 h3000
  obtain ⟨ka, kc, rfl, hkc, _, hkr⟩ := hk.form
  have hcl := inCell_length ⟨tx, at', .slice ka K.length kc, K⟩ h32
  have hc32 : (inCell ⟨tx, at', .slice ka K.length kc, K⟩)[32]? = some (.int .i64 at') := by
    unfold inCell; rw [List.getElem?_append_right (by rw [vals_length]; simp only; omega), vals_length]; simp only; rw [h32]; rfl
  have hc33 : (inCell ⟨tx, at', .slice ka K.length kc, K⟩)[33]? = some (.slice ka K.length kc) := by
    unfold inCell; rw [List.getElem?_append_right (by rw [vals_length]; simp only; omega), vals_length]; simp only; rw [h32]; rfl
  have hct : ∀ j, j < 32 → (inCell ⟨tx, at', .slice ka K.length kc, K⟩)[j]? = some (.int .u8 (tx.getD j 0)) := fun j hj => by
    unfold inCell; rw [List.getElem?_append_left (by rw [vals_length]; simp only; omega), vals_get _ _ (by simp only; omega)]
  obtain ⟨C, hC⟩ : ∃ C, C = inCell ⟨tx, at', .slice ka K.length kc, K⟩ := ⟨_, rfl⟩
  rw [← hC] at hcl hc32 hc33 hct ⊢
  have hi1 := i1.alloc (.cells C.toArray 49)
  have HI1 : Hid (Is ((w.alloc (.cells C.toArray 49)).drew) R [.slice va xs.length vc] 148) := hide hi1
  have HO1 : Hid (Own ((w.alloc (.cells C.toArray 49)).drew) (R + 1) (.slice va xs.length vc) xs) := hide (i2.below ((below_alloc w (.cells C.toArray 49)).drew))
  have HV1 : Hid (∀ k, (Value.slice va xs.length vc).ownBlock = some k → ¬ (P k ∨ k = w.heap.size)) := hide (fun k hk hp => by
    rcases hp with hp | hp
    · exact i3 k hk hp
    · have := (World.ownsRow.lt i2 k hk).2; omega)
  have HP1 : Hid (∀ k, (P k ∨ k = w.heap.size) → k < ((w.alloc (.cells C.toArray 49)).drew).heap.size ∧ k ≠ R) := hide (fun k hp => by
    have e : ((w.alloc (.cells C.toArray 49)).drew).heap.size = w.heap.size + 1 := by show (w.alloc _).heap.size = _; simp
    rw [e]
    rcases hp with hp | rfl
    · have := hP k hp; exact ⟨by omega, this.2⟩
    · have := i1.lt; exact ⟨by omega, by omega⟩)
  have HTX : Hid (Has ((w.alloc (.cells C.toArray 49)).drew) (.slice (some ⟨w.heap.size, 0, none⟩) 32 32) tx) := hide (.inr ⟨w.heap.size, 0, 32, by rw [h32], by omega, by omega, by unfold maxLen; omega, fun j hj => by rw [Nat.zero_add]; show (w.alloc (.cells C.toArray 49)).cell? _ = _; rw [(Is.new w C 49).cell]; exact hct j (by omega)⟩)
  have HTL := hide h32
  have HLB : Hid (xs.length + 32 ≤ 1000000000) := hide (by omega)
  have HL := hide hl
  have hcR := hi1.cell 0
  simp only [List.getElem?_cons_zero] at hcR
  have HC33 : Hid (∀ W, Is W w.heap.size C 49 → W.cell? ⟨w.heap.size, 33, none⟩ = some (.slice ka K.length kc)) := hide (fun W hi => by rw [hi.cell]; exact hc33)
  have HC32 : Hid (∀ W, Is W w.heap.size C 49 → W.cell? ⟨w.heap.size, 32, none⟩ = some (.int .i64 at')) := hide (fun W hi => by rw [hi.cell]; exact hc32)
  have HH := hide hk
  have HKR := hide hkr
  have HB0 := hide hb0
  have HRR := hide hR
  have HP := hide hP
  have HAT := hide (And.intro h0 h1)
  have H3000 := hide h3000
  have HRL := hide i1.lt
  have hkl30 : K.length ≤ 30 := h30
  show Calls Tryz.prog 83 _ w fun e w' => e = .returned (.tuple #[]) ∧ WS w' R P (xs ++ (tx ++ (Sz.wr at' ++ (Sz.wr ((K.map Prod.fst).length : Nat) ++ ((K.map Prod.fst).map Sz.pk).flatten)))) ∧ Kept P w w' ∧ Below R w w'
  rw [List.length_map]
  clear i1 i2 i3 hP h32 hbt hk h0 h1 h30 h3000 hl hcl hc32 hc33 hct hC hkr hb0 hR hi1
  go_enter Tryz.func83, Tryz.ntmps83
  go_wp2
  refine wp_region_held_drew (S := fun _ : World => True) (by kernel_rfl) ?_ (fun hHeld0 => ?_)
  · trivial
  refine wpAnyH_take (i := 0) (v := ?_) rfl (by kernel_rfl) (by kernel_rfl) (by kernel_rfl) (fun _ _ _ h => h) (Or.inl ⟨by rfl, ?_⟩) hHeld0 ?_
  rotate_left
  · (intro w hSw; (try dsimp only at hSw); go_simp <;> (try with_reducible rfl))
  simp only [Act.put, List.getElem_toArray, List.getElem_cons_zero, List.getElem_cons_succ, List.setIfInBounds_toArray, List.set_cons_zero, List.set_cons_succ]
  refine wpAnyH_take (i := 1) (v := ?_) rfl (by kernel_rfl) (by kernel_rfl) (by kernel_rfl) (fun _ _ _ h => h) (Or.inl ⟨by rfl, ?_⟩) hHeld0 ?_
  rotate_left
  · (intro w hSw; (try dsimp only at hSw); go_simp <;> (try with_reducible rfl))
  simp only [Act.put, List.getElem_toArray, List.getElem_cons_zero, List.getElem_cons_succ, List.setIfInBounds_toArray, List.set_cons_zero, List.set_cons_succ]
  refine wpAnyH_take (i := 2) (v := ?_) rfl (by kernel_rfl) (by kernel_rfl) (by kernel_rfl) (fun _ _ _ h => h) (Or.inl ⟨by rfl, ?_⟩) hHeld0 ?_
  rotate_left
  · (intro w hSw; (try dsimp only at hSw); go_simp <;> (try with_reducible rfl))
  simp only [Act.put, List.getElem_toArray, List.getElem_cons_zero, List.getElem_cons_succ, List.setIfInBounds_toArray, List.set_cons_zero, List.set_cons_succ]
  refine wpAnyH_take (i := 3) (v := ?_) rfl (by kernel_rfl) (by kernel_rfl) (by kernel_rfl) (fun _ _ _ h => h) (Or.inl ⟨by rfl, ?_⟩) hHeld0 ?_
  rotate_left
  · (intro w hSw; (try dsimp only at hSw); go_simp <;> (try with_reducible rfl))
  simp only [Act.put, List.getElem_toArray, List.getElem_cons_zero, List.getElem_cons_succ, List.setIfInBounds_toArray, List.set_cons_zero, List.set_cons_succ]
  refine wpAnyH_take (i := 5) (v := ?_) rfl (by kernel_rfl) (by kernel_rfl) (by kernel_rfl) (fun _ _ _ h => h) (Or.inl ⟨by rfl, ?_⟩) hHeld0 ?_
  rotate_left
  · (intro w hSw; (try dsimp only at hSw); go_simp <;> (try with_reducible rfl))
  simp only [Act.put, List.getElem_toArray, List.getElem_cons_zero, List.getElem_cons_succ, List.setIfInBounds_toArray, List.set_cons_zero, List.set_cons_succ]
  refine wpAnyH_take (i := 6) (v := ?_) rfl (by kernel_rfl) (by kernel_rfl) (by kernel_rfl) (fun _ _ _ h => h) (Or.inl ⟨by rfl, ?_⟩) hHeld0 ?_
  rotate_left
  · (intro w hSw; (try dsimp only at hSw); go_simp <;> (try with_reducible rfl))
  simp only [Act.put, List.getElem_toArray, List.getElem_cons_zero, List.getElem_cons_succ, List.setIfInBounds_toArray, List.set_cons_zero, List.set_cons_succ]
  refine wpAnyH_take (i := 7) (v := ?_) rfl (by kernel_rfl) (by kernel_rfl) (by kernel_rfl) (fun _ _ _ h => h) (Or.inl ⟨by rfl, ?_⟩) hHeld0 ?_
  rotate_left
  · (intro w hSw; (try dsimp only at hSw); go_simp <;> (try with_reducible rfl))
  simp only [Act.put, List.getElem_toArray, List.getElem_cons_zero, List.getElem_cons_succ, List.setIfInBounds_toArray, List.set_cons_zero, List.set_cons_succ]
  refine wpAnyH_ready (rs := [4]) (by kernel_rfl) (by simp) ?_
  refine AllReadyH.cons rfl (fun K hK => ?_) AllReadyH.nil
  go_simp
  refine hK.out _ _ (by trivial) (fun hHeld1 => ?_)
  clear hK K hHeld0
  try simp only [Act.put, List.getElem_toArray, List.getElem_cons_zero, List.getElem_cons_succ, List.setIfInBounds_toArray, List.set_cons_zero, List.set_cons_succ]
  refine wpAnyH_ready (rs := [8]) (by kernel_rfl) (by simp) ?_
  refine AllReadyH.cons rfl (fun K hK => ?_) AllReadyH.nil
  refine step_append_by (AppB ((w.alloc (.cells C.toArray 49)).drew) (R + 1) (.slice va xs.length vc) (xs ++ tx)) rfl (.tmp 10) (.tmp 13) rfl (.slice va xs.length vc) (.slice (some ⟨w.heap.size, 0, none⟩) 32 32) rfl rfl (fun ty => run_append_src _ (R + 1) _ _ xs tx HO1.out HTX.out (by rw [HTL.out]; omega) (by rw [HTL.out]; exact HLB.out) HI1.out.lt ty) ?_
  intro v2 W2 h2
  obtain ⟨va2, vc2, hv2⟩ := owns_form h2.1
  rw [List.length_append, HTL.out] at hv2
  subst hv2
  have hcR2 := app_cell HI1.out HO1.out h2
  have hfR2 := app_frozen HI1.out HO1.out h2
  refine hK.out _ _ (by trivial) (fun hHeld2 => ?_)
  clear hK K hHeld1
  try simp only [Act.put, List.getElem_toArray, List.getElem_cons_zero, List.getElem_cons_succ, List.setIfInBounds_toArray, List.set_cons_zero, List.set_cons_succ]
  refine wpAnyH_take (i := 9) (v := ?_) rfl (by kernel_rfl) (by kernel_rfl) (by kernel_rfl) (fun _ _ _ h => h) (Or.inl ⟨by rfl, ?_⟩) hHeld2 ?_
  rotate_left
  · (intro w hSw; (try dsimp only at hSw); go_simp <;> (try with_reducible rfl))
  simp only [Act.put, List.getElem_toArray, List.getElem_cons_zero, List.getElem_cons_succ, List.setIfInBounds_toArray, List.set_cons_zero, List.set_cons_succ]
  refine wpAnyH_take (i := 10) (v := ?_) rfl (by kernel_rfl) (by kernel_rfl) (by kernel_rfl) (fun _ _ _ h => h) (Or.inl ⟨by rfl, ?_⟩) hHeld2 ?_
  rotate_left
  · (intro w hSw; (try dsimp only at hSw); go_simp <;> (try with_reducible rfl))
  simp only [Act.put, List.getElem_toArray, List.getElem_cons_zero, List.getElem_cons_succ, List.setIfInBounds_toArray, List.set_cons_zero, List.set_cons_succ]
  refine wpAnyH_ready (rs := [11]) (by kernel_rfl) (by simp) ?_
  refine AllReadyH.cons rfl (fun K hK => ?_) AllReadyH.nil
  go_simp
  refine hK.out _ _ (by trivial) (fun hHeld3 => ?_)
  clear hK K hHeld2
  try simp only [Act.put, List.getElem_toArray, List.getElem_cons_zero, List.getElem_cons_succ, List.setIfInBounds_toArray, List.set_cons_zero, List.set_cons_succ]
  refine wpAnyH_done (by kernel_rfl) ?_ _
  have hfin := WS.next (P := fun k => P k ∨ k = w.heap.size) HI1.out (fun k hk => (World.ownsRow.lt HO1.out k hk).1) HV1.out HP1.out h2
  have HX3 := hide (BoxS.start (c := C) (t := 49) HP.out HRL.out hfin.1 hfin.2.1 hfin.2.2)
  clear hfin h2 hcR2 hfR2
  generalize hW3 : (W2.setCell ⟨R, 0, none⟩ (.slice va2 (xs.length + 32) vc2)) = W3 at *
  clear hW3
  have hcX := HC32.out W3 HX3.out.box
  have HN := hide (wnumber_any R _ (xs ++ tx) at' W3 HX3.out.apart HX3.out.ws HAT.out.1 HAT.out.2 (by rw [List.length_append, HTL.out]; have := HL.out; omega))
  go_wp2_with fail
  refine HN.out.mono ?_
  rintro e w4 ⟨rfl, hs4, hk4, hb4⟩
  have HX4 := hide (HX3.out.next hs4 hk4 hb4)
  clear hs4 hk4 hb4 HN hcX
  have hcX := HC33.out w4 HX4.out.box
  have HN := hide (wnumber_any R _ ((xs ++ tx) ++ Sz.wr at') (K.length : Nat) w4 HX4.out.apart HX4.out.ws (by omega) (by omega) (by rw [List.length_append, List.length_append, HTL.out]; have := HL.out; have := Sz.wr_le9 at'; omega))
  go_wp2_with fail
  refine HN.out.mono ?_
  rintro e w5 ⟨rfl, hs5, hk5, hb5⟩
  have HX5 := hide (HX4.out.next hs5 hk5 hb5)
  clear hs5 hk5 hb5 HN hcX
  have hcX := HC33.out w5 HX5.out.box
  have HYL : Hid ((xs ++ tx ++ Sz.wr at' ++ Sz.wr (K.length : Nat)).length ≤ xs.length + 50) := hide (by simp only [List.length_append]; rw [HTL.out]; have := Sz.wr_le9 at'; have := Sz.wr_le9 (K.length : Nat); omega)
  obtain ⟨ys, hys⟩ : ∃ ys, ys = xs ++ tx ++ Sz.wr at' ++ Sz.wr (K.length : Nat) := ⟨_, rfl⟩
  rw [← hys] at HX5 HYL
  have HYS : Hid (ys ++ ((K.map Prod.fst).map Sz.pk).flatten = xs ++ (tx ++ (Sz.wr at' ++ (Sz.wr (K.length : Nat) ++ ((K.map Prod.fst).map Sz.pk).flatten)))) := hide (by rw [hys]; simp [List.append_assoc])
  clear hys HX3 HX4
  generalize hkn : K.length = kn at *
  go_wp2
  go_loopw [30] (fun i wr => ∃ k : Nat, k ≤ kn ∧ i = .int .i64 k ∧ BoxS w R P C 49 (ys ++ (((K.map Prod.fst).take k).map Sz.pk).flatten) wr) (fun i _ => kn - (intOf i).toNat)
  case atStart => exact ⟨0, by omega, rfl, by simpa using HX5.out⟩
  case round =>
    obtain ⟨k, hk, rfl, hbx⟩ := hrel
    by_cases hlt : k < kn
    · have hkK : k < K.length := by omega
      have HBS := hide hbx
      obtain ⟨kb, koff, rfl, hkb, hkr⟩ := HKR.out k hlt
      have hbw0 : Below w0.heap.size w0 wr := HB0.out.trans (hbx.below.mono HRR.out)
      have hcell : wr.cell? ⟨kb, koff + k, none⟩ = some K[k].2 := range_keep hkr hbw0 hkb k _ (by rw [List.getElem?_map, List.getElem?_eq_getElem hkK]; rfl)
      obtain ⟨hp1, hp2⟩ := HH.out.2 K[k] (List.getElem_mem hkK)
      obtain ⟨sa, sc, hse, _, _⟩ := hp1.shape
      have hp3 := hp1.below hbw0
      rw [hse] at hcell hp3
      have hyl : (ys ++ (((K.map Prod.fst).take k).map Sz.pk).flatten).length + (K[k].1.length + 9) ≤ 1000000000 := by
        have h1 := tx_flat_le ((K.map Prod.fst).take k) 3000 (fun l hl => by
          obtain ⟨q, hq, rfl⟩ := List.mem_map.1 (List.mem_of_mem_take hl)
          exact H3000.out q hq)
        have h2 := H3000.out K[k] (List.getElem_mem hkK)
        rw [List.length_take, List.length_map] at h1
        rw [List.length_append]
        have := HYL.out
        have := HL.out
        have : min k K.length ≤ 30 := by omega
        have : min k K.length * (3000 + 9) ≤ 30 * 3009 := Nat.mul_le_mul this (by omega)
        omega
      have HPK := hide (wpacked_any R _ _ _ K[k].1 wr hbx.apart hbx.ws hp3 hyl)
      have hnx : ys ++ (((K.map Prod.fst).take k).map Sz.pk).flatten ++ Sz.pk K[k].1 = ys ++ (((K.map Prod.fst).take (k + 1)).map Sz.pk).flatten := by
        have hkm : k < (K.map Prod.fst).length := by rw [List.length_map]; exact hkK
        rw [List.take_succ_eq_append_getElem hkm, List.map_append, List.flatten_append, ← List.append_assoc]
        simp
      have HNX := hide hnx
      have hki : (k : Int) < (kn : Int) := by omega
      clear hbx hkr hbw0 hp1 hp2 hse hp3 hyl hnx
      generalize K[k].1.length = pl at *
      go_wp2_with fail
      refine HPK.out.mono ?_
      rintro e w6 ⟨rfl, hs6, hk6, hb6⟩
      have HX6 := hide (HBS.out.next hs6 hk6 hb6)
      clear hs6 hk6 hb6
      go_wp2
      go_roundw
      case rel => exact ⟨k + 1, by omega, by go_num, by rw [← HNX.out]; exact HX6.out⟩
      case measure => simp [intOf]; omega
    · have hke : k = kn := by omega
      rw [List.take_of_length_le (by rw [List.length_map]; omega), HYS.out] at hbx
      have HBS := hide hbx
      clear hbx
      go_wp2
      go_end0
      exact ⟨rfl, by have := HBS.out.out; rw [← hkn] at this; exact this, HBS.out.keptP HP.out, HBS.out.below⟩
end Go.Proofs.YtmjilohlchkicaaGreatDoor

/- tx's writer: an out. -/
namespace Go.Proofs.YtmjilohlchkicaaGreatDoor
open Go.RowKit
set_option linter.unusedVariables false
set_option linter.unusedSimpArgs false

theorem BoxS.new {w : World} {R : Nat} {P : Nat → Prop} {c : List Value} {t : TypeId} {xs : List Int} (hP : ∀ k, P k → k < w.heap.size ∧ k ≠ R) (hs : WS w R P xs) : BoxS w R P c t xs (w.alloc (.cells c.toArray t)) := by
  obtain ⟨v, h1, h2, h3⟩ := hs
  refine ⟨⟨v, h1.alloc _, h2.below (below_alloc w _), fun k hk hp => ?_⟩, fun k hp => ?_, fun k hp => Below.heap_alloc w _ k (hP k hp).1, (Below.refl R w).alloc (Nat.le_of_lt h1.lt) _, Is.new w c t⟩
  · rcases hp with hp | hp
    · exact h3 k hk hp
    · have := (World.ownsRow.lt h2 k hk).2; omega
  · rcases hp with hp | rfl
    · have := hP k hp; exact ⟨by simp; omega, this.2⟩
    · have := h1.lt; exact ⟨by simp, by omega⟩
theorem flat_ops_le (ls : List Lk.Op) (m : Nat) (h : ∀ o ∈ ls, o.data.length ≤ m) : ((ls.map Tm.opB).flatten).length ≤ ls.length * (m + 27) := by
  induction ls with
  | nil => simp
  | cons o r ih =>
    have h1 := ih (fun x hx => h x (by simp [hx]))
    have h2 := h o (by simp)
    have h3 := Sz.wr_le9 (o.data.length : Nat)
    have h4 := Sz.pk_length o.data
    have h5 := Sz.wr_le9 o.op
    have h6 := Sz.wr_le9 o.n
    rw [List.map_cons, List.flatten_cons, List.length_append, List.length_cons, Nat.succ_mul, Tm.opB, List.length_append, List.length_append]
    omega

set_option maxRecDepth 100000 in
set_option maxHeartbeats 4000000 in
theorem wout_any (R : Nat) (P : Nat → Prop) (xs : List Int) (x : OutV) (w0 w : World) (hR : w0.heap.size ≤ R) (hb0 : Below w0.heap.size w0 w) (hP : ∀ k, P k → k < w.heap.size ∧ k ≠ R) (hs : WS w R P xs) (ho : HasOps w0 x.lv x.L) (h0 : 0 ≤ x.amount) (h1 : x.amount ≤ 9223372036854775807) (h60 : x.L.length ≤ 60) (hop : ∀ p ∈ x.L, (0 ≤ p.1.op ∧ p.1.op ≤ 9223372036854775807) ∧ (0 ≤ p.1.n ∧ p.1.n ≤ 9223372036854775807) ∧ p.1.data.length ≤ 300) (hl : xs.length + 30000 ≤ 1000000000) :
    Calls Tryz.prog 84 #[.pointer (some ⟨R, 0, none⟩), .agg #[.int .i64 x.amount, x.lv]] w fun e w' => e = .returned (.tuple #[]) ∧ WS w' R P (xs ++ Tm.outB x.it) ∧ Kept P w w' ∧ Below R w w' := by
  obtain ⟨am, lv, L⟩ := x
  simp only at ho h0 h1 h60 hop
  obtain ⟨la, lc, rfl⟩ : ∃ a c, lv = .slice a L.length c := by
    rcases ho.1 with ⟨a, c, e1, e2⟩ | ⟨b, off, c, e1, _⟩
    · exact ⟨a, c, by rw [e1, e2]; rfl⟩
    · exact ⟨_, c, e1⟩
  have HX0 := hide (BoxS.new (c := [.int .i64 am, .slice la L.length lc]) (t := 52) hP hs)
  have HN := hide (wnumber_any R _ xs am _ HX0.out.apart HX0.out.ws h0 h1 (by omega))
  have HOR : Hid (∀ k, k < L.length → ∃ b off, la = some ⟨b, off, none⟩ ∧ b < w0.heap.size ∧ w0.rangeAt b off (opCells L)) := hide (fun k hk => by
    rcases ho.1 with ⟨a, c, e1, e2⟩ | ⟨b, off, c, e1, _, _, _, h3, hc⟩
    · subst e2; simp at hk
    · injection e1 with e1; exact ⟨b, off, e1, h3, hc⟩)
  have HD := hide ho.2
  have HOP := hide hop
  have HL := hide hl
  have HB0 := hide hb0
  have HRR := hide hR
  have HPP := hide hP
  have hll : L.length ≤ 60 := h60
  show Calls Tryz.prog 84 _ w fun e w' => e = .returned (.tuple #[]) ∧ WS w' R P (xs ++ (Sz.wr am ++ (Sz.wr ((opsOf L).length : Nat) ++ ((opsOf L).map Tm.opB).flatten))) ∧ Kept P w w' ∧ Below R w w'
  rw [opsOf_length]
  clear hP hs ho h0 h1 h60 hop hl hb0 hR
  obtain ⟨ln, hln⟩ : ∃ n, n = L.length := ⟨_, rfl⟩
  rw [← hln] at HX0 HN hll ⊢
  have HLN : Hid (L.length = ln) := hide hln.symm
  clear hln
  go_enter Tryz.func84, Tryz.ntmps84
  go_wp2_with fail
  refine HN.out.mono ?_
  rintro e w1 ⟨rfl, hs1, hk1, hb1⟩
  have HX1 := hide (HX0.out.next hs1 hk1 hb1)
  have hcX := HX1.out.box.cell 1
  simp only [List.getElem?_cons_zero, List.getElem?_cons_succ] at hcX
  have HN2 := hide (wnumber_any R _ (xs ++ Sz.wr am) (ln : Nat) w1 HX1.out.apart HX1.out.ws (by omega) (by omega) (by rw [List.length_append]; have := HL.out; have := Sz.wr_le9 am; omega))
  clear hs1 hk1 hb1 HN
  go_wp2_with fail
  refine HN2.out.mono ?_
  rintro e w2 ⟨rfl, hs2, hk2, hb2⟩
  have HX2 := hide (HX1.out.next hs2 hk2 hb2)
  clear hcX
  have hcX := HX2.out.box.cell 1
  simp only [List.getElem?_cons_zero, List.getElem?_cons_succ] at hcX
  clear hs2 hk2 hb2 HN2
  have HYL : Hid ((xs ++ Sz.wr am ++ Sz.wr (ln : Nat)).length ≤ xs.length + 18) := hide (by simp only [List.length_append]; have := Sz.wr_le9 am; have := Sz.wr_le9 (ln : Nat); omega)
  obtain ⟨ys, hys⟩ : ∃ ys, ys = xs ++ Sz.wr am ++ Sz.wr (ln : Nat) := ⟨_, rfl⟩
  rw [← hys] at HX2 HYL
  have HYS : Hid (ys ++ ((opsOf L).map Tm.opB).flatten = xs ++ (Sz.wr am ++ (Sz.wr (ln : Nat) ++ ((opsOf L).map Tm.opB).flatten))) := hide (by rw [hys]; simp [List.append_assoc])
  clear hys HX0 HX1
  go_wp2
  go_loopw [18] (fun i wr => ∃ k : Nat, k ≤ ln ∧ i = .int .i64 k ∧ BoxS w R P [.int .i64 am, .slice la ln lc] 52 (ys ++ (((opsOf L).take k).map Tm.opB).flatten) wr) (fun i _ => ln - (intOf i).toNat)
  case atStart => exact ⟨0, by omega, rfl, by simpa using HX2.out⟩
  case round =>
    obtain ⟨k, hk, rfl, hbx⟩ := hrel
    by_cases hlt : k < ln
    · have hkL : k < L.length := by rw [HLN.out]; exact hlt
      have HBS := hide hbx
      obtain ⟨lb, loff, rfl, hlb, hlr⟩ := HOR.out k hkL
      have hbw0 : Below w0.heap.size w0 wr := HB0.out.trans (hbx.below.mono HRR.out)
      obtain ⟨hc0, hc1, hc2⟩ := range_op (range_keep hlr hbw0 hlb) k hkL
      obtain ⟨hp1, hp2⟩ := HD.out L[k] (List.getElem_mem hkL)
      obtain ⟨⟨o1, o2⟩, ⟨o3, o4⟩, o5⟩ := HOP.out L[k] (List.getElem_mem hkL)
      obtain ⟨sa, sc, hse, _, _⟩ := hp1.shape
      rw [hse] at hc2
      have hyl : (ys ++ (((opsOf L).take k).map Tm.opB).flatten).length + 1000 ≤ 1000000000 := by
        have h1 := flat_ops_le ((opsOf L).take k) 300 (fun o ho => by
          have := List.mem_of_mem_take ho
          simp only [opsOf, List.mem_map] at this
          obtain ⟨q, hq, rfl⟩ := this
          exact (HOP.out q hq).2.2)
        rw [List.length_take, opsOf_length] at h1
        rw [List.length_append]
        have := HYL.out
        have := HL.out
        have : min k L.length * (300 + 27) ≤ 60 * 327 := Nat.mul_le_mul (by omega) (by omega)
        omega
      have hnx : ys ++ (((opsOf L).take k).map Tm.opB).flatten ++ Sz.wr L[k].1.op ++ Sz.wr L[k].1.n ++ Sz.pk L[k].1.data = ys ++ (((opsOf L).take (k + 1)).map Tm.opB).flatten := by
        have hkm : k < (opsOf L).length := by rw [opsOf_length]; exact hkL
        rw [List.take_succ_eq_append_getElem hkm, List.map_append, List.flatten_append]
        simp [opsOf, Tm.opB, List.append_assoc]
      have HNX := hide hnx
      have HB3 := hide (BoxS.new (c := [.int .i64 L[k].1.op, .int .i64 L[k].1.n, .slice sa L[k].1.data.length sc]) (t := 95) hbx.apart hbx.ws)
      have HN3 := hide (wnumber_any R _ _ L[k].1.op _ HB3.out.apart HB3.out.ws o1 o2 (by omega))
      have HN4 : Hid (∀ W zs, BoxS wr R (fun k => P k ∨ k = w.heap.size) [.int .i64 L[k].1.op, .int .i64 L[k].1.n, .slice sa L[k].1.data.length sc] 95 zs W → zs.length + 9 ≤ 1000000000 → Calls Tryz.prog 82 #[.pointer (some ⟨R, 0, none⟩), .int .i64 L[k].1.n] W fun e w' => e = .returned (.tuple #[]) ∧ WS w' R (fun k => (P k ∨ k = w.heap.size) ∨ k = wr.heap.size) (zs ++ Sz.wr L[k].1.n) ∧ Kept (fun k => (P k ∨ k = w.heap.size) ∨ k = wr.heap.size) W w' ∧ Below R W w') := hide (fun W zs hB hz => wnumber_any R _ zs L[k].1.n W hB.apart hB.ws o3 o4 hz)
      have HN5 : Hid (∀ W zs, BoxS wr R (fun k => P k ∨ k = w.heap.size) [.int .i64 L[k].1.op, .int .i64 L[k].1.n, .slice sa L[k].1.data.length sc] 95 zs W → zs.length + 309 ≤ 1000000000 → Calls Tryz.prog 105 #[.pointer (some ⟨R, 0, none⟩), .slice sa L[k].1.data.length sc] W fun e w' => e = .returned (.tuple #[]) ∧ WS w' R (fun k => (P k ∨ k = w.heap.size) ∨ k = wr.heap.size) (zs ++ Sz.pk L[k].1.data) ∧ Kept (fun k => (P k ∨ k = w.heap.size) ∨ k = wr.heap.size) W w' ∧ Below R W w') := hide (fun W zs hB hz => by
        have hx := hp1.below (hbw0.trans (hB.below.mono HRR.out))
        rw [hse] at hx
        exact wpacked_any R _ zs _ L[k].1.data W hB.apart hB.ws hx (by omega))
      have HYL2 := hide hyl
      have hki : (k : Int) < (ln : Int) := by omega
      have h9a := Sz.wr_le9 L[k].1.op
      have h9b := Sz.wr_le9 L[k].1.n
      have H9 := hide (And.intro h9a h9b)
      clear hbx hlr hbw0 hp1 hp2 hse hyl hnx o1 o2 o3 o4 o5 h9a h9b
      generalize L[k].1.data.length = dl at *
      generalize Sz.pk L[k].1.data = pkd at *
      generalize L[k].1.op = op at *
      generalize L[k].1.n = on at *
      go_wp2_with fail
      refine HN3.out.mono ?_
      rintro e w3 ⟨rfl, hs3, hk3, hb3⟩
      have HB4 := hide (HB3.out.next hs3 hk3 hb3)
      have hcY := HB4.out.box.cell 1
      simp only [List.getElem?_cons_zero, List.getElem?_cons_succ] at hcY
      have HN4b := hide (HN4.out w3 _ HB4.out (by rw [List.length_append]; have := HYL2.out; have := H9.out.1; omega))
      clear hs3 hk3 hb3 HN3 HN4
      go_wp2_with fail
      refine HN4b.out.mono ?_
      rintro e w4 ⟨rfl, hs4, hk4, hb4⟩
      have HB5 := hide (HB4.out.next hs4 hk4 hb4)
      have hcZ := HB5.out.box.cell 2
      simp only [List.getElem?_cons_zero, List.getElem?_cons_succ] at hcZ
      have HN5b := hide (HN5.out w4 _ HB5.out (by rw [List.length_append, List.length_append]; have := HYL2.out; have := H9.out; omega))
      clear hs4 hk4 hb4 HN4b HN5 hcY
      go_wp2_with fail
      refine HN5b.out.mono ?_
      rintro e w5 ⟨rfl, hs5, hk5, hb5⟩
      have hB6 := HB5.out.next hs5 hk5 hb5
      have HX6 := hide (HBS.out.next hB6.out hB6.kept hB6.below)
      clear hs5 hk5 hb5 HN5b hcZ hB6
      go_wp2
      go_roundw
      case rel => exact ⟨k + 1, by omega, by go_num, by rw [← HNX.out]; exact HX6.out⟩
      case measure => simp [intOf]; omega
    · have hke : k = ln := by omega
      rw [List.take_of_length_le (by rw [opsOf_length, HLN.out]; omega), HYS.out] at hbx
      have HBS := hide hbx
      clear hbx
      go_wp2
      go_end0
      exact ⟨rfl, HBS.out.out, HBS.out.keptP HPP.out, HBS.out.below⟩
end Go.Proofs.YtmjilohlchkicaaGreatDoor

/- tx.written, tx.Bytes. -/
namespace Go.Proofs.YtmjilohlchkicaaGreatDoor
open Go.RowKit
set_option linter.unusedVariables false
set_option linter.unusedSimpArgs false

theorem inB_le (i : Tm.In) (h1 : i.tx.length = 32) (h2 : i.keys.length ≤ 30) (h3 : ∀ k ∈ i.keys, k.length ≤ 3000) : (Tm.inB i).length ≤ 90400 := by
  have a1 := Sz.wr_le9 i.at'
  have a2 := Sz.wr_le9 (i.keys.length : Nat)
  have a3 := tx_flat_le i.keys 3000 h3
  have a4 : i.keys.length * (3000 + 9) ≤ 30 * 3009 := Nat.mul_le_mul h2 (Nat.le_refl _)
  unfold Tm.inB
  simp only [List.length_append]
  omega
theorem outB_le (o : Tm.Out) (h2 : o.lock.length ≤ 60) (h3 : ∀ x ∈ o.lock, x.data.length ≤ 300) : (Tm.outB o).length ≤ 20000 := by
  have a1 := Sz.wr_le9 o.amount
  have a2 := Sz.wr_le9 (o.lock.length : Nat)
  have a3 := flat_ops_le o.lock 300 h3
  have a4 : o.lock.length * (300 + 27) ≤ 60 * 327 := Nat.mul_le_mul h2 (Nat.le_refl _)
  unfold Tm.outB
  simp only [List.length_append]
  omega
theorem flatten_le {α : Type} (f : α → List Int) (m : Nat) (l : List α) (h : ∀ x ∈ l, (f x).length ≤ m) : ((l.map f).flatten).length ≤ l.length * m := by
  induction l with
  | nil => simp
  | cons x r ih =>
    have h1 := ih (fun y hy => h y (by simp [hy]))
    have h2 := h x (by simp)
    rw [List.map_cons, List.flatten_cons, List.length_append, List.length_cons, Nat.succ_mul]
    omega

/-- What is written so far; the payment's box is as it was. -/
structure WrS (w : World) (c : List Value) (ys : List Int) (W : World) : Prop where
  ws : WS W (w.heap.size + 1) (fun k => k = w.heap.size) ys
  box : Is W w.heap.size c 26
  below : Below w.heap.size w W
theorem WrS.apart {w W : World} {c : List Value} {ys : List Int} (h : WrS w c ys W) : ∀ k, k = w.heap.size → k < W.heap.size ∧ k ≠ w.heap.size + 1 := fun k e => by subst e; exact ⟨h.box.lt, by omega⟩
theorem WrS.next {w W W' : World} {c : List Value} {ys zs : List Int} (h : WrS w c ys W) (hs : WS W' (w.heap.size + 1) (fun k => k = w.heap.size) zs) (hk : Kept (fun k => k = w.heap.size) W W') (hb : Below (w.heap.size + 1) W W') : WrS w c zs W' :=
  ⟨hs, by unfold Is; rw [hk w.heap.size rfl]; exact h.box, h.below.trans (hb.mono (by omega))⟩
theorem WrS.call {w W W' : World} {c : List Value} {ys : List Int} (h : WrS w c ys W) (hb : Below W.heap.size W W') : WrS w c ys W' :=
  ⟨h.ws.call hb (fun k _ e => e), h.box.below hb h.box.lt, h.below.trans (hb.mono h.below.size)⟩

set_option maxRecDepth 100000 in
set_option maxHeartbeats 4000000 in
theorem written_any (t : TxV) (w : World) (ht : HasTx w t) (hc : Tm.check t.it = 0) :
    Calls Tryz.prog 58 #[t.val] w fun e w' => ∃ v, e = .returned v ∧ Own w' w.heap.size v (Tm.bytes t.it) ∧ Below w.heap.size w w' := by
  obtain ⟨c1, c2, c3, c4, c5, c6, c7⟩ := Tm.check_zero _ hc
  have cI := Tm.insF_zero _ _ c6
  have cO := Tm.outsF_zero _ c7
  obtain ⟨iv, ins, ov, outs, time⟩ := t
  obtain ⟨hi, ho⟩ := ht
  obtain ⟨ia, ic, hie, him, hir⟩ := hi.form
  obtain ⟨oa, oc, hoe, hom, hor⟩ := ho.form
  simp only at hi ho hie hoe hir hor
  subst hie hoe
  simp only [TxV.it, List.length_map] at c1 c2 c3 c4 c5 cI cO
  have hIK : ∀ x ∈ ins, 0 ≤ x.at' ∧ x.at' < 40 ∧ x.K.length ≤ 30 ∧ ∀ p ∈ x.K, p.1.length ≤ 3000 := fun x hx => by
    obtain ⟨a, b, c⟩ := cI x.it (List.mem_map_of_mem hx)
    obtain ⟨d, e⟩ := Tm.keysF_zero _ c
    exact ⟨a, b, by simpa [InV.it] using d, fun p hp => e p.1 (List.mem_map_of_mem hp)⟩
  have hOK : ∀ x ∈ outs, Mo.ok x.amount ∧ x.L.length ≤ 60 ∧ ∀ p ∈ x.L, 1 ≤ p.1.op ∧ p.1.op ≤ 14 ∧ 0 ≤ p.1.n ∧ p.1.n ≤ 1073741824 ∧ p.1.data.length ≤ 300 := fun x hx => by
    obtain ⟨a, b⟩ := cO x.it (List.mem_map_of_mem hx)
    obtain ⟨d, e⟩ := Tm.lock_ok _ b
    exact ⟨a, by simpa [OutV.it, opsOf_length] using d, fun p hp => e p.1 (by simp only [OutV.it, opsOf, List.mem_map]; exact ⟨p, hp, rfl⟩)⟩
  have hIL : ∀ k, (((ins.take k).map fun x => Tm.inB x.it).flatten).length ≤ 40 * 90400 := fun k => by
    have := flatten_le (fun x : InV => Tm.inB x.it) 90400 (ins.take k) (fun x hx => by
      have hx := List.mem_of_mem_take hx
      obtain ⟨_, _, b, c⟩ := hIK x hx
      exact inB_le _ (hi.2 x hx).1 (by simpa [InV.it] using b) (fun k hk => by
        simp only [InV.it, List.mem_map] at hk
        obtain ⟨p, hp, rfl⟩ := hk
        exact c p hp))
    exact Nat.le_trans this (Nat.mul_le_mul (by rw [List.length_take]; omega) (Nat.le_refl _))
  have hOL : ∀ k, (((outs.take k).map fun x => Tm.outB x.it).flatten).length ≤ 40 * 20000 := fun k => by
    have := flatten_le (fun x : OutV => Tm.outB x.it) 20000 (outs.take k) (fun x hx => by
      have hx := List.mem_of_mem_take hx
      obtain ⟨_, b, c⟩ := hOK x hx
      exact outB_le _ (by simpa [OutV.it, opsOf_length] using b) (fun k hk => by
        simp only [OutV.it, opsOf, List.mem_map] at hk
        obtain ⟨p, hp, rfl⟩ := hk
        exact (c p hp).2.2.2.2))
    exact Nat.le_trans this (Nat.mul_le_mul (by rw [List.length_take]; omega) (Nat.le_refl _))
  show Calls Tryz.prog 58 #[.agg #[.slice ia ins.length ic, .slice oa outs.length oc, .int .i64 time]] w fun e w' => ∃ v, e = .returned v ∧ Own w' w.heap.size v (Sz.wr ((ins.map InV.it).length : Nat) ++ (((ins.map InV.it).map Tm.inB).flatten ++ (Sz.wr ((outs.map OutV.it).length : Nat) ++ (((outs.map OutV.it).map Tm.outB).flatten ++ Sz.wr time)))) ∧ Below w.heap.size w w'
  rw [List.length_map, List.length_map, List.map_map, List.map_map]
  have hx0 : WrS w [.slice ia ins.length ic, .slice oa outs.length oc, .int .i64 time] [] ((w.alloc (.cells #[.slice ia ins.length ic, .slice oa outs.length oc, .int .i64 time] 26)).alloc (.cells #[.slice none 0 0] 148)) :=
    ⟨⟨.slice none 0 0, Is.new' [.slice none 0 0] 148 (by simp), World.ownsRow_nil _ _ _ _, fun k hk => by cases hk⟩, (Is.new w [.slice ia ins.length ic, .slice oa outs.length oc, .int .i64 time] 26).alloc _, below_alloc2 w _ _⟩
  have HX0 := hide hx0
  have HIR := hide hir
  have HOR := hide hor
  have HID := hide hi.2
  have HOD := hide ho.2
  have HIK := hide hIK
  have HOK := hide hOK
  have HIL := hide hIL
  have HOL := hide hOL
  have HT : Hid (0 ≤ time ∧ time ≤ 9223372036854775807) := hide ⟨c4, by omega⟩
  have hzi := zero_in
  obtain ⟨Y, hY⟩ : ∃ Y, Y = vals (List.replicate 32 0) ++ ([.int .i64 0, .slice none 0 0] : List Value) := ⟨_, rfl⟩
  rw [← hY] at hzi
  have hYl : Y.length = 34 := by rw [hY]; simp [vals]
  have hYp : ¬ Y = [] := by intro h; rw [h] at hYl; cases hYl
  have HYL := hide hYl
  obtain ⟨il, hil⟩ : ∃ n, n = ins.length := ⟨_, rfl⟩
  obtain ⟨ol, hol⟩ : ∃ n, n = outs.length := ⟨_, rfl⟩
  rw [← hil] at HX0 c1 ⊢
  rw [← hol] at HX0 c2 ⊢
  have HIN : Hid (ins.length = il) := hide hil.symm
  have HON : Hid (outs.length = ol) := hide hol.symm
  have HN1 := hide (wnumber_any (w.heap.size + 1) _ [] (il : Nat) _ HX0.out.apart HX0.out.ws (by omega) (by omega) (by simp))
  clear c3 c4 c5 c6 c7 cI cO hi ho hir hor hIK hOK hIL hOL hY hYl hil hol hx0 hc him hom
  go_enter Tryz.func58, Tryz.ntmps58
  go_wp2_with fail
  refine HN1.out.mono ?_
  rintro e w1 ⟨rfl, hs1, hk1, hb1⟩
  have HX1 := hide (HX0.out.next hs1 hk1 hb1)
  have hcX := HX1.out.box.cell 0
  simp only [List.getElem?_cons_zero, List.getElem?_cons_succ] at hcX
  rw [List.nil_append] at HX1
  have HZ1 : Hid ((Sz.wr (il : Nat)).length ≤ 9) := hide (Sz.wr_le9 _)
  obtain ⟨z1, hz1⟩ : ∃ z, z = Sz.wr (il : Nat) := ⟨_, rfl⟩
  have HZZ1 := hide hz1
  rw [← hz1] at HX1 HZ1
  clear hs1 hk1 hb1 HN1 hz1
  go_wp2
  go_loopw [18] (fun i wr => ∃ k : Nat, k ≤ il ∧ i = .int .i64 k ∧ WrS w [.slice ia il ic, .slice oa ol oc, .int .i64 time] (z1 ++ ((ins.take k).map fun x => Tm.inB x.it).flatten) wr) (fun i _ => il - (intOf i).toNat)
  case atStart => exact ⟨0, by omega, rfl, by simpa using HX1.out⟩
  case round =>
    obtain ⟨k, hk, rfl, hwr⟩ := hrel
    by_cases hlt : k < il
    · have hkI : k < ins.length := by rw [HIN.out]; exact hlt
      have HWR := hide hwr
      obtain ⟨b, off, rfl, hb1, hb2, hb3, hbr⟩ := HIR.out k hkI
      obtain ⟨d1, d2, d3⟩ := HID.out ins[k] (List.getElem_mem hkI)
      obtain ⟨e1, e2, e3, e4⟩ := HIK.out ins[k] (List.getElem_mem hkI)
      have hin := range_at (range_keep hbr hwr.below hb3) (fun x hx => inCell_length x (HID.out x hx).1) k hkI
      have hcl := inCell_length ins[k] d1
      have hone : ∀ v ∈ inCell ins[k], v.oneCell' = true := by
        intro v hv
        unfold inCell at hv
        rcases List.mem_append.1 hv with hv | hv
        · exact vals_one _ v hv
        · simp only [List.mem_cons, List.not_mem_nil, or_false] at hv
          rcases hv with rfl | rfl
          · rfl
          · obtain ⟨a, c, e, _⟩ := d3.form; rw [e]; rfl
      have hlen : (z1 ++ ((ins.take k).map fun x => Tm.inB x.it).flatten).length + 100000 ≤ 1000000000 := by
        rw [List.length_append]; have := HIL.out k; have := HZ1.out; omega
      have HWI : Hid (∀ W, Below wr.heap.size wr W → Calls Tryz.prog 83 #[.pointer (some ⟨w.heap.size + 1, 0, none⟩), .agg (inCell ins[k]).toArray] W fun e w' => e = .returned (.tuple #[]) ∧ WS w' (w.heap.size + 1) (fun k => k = w.heap.size) (z1 ++ ((ins.take k).map fun x => Tm.inB x.it).flatten ++ Tm.inB ins[k].it) ∧ Kept (fun k => k = w.heap.size) W w' ∧ Below (w.heap.size + 1) W w') := hide (fun W hW => win_any _ _ _ ins[k] w W (by omega) (HWR.out.below.trans (hW.mono HWR.out.below.size)) (HWR.out.call hW).apart (HWR.out.call hW).ws d1 d2 d3 e1 (by omega) e3 e4 hlen)
      have hnx : z1 ++ ((ins.take k).map fun x => Tm.inB x.it).flatten ++ Tm.inB ins[k].it = z1 ++ ((ins.take (k + 1)).map fun x => Tm.inB x.it).flatten := by
        rw [List.take_succ_eq_append_getElem hkI, List.map_append, List.flatten_append, ← List.append_assoc]; simp
      have HNX := hide hnx
      have hki : (k : Int) < (il : Int) := by omega
      obtain ⟨C, hC⟩ : ∃ C, C = inCell ins[k] := ⟨_, rfl⟩
      rw [← hC] at hin hcl hone HWI
      have HIC := hide hin
      have HCL := hide hcl
      have HONE := hide hone
      clear hwr hbr d1 d2 d3 e1 e2 e3 e4 hin hcl hone hlen hnx hC hb1 hb2
      go_wp2_with (first
        | (refine wpList_load_part 49 C b (off + k * 34) rfl (.tmp 20) rfl rfl HIC.out Tryz.underlying49 rfl size_in HCL.out ?_)
        | (refine wpList_store_any3 49 Y C wr.heap.size rfl (.tmp 5) (.tmp 21) rfl rfl rfl rfl (Is.new wr _ _) size_in HYL.out HCL.out HONE.out ?_; intro w5 hi5 hw5; have hb5 : Below wr.heap.size wr w5 := (by rw [hw5]; exact below_row); clear hw5)
        | (refine wpList_load_part 49 C wr.heap.size 0 rfl (.tmp 5) rfl rfl (is_range hi5) Tryz.underlying49 rfl size_in HCL.out ?_))
      refine (HWI.out w5 hb5).mono ?_
      rintro e w6 ⟨rfl, hs6, hk6, hb6⟩
      have HX6 := hide ((HWR.out.call hb5).next hs6 hk6 hb6)
      clear hs6 hk6 hb6 hi5 hb5
      go_wp2
      go_roundw
      case rel => exact ⟨k + 1, by omega, by go_num, by rw [← HNX.out]; exact HX6.out⟩
      case measure => simp [intOf]; omega
    · have hke : k = il := by omega
      rw [List.take_of_length_le (by rw [HIN.out]; omega)] at hwr
      have HXA := hide hwr
      have hcA := hwr.box.cell 1
      simp only [List.getElem?_cons_zero, List.getElem?_cons_succ] at hcA
      have hzl : (z1 ++ (ins.map fun x => Tm.inB x.it).flatten).length ≤ 3700000 := by
        rw [List.length_append]; have h1 := HIL.out ins.length; rw [List.take_length] at h1; have := HZ1.out; omega
      have HZ2 := hide hzl
      have HN2 := hide (wnumber_any (w.heap.size + 1) _ _ (ol : Nat) wr hwr.apart hwr.ws (by omega) (by omega) (by omega))
      clear hwr hzl
      go_wp2_with fail
      refine HN2.out.mono ?_
      rintro e w2 ⟨rfl, hs2, hk2, hb2⟩
      have HX2 := hide (HXA.out.next hs2 hk2 hb2)
      clear hcA
      have hcB := HX2.out.box.cell 1
      simp only [List.getElem?_cons_zero, List.getElem?_cons_succ] at hcB
      have HZ3 : Hid ((z1 ++ (ins.map fun x => Tm.inB x.it).flatten ++ Sz.wr (ol : Nat)).length ≤ 3700009) := hide (by rw [List.length_append]; have := Sz.wr_le9 (ol : Nat); have := HZ2.out; omega)
      obtain ⟨z2, hz2⟩ : ∃ z, z = z1 ++ (ins.map fun x => Tm.inB x.it).flatten ++ Sz.wr (ol : Nat) := ⟨_, rfl⟩
      have HZZ2 := hide hz2
      rw [← hz2] at HX2 HZ3
      clear hs2 hk2 hb2 HN2 hz2 HXA HZ2
      go_wp2
      go_loopw [34] (fun i wr => ∃ k : Nat, k ≤ ol ∧ i = .int .i64 k ∧ WrS w [.slice ia il ic, .slice oa ol oc, .int .i64 time] (z2 ++ ((outs.take k).map fun x => Tm.outB x.it).flatten) wr) (fun i _ => ol - (intOf i).toNat)
      case atStart => exact ⟨0, by omega, rfl, by simpa using HX2.out⟩
      case round =>
        obtain ⟨k2, hk2, rfl, hwr⟩ := hrel
        by_cases hlt2 : k2 < ol
        · have hkO : k2 < outs.length := by rw [HON.out]; exact hlt2
          have HWR := hide hwr
          obtain ⟨b, off, rfl, hb1, hb2, hb3, hbr⟩ := HOR.out k2 hkO
          have d3 := HOD.out outs[k2] (List.getElem_mem hkO)
          obtain ⟨e1, e2, e3⟩ := HOK.out outs[k2] (List.getElem_mem hkO)
          have hin := range_at (f := outCell) (s := 2) (range_keep hbr hwr.below hb3) (fun x hx => rfl) k2 hkO
          have hc0 : wr.cell? ⟨b, off + k2 * 2, none⟩ = some (.int .i64 outs[k2].amount) := hin 0 _ rfl
          have hc1 : wr.cell? ⟨b, off + k2 * 2 + 1, none⟩ = some outs[k2].lv := hin 1 _ rfl
          obtain ⟨la, lc, hle⟩ : ∃ a c, outs[k2].lv = .slice a outs[k2].L.length c := by
            rcases d3.1 with ⟨a, c, e1, e2⟩ | ⟨b, off, c, e1, _⟩
            · exact ⟨a, c, by rw [e1, e2]; rfl⟩
            · exact ⟨_, c, e1⟩
          have hlen : (z2 ++ ((outs.take k2).map fun x => Tm.outB x.it).flatten).length + 30000 ≤ 1000000000 := by
            rw [List.length_append]; have := HOL.out k2; have := HZ3.out; omega
          have HWO : Hid (∀ W, Below wr.heap.size wr W → Calls Tryz.prog 84 #[.pointer (some ⟨w.heap.size + 1, 0, none⟩), .agg #[.int .i64 outs[k2].amount, outs[k2].lv]] W fun e w' => e = .returned (.tuple #[]) ∧ WS w' (w.heap.size + 1) (fun k => k = w.heap.size) (z2 ++ ((outs.take k2).map fun x => Tm.outB x.it).flatten ++ Tm.outB outs[k2].it) ∧ Kept (fun k => k = w.heap.size) W w' ∧ Below (w.heap.size + 1) W w') := hide (fun W hW => wout_any _ _ _ outs[k2] w W (by omega) (HWR.out.below.trans (hW.mono HWR.out.below.size)) (HWR.out.call hW).apart (HWR.out.call hW).ws d3 e1.1 (by have := e1.2; omega) e2 (fun p hp => by obtain ⟨f1, f2, f3, f4, f5⟩ := e3 p hp; exact ⟨⟨by omega, by omega⟩, ⟨f3, by omega⟩, f5⟩) hlen)
          rw [hle] at hc1 HWO
          have hnx : z2 ++ ((outs.take k2).map fun x => Tm.outB x.it).flatten ++ Tm.outB outs[k2].it = z2 ++ ((outs.take (k2 + 1)).map fun x => Tm.outB x.it).flatten := by
            rw [List.take_succ_eq_append_getElem hkO, List.map_append, List.flatten_append, ← List.append_assoc]; simp
          have HNX := hide hnx
          have hki : (k2 : Int) < (ol : Int) := by omega
          have HWO1 := hide (HWO.out _ (below_alloc wr (.cells #[.int .i64 outs[k2].amount, .slice la outs[k2].L.length lc] 52)))
          have HB1 := hide (below_alloc wr (.cells #[.int .i64 outs[k2].amount, .slice la outs[k2].L.length lc] 52))
          clear hwr hbr d3 e1 e2 e3 hin hlen hnx hb1 hb2 hle HWO
          generalize outs[k2].L.length = ll at *
          generalize outs[k2].amount = am at *
          go_wp2_with fail
          refine HWO1.out.mono ?_
          rintro e w6 ⟨rfl, hs6, hk6, hb6⟩
          have HX6 := hide ((HWR.out.call HB1.out).next hs6 hk6 hb6)
          clear hs6 hk6 hb6
          go_wp2
          go_roundw
          case rel => exact ⟨k2 + 1, by omega, by go_num, by rw [← HNX.out]; exact HX6.out⟩
          case measure => simp [intOf]; omega
        · have hke2 : k2 = ol := by omega
          rw [List.take_of_length_le (by rw [HON.out]; omega)] at hwr
          have HXB := hide hwr
          have hcA := hwr.box.cell 2
          simp only [List.getElem?_cons_zero, List.getElem?_cons_succ] at hcA
          have hzl : (z2 ++ (outs.map fun x => Tm.outB x.it).flatten).length ≤ 5000000 := by
            rw [List.length_append]; have h1 := HOL.out outs.length; rw [List.take_length] at h1; have := HZ3.out; omega
          have HN3 := hide (wnumber_any (w.heap.size + 1) _ _ time wr hwr.apart hwr.ws HT.out.1 HT.out.2 (by omega))
          clear hwr hzl
          go_wp2_with fail
          refine HN3.out.mono ?_
          rintro e w7 ⟨rfl, hs7, hk7, hb7⟩
          have HX7 := hide (HXB.out.next hs7 hk7 hb7)
          clear hs7 hk7 hb7 HN3 hcA
          obtain ⟨v7, i7, o7, _⟩ := HX7.out.ws
          have hcV := i7.cell 0
          simp only [List.getElem?_cons_zero] at hcV
          have HO7 := hide o7
          have HFIN : Hid (z2 ++ (outs.map fun x => Tm.outB x.it).flatten ++ Sz.wr time = Sz.wr (il : Nat) ++ ((ins.map (Tm.inB ∘ InV.it)).flatten ++ (Sz.wr (ol : Nat) ++ ((outs.map (Tm.outB ∘ OutV.it)).flatten ++ Sz.wr time)))) := hide (by rw [HZZ2.out, HZZ1.out]; simp [List.append_assoc, Function.comp_def])
          clear i7 o7
          go_wp2
          go_ret
          exact ⟨v7, rfl, by rw [← HFIN.out]; exact HO7.out.mono (by omega), HX7.out.below⟩
end Go.Proofs.YtmjilohlchkicaaGreatDoor

/- tx.Bytes; size.Unpack, its bytes in blocks of their own. -/
namespace Go.Proofs.YtmjilohlchkicaaGreatDoor
open Go.RowKit
set_option linter.unusedVariables false
set_option linter.unusedSimpArgs false

end Go.Proofs.YtmjilohlchkicaaGreatDoor
