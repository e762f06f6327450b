/- tx's reader: a payment. -/
import Derived.Test.YtbdnbjemocjlaaaGreatDoorZTf
namespace Go.Proofs.YtbdnbjemocjlaaaGreatDoor
open Go.RowKit
set_option linter.unusedVariables false
set_option linter.unusedSimpArgs false

theorem elemIns : Elem 22 54 34 := elem_of (.agg (vals (List.replicate 32 0) ++ ([.int .i64 0, .slice none 0 0] : List Value)).toArray) 64 Tryz.underlying22 (by kernel_rfl) (by omega) (by simp [Value.cells, vals]) (by omega)
theorem elemOuts : Elem 23 57 2 := elem_of (.agg #[.int .i64 0, .slice none 0 0]) 32 Tryz.underlying23 (by kernel_rfl) (by omega) rfl (by omega)
theorem info_in : (Tryz.prog.info? 54).map (fun i => (i.zero, i.size)) = some (some (.agg (vals (List.replicate 32 0) ++ ([.int .i64 0, .slice none 0 0] : List Value)).toArray), 34) := by kernel_rfl
theorem inCells_add (L : List InV) (x : InV) : inCells (L ++ [x]) = inCells L ++ inCell x := by simp [inCells]
theorem outCells_add (L : List OutV) (x : OutV) : outCells (L ++ [x]) = outCells L ++ outCell x := by simp [outCells]
theorem in_ones (X : InV) (h : ∃ a n c, X.kv = .slice a n c) : ∀ v ∈ inCell X, v.oneCell' = true := by
  obtain ⟨a, n, c, e⟩ := h
  unfold inCell
  rw [e]
  exact in_one X.tx X.at' a n c
/-- Ins and outs of one's own, what they hold told. -/
def FIns (L : List InV) (W : World) : Prop := ∀ x ∈ L, x.tx.length = 32 ∧ Sz.Byt x.tx ∧ HasKeys W x.kv x.K
theorem fins_add {L : List InV} {p : InV} {W : World} (h : FIns L W) (hp : p.tx.length = 32 ∧ Sz.Byt p.tx ∧ HasKeys W p.kv p.K) : FIns (L ++ [p]) W := by
  intro x hx
  rcases List.mem_append.1 hx with hx | hx
  · exact h x hx
  · rw [List.mem_singleton.1 hx]; exact hp
def FOuts (L : List OutV) (W : World) : Prop := ∀ x ∈ L, HasOps W x.lv x.L
theorem fouts_add {L : List OutV} {p : OutV} {W : World} (h : FOuts L W) (hp : HasOps W p.lv p.L) : FOuts (L ++ [p]) W := by
  intro x hx
  rcases List.mem_append.1 hx with hx | hx
  · exact h x hx
  · rw [List.mem_singleton.1 hx]; exact hp
theorem row_hasIns {W : World} {base : Nat} {v : Value} {L : List InV} (h : W.ownsRow base 54 34 v L.length (inCells L)) (hd : FIns L W) : HasIns W v L := by
  refine ⟨?_, hd⟩
  by_cases h0 : L.length = 0
  · have hL := List.eq_nil_of_length_eq_zero h0
    subst hL
    obtain ⟨a, cap, rfl⟩ := owns_form h
    exact .inl ⟨a, cap, rfl, rfl⟩
  · obtain ⟨g, cap, rfl, _, h2, h3, h4, hr⟩ := owns_some h (by omega)
    exact .inr ⟨g, 0, cap, rfl, by omega, h3, h4, h2, hr⟩
theorem row_hasOuts {W : World} {base : Nat} {v : Value} {L : List OutV} (h : W.ownsRow base 57 2 v L.length (outCells L)) (hd : FOuts L W) : HasOuts W v L := by
  refine ⟨?_, hd⟩
  by_cases h0 : L.length = 0
  · have hL := List.eq_nil_of_length_eq_zero h0
    subst hL
    obtain ⟨a, cap, rfl⟩ := owns_form h
    exact .inl ⟨a, cap, rfl, rfl⟩
  · obtain ⟨g, cap, rfl, _, h2, h3, h4, hr⟩ := owns_some h (by omega)
    exact .inr ⟨g, 0, cap, rfl, by omega, h3, h4, h2, hr⟩
/-- A fact that rests on blocks from lo on, behind which hi is. -/
def Mid (lo hi : Nat) (W : World) (F : World → Prop) : Prop := ∃ S : Nat → Prop, (∀ k, S k → lo ≤ k ∧ k < hi) ∧ Dep S F W
theorem Itm.mid {lo : Nat} {W : World} {F : World → Prop} (h : Itm lo W F) : Mid lo W.heap.size W F := h
theorem Mid.itm {lo hi : Nat} {W : World} {F : World → Prop} (h : Mid lo hi W F) (hz : hi ≤ W.heap.size) : Itm lo W F := by
  obtain ⟨S, h1, h2⟩ := h
  exact ⟨S, fun k hk => ⟨(h1 k hk).1, Nat.lt_of_lt_of_le (h1 k hk).2 hz⟩, h2⟩
theorem Mid.drew {lo hi : Nat} {W : World} {F : World → Prop} (h : Mid lo hi W F) : Mid lo hi W.drew F := by
  obtain ⟨S, h1, h2⟩ := h
  exact ⟨S, h1, h2.step (Nat.le_refl _) (fun k _ => rfl)⟩
theorem Mid.but {lo hi R : Nat} {W W' : World} {F : World → Prop} (h : Mid lo hi W F) (hb : But R W W') (hR : R < lo) (hz : hi ≤ W.heap.size) : Mid lo hi W' F := by
  obtain ⟨S, h1, h2⟩ := h
  exact ⟨S, h1, h2.step hb.size (fun k hk => hb.block k (by have := (h1 k hk).2; omega) (by have := (h1 k hk).1; omega))⟩
theorem Mid.grown {lo hi : Nat} {W W' : World} {F : World → Prop} {r : Option Nat} (h : Mid lo hi W F) (hg : W.grownBy W' r) (hr : ∀ b, r = some b → hi ≤ b) (hz : hi ≤ W.heap.size) : Mid lo hi W' F := by
  obtain ⟨S, h1, h2⟩ := h
  exact ⟨S, h1, h2.step hg.size (fun k hk => hg.block k (by have := (h1 k hk).2; omega) (fun e => by have := hr k e.symm; have := (h1 k hk).2; omega))⟩
theorem hasOps_form {w : World} {v : Value} {R : List (Lk.Op × Value)} (h : HasOps w v R) : ∃ a n c, v = .slice a n c := by
  rcases h.1 with ⟨a, c, e, _⟩ | ⟨b, off, c, e, _⟩
  · exact ⟨a, 0, c, e⟩
  · exact ⟨_, _, c, e⟩
theorem hasKeys_form {w : World} {v : Value} {R : List (List Int × Value)} (h : HasKeys w v R) : ∃ a n c, v = .slice a n c := by
  rcases h.1 with ⟨a, c, e, _⟩ | ⟨b, off, c, e, _⟩
  · exact ⟨a, 0, c, e⟩
  · exact ⟨_, _, c, e⟩

theorem itm_and {lo : Nat} {W : World} {F G : World → Prop} (h : Itm lo W F) (k : Itm lo W G) : Itm lo W (fun W => F W ∧ G W) := by
  obtain ⟨S, h1, h2⟩ := h
  obtain ⟨S2, k1, k2⟩ := k
  exact ⟨fun k => S k ∨ S2 k, fun k hk => hk.elim (h1 k) (k1 k), (h2.more (fun k hk => .inl hk)).and (k2.more (fun k hk => .inr hk))⟩

set_option maxRecDepth 100000 in
set_option maxHeartbeats 16000000 in
theorem ppayment_any (w0 : World) (R : Nat) (bv : Value) (l : List Int) (w : World) (hs : RdS w0 R bv l 0 w) (hl : Has w0 bv l) (hbt : Sz.Byt l) (hbig : l.length ≤ 180000000000000) :
    Calls Tryz.prog 55 #[.pointer (some ⟨R, 0, none⟩)] w fun e w' => ReadsSo w0 R bv l w (Tm.payR l) (fun x v W => ∃ T : TxV, v = T.val ∧ T.it = x ∧ Itm w.heap.size W (fun W => HasTx W T)) e w' := by
  have HN := hide (fun q W (hW : RdS w0 R bv l q W) => pnumber_any w0 R bv l q W hW hl hbt)
  have HC := hide (fun q W (hW : RdS w0 R bv l q W) => pcount_any w0 R bv l q 40 W hW hl hbt)
  have HPI := hide (fun q W (hW : RdS w0 R bv l q W) (hq : q ≤ l.length) => pin_any w0 R bv l q W hW hl hbt hbig hq)
  have HPO := hide (fun q W (hW : RdS w0 R bv l q W) => pout_any w0 R bv l q W hW hl hbt hbig)
  have HBT := hide hbt
  have HS0 := hide (PtS.start hs 25 [.slice none 0 0, .slice none 0 0, .int .i64 0])
  have HB2 : Hid (w.heap.size + 2 ≤ w.heap.size + 2) := hide (Nat.le_refl _)
  clear hs hl hbt hbig
  go_enter Tryz.func55, Tryz.ntmps55
  go_wp2_with fail
  refine (HC.out 0 _ HS0.out.rd).mono ?_
  rintro e w1 ⟨hb1, hm1⟩
  have HB1 := hide hb1
  cases h1 : Tm.cnt 40 l 0 with
  | none =>
    rw [h1] at hm1
    subst hm1
    exact ⟨rfl, HS0.out.but.trans HB1.out, by unfold Tm.payR; rw [h1]; rfl⟩
  | some x1 =>
  rw [h1] at hm1
  obtain ⟨v1, rfl, rfl, hs1⟩ := hm1
  obtain ⟨m, q1⟩ := x1
  have HM : Hid (m ≤ 40) := hide (cnt_le h1)
  have HQ1 : Hid (q1 ≤ l.length) := hide ((Tm.cnt_sound 40 l HBT.out 0 m q1 h1).2.1 (Nat.zero_le _))
  have HE1 := hide h1
  have HS1 := hide (HS0.out.call HB1.out hs1)
  clear h1 hs1 hb1 HB1
  go_wp2
  go_loopw [6] (fun i wr => ∃ k : Nat, k ≤ m ∧ i = .int .i64 k ∧ ∃ (q : Nat) (L : List InV) (va : Option Addr) (vc : Nat), PtS w0 w R bv l 25 [.slice none 0 0, .slice none 0 0, .int .i64 0] q [.slice va L.length vc, .slice none 0 0, .int .i64 0] wr ∧ Acc wr (w.heap.size + 2) 54 34 L.length (.slice va L.length vc) (inCells L) (FIns L) ∧ Todo (Tm.inR l) (Tm.rep (Tm.inR l) m q1) (L.map InV.it) (m - k) q ∧ q ≤ l.length ∧ L.length = k) (fun i _ => m - (intOf i).toNat)
  case atStart => exact ⟨0, by omega, rfl, q1, [], none, 0, HS1.out, Acc.nil _ _ _ _ (fun W p hp => by cases hp), Todo.start _ _ _, HQ1.out, rfl⟩
  case round =>
    obtain ⟨k, hk, rfl, q, L, va, vc, hpt, hac, hlf, hql, hLk⟩ := hrel
    have HLK := hide hLk
    rw [hLk] at hpt hac
    have HPT := hide hpt
    have HAC := hide hac
    have HQL := hide hql
    clear hLk hql
    by_cases hlt : k < m
    · obtain ⟨d, hd⟩ : ∃ d, m - k = d + 1 := ⟨m - k - 1, by omega⟩
      rw [hd] at hlf
      have HLF := hide hlf
      have hki : (k : Int) < (m : Int) := by omega
      have HBW : Hid (w.heap.size + 2 ≤ wr.drew.heap.size) := hide (by have := HPT.out.box.lt; show w.heap.size + 2 ≤ wr.heap.size; omega)
      have hcA := HPT.out.box.cell 0
      simp only [List.getElem?_cons_zero, List.getElem?_cons_succ] at hcA
      have hcB : wr.drew.cell? ⟨w.heap.size + 1, 0, none⟩ = some (.slice va k vc) := hcA
      clear hpt hac hlf hcA
      cases hx : Tm.inR l q with
      | none =>
        have HP1 : Hid (∀ W, RdS w0 R bv l q W → Calls Tryz.prog 69 #[.pointer (some ⟨R, 0, none⟩)] W fun e w' => But R W w' ∧ e = .panicked panNo) := hide (fun W hW => by have := HPI.out q W hW HQL.out; rw [hx] at this; exact this)
        have HX := hide hx
        clear hx
        go_wp2_with fail
        refine wp_region_held_drew (S := fun _ : World => True) (by kernel_rfl) ?_ (fun hHeld0 => ?_)
        · trivial
        refine wpAnyH_take (i := 0) (v := ?_) rfl (by kernel_rfl) (by kernel_rfl) (by kernel_rfl) (fun _ _ _ h => h) (Or.inl ⟨by rfl, ?_⟩) hHeld0 ?_
        rotate_left
        · (intro w hSw; (try dsimp only at hSw); go_simp <;> (try with_reducible rfl))
        simp only [Act.put, List.getElem_toArray, List.getElem_cons_zero, List.getElem_cons_succ, List.setIfInBounds_toArray, List.set_cons_zero, List.set_cons_succ]
        refine wpAnyH_take (i := 2) (v := ?_) rfl (by kernel_rfl) (by kernel_rfl) (by kernel_rfl) (fun _ _ _ h => h) (Or.inl ⟨by rfl, ?_⟩) hHeld0 ?_
        rotate_left
        · (intro w hSw; (try dsimp only at hSw); go_simp <;> (try with_reducible rfl))
        simp only [Act.put, List.getElem_toArray, List.getElem_cons_zero, List.getElem_cons_succ, List.setIfInBounds_toArray, List.set_cons_zero, List.set_cons_succ]
        refine wpAnyH_ready (rs := [1, 3]) (by kernel_rfl) (by simp) ?_
        refine AllReadyH.cons rfl (fun K hK => ?_) ?_
        ·
          go_simp
          refine hK.out _ _ (by trivial) (fun hHeld1 => ?_)
          clear hK K hHeld0
          try simp only [Act.put, List.getElem_toArray, List.getElem_cons_zero, List.getElem_cons_succ, List.setIfInBounds_toArray, List.set_cons_zero, List.set_cons_succ]
          refine wpAnyH_ready (rs := [3]) (by kernel_rfl) (by simp) ?_
          refine AllReadyH.cons rfl (fun K hK => ?_) AllReadyH.nil
          go_simp
          go_wp2_with ((go_at_call 69; refine (HP1.out _ HPT.out.rd.drew).mono ?_; rintro e W1 ⟨hb1, rfl⟩))
          exact ⟨rfl, HPT.out.drew.but.trans hb1, by unfold Tm.payR; rw [HE1.out, Option.bind_some, HLF.out.stop HX.out]; rfl⟩
        refine AllReadyH.cons rfl (fun K hK => ?_) AllReadyH.nil
        go_simp
        go_wp2_with ((go_at_call 69; refine (HP1.out _ HPT.out.rd.drew).mono ?_; rintro e W1 ⟨hb1, rfl⟩))
        exact ⟨rfl, HPT.out.drew.but.trans hb1, by unfold Tm.payR; rw [HE1.out, Option.bind_some, HLF.out.stop HX.out]; rfl⟩
      | some xx =>
        obtain ⟨x, q'⟩ := xx
        have HQ2 : Hid (q' ≤ l.length) := hide ((Tm.in_sound l HBT.out q x q' hx).2.1 HQL.out)
        have HP1 : Hid (∀ W, RdS w0 R bv l q W → Calls Tryz.prog 69 #[.pointer (some ⟨R, 0, none⟩)] W fun e w' => ∃ X : InV, e = .returned (.agg (inCell X).toArray) ∧ X.it = x ∧ X.tx.length = 32 ∧ Sz.Byt X.tx ∧ (∃ a n c, X.kv = .slice a n c) ∧ But R W w' ∧ RdS w0 R bv l q' w' ∧ Itm W.heap.size w' (fun W => HasKeys W X.kv X.K)) := hide (fun W hW => by
          have := HPI.out q W hW HQL.out
          rw [hx] at this
          refine this.mono ?_
          rintro e w' ⟨hb, v, rfl, ⟨X, rfl, h1, h2, h3, h4⟩, hs⟩
          exact ⟨X, rfl, h1, h2, h3, hasKeys_form h4.out, hb, hs, h4⟩)
        have HX := hide hx
        clear hx
        go_wp2_with fail
        refine wp_region_held_drew (S := fun _ : World => True) (by kernel_rfl) ?_ (fun hHeld0 => ?_)
        · trivial
        refine wpAnyH_take (i := 0) (v := ?_) rfl (by kernel_rfl) (by kernel_rfl) (by kernel_rfl) (fun _ _ _ h => h) (Or.inl ⟨by rfl, ?_⟩) hHeld0 ?_
        rotate_left
        · (intro w hSw; (try dsimp only at hSw); go_simp <;> (try with_reducible rfl))
        simp only [Act.put, List.getElem_toArray, List.getElem_cons_zero, List.getElem_cons_succ, List.setIfInBounds_toArray, List.set_cons_zero, List.set_cons_succ]
        refine wpAnyH_take (i := 2) (v := ?_) rfl (by kernel_rfl) (by kernel_rfl) (by kernel_rfl) (fun _ _ _ h => h) (Or.inl ⟨by rfl, ?_⟩) hHeld0 ?_
        rotate_left
        · (intro w hSw; (try dsimp only at hSw); go_simp <;> (try with_reducible rfl))
        simp only [Act.put, List.getElem_toArray, List.getElem_cons_zero, List.getElem_cons_succ, List.setIfInBounds_toArray, List.set_cons_zero, List.set_cons_succ]
        refine wpAnyH_ready (rs := [1, 3]) (by kernel_rfl) (by simp) ?_
        refine AllReadyH.cons rfl (fun K hK => ?_) ?_
        ·
          go_simp
          refine hK.out _ _ (by trivial) (fun hHeld1 => ?_)
          clear hK K hHeld0
          try simp only [Act.put, List.getElem_toArray, List.getElem_cons_zero, List.getElem_cons_succ, List.setIfInBounds_toArray, List.set_cons_zero, List.set_cons_succ]
          refine wpAnyH_ready (rs := [3]) (by kernel_rfl) (by simp) ?_
          refine AllReadyH.cons rfl (fun K hK => ?_) AllReadyH.nil
          go_simp
          go_wp2_with ((go_at_call 69; refine (HP1.out _ HPT.out.rd.drew).mono ?_; rintro e W1 ⟨X, rfl, hXi, hX32, hXb, hXk, hb1, hs1, hi1⟩))
          refine hK.out _ _ (by trivial) (fun hHeld2 => ?_)
          clear hK K hHeld1
          try simp only [Act.put, List.getElem_toArray, List.getElem_cons_zero, List.getElem_cons_succ, List.setIfInBounds_toArray, List.set_cons_zero, List.set_cons_succ]
          have HP2 := hide (HPT.out.drew.call hb1 hs1)
          have HA2 := hide (HAC.out.drew.but hb1 (by have := HPT.out.lt; have := HB2.out; omega))
          have HI2 := hide hi1
          have HBY2 := hide (Nat.le_trans (Nat.le_refl wr.drew.heap.size) hb1.size)
          clear hb1 hs1 hi1
          have hcC := HP2.out.box.cell 0
          simp only [List.getElem?_cons_zero, List.getElem?_cons_succ] at hcC
          refine wpAnyH_ready (rs := [4]) (by kernel_rfl) (by simp) ?_
          refine AllReadyH.cons rfl (fun K hK => ?_) AllReadyH.nil
          refine step_build_one 22 54 (inCell X) rfl (.tmp 11) rfl rfl Tryz.underlying22 (vals (List.replicate 32 0) ++ ([.int .i64 0, .slice none 0 0] : List Value)) info_in (by omega) (by omega) (inCell_length X hX32) ?_
          refine hK.out _ _ (by trivial) (fun hHeld3 => ?_)
          clear hK K hHeld2
          try simp only [Act.put, List.getElem_toArray, List.getElem_cons_zero, List.getElem_cons_succ, List.setIfInBounds_toArray, List.set_cons_zero, List.set_cons_succ]
          have HP3 := hide (HP2.out.alloc (.cells (inCell X).toArray 54))
          have HA3 := hide (HA2.out.but (But.call (g := R) (below_alloc W1 (.cells (inCell X).toArray 54))) (by have := HPT.out.lt; have := HB2.out; omega))
          have HI3 := hide (HI2.out.but (But.call (g := R) (below_alloc W1 (.cells (inCell X).toArray 54))) (by have := HPT.out.lt; have := HPT.out.box.lt; show R < wr.heap.size; omega))
          have HW3 := hide (Nat.le_trans HBY2.out (below_alloc W1 (.cells (inCell X).toArray 54)).size)
          have hcE := HP3.out.box.cell 0
          simp only [List.getElem?_cons_zero, List.getElem?_cons_succ] at hcE
          refine wpAnyH_ready (rs := [5]) (by kernel_rfl) (by simp) ?_
          refine AllReadyH.cons rfl (fun K hK => ?_) AllReadyH.nil
          refine step_append_by (AppG (W1.alloc (.cells (inCell X).toArray 54)) (w.heap.size + 2) 54 34 k (.slice va k vc) (inCells L) (inCell X)) rfl (.tmp 9) (.tmp 12) rfl (.slice va k vc) (.slice (some ⟨W1.heap.size, 0, none⟩) 1 1) rfl rfl (fun ty => run_app1 elemIns _ _ _ _ _ (inCell X) HA3.out.own W1.heap.size 1 (is_range (Is.new W1 (inCell X) 54)) (inCell_length X hX32) (in_ones X hXk) (by have := HM.out; omega) (Nat.le_trans HBW.out HW3.out) ty) ?_
          intro v2 W3 h3
          obtain ⟨va2, vc2, hv2⟩ := owns_form h3.1
          subst hv2
          have HP4 := hide (HP3.out.grown h3.2.1 (fun b hb => Nat.le_trans HB2.out (World.ownsRow.lt HA3.out.own b hb).1))
          have HA4 := hide (HA3.out.app HI3.out (fun b hb => (World.ownsRow.lt HAC.out.own b hb).2) HBW.out h3.1 h3.2.1 h3.2.2)
          clear h3
          have hcF := HP4.out.box.cell 0
          have hfF := HP4.out.box.frozen
          simp only [List.getElem?_cons_zero, List.getElem?_cons_succ] at hcF
          refine hK.out _ _ (by trivial) (fun hHeld4 => ?_)
          clear hK K hHeld3
          try simp only [Act.put, List.getElem_toArray, List.getElem_cons_zero, List.getElem_cons_succ, List.setIfInBounds_toArray, List.set_cons_zero, List.set_cons_succ]
          refine wpAnyH_take (i := 6) (v := ?_) rfl (by kernel_rfl) (by kernel_rfl) (by kernel_rfl) (fun _ _ _ h => h) (Or.inl ⟨by rfl, ?_⟩) hHeld4 ?_
          rotate_left
          · (intro w hSw; (try dsimp only at hSw); go_simp <;> (try with_reducible rfl))
          simp only [Act.put, List.getElem_toArray, List.getElem_cons_zero, List.getElem_cons_succ, List.setIfInBounds_toArray, List.set_cons_zero, List.set_cons_succ]
          refine wpAnyH_ready (rs := [7]) (by kernel_rfl) (by simp) ?_
          refine AllReadyH.cons rfl (fun K hK => ?_) AllReadyH.nil
          go_simp
          refine hK.out _ _ (by trivial) (fun hHeld5 => ?_)
          clear hK K hHeld4
          try simp only [Act.put, List.getElem_toArray, List.getElem_cons_zero, List.getElem_cons_succ, List.setIfInBounds_toArray, List.set_cons_zero, List.set_cons_succ]
          refine wpAnyH_done (by kernel_rfl) ?_ _
          have HP5 := hide (HP4.out.set 0 (.slice va2 (k + 1) vc2))
          have HA5 := hide (HA4.out.but (But.cell W3 (w.heap.size + 1) 0 (.slice va2 (k + 1) vc2)) (by have := HB2.out; omega))
          clear hcB hcC hcE hcF hfF HP2 HP3 HA2 HA3 HI2 HI3 HP4 HA4
          have hm60 := HM.out
          go_wp2
          go_roundw
          case rel => exact ⟨k + 1, by omega, by go_num, q', L ++ [X], va2, vc2, by rw [List.length_append, HLK.out]; exact HP5.out, by rw [List.length_append, HLK.out, inCells_add]; exact HA5.out.map (fun W h => fins_add (p := X) h.1 ⟨hX32, hXb, h.2⟩), by rw [List.map_append, show m - (k + 1) = d from by omega]; exact HLF.out.next (by rw [HX.out, ← hXi]), HQ2.out, by rw [List.length_append, HLK.out]; rfl⟩
          case measure => simp [intOf]; omega
        refine AllReadyH.cons rfl (fun K hK => ?_) AllReadyH.nil
        go_simp
        go_wp2_with ((go_at_call 69; refine (HP1.out _ HPT.out.rd.drew).mono ?_; rintro e W1 ⟨X, rfl, hXi, hX32, hXb, hXk, hb1, hs1, hi1⟩))
        refine hK.out _ _ (by trivial) (fun hHeld1 => ?_)
        clear hK K hHeld0
        try simp only [Act.put, List.getElem_toArray, List.getElem_cons_zero, List.getElem_cons_succ, List.setIfInBounds_toArray, List.set_cons_zero, List.set_cons_succ]
        have HP2 := hide (HPT.out.drew.call hb1 hs1)
        have HA2 := hide (HAC.out.drew.but hb1 (by have := HPT.out.lt; have := HB2.out; omega))
        have HI2 := hide hi1
        have HBY2 := hide (Nat.le_trans (Nat.le_refl wr.drew.heap.size) hb1.size)
        clear hb1 hs1 hi1
        have hcC := HP2.out.box.cell 0
        simp only [List.getElem?_cons_zero, List.getElem?_cons_succ] at hcC
        refine wpAnyH_ready (rs := [1, 4]) (by kernel_rfl) (by simp) ?_
        refine AllReadyH.cons rfl (fun K hK => ?_) ?_
        ·
          go_simp
          refine hK.out _ _ (by trivial) (fun hHeld2 => ?_)
          clear hK K hHeld1
          try simp only [Act.put, List.getElem_toArray, List.getElem_cons_zero, List.getElem_cons_succ, List.setIfInBounds_toArray, List.set_cons_zero, List.set_cons_succ]
          refine wpAnyH_ready (rs := [4]) (by kernel_rfl) (by simp) ?_
          refine AllReadyH.cons rfl (fun K hK => ?_) AllReadyH.nil
          refine step_build_one 22 54 (inCell X) rfl (.tmp 11) rfl rfl Tryz.underlying22 (vals (List.replicate 32 0) ++ ([.int .i64 0, .slice none 0 0] : List Value)) info_in (by omega) (by omega) (inCell_length X hX32) ?_
          refine hK.out _ _ (by trivial) (fun hHeld3 => ?_)
          clear hK K hHeld2
          try simp only [Act.put, List.getElem_toArray, List.getElem_cons_zero, List.getElem_cons_succ, List.setIfInBounds_toArray, List.set_cons_zero, List.set_cons_succ]
          have HP3 := hide (HP2.out.alloc (.cells (inCell X).toArray 54))
          have HA3 := hide (HA2.out.but (But.call (g := R) (below_alloc W1 (.cells (inCell X).toArray 54))) (by have := HPT.out.lt; have := HB2.out; omega))
          have HI3 := hide (HI2.out.but (But.call (g := R) (below_alloc W1 (.cells (inCell X).toArray 54))) (by have := HPT.out.lt; have := HPT.out.box.lt; show R < wr.heap.size; omega))
          have HW3 := hide (Nat.le_trans HBY2.out (below_alloc W1 (.cells (inCell X).toArray 54)).size)
          have hcE := HP3.out.box.cell 0
          simp only [List.getElem?_cons_zero, List.getElem?_cons_succ] at hcE
          refine wpAnyH_ready (rs := [5]) (by kernel_rfl) (by simp) ?_
          refine AllReadyH.cons rfl (fun K hK => ?_) AllReadyH.nil
          refine step_append_by (AppG (W1.alloc (.cells (inCell X).toArray 54)) (w.heap.size + 2) 54 34 k (.slice va k vc) (inCells L) (inCell X)) rfl (.tmp 9) (.tmp 12) rfl (.slice va k vc) (.slice (some ⟨W1.heap.size, 0, none⟩) 1 1) rfl rfl (fun ty => run_app1 elemIns _ _ _ _ _ (inCell X) HA3.out.own W1.heap.size 1 (is_range (Is.new W1 (inCell X) 54)) (inCell_length X hX32) (in_ones X hXk) (by have := HM.out; omega) (Nat.le_trans HBW.out HW3.out) ty) ?_
          intro v2 W3 h3
          obtain ⟨va2, vc2, hv2⟩ := owns_form h3.1
          subst hv2
          have HP4 := hide (HP3.out.grown h3.2.1 (fun b hb => Nat.le_trans HB2.out (World.ownsRow.lt HA3.out.own b hb).1))
          have HA4 := hide (HA3.out.app HI3.out (fun b hb => (World.ownsRow.lt HAC.out.own b hb).2) HBW.out h3.1 h3.2.1 h3.2.2)
          clear h3
          have hcF := HP4.out.box.cell 0
          have hfF := HP4.out.box.frozen
          simp only [List.getElem?_cons_zero, List.getElem?_cons_succ] at hcF
          refine hK.out _ _ (by trivial) (fun hHeld4 => ?_)
          clear hK K hHeld3
          try simp only [Act.put, List.getElem_toArray, List.getElem_cons_zero, List.getElem_cons_succ, List.setIfInBounds_toArray, List.set_cons_zero, List.set_cons_succ]
          refine wpAnyH_take (i := 6) (v := ?_) rfl (by kernel_rfl) (by kernel_rfl) (by kernel_rfl) (fun _ _ _ h => h) (Or.inl ⟨by rfl, ?_⟩) hHeld4 ?_
          rotate_left
          · (intro w hSw; (try dsimp only at hSw); go_simp <;> (try with_reducible rfl))
          simp only [Act.put, List.getElem_toArray, List.getElem_cons_zero, List.getElem_cons_succ, List.setIfInBounds_toArray, List.set_cons_zero, List.set_cons_succ]
          refine wpAnyH_ready (rs := [7]) (by kernel_rfl) (by simp) ?_
          refine AllReadyH.cons rfl (fun K hK => ?_) AllReadyH.nil
          go_simp
          refine hK.out _ _ (by trivial) (fun hHeld5 => ?_)
          clear hK K hHeld4
          try simp only [Act.put, List.getElem_toArray, List.getElem_cons_zero, List.getElem_cons_succ, List.setIfInBounds_toArray, List.set_cons_zero, List.set_cons_succ]
          refine wpAnyH_done (by kernel_rfl) ?_ _
          have HP5 := hide (HP4.out.set 0 (.slice va2 (k + 1) vc2))
          have HA5 := hide (HA4.out.but (But.cell W3 (w.heap.size + 1) 0 (.slice va2 (k + 1) vc2)) (by have := HB2.out; omega))
          clear hcB hcC hcE hcF hfF HP2 HP3 HA2 HA3 HI2 HI3 HP4 HA4
          have hm60 := HM.out
          go_wp2
          go_roundw
          case rel => exact ⟨k + 1, by omega, by go_num, q', L ++ [X], va2, vc2, by rw [List.length_append, HLK.out]; exact HP5.out, by rw [List.length_append, HLK.out, inCells_add]; exact HA5.out.map (fun W h => fins_add (p := X) h.1 ⟨hX32, hXb, h.2⟩), by rw [List.map_append, show m - (k + 1) = d from by omega]; exact HLF.out.next (by rw [HX.out, ← hXi]), HQ2.out, by rw [List.length_append, HLK.out]; rfl⟩
          case measure => simp [intOf]; omega
        refine AllReadyH.cons rfl (fun K hK => ?_) AllReadyH.nil
        refine step_build_one 22 54 (inCell X) rfl (.tmp 11) rfl rfl Tryz.underlying22 (vals (List.replicate 32 0) ++ ([.int .i64 0, .slice none 0 0] : List Value)) info_in (by omega) (by omega) (inCell_length X hX32) ?_
        refine hK.out _ _ (by trivial) (fun hHeld2 => ?_)
        clear hK K hHeld1
        try simp only [Act.put, List.getElem_toArray, List.getElem_cons_zero, List.getElem_cons_succ, List.setIfInBounds_toArray, List.set_cons_zero, List.set_cons_succ]
        have HP3 := hide (HP2.out.alloc (.cells (inCell X).toArray 54))
        have HA3 := hide (HA2.out.but (But.call (g := R) (below_alloc W1 (.cells (inCell X).toArray 54))) (by have := HPT.out.lt; have := HB2.out; omega))
        have HI3 := hide (HI2.out.but (But.call (g := R) (below_alloc W1 (.cells (inCell X).toArray 54))) (by have := HPT.out.lt; have := HPT.out.box.lt; show R < wr.heap.size; omega))
        have HW3 := hide (Nat.le_trans HBY2.out (below_alloc W1 (.cells (inCell X).toArray 54)).size)
        have hcE := HP3.out.box.cell 0
        simp only [List.getElem?_cons_zero, List.getElem?_cons_succ] at hcE
        refine wpAnyH_ready (rs := [1]) (by kernel_rfl) (by simp) ?_
        refine AllReadyH.cons rfl (fun K hK => ?_) AllReadyH.nil
        go_simp
        refine hK.out _ _ (by trivial) (fun hHeld3 => ?_)
        clear hK K hHeld2
        try simp only [Act.put, List.getElem_toArray, List.getElem_cons_zero, List.getElem_cons_succ, List.setIfInBounds_toArray, List.set_cons_zero, List.set_cons_succ]
        refine wpAnyH_ready (rs := [5]) (by kernel_rfl) (by simp) ?_
        refine AllReadyH.cons rfl (fun K hK => ?_) AllReadyH.nil
        refine step_append_by (AppG (W1.alloc (.cells (inCell X).toArray 54)) (w.heap.size + 2) 54 34 k (.slice va k vc) (inCells L) (inCell X)) rfl (.tmp 9) (.tmp 12) rfl (.slice va k vc) (.slice (some ⟨W1.heap.size, 0, none⟩) 1 1) rfl rfl (fun ty => run_app1 elemIns _ _ _ _ _ (inCell X) HA3.out.own W1.heap.size 1 (is_range (Is.new W1 (inCell X) 54)) (inCell_length X hX32) (in_ones X hXk) (by have := HM.out; omega) (Nat.le_trans HBW.out HW3.out) ty) ?_
        intro v2 W3 h3
        obtain ⟨va2, vc2, hv2⟩ := owns_form h3.1
        subst hv2
        have HP4 := hide (HP3.out.grown h3.2.1 (fun b hb => Nat.le_trans HB2.out (World.ownsRow.lt HA3.out.own b hb).1))
        have HA4 := hide (HA3.out.app HI3.out (fun b hb => (World.ownsRow.lt HAC.out.own b hb).2) HBW.out h3.1 h3.2.1 h3.2.2)
        clear h3
        have hcF := HP4.out.box.cell 0
        have hfF := HP4.out.box.frozen
        simp only [List.getElem?_cons_zero, List.getElem?_cons_succ] at hcF
        refine hK.out _ _ (by trivial) (fun hHeld4 => ?_)
        clear hK K hHeld3
        try simp only [Act.put, List.getElem_toArray, List.getElem_cons_zero, List.getElem_cons_succ, List.setIfInBounds_toArray, List.set_cons_zero, List.set_cons_succ]
        refine wpAnyH_take (i := 6) (v := ?_) rfl (by kernel_rfl) (by kernel_rfl) (by kernel_rfl) (fun _ _ _ h => h) (Or.inl ⟨by rfl, ?_⟩) hHeld4 ?_
        rotate_left
        · (intro w hSw; (try dsimp only at hSw); go_simp <;> (try with_reducible rfl))
        simp only [Act.put, List.getElem_toArray, List.getElem_cons_zero, List.getElem_cons_succ, List.setIfInBounds_toArray, List.set_cons_zero, List.set_cons_succ]
        refine wpAnyH_ready (rs := [7]) (by kernel_rfl) (by simp) ?_
        refine AllReadyH.cons rfl (fun K hK => ?_) AllReadyH.nil
        go_simp
        refine hK.out _ _ (by trivial) (fun hHeld5 => ?_)
        clear hK K hHeld4
        try simp only [Act.put, List.getElem_toArray, List.getElem_cons_zero, List.getElem_cons_succ, List.setIfInBounds_toArray, List.set_cons_zero, List.set_cons_succ]
        refine wpAnyH_done (by kernel_rfl) ?_ _
        have HP5 := hide (HP4.out.set 0 (.slice va2 (k + 1) vc2))
        have HA5 := hide (HA4.out.but (But.cell W3 (w.heap.size + 1) 0 (.slice va2 (k + 1) vc2)) (by have := HB2.out; omega))
        clear hcB hcC hcE hcF hfF HP2 HP3 HA2 HA3 HI2 HI3 HP4 HA4
        have hm60 := HM.out
        go_wp2
        go_roundw
        case rel => exact ⟨k + 1, by omega, by go_num, q', L ++ [X], va2, vc2, by rw [List.length_append, HLK.out]; exact HP5.out, by rw [List.length_append, HLK.out, inCells_add]; exact HA5.out.map (fun W h => fins_add (p := X) h.1 ⟨hX32, hXb, h.2⟩), by rw [List.map_append, show m - (k + 1) = d from by omega]; exact HLF.out.next (by rw [HX.out, ← hXi]), HQ2.out, by rw [List.length_append, HLK.out]; rfl⟩
        case measure => simp [intOf]; omega
    · have hke : k = m := by omega
      subst hke
      rw [Nat.sub_self] at hlf
      have HE2 := hide hlf.end
      have hki : ¬ (k : Int) < (k : Int) := by omega
      have HIT := hide (hac.itm.map (G := fun W => HasIns W (.slice va k vc) L) (fun W h => row_hasIns (by rw [HLK.out]; exact h.1) h.2)).mid
      have HBB : Hid (w.heap.size + 2 ≤ wr.heap.size) := hide (by have := HPT.out.box.lt; omega)
      clear hpt hac hlf HPI HB2 HAC
      go_wp2_with fail
      refine (HC.out q _ HPT.out.rd).mono ?_
      rintro e w2 ⟨hb2, hm2⟩
      have HB1 := hide hb2
      cases h2 : Tm.cnt 40 l q with
      | none =>
        rw [h2] at hm2
        subst hm2
        exact ⟨rfl, HPT.out.but.trans HB1.out, by unfold Tm.payR; rw [HE1.out, Option.bind_some, HE2.out, Option.bind_some, h2]; rfl⟩
      | some x2 =>
      rw [h2] at hm2
      obtain ⟨v2, rfl, rfl, hs2⟩ := hm2
      obtain ⟨m2, q2⟩ := x2
      have HM : Hid (m2 ≤ 40) := hide (cnt_le h2)
      have HE3 := hide h2
      have HS3 := hide (HPT.out.call HB1.out hs2)
      have HNS0 := hide (HIT.out.but HB1.out (by have := HPT.out.lt; omega) (Nat.le_refl _))
      have HSZ := hide HB1.out.size
      obtain ⟨B2, hB2⟩ : ∃ B, B = wr.heap.size := ⟨_, rfl⟩
      rw [← hB2] at HBB HNS0 HSZ
      have HB2 := HBB
      obtain ⟨ki, hki2⟩ : ∃ n, n = k := ⟨_, rfl⟩
      have HKI := hide hki2
      rw [← hki2] at HS3 HNS0
      obtain ⟨LI, hLI⟩ : ∃ M, M = L := ⟨_, rfl⟩
      have HLI := hide hLI
      rw [← hLI] at HNS0 HE2
      obtain ⟨ia, hia⟩ : ∃ a, a = va := ⟨_, rfl⟩
      obtain ⟨ic, hic⟩ : ∃ c, c = vc := ⟨_, rfl⟩
      rw [← hia, ← hic] at HS3 HNS0
      have HLI2 : Hid (LI.length = ki) := hide (by rw [hLI, hki2]; exact HLK.out)
      clear h2 hs2 hb2 HB1 HPT HIT hki HLK hki2 hLI hia hic hB2 HBB HKI HLI
      go_wp2
      go_loopw [18] (fun i wr => ∃ k : Nat, k ≤ m2 ∧ i = .int .i64 k ∧ ∃ (q : Nat) (L : List OutV) (va : Option Addr) (vc : Nat), PtS w0 w R bv l 25 [.slice none 0 0, .slice none 0 0, .int .i64 0] q [.slice ia ki ic, .slice va L.length vc, .int .i64 0] wr ∧ Acc wr B2 57 2 L.length (.slice va L.length vc) (outCells L) (FOuts L) ∧ Todo (Tm.outR l) (Tm.rep (Tm.outR l) m2 q2) (L.map OutV.it) (m2 - k) q ∧ L.length = k ∧ Mid (w.heap.size + 2) B2 wr (fun W => HasIns W (.slice ia ki ic) LI) ∧ B2 ≤ wr.heap.size) (fun i _ => m2 - (intOf i).toNat)
      case atStart => exact ⟨0, by omega, rfl, q2, [], none, 0, HS3.out, Acc.nil _ _ _ _ (fun W p hp => by cases hp), Todo.start _ _ _, rfl, HNS0.out, HSZ.out⟩
      case round =>
        obtain ⟨k, hk, rfl, q, L, va, vc, hpt, hac, hlf, hLk, hns, hbz⟩ := hrel
        have HLK := hide hLk
        rw [hLk] at hpt hac
        have HPT := hide hpt
        have HAC := hide hac
        have HNS := hide hns
        have HBZ := hide hbz
        have HBW : Hid (B2 ≤ wr.drew.heap.size) := hide hbz
        clear hLk hns hbz
        by_cases hlt : k < m2
        · obtain ⟨d, hd⟩ : ∃ d, m2 - k = d + 1 := ⟨m2 - k - 1, by omega⟩
          rw [hd] at hlf
          have HLF := hide hlf
          have hki : (k : Int) < (m2 : Int) := by omega
          have hcA := HPT.out.box.cell 1
          simp only [List.getElem?_cons_zero, List.getElem?_cons_succ] at hcA
          have hcB : wr.drew.cell? ⟨w.heap.size + 1, 1, none⟩ = some (.slice va k vc) := hcA
          clear hpt hac hlf hcA
          cases hx : Tm.outR l q with
          | none =>
            have HP1 : Hid (∀ W, RdS w0 R bv l q W → Calls Tryz.prog 70 #[.pointer (some ⟨R, 0, none⟩)] W fun e w' => But R W w' ∧ e = .panicked panNo) := hide (fun W hW => by have := HPO.out q W hW; rw [hx] at this; exact this)
            have HX := hide hx
            clear hx
            go_wp2_with fail
            refine wp_region_held_drew (S := fun _ : World => True) (by kernel_rfl) ?_ (fun hHeld0 => ?_)
            · trivial
            refine wpAnyH_take (i := 0) (v := ?_) rfl (by kernel_rfl) (by kernel_rfl) (by kernel_rfl) (fun _ _ _ h => h) (Or.inl ⟨by rfl, ?_⟩) hHeld0 ?_
            rotate_left
            · (intro w hSw; (try dsimp only at hSw); go_simp <;> (try with_reducible rfl))
            simp only [Act.put, List.getElem_toArray, List.getElem_cons_zero, List.getElem_cons_succ, List.setIfInBounds_toArray, List.set_cons_zero, List.set_cons_succ]
            refine wpAnyH_take (i := 2) (v := ?_) rfl (by kernel_rfl) (by kernel_rfl) (by kernel_rfl) (fun _ _ _ h => h) (Or.inl ⟨by rfl, ?_⟩) hHeld0 ?_
            rotate_left
            · (intro w hSw; (try dsimp only at hSw); go_simp <;> (try with_reducible rfl))
            simp only [Act.put, List.getElem_toArray, List.getElem_cons_zero, List.getElem_cons_succ, List.setIfInBounds_toArray, List.set_cons_zero, List.set_cons_succ]
            refine wpAnyH_ready (rs := [1, 3]) (by kernel_rfl) (by simp) ?_
            refine AllReadyH.cons rfl (fun K hK => ?_) ?_
            ·
              go_simp
              refine hK.out _ _ (by trivial) (fun hHeld1 => ?_)
              clear hK K hHeld0
              try simp only [Act.put, List.getElem_toArray, List.getElem_cons_zero, List.getElem_cons_succ, List.setIfInBounds_toArray, List.set_cons_zero, List.set_cons_succ]
              refine wpAnyH_ready (rs := [3]) (by kernel_rfl) (by simp) ?_
              refine AllReadyH.cons rfl (fun K hK => ?_) AllReadyH.nil
              go_simp
              go_wp2_with ((go_at_call 70; refine (HP1.out _ HPT.out.rd.drew).mono ?_; rintro e W1 ⟨hb1, rfl⟩))
              exact ⟨rfl, HPT.out.drew.but.trans hb1, by unfold Tm.payR; rw [HE1.out, Option.bind_some, HE2.out, Option.bind_some, HE3.out, Option.bind_some, HLF.out.stop HX.out]; rfl⟩
            refine AllReadyH.cons rfl (fun K hK => ?_) AllReadyH.nil
            go_simp
            go_wp2_with ((go_at_call 70; refine (HP1.out _ HPT.out.rd.drew).mono ?_; rintro e W1 ⟨hb1, rfl⟩))
            exact ⟨rfl, HPT.out.drew.but.trans hb1, by unfold Tm.payR; rw [HE1.out, Option.bind_some, HE2.out, Option.bind_some, HE3.out, Option.bind_some, HLF.out.stop HX.out]; rfl⟩
          | some xx =>
            obtain ⟨x, q'⟩ := xx
            have HP1 : Hid (∀ W, RdS w0 R bv l q W → Calls Tryz.prog 70 #[.pointer (some ⟨R, 0, none⟩)] W fun e w' => ∃ am la ln lc LL, e = .returned (.agg #[.int .i64 am, .slice la ln lc]) ∧ (OutV.mk am (.slice la ln lc) LL).it = x ∧ But R W w' ∧ RdS w0 R bv l q' w' ∧ Itm W.heap.size w' (fun W => HasOps W (.slice la ln lc) LL)) := hide (fun W hW => by
              have := HPO.out q W hW
              rw [hx] at this
              refine this.mono ?_
              rintro e w' ⟨hb, v, rfl, ⟨⟨am, lv, LL⟩, rfl, h1, h2⟩, hs⟩
              obtain ⟨la, ln, lc, rfl⟩ := hasOps_form h2.out
              exact ⟨am, la, ln, lc, LL, rfl, h1, hb, hs, h2⟩)
            have HX := hide hx
            clear hx
            go_wp2_with fail
            refine wp_region_held_drew (S := fun _ : World => True) (by kernel_rfl) ?_ (fun hHeld0 => ?_)
            · trivial
            refine wpAnyH_take (i := 0) (v := ?_) rfl (by kernel_rfl) (by kernel_rfl) (by kernel_rfl) (fun _ _ _ h => h) (Or.inl ⟨by rfl, ?_⟩) hHeld0 ?_
            rotate_left
            · (intro w hSw; (try dsimp only at hSw); go_simp <;> (try with_reducible rfl))
            simp only [Act.put, List.getElem_toArray, List.getElem_cons_zero, List.getElem_cons_succ, List.setIfInBounds_toArray, List.set_cons_zero, List.set_cons_succ]
            refine wpAnyH_take (i := 2) (v := ?_) rfl (by kernel_rfl) (by kernel_rfl) (by kernel_rfl) (fun _ _ _ h => h) (Or.inl ⟨by rfl, ?_⟩) hHeld0 ?_
            rotate_left
            · (intro w hSw; (try dsimp only at hSw); go_simp <;> (try with_reducible rfl))
            simp only [Act.put, List.getElem_toArray, List.getElem_cons_zero, List.getElem_cons_succ, List.setIfInBounds_toArray, List.set_cons_zero, List.set_cons_succ]
            refine wpAnyH_ready (rs := [1, 3]) (by kernel_rfl) (by simp) ?_
            refine AllReadyH.cons rfl (fun K hK => ?_) ?_
            ·
              go_simp
              refine hK.out _ _ (by trivial) (fun hHeld1 => ?_)
              clear hK K hHeld0
              try simp only [Act.put, List.getElem_toArray, List.getElem_cons_zero, List.getElem_cons_succ, List.setIfInBounds_toArray, List.set_cons_zero, List.set_cons_succ]
              refine wpAnyH_ready (rs := [3]) (by kernel_rfl) (by simp) ?_
              refine AllReadyH.cons rfl (fun K hK => ?_) AllReadyH.nil
              go_simp
              go_wp2_with ((go_at_call 70; refine (HP1.out _ HPT.out.rd.drew).mono ?_; rintro e W1 ⟨am, la, ln, lc, LL, rfl, hXi, hb1, hs1, hi1⟩))
              refine hK.out _ _ (by trivial) (fun hHeld2 => ?_)
              clear hK K hHeld1
              try simp only [Act.put, List.getElem_toArray, List.getElem_cons_zero, List.getElem_cons_succ, List.setIfInBounds_toArray, List.set_cons_zero, List.set_cons_succ]
              have HP2 := hide (HPT.out.drew.call hb1 hs1)
              have HA2 := hide (HAC.out.drew.but hb1 (by have := HPT.out.lt; have := HB2.out; omega))
              have HI2 := hide hi1
              have HN2 := hide (HNS.out.drew.but hb1 (by have := HPT.out.lt; omega) (by have := HBZ.out; exact this))
              have HBY2 := hide (Nat.le_trans (Nat.le_refl wr.drew.heap.size) hb1.size)
              clear hb1 hs1 hi1
              have hcC := HP2.out.box.cell 1
              simp only [List.getElem?_cons_zero, List.getElem?_cons_succ] at hcC
              refine wpAnyH_ready (rs := [4]) (by kernel_rfl) (by simp) ?_
              refine AllReadyH.cons rfl (fun K hK => ?_) AllReadyH.nil
              go_simp
              refine hK.out _ _ (by trivial) (fun hHeld3 => ?_)
              clear hK K hHeld2
              try simp only [Act.put, List.getElem_toArray, List.getElem_cons_zero, List.getElem_cons_succ, List.setIfInBounds_toArray, List.set_cons_zero, List.set_cons_succ]
              have HP3 := hide (HP2.out.alloc (.cells #[.int .i64 am, .slice la ln lc] 57))
              have HA3 := hide (HA2.out.but (But.call (g := R) (below_alloc W1 (.cells #[.int .i64 am, .slice la ln lc] 57))) (by have := HPT.out.lt; have := HB2.out; omega))
              have HI3 := hide (HI2.out.but (But.call (g := R) (below_alloc W1 (.cells #[.int .i64 am, .slice la ln lc] 57))) (by have := HPT.out.lt; have := HPT.out.box.lt; show R < wr.heap.size; omega))
              have HW3 := hide (Nat.le_trans HBY2.out (below_alloc W1 (.cells #[.int .i64 am, .slice la ln lc] 57)).size)
              have HN3 := hide (HN2.out.but (But.call (g := R) (below_alloc W1 (.cells #[.int .i64 am, .slice la ln lc] 57))) (by have := HPT.out.lt; omega) (by have := HBZ.out; have := HBY2.out; exact Nat.le_trans HBZ.out HBY2.out))
              have hcE := HP3.out.box.cell 1
              simp only [List.getElem?_cons_zero, List.getElem?_cons_succ] at hcE
              refine wpAnyH_ready (rs := [5]) (by kernel_rfl) (by simp) ?_
              refine AllReadyH.cons rfl (fun K hK => ?_) AllReadyH.nil
              refine step_append_by (AppG (W1.alloc (.cells #[.int .i64 am, .slice la ln lc] 57)) B2 57 2 k (.slice va k vc) (outCells L) [.int .i64 am, .slice la ln lc]) rfl (.tmp 21) (.tmp 24) rfl (.slice va k vc) (.slice (some ⟨W1.heap.size, 0, none⟩) 1 1) rfl rfl (fun ty => run_app1 elemOuts _ _ _ _ _ [.int .i64 am, .slice la ln lc] HA3.out.own W1.heap.size 1 (is_range (Is.new W1 [.int .i64 am, .slice la ln lc] 57)) rfl (by intro u hu; simp only [List.mem_cons, List.not_mem_nil, or_false] at hu; rcases hu with rfl | rfl <;> rfl) (by have := HM.out; omega) (Nat.le_trans HBW.out HW3.out) ty) ?_
              intro v2 W3 h3
              obtain ⟨va2, vc2, hv2⟩ := owns_form h3.1
              subst hv2
              have HP4 := hide (HP3.out.grown h3.2.1 (fun b hb => Nat.le_trans HB2.out (World.ownsRow.lt HA3.out.own b hb).1))
              have HA4 := hide (HA3.out.app HI3.out (fun b hb => (World.ownsRow.lt HAC.out.own b hb).2) HBW.out h3.1 h3.2.1 h3.2.2)
              have HN4 := hide (HN3.out.grown h3.2.1 (fun b hb => (World.ownsRow.lt HA3.out.own b hb).1) (Nat.le_trans HBZ.out HW3.out))
              have HG4 := hide h3.2.1.size
              clear h3
              have hcF := HP4.out.box.cell 1
              have hfF := HP4.out.box.frozen
              simp only [List.getElem?_cons_zero, List.getElem?_cons_succ] at hcF
              refine hK.out _ _ (by trivial) (fun hHeld4 => ?_)
              clear hK K hHeld3
              try simp only [Act.put, List.getElem_toArray, List.getElem_cons_zero, List.getElem_cons_succ, List.setIfInBounds_toArray, List.set_cons_zero, List.set_cons_succ]
              refine wpAnyH_take (i := 6) (v := ?_) rfl (by kernel_rfl) (by kernel_rfl) (by kernel_rfl) (fun _ _ _ h => h) (Or.inl ⟨by rfl, ?_⟩) hHeld4 ?_
              rotate_left
              · (intro w hSw; (try dsimp only at hSw); go_simp <;> (try with_reducible rfl))
              simp only [Act.put, List.getElem_toArray, List.getElem_cons_zero, List.getElem_cons_succ, List.setIfInBounds_toArray, List.set_cons_zero, List.set_cons_succ]
              refine wpAnyH_ready (rs := [7]) (by kernel_rfl) (by simp) ?_
              refine AllReadyH.cons rfl (fun K hK => ?_) AllReadyH.nil
              go_simp
              refine hK.out _ _ (by trivial) (fun hHeld5 => ?_)
              clear hK K hHeld4
              try simp only [Act.put, List.getElem_toArray, List.getElem_cons_zero, List.getElem_cons_succ, List.setIfInBounds_toArray, List.set_cons_zero, List.set_cons_succ]
              refine wpAnyH_done (by kernel_rfl) ?_ _
              have HZ4 := Nat.le_trans (Nat.le_trans HBZ.out HW3.out) HG4.out
              have HP5 := hide (HP4.out.set 1 (.slice va2 (k + 1) vc2))
              have HA5 := hide (HA4.out.but (But.cell W3 (w.heap.size + 1) 1 (.slice va2 (k + 1) vc2)) (by have := HB2.out; omega))
              have HN5 := hide (HN4.out.but (But.cell W3 (w.heap.size + 1) 1 (.slice va2 (k + 1) vc2)) (by omega) (HZ4))
              have HZ5 := hide (Nat.le_trans HZ4 (But.cell W3 (w.heap.size + 1) 1 (.slice va2 (k + 1) vc2)).size)
              clear hcB hcC hcE hcF hfF HP2 HP3 HA2 HA3 HI2 HI3 HP4 HA4
              have hm60 := HM.out
              go_wp2
              go_roundw
              case rel => exact ⟨k + 1, by omega, by go_num, q', L ++ [⟨am, .slice la ln lc, LL⟩], va2, vc2, by rw [List.length_append, HLK.out]; exact HP5.out, by rw [List.length_append, HLK.out, outCells_add]; exact HA5.out.map (fun W h => fouts_add (p := ⟨am, .slice la ln lc, LL⟩) h.1 h.2), by rw [List.map_append, show m2 - (k + 1) = d from by omega]; exact HLF.out.next (by rw [HX.out, ← hXi]), by rw [List.length_append, HLK.out]; rfl, HN5.out, HZ5.out⟩
              case measure => simp [intOf]; omega
            refine AllReadyH.cons rfl (fun K hK => ?_) AllReadyH.nil
            go_simp
            go_wp2_with ((go_at_call 70; refine (HP1.out _ HPT.out.rd.drew).mono ?_; rintro e W1 ⟨am, la, ln, lc, LL, rfl, hXi, hb1, hs1, hi1⟩))
            refine hK.out _ _ (by trivial) (fun hHeld1 => ?_)
            clear hK K hHeld0
            try simp only [Act.put, List.getElem_toArray, List.getElem_cons_zero, List.getElem_cons_succ, List.setIfInBounds_toArray, List.set_cons_zero, List.set_cons_succ]
            have HP2 := hide (HPT.out.drew.call hb1 hs1)
            have HA2 := hide (HAC.out.drew.but hb1 (by have := HPT.out.lt; have := HB2.out; omega))
            have HI2 := hide hi1
            have HN2 := hide (HNS.out.drew.but hb1 (by have := HPT.out.lt; omega) (by have := HBZ.out; exact this))
            have HBY2 := hide (Nat.le_trans (Nat.le_refl wr.drew.heap.size) hb1.size)
            clear hb1 hs1 hi1
            have hcC := HP2.out.box.cell 1
            simp only [List.getElem?_cons_zero, List.getElem?_cons_succ] at hcC
            refine wpAnyH_ready (rs := [1, 4]) (by kernel_rfl) (by simp) ?_
            refine AllReadyH.cons rfl (fun K hK => ?_) ?_
            ·
              go_simp
              refine hK.out _ _ (by trivial) (fun hHeld2 => ?_)
              clear hK K hHeld1
              try simp only [Act.put, List.getElem_toArray, List.getElem_cons_zero, List.getElem_cons_succ, List.setIfInBounds_toArray, List.set_cons_zero, List.set_cons_succ]
              refine wpAnyH_ready (rs := [4]) (by kernel_rfl) (by simp) ?_
              refine AllReadyH.cons rfl (fun K hK => ?_) AllReadyH.nil
              go_simp
              refine hK.out _ _ (by trivial) (fun hHeld3 => ?_)
              clear hK K hHeld2
              try simp only [Act.put, List.getElem_toArray, List.getElem_cons_zero, List.getElem_cons_succ, List.setIfInBounds_toArray, List.set_cons_zero, List.set_cons_succ]
              have HP3 := hide (HP2.out.alloc (.cells #[.int .i64 am, .slice la ln lc] 57))
              have HA3 := hide (HA2.out.but (But.call (g := R) (below_alloc W1 (.cells #[.int .i64 am, .slice la ln lc] 57))) (by have := HPT.out.lt; have := HB2.out; omega))
              have HI3 := hide (HI2.out.but (But.call (g := R) (below_alloc W1 (.cells #[.int .i64 am, .slice la ln lc] 57))) (by have := HPT.out.lt; have := HPT.out.box.lt; show R < wr.heap.size; omega))
              have HW3 := hide (Nat.le_trans HBY2.out (below_alloc W1 (.cells #[.int .i64 am, .slice la ln lc] 57)).size)
              have HN3 := hide (HN2.out.but (But.call (g := R) (below_alloc W1 (.cells #[.int .i64 am, .slice la ln lc] 57))) (by have := HPT.out.lt; omega) (by have := HBZ.out; have := HBY2.out; exact Nat.le_trans HBZ.out HBY2.out))
              have hcE := HP3.out.box.cell 1
              simp only [List.getElem?_cons_zero, List.getElem?_cons_succ] at hcE
              refine wpAnyH_ready (rs := [5]) (by kernel_rfl) (by simp) ?_
              refine AllReadyH.cons rfl (fun K hK => ?_) AllReadyH.nil
              refine step_append_by (AppG (W1.alloc (.cells #[.int .i64 am, .slice la ln lc] 57)) B2 57 2 k (.slice va k vc) (outCells L) [.int .i64 am, .slice la ln lc]) rfl (.tmp 21) (.tmp 24) rfl (.slice va k vc) (.slice (some ⟨W1.heap.size, 0, none⟩) 1 1) rfl rfl (fun ty => run_app1 elemOuts _ _ _ _ _ [.int .i64 am, .slice la ln lc] HA3.out.own W1.heap.size 1 (is_range (Is.new W1 [.int .i64 am, .slice la ln lc] 57)) rfl (by intro u hu; simp only [List.mem_cons, List.not_mem_nil, or_false] at hu; rcases hu with rfl | rfl <;> rfl) (by have := HM.out; omega) (Nat.le_trans HBW.out HW3.out) ty) ?_
              intro v2 W3 h3
              obtain ⟨va2, vc2, hv2⟩ := owns_form h3.1
              subst hv2
              have HP4 := hide (HP3.out.grown h3.2.1 (fun b hb => Nat.le_trans HB2.out (World.ownsRow.lt HA3.out.own b hb).1))
              have HA4 := hide (HA3.out.app HI3.out (fun b hb => (World.ownsRow.lt HAC.out.own b hb).2) HBW.out h3.1 h3.2.1 h3.2.2)
              have HN4 := hide (HN3.out.grown h3.2.1 (fun b hb => (World.ownsRow.lt HA3.out.own b hb).1) (Nat.le_trans HBZ.out HW3.out))
              have HG4 := hide h3.2.1.size
              clear h3
              have hcF := HP4.out.box.cell 1
              have hfF := HP4.out.box.frozen
              simp only [List.getElem?_cons_zero, List.getElem?_cons_succ] at hcF
              refine hK.out _ _ (by trivial) (fun hHeld4 => ?_)
              clear hK K hHeld3
              try simp only [Act.put, List.getElem_toArray, List.getElem_cons_zero, List.getElem_cons_succ, List.setIfInBounds_toArray, List.set_cons_zero, List.set_cons_succ]
              refine wpAnyH_take (i := 6) (v := ?_) rfl (by kernel_rfl) (by kernel_rfl) (by kernel_rfl) (fun _ _ _ h => h) (Or.inl ⟨by rfl, ?_⟩) hHeld4 ?_
              rotate_left
              · (intro w hSw; (try dsimp only at hSw); go_simp <;> (try with_reducible rfl))
              simp only [Act.put, List.getElem_toArray, List.getElem_cons_zero, List.getElem_cons_succ, List.setIfInBounds_toArray, List.set_cons_zero, List.set_cons_succ]
              refine wpAnyH_ready (rs := [7]) (by kernel_rfl) (by simp) ?_
              refine AllReadyH.cons rfl (fun K hK => ?_) AllReadyH.nil
              go_simp
              refine hK.out _ _ (by trivial) (fun hHeld5 => ?_)
              clear hK K hHeld4
              try simp only [Act.put, List.getElem_toArray, List.getElem_cons_zero, List.getElem_cons_succ, List.setIfInBounds_toArray, List.set_cons_zero, List.set_cons_succ]
              refine wpAnyH_done (by kernel_rfl) ?_ _
              have HZ4 := Nat.le_trans (Nat.le_trans HBZ.out HW3.out) HG4.out
              have HP5 := hide (HP4.out.set 1 (.slice va2 (k + 1) vc2))
              have HA5 := hide (HA4.out.but (But.cell W3 (w.heap.size + 1) 1 (.slice va2 (k + 1) vc2)) (by have := HB2.out; omega))
              have HN5 := hide (HN4.out.but (But.cell W3 (w.heap.size + 1) 1 (.slice va2 (k + 1) vc2)) (by omega) (HZ4))
              have HZ5 := hide (Nat.le_trans HZ4 (But.cell W3 (w.heap.size + 1) 1 (.slice va2 (k + 1) vc2)).size)
              clear hcB hcC hcE hcF hfF HP2 HP3 HA2 HA3 HI2 HI3 HP4 HA4
              have hm60 := HM.out
              go_wp2
              go_roundw
              case rel => exact ⟨k + 1, by omega, by go_num, q', L ++ [⟨am, .slice la ln lc, LL⟩], va2, vc2, by rw [List.length_append, HLK.out]; exact HP5.out, by rw [List.length_append, HLK.out, outCells_add]; exact HA5.out.map (fun W h => fouts_add (p := ⟨am, .slice la ln lc, LL⟩) h.1 h.2), by rw [List.map_append, show m2 - (k + 1) = d from by omega]; exact HLF.out.next (by rw [HX.out, ← hXi]), by rw [List.length_append, HLK.out]; rfl, HN5.out, HZ5.out⟩
              case measure => simp [intOf]; omega
            refine AllReadyH.cons rfl (fun K hK => ?_) AllReadyH.nil
            go_simp
            refine hK.out _ _ (by trivial) (fun hHeld2 => ?_)
            clear hK K hHeld1
            try simp only [Act.put, List.getElem_toArray, List.getElem_cons_zero, List.getElem_cons_succ, List.setIfInBounds_toArray, List.set_cons_zero, List.set_cons_succ]
            have HP3 := hide (HP2.out.alloc (.cells #[.int .i64 am, .slice la ln lc] 57))
            have HA3 := hide (HA2.out.but (But.call (g := R) (below_alloc W1 (.cells #[.int .i64 am, .slice la ln lc] 57))) (by have := HPT.out.lt; have := HB2.out; omega))
            have HI3 := hide (HI2.out.but (But.call (g := R) (below_alloc W1 (.cells #[.int .i64 am, .slice la ln lc] 57))) (by have := HPT.out.lt; have := HPT.out.box.lt; show R < wr.heap.size; omega))
            have HW3 := hide (Nat.le_trans HBY2.out (below_alloc W1 (.cells #[.int .i64 am, .slice la ln lc] 57)).size)
            have HN3 := hide (HN2.out.but (But.call (g := R) (below_alloc W1 (.cells #[.int .i64 am, .slice la ln lc] 57))) (by have := HPT.out.lt; omega) (by have := HBZ.out; have := HBY2.out; exact Nat.le_trans HBZ.out HBY2.out))
            have hcE := HP3.out.box.cell 1
            simp only [List.getElem?_cons_zero, List.getElem?_cons_succ] at hcE
            refine wpAnyH_ready (rs := [1]) (by kernel_rfl) (by simp) ?_
            refine AllReadyH.cons rfl (fun K hK => ?_) AllReadyH.nil
            go_simp
            refine hK.out _ _ (by trivial) (fun hHeld3 => ?_)
            clear hK K hHeld2
            try simp only [Act.put, List.getElem_toArray, List.getElem_cons_zero, List.getElem_cons_succ, List.setIfInBounds_toArray, List.set_cons_zero, List.set_cons_succ]
            refine wpAnyH_ready (rs := [5]) (by kernel_rfl) (by simp) ?_
            refine AllReadyH.cons rfl (fun K hK => ?_) AllReadyH.nil
            refine step_append_by (AppG (W1.alloc (.cells #[.int .i64 am, .slice la ln lc] 57)) B2 57 2 k (.slice va k vc) (outCells L) [.int .i64 am, .slice la ln lc]) rfl (.tmp 21) (.tmp 24) rfl (.slice va k vc) (.slice (some ⟨W1.heap.size, 0, none⟩) 1 1) rfl rfl (fun ty => run_app1 elemOuts _ _ _ _ _ [.int .i64 am, .slice la ln lc] HA3.out.own W1.heap.size 1 (is_range (Is.new W1 [.int .i64 am, .slice la ln lc] 57)) rfl (by intro u hu; simp only [List.mem_cons, List.not_mem_nil, or_false] at hu; rcases hu with rfl | rfl <;> rfl) (by have := HM.out; omega) (Nat.le_trans HBW.out HW3.out) ty) ?_
            intro v2 W3 h3
            obtain ⟨va2, vc2, hv2⟩ := owns_form h3.1
            subst hv2
            have HP4 := hide (HP3.out.grown h3.2.1 (fun b hb => Nat.le_trans HB2.out (World.ownsRow.lt HA3.out.own b hb).1))
            have HA4 := hide (HA3.out.app HI3.out (fun b hb => (World.ownsRow.lt HAC.out.own b hb).2) HBW.out h3.1 h3.2.1 h3.2.2)
            have HN4 := hide (HN3.out.grown h3.2.1 (fun b hb => (World.ownsRow.lt HA3.out.own b hb).1) (Nat.le_trans HBZ.out HW3.out))
            have HG4 := hide h3.2.1.size
            clear h3
            have hcF := HP4.out.box.cell 1
            have hfF := HP4.out.box.frozen
            simp only [List.getElem?_cons_zero, List.getElem?_cons_succ] at hcF
            refine hK.out _ _ (by trivial) (fun hHeld4 => ?_)
            clear hK K hHeld3
            try simp only [Act.put, List.getElem_toArray, List.getElem_cons_zero, List.getElem_cons_succ, List.setIfInBounds_toArray, List.set_cons_zero, List.set_cons_succ]
            refine wpAnyH_take (i := 6) (v := ?_) rfl (by kernel_rfl) (by kernel_rfl) (by kernel_rfl) (fun _ _ _ h => h) (Or.inl ⟨by rfl, ?_⟩) hHeld4 ?_
            rotate_left
            · (intro w hSw; (try dsimp only at hSw); go_simp <;> (try with_reducible rfl))
            simp only [Act.put, List.getElem_toArray, List.getElem_cons_zero, List.getElem_cons_succ, List.setIfInBounds_toArray, List.set_cons_zero, List.set_cons_succ]
            refine wpAnyH_ready (rs := [7]) (by kernel_rfl) (by simp) ?_
            refine AllReadyH.cons rfl (fun K hK => ?_) AllReadyH.nil
            go_simp
            refine hK.out _ _ (by trivial) (fun hHeld5 => ?_)
            clear hK K hHeld4
            try simp only [Act.put, List.getElem_toArray, List.getElem_cons_zero, List.getElem_cons_succ, List.setIfInBounds_toArray, List.set_cons_zero, List.set_cons_succ]
            refine wpAnyH_done (by kernel_rfl) ?_ _
            have HZ4 := Nat.le_trans (Nat.le_trans HBZ.out HW3.out) HG4.out
            have HP5 := hide (HP4.out.set 1 (.slice va2 (k + 1) vc2))
            have HA5 := hide (HA4.out.but (But.cell W3 (w.heap.size + 1) 1 (.slice va2 (k + 1) vc2)) (by have := HB2.out; omega))
            have HN5 := hide (HN4.out.but (But.cell W3 (w.heap.size + 1) 1 (.slice va2 (k + 1) vc2)) (by omega) (HZ4))
            have HZ5 := hide (Nat.le_trans HZ4 (But.cell W3 (w.heap.size + 1) 1 (.slice va2 (k + 1) vc2)).size)
            clear hcB hcC hcE hcF hfF HP2 HP3 HA2 HA3 HI2 HI3 HP4 HA4
            have hm60 := HM.out
            go_wp2
            go_roundw
            case rel => exact ⟨k + 1, by omega, by go_num, q', L ++ [⟨am, .slice la ln lc, LL⟩], va2, vc2, by rw [List.length_append, HLK.out]; exact HP5.out, by rw [List.length_append, HLK.out, outCells_add]; exact HA5.out.map (fun W h => fouts_add (p := ⟨am, .slice la ln lc, LL⟩) h.1 h.2), by rw [List.map_append, show m2 - (k + 1) = d from by omega]; exact HLF.out.next (by rw [HX.out, ← hXi]), by rw [List.length_append, HLK.out]; rfl, HN5.out, HZ5.out⟩
            case measure => simp [intOf]; omega
        · have hke : k = m2 := by omega
          subst hke
          rw [Nat.sub_self] at hlf
          have HE4 := hide hlf.end
          have hki : ¬ (k : Int) < (k : Int) := by omega
          have HOT := hide (hac.itm.map (G := fun W => HasOuts W (.slice va k vc) L) (fun W h => row_hasOuts (by rw [HLK.out]; exact h.1) h.2))
          clear hpt hac hlf HPO HAC
          go_wp2_with fail
          refine (HN.out q _ HPT.out.rd).mono ?_
          rintro e w5 ⟨hb5, hm5⟩
          have HB5 := hide hb5
          cases h5 : Tm.num l q with
          | none =>
            rw [h5] at hm5
            subst hm5
            exact ⟨rfl, HPT.out.but.trans HB5.out, by unfold Tm.payR; rw [HE1.out, Option.bind_some, HE2.out, Option.bind_some, HE3.out, Option.bind_some, HE4.out, Option.bind_some, h5]; rfl⟩
          | some x5 =>
          rw [h5] at hm5
          obtain ⟨v5, rfl, rfl, hs5⟩ := hm5
          obtain ⟨x5, q5⟩ := x5
          have HE5 := hide h5
          have HS5 := hide (HPT.out.call HB5.out hs5)
          have HOT5 := hide (HOT.out.but HB5.out (by have := HPT.out.lt; have := HB2.out; omega))
          have HNS5 := hide (HNS.out.but HB5.out (by have := HPT.out.lt; omega) HBZ.out)
          have HBZ5 := hide (Nat.le_trans HBZ.out HB5.out.size)
          clear h5 hs5 hb5 HB5
          have hc1 := HS5.out.box.cell 2
          have hf1 := HS5.out.box.frozen
          simp only [List.getElem?_cons_zero, List.getElem?_cons_succ] at hc1
          have HS6 : Hid (PtS w0 w R bv l 25 [.slice none 0 0, .slice none 0 0, .int .i64 0] q5 [.slice ia ki ic, .slice va k vc, .int .i64 x5] (w5.setCell ⟨w.heap.size + 1, 2, none⟩ (.int .i64 x5))) := hide (HS5.out.set 2 (.int .i64 x5))
          have HOT6 := hide (HOT5.out.but (But.cell w5 (w.heap.size + 1) 2 (.int .i64 x5)) (by have := HB2.out; omega))
          have HNS6 := hide (HNS5.out.but (But.cell w5 (w.heap.size + 1) 2 (.int .i64 x5)) (by omega) HBZ5.out)
          have HBZ6 := hide (Nat.le_trans HBZ5.out (But.cell w5 (w.heap.size + 1) 2 (.int .i64 x5)).size)
          go_wp2_with (first
            | (refine wpList_load_part 25 [.slice ia ki ic, .slice va k vc, .int .i64 x5] (w.heap.size + 1) 0 rfl (.tmp 3) rfl rfl (is_range HS6.out.box) Tryz.underlying25 rfl size_tx rfl ?_)
            | (refine wpList_store_any3 25 [.slice none 0 0, .slice none 0 0, .int .i64 0] [.slice ia ki ic, .slice va k vc, .int .i64 x5] w.heap.size rfl (.tmp 2) (.tmp 31) rfl rfl rfl rfl HS6.out.res size_tx rfl rfl (by intro v hv; simp only [List.mem_cons, List.not_mem_nil, or_false] at hv; rcases hv with rfl | rfl | rfl <;> rfl) ?_; intro w9 hi9 hw9; have hbr : But w.heap.size (w5.setCell ⟨w.heap.size + 1, 2, none⟩ (.int .i64 x5)) w9 := (by rw [hw9]; exact But.row _ w.heap.size _); clear hw9))
          have hdn := HS6.out.done (hbr.under (by have := HS6.out.res.lt; omega) (Nat.le_refl _))
          have hi1 := ((HNS6.out.itm HBZ6.out).but hbr (by omega)).mono (by omega : w.heap.size ≤ w.heap.size + 2)
          have hi2 := (HOT6.out.but hbr (by have := HB2.out; omega)).mono (by have := HB2.out; omega : w.heap.size ≤ B2)
          have hit : Itm w.heap.size w9 (fun W => HasTx W ⟨.slice ia ki ic, LI, .slice va k vc, L, x5⟩) := itm_and hi1 hi2
          exact bodyPost_ret (v := .agg #[.slice ia ki ic, .slice va k vc, .int .i64 x5]) (results_cell1 Tryz.results55 rfl (hi9.cellsOfS Tryz.underlying25 (by kernel_rfl))) rfl ⟨hdn.1, by unfold Tm.payR; rw [HE1.out, Option.bind_some, HE2.out, Option.bind_some, HE3.out, Option.bind_some, HE4.out, Option.bind_some, HE5.out]; exact ⟨_, rfl, ⟨⟨.slice ia ki ic, LI, .slice va k vc, L, x5⟩, rfl, rfl, hit⟩, hdn.2⟩⟩
end Go.Proofs.YtbdnbjemocjlaaaGreatDoor
