/- The contracts of the document's Half, Leaf, Node and Root. -/
import Derived.Test.YtphdnbflogobfaaDoorTeFo
import Derived.Test.YtphdnbflogobfaaDoorROf
import Derived.Deep.RegionHeld2
namespace Go.Proofs.YtphdnbflogobfaaDoor
open Go.RowKit
set_option linter.unusedVariables false
set_option linter.unusedSimpArgs false

theorem te_step_append {ops : Array Oper} {o : Oper} {a : Act} {K : Act → World → Prop} {Q : Exit → Act → World → Prop} {E : Prop} (w : World) (hgd : o.guard = none) (s y : Operand)
    (ho : o.op = .call { callee := .builtin .append, args := #[s, y], argTypes := #[22, 22] })
    (base : Nat) (v : Value) (DS : List (List Int)) (hs : a.eval s = v) (d : List Int) (b c : Nat) (hy : a.eval y = .slice (some ⟨b, 0, none⟩) 1 c) (hown : OwnDigs w base v DS) (hi : Is w b (vals d) 26) (hl : d.length = 32) (hB : Sz.Byt d) (hbd : DS.length + 1 ≤ 1000000) (hbase : base ≤ w.heap.size)
    (h : ∀ v' w', OwnDigs w' base v' (DS ++ [d]) → w.grownBy w' v.ownBlock → K (a.put o.dst v') w') :
    if Region.wanted o (yielded ops a.tmps) = true then Oper.wp Tryd.prog o a w K Q else E := by
  have hw : Region.wanted o (yielded ops a.tmps) = true := by simp [Region.wanted, hgd]
  rw [if_pos hw]
  obtain ⟨v', w', hr', h2, h3, h4⟩ := run_append_gen w base 22 26 32 te_elem_dig v DS.length (digCells DS) hown.2 ⟨b, 0, none⟩ 1 c (by omega) (vals d) (by rw [vals_length]; omega) (fun j u hu => by rw [Addr.add_lit]; exact hi.range j u hu) (vals_one _) hbd hbase o.type
  unfold Oper.wp
  simp only [execOp, ho, resolve, invoke, builtin, Sem.run_bind, Sem.run_pure, Result.andThen_ok, List.map_toArray, List.map_cons, List.map_nil, hs, hy, hr']
  exact h _ _ ⟨hown.1.snoc hl hB, by rw [digCells_snoc, List.length_append]; exact h2⟩ h3

set_option maxRecDepth 100000 in
set_option maxHeartbeats 400000 in
theorem rhalf_any (n : Nat) (w : World) (h2 : 2 ≤ n) (h : n ≤ 256) :
    Calls Tryd.prog 25 #[.int .i64 (n : Int)] w fun e w' => e = .returned (.int .i64 (Te.half n)) ∧ Below w.heap.size w w' := by
  go_enter Tryd.func25, Tryd.ntmps25
  go_wp2
  go_loopw [3] (fun c wr => ∃ j : Nat, c = .int .i64 ((2 ^ j : Nat) : Int) ∧ 2 ^ j < n ∧ Below w.heap.size w wr) (fun c _ => n - (intOf c).toNat)
  case atStart => exact ⟨0, rfl, by omega, Below.refl _ _⟩
  case round =>
    obtain ⟨j, rfl, hj, hb⟩ := hrel
    have hhalf := Te.half_is n j hj
    have hpw : 2 ^ (j + 1) = 2 * 2 ^ j := by rw [Nat.pow_succ]; omega
    have hp : 0 < 2 ^ j := Nat.two_pow_pos j
    obtain ⟨k, hk⟩ : ∃ k, k = 2 ^ j := ⟨_, rfl⟩
    rw [← hk] at hj hhalf hp hpw ⊢
    have HPW := hide hpw
    clear hk hpw
    have hwr : wrap64 (2 * (k : Int)) = 2 * (k : Int) := by simp [wrap64]; omega
    by_cases hc : 2 * k < n
    · have hci : 2 * (k : Int) < (n : Int) := by omega
      clear hhalf
      go_wp2
      go_roundw
      case rel => exact ⟨j + 1, by rw [HPW.out]; go_num, by rw [HPW.out]; exact hc, hb⟩
      case measure => simp [intOf, hwr]; omega
    · have hci : ¬ 2 * (k : Int) < (n : Int) := by omega
      have hh := hhalf (by omega)
      have HHH := hide hh
      clear hhalf hh
      go_wp2
      exact bodyPost_ret (v := .int .i64 (k : Int)) (by simp [results, Tryd.results25]) rfl ⟨by rw [HHH.out], hb⟩

set_option maxRecDepth 100000 in
set_option maxHeartbeats 400000 in
theorem rleaf_any (l : List Int) (v : Value) (w : World) (hv : Has w v l) (hb : Sz.Byt l) (hl : l.length < 148000000000000) :
    Calls Tryd.prog 13 #[v] w fun e w' => e = .returned (.agg (vals (Te.leaf l)).toArray) ∧ Below w.heap.size w w' := by
  obtain ⟨va, vc, rfl⟩ := hv.form
  have HV := hide hv
  have HI := hide (Is.new w (vals (List.replicate 32 0)) 26)
  have HB := hide (below_alloc w (.cells (vals (List.replicate 32 0)).toArray 26))
  have HO0 : Hid (Own ((w.alloc (.cells (vals (List.replicate 32 0)).toArray 26)).alloc (.cells #[.int .u8 0] 5)) (w.heap.size + 1) (.slice (some ⟨w.heap.size + 1, 0, none⟩) 1 1) [0]) := by
    have := Own.one (w.alloc (.cells (vals (List.replicate 32 0)).toArray 26)) (w.heap.size + 1) 0 (by simp)
    rwa [show (w.alloc (.cells (vals (List.replicate 32 0)).toArray 26)).heap.size = w.heap.size + 1 by simp] at this
  have HS : Hid (∀ W u, Own W (w.heap.size + 1) u ([0] ++ l) → Calls Tryd.prog 24 #[u] W fun e w' => e = .returned (.agg (vals (Te.leaf l)).toArray) ∧ Below W.heap.size W w') := hide (fun W u hu => by
    have := rsum_any u ([0] ++ l) W hu.has (fun x hx => by
      rcases List.mem_append.1 hx with hx | hx
      · rw [List.mem_singleton.1 hx]; omega
      · exact hb x hx) (by rw [List.length_append, List.length_singleton]; omega)
    have e : Te.leaf l = Sh.sum ([0] ++ l) := by unfold Te.leaf; rw [List.singleton_append]
    rw [e]; exact this)
  have hD : (Te.leaf l).length = 32 := Mc.sum_length _
  have HD := hide hD
  generalize Te.leaf l = D at *
  have HL : Hid (l.length < 148000000000000) := hl
  obtain ⟨m, hm⟩ : ∃ m, m = l.length := ⟨_, rfl⟩
  rw [← hm]
  rw [← hm] at HV
  clear hD hv hb hl hm
  go_enter Tryd.func13, Tryd.ntmps13
  go_wp2_with (first
    | (at_builtin; refine wpList_append_bytes _ rfl (.tmp 3) (.tmp 4) rfl (w.heap.size + 1) _ [0] rfl HO0.out _ l rfl (HV.out.below ((below_alloc2 w _ _))) (by rw [List.length_singleton]; have := HL.out; omega) (by simp) ?_; intro v6 w6 ho6 hg6; have hi6 := (HI.out.alloc (.cells #[.int .u8 0] 5)).grown hg6 (fun e => by have := (HO0.out.block _ e).1; omega); have hb6 := (HB.out.alloc HB.out.size (.cells #[.int .u8 0] 5)).grown hg6 (HB.out.alloc HB.out.size _).size (fun r hr => by have := (HO0.out.block r hr).1; omega))
    | (go_at_call 24; refine (HS.out _ _ ho6).mono ?_; rintro e w7 ⟨rfl, hb7⟩; have hi7 := hi6.below hb7 hi6.lt; have hb7' := hb6.trans (hb7.mono hb6.size))
    | (refine te_store (vals (List.replicate 32 0)) D w.heap.size rfl (.tmp 2) (.tmp 6) rfl rfl rfl rfl hi7 (by simp [vals]) HD.out ?_; intro w8 hi8 hb8 hz8))
  have hr := hi8.cellsOf Tryd.underlying26 (by rw [vals_length, HD.out]; exact size_dig)
  exact bodyPost_ret (v := .agg (vals D).toArray) (results_cell1 Tryd.results13 rfl hr) rfl ⟨rfl, hb7'.trans (hb8.under hb7'.size (Nat.le_refl _))⟩

set_option maxRecDepth 100000 in
set_option maxHeartbeats 400000 in
theorem rnode_any (L R : List Int) (w : World) (hL : L.length = 32) (hR : R.length = 32) (hLb : Sz.Byt L) (hRb : Sz.Byt R) :
    Calls Tryd.prog 21 #[.agg (vals L).toArray, .agg (vals R).toArray] w fun e w' => e = .returned (.agg (vals (Te.nd L R)).toArray) ∧ Below w.heap.size w w' := by
  have HC : Hid (∀ W K, Is W K (vals (L ++ R)) 26 → Calls Tryd.prog 32 #[.int .u8 1, .slice (some ⟨K, 0, none⟩) 2 2] W fun e w' => e = .returned (.agg (vals (Te.nd L R)).toArray) ∧ Below W.heap.size W w') := fun W K hK => by
    have := rof_any 1 K 0 2 2 (L ++ R) W (by omega) (by omega) (by simp [hL, hR]) hK.range hK.lt (fun x hx => by
      rcases List.mem_append.1 hx with hx | hx
      · exact hLb x hx
      · exact hRb x hx)
    unfold Te.nd; exact this
  have HD := hide (Te.nd_length L R)
  generalize Te.nd L R = D at *
  have HIL := hide (((Is.new w (vals L) 26).alloc (.cells (vals R).toArray 26)).alloc (.cells (vals (List.replicate 32 0)).toArray 26))
  have HIR : Hid (Is (((w.alloc (.cells (vals L).toArray 26)).alloc (.cells (vals R).toArray 26)).alloc (.cells (vals (List.replicate 32 0)).toArray 26)) (w.heap.size + 1) (vals R) 26) := (Is.new' (vals R) 26 (by simp)).alloc _
  have HIZ : Hid (Is (((w.alloc (.cells (vals L).toArray 26)).alloc (.cells (vals R).toArray 26)).alloc (.cells (vals (List.replicate 32 0)).toArray 26)) (w.heap.size + 2) (vals (List.replicate 32 0)) 26) := Is.new' _ 26 (by simp)
  have HB := hide (below_alloc3 w (.cells (vals L).toArray 26) (.cells (vals R).toArray 26) (.cells (vals (List.replicate 32 0)).toArray 26))
  clear hLb hRb
  go_enter Tryd.func21, Tryd.ntmps21
  go_wp2_with (first
    | (refine te_load L w.heap.size 0 rfl (.tmp 2) rfl rfl HIL.out.range hL ?_)
    | (refine te_load R (w.heap.size + 1) 0 rfl (.tmp 3) rfl rfl HIR.out.range hR ?_)
    | (refine te_build2 L R rfl (.tmp 5) (.tmp 6) rfl rfl rfl hL hR ?_)
    | (go_at_call 32; refine (HC.out _ _ (Is.new' _ 26 (by simp))).mono ?_; rintro e w6 ⟨rfl, hb6⟩; have hi6 := (HIZ.out.alloc _).below hb6 (HIZ.out.alloc _).lt; have hb6' := (HB.out.alloc HB.out.size _).trans (hb6.mono (HB.out.alloc HB.out.size _).size))
    | (refine te_store (vals (List.replicate 32 0)) D (w.heap.size + 2) rfl (.tmp 4) (.tmp 8) rfl rfl rfl rfl hi6 (by simp [vals]) HD.out ?_; intro w8 hi8 hb8 hz8))
  have hr := hi8.cellsOf Tryd.underlying26 (by rw [vals_length, HD.out]; exact size_dig)
  exact bodyPost_ret (v := .agg (vals D).toArray) (results_cell1 Tryd.results21 rfl hr) rfl ⟨rfl, hb6'.trans (hb8.under hb6'.size (by omega))⟩

/-- The box that a root is told in. -/
structure RtS (w W : World) : Prop where
  below : Below w.heap.size w W
  z : ∃ C, C.length = 32 ∧ Is W w.heap.size C 26
theorem RtS.call {w W W' : World} (h : RtS w W) (hb : Below W.heap.size W W') : RtS w W' := by
  obtain ⟨C, h1, h2⟩ := h.z
  exact ⟨h.below.trans (hb.mono h.below.size), ⟨C, h1, h2.below hb h2.lt⟩⟩
theorem RtS.drew {w W : World} (h : RtS w W) : RtS w W.drew := by
  obtain ⟨C, h1, h2⟩ := h.z
  exact ⟨h.below.drew, ⟨C, h1, h2.drew⟩⟩

set_option maxRecDepth 100000 in
set_option maxHeartbeats 1000000 in
theorem rroot_any (n : Nat) : ∀ (DS : List (List Int)) (b off cap : Nat) (w : World), DS.length = n → 1 ≤ n → n ≤ 256 → DigsAt w b off DS → n ≤ cap → cap ≤ maxLen →
    Calls Tryd.prog 9 #[.slice (some ⟨b, off, none⟩) n cap] w fun e w' => e = .returned (.agg (vals (Te.root DS)).toArray) ∧ Below w.heap.size w w' := by
  induction n using Nat.strongRecOn with
  | _ n ih =>
    intro DS b off cap w hn h1 h256 hd hc hm
    have HI := hide (Is.new w (vals (List.replicate 32 0)) 26)
    have HB := hide (below_alloc w (.cells (vals (List.replicate 32 0)).toArray 26))
    have HR := hide (root_ok n DS hn h1 hd.1)
    have hn0 : ¬ (n : Int) = 0 := by omega
    have hn00 : ((n : Int) == 0) = false := by simpa using hn0
    by_cases h2 : 2 ≤ n
    · have hp := Te.half_pos n
      have hl := Te.half_lt n h2
      have HH := hide (fun W => rhalf_any n W h2 h256)
      have HA : Hid (∀ W, RtS w W → Calls Tryd.prog 9 #[.slice (some ⟨b, off, none⟩) (Te.half n) cap] W fun e w' => e = .returned (.agg (vals (Te.root (DS.take (Te.half n)))).toArray) ∧ Below W.heap.size W w') := hide (fun W hW =>
        ih (Te.half n) hl (DS.take (Te.half n)) b off cap W (by rw [List.length_take]; omega) hp (by omega) ((hd.below hW.below).take _) (by omega) hm)
      have HC : Hid (∀ W, RtS w W → Calls Tryd.prog 9 #[.slice (some ⟨b, off + Te.half n * 32, none⟩) (n - Te.half n) (cap - Te.half n)] W fun e w' => e = .returned (.agg (vals (Te.root (DS.drop (Te.half n)))).toArray) ∧ Below W.heap.size W w') := hide (fun W hW =>
        ih (n - Te.half n) (by omega) (DS.drop (Te.half n)) b (off + Te.half n * 32) (cap - Te.half n) W (by rw [List.length_drop]; omega) (by omega) (by omega) ((hd.below hW.below).drop _) (by omega) (by omega))
      have hra := root_ok (Te.half n) (DS.take (Te.half n)) (by rw [List.length_take]; omega) hp (hd.1.take _)
      have hrc := root_ok (n - Te.half n) (DS.drop (Te.half n)) (by rw [List.length_drop]; omega) (by omega) (hd.1.drop _)
      have HN : Hid (∀ W, RtS w W → Calls Tryd.prog 21 #[.agg (vals (Te.root (DS.take (Te.half n)))).toArray, .agg (vals (Te.root (DS.drop (Te.half n)))).toArray] W fun e w' => e = .returned (.agg (vals (Te.root DS)).toArray) ∧ Below W.heap.size W w') := hide (fun W hW => by
        have := rnode_any _ _ W hra.1 hrc.1 hra.2 hrc.2
        have e := Te.root_more DS (by omega)
        rw [hn] at e
        rwa [← e] at this)
      generalize Te.root (DS.take (Te.half n)) = A at *
      generalize Te.root (DS.drop (Te.half n)) = C at *
      generalize Te.root DS = R at *
      generalize Te.half n = k at *
      have hn1 : ¬ (n : Int) = 1 := by omega
      have hn2 : ((n : Int) == 1) = false := by simpa using hn1
      have hk1 : k ≤ cap := by omega
      have hkc : ¬ cap = k := by omega
      have hi1 : (k : Int) ≤ (cap : Int) := by omega
      have hi2 : (0 : Int) ≤ (k : Int) := by omega
      have hi3 : (k : Int) ≤ (n : Int) := by omega
      clear ih hd hra hrc
      go_enter Tryd.func9, Tryd.ntmps9
      go_wp2_with fail
      refine (HH.out _).mono ?_
      rintro e w1 ⟨rfl, hb1⟩
      have HS1 : Hid (RtS w w1) := ⟨HB.out.trans (hb1.mono HB.out.size), ⟨_, by simp [vals], HI.out.below hb1 HI.out.lt⟩⟩
      clear hb1
      go_wp2_with fail
      refine wp_region_held_drew (S := fun W : World => RtS w W) (by kernel_rfl) ?_ (fun hHeld0 => ?_)
      · exact HS1.out.drew
      refine wpAnyH_take (i := 0) (v := ?_) rfl (by kernel_rfl) (by kernel_rfl) (by kernel_rfl) (fun _ _ _ h => h) (Or.inl ⟨by rfl, ?_⟩) hHeld0 ?_
      rotate_left
      · (intro w hSw; (try dsimp only at hSw); go_simp <;> (try with_reducible rfl))
      simp only [Act.put, List.getElem_toArray, List.getElem_cons_zero, List.getElem_cons_succ, List.setIfInBounds_toArray, List.set_cons_zero, List.set_cons_succ]
      refine wpAnyH_take (i := 1) (v := ?_) rfl (by kernel_rfl) (by kernel_rfl) (by kernel_rfl) (fun _ _ _ h => h) (Or.inl ⟨by rfl, ?_⟩) hHeld0 ?_
      rotate_left
      · (intro w hSw; (try dsimp only at hSw); go_simp <;> (try with_reducible rfl))
      simp only [Act.put, List.getElem_toArray, List.getElem_cons_zero, List.getElem_cons_succ, List.setIfInBounds_toArray, List.set_cons_zero, List.set_cons_succ]
      refine wpAnyH_take (i := 2) (v := ?_) rfl (by kernel_rfl) (by kernel_rfl) (by kernel_rfl) (fun _ _ _ h => h) (Or.inl ⟨by rfl, ?_⟩) hHeld0 ?_
      rotate_left
      · (intro w hSw; (try dsimp only at hSw); go_simp <;> (try with_reducible rfl))
      simp only [Act.put, List.getElem_toArray, List.getElem_cons_zero, List.getElem_cons_succ, List.setIfInBounds_toArray, List.set_cons_zero, List.set_cons_succ]
      refine wpAnyH_take (i := 4) (v := ?_) rfl (by kernel_rfl) (by kernel_rfl) (by kernel_rfl) (fun _ _ _ h => h) (Or.inl ⟨by rfl, ?_⟩) hHeld0 ?_
      rotate_left
      · (intro w hSw; (try dsimp only at hSw); go_simp <;> (try with_reducible rfl))
      simp only [Act.put, List.getElem_toArray, List.getElem_cons_zero, List.getElem_cons_succ, List.setIfInBounds_toArray, List.set_cons_zero, List.set_cons_succ]
      refine wpAnyH_take (i := 5) (v := ?_) rfl (by kernel_rfl) (by kernel_rfl) (by kernel_rfl) (fun _ _ _ h => h) (Or.inl ⟨by rfl, ?_⟩) hHeld0 ?_
      rotate_left
      · (intro w hSw; (try dsimp only at hSw); go_simp <;> (try with_reducible rfl))
      simp only [Act.put, List.getElem_toArray, List.getElem_cons_zero, List.getElem_cons_succ, List.setIfInBounds_toArray, List.set_cons_zero, List.set_cons_succ]
      refine wpAnyH_take (i := 6) (v := ?_) rfl (by kernel_rfl) (by kernel_rfl) (by kernel_rfl) (fun _ _ _ h => h) (Or.inl ⟨by rfl, ?_⟩) hHeld0 ?_
      rotate_left
      · (intro w hSw; (try dsimp only at hSw); go_simp <;> (try with_reducible rfl))
      simp only [Act.put, List.getElem_toArray, List.getElem_cons_zero, List.getElem_cons_succ, List.setIfInBounds_toArray, List.set_cons_zero, List.set_cons_succ]
      refine wpAnyH_ready (rs := [3]) (by kernel_rfl) (by simp) ?_
      refine AllReadyH.cons rfl (fun K hK => ?_) AllReadyH.nil
      go_simp
      go_wp2_with ((go_at_call 9; refine (HA.out _ hHeld0).mono ?_; rintro e w3 ⟨rfl, hb3⟩))
      refine hK.out _ _ (by exact hHeld0.call hb3) (fun hHeld1 => ?_)
      clear hK K hHeld0
      try simp only [Act.put, List.getElem_toArray, List.getElem_cons_zero, List.getElem_cons_succ, List.setIfInBounds_toArray, List.set_cons_zero, List.set_cons_succ]
      refine wpAnyH_ready (rs := [7]) (by kernel_rfl) (by simp) ?_
      refine AllReadyH.cons rfl (fun K hK => ?_) AllReadyH.nil
      go_simp
      go_wp2_with ((go_at_call 9; refine (HC.out _ hHeld1).mono ?_; rintro e w7 ⟨rfl, hb7⟩))
      refine hK.out _ _ (by exact hHeld1.call hb7) (fun hHeld2 => ?_)
      clear hK K hHeld1
      try simp only [Act.put, List.getElem_toArray, List.getElem_cons_zero, List.getElem_cons_succ, List.setIfInBounds_toArray, List.set_cons_zero, List.set_cons_succ]
      refine wpAnyH_ready (rs := [8]) (by kernel_rfl) (by simp) ?_
      refine AllReadyH.cons rfl (fun K hK => ?_) AllReadyH.nil
      go_simp
      go_wp2_with ((go_at_call 21; refine (HN.out _ hHeld2).mono ?_; rintro e w8 ⟨rfl, hb8⟩))
      refine hK.out _ _ (by exact hHeld2.call hb8) (fun hHeld3 => ?_)
      clear hK K hHeld2
      try simp only [Act.put, List.getElem_toArray, List.getElem_cons_zero, List.getElem_cons_succ, List.setIfInBounds_toArray, List.set_cons_zero, List.set_cons_succ]
      refine wpAnyH_ready (rs := [9]) (by kernel_rfl) (by simp) ?_
      refine AllReadyH.cons rfl (fun K hK => ?_) AllReadyH.nil
      obtain ⟨Z, hZl, hZi⟩ := hHeld3.z
      refine te_step_store Z R w.heap.size rfl (.tmp 2) (.tmp 25) rfl rfl rfl hZi hZl HR.out.1 ?_
      intro w9 hi9 hb9 hz9
      have hS9 : RtS w w9 := ⟨hHeld3.below.trans (hb9.under hHeld3.below.size (Nat.le_refl _)), ⟨_, by rw [vals_length]; exact HR.out.1, hi9⟩⟩
      refine hK.out _ _ (by exact hS9) (fun hHeld4 => ?_)
      clear hK K hHeld3
      try simp only [Act.put, List.getElem_toArray, List.getElem_cons_zero, List.getElem_cons_succ, List.setIfInBounds_toArray, List.set_cons_zero, List.set_cons_succ]
      refine wpAnyH_done (by kernel_rfl) ?_ _
      go_wp2
      have hr := hi9.cellsOf Tryd.underlying26 (by rw [vals_length, HR.out.1]; exact size_dig)
      exact bodyPost_ret (v := .agg (vals R).toArray) (results_cell1 Tryd.results9 rfl hr) rfl ⟨rfl, hHeld4.below⟩
    · have hn1 : n = 1 := by omega
      subst hn1
      have e : Te.root DS = DS.getD 0 [] := by rw [Te.root, dif_pos (by omega)]
      have HG := hide (range_keep (hd.2.2 0 (by omega)) (below_alloc w (.cells (vals (List.replicate 32 0)).toArray 26)) hd.2.1)
      rw [Nat.zero_mul, Nat.add_zero] at HG
      rw [e] at HR ⊢
      generalize DS.getD 0 [] = R at *
      clear ih hd
      go_enter Tryd.func9, Tryd.ntmps9
      go_wp2_with (first
        | (refine te_load R b off rfl (.tmp 12) rfl rfl HG.out HR.out.1 ?_)
        | (refine te_store (vals (List.replicate 32 0)) R w.heap.size rfl (.tmp 2) (.tmp 13) rfl rfl rfl rfl HI.out (by simp [vals]) HR.out.1 ?_; intro w7 hi7 hb7 hz7))
      have hr := hi7.cellsOf Tryd.underlying26 (by rw [vals_length, HR.out.1]; exact size_dig)
      exact bodyPost_ret (v := .agg (vals R).toArray) (results_cell1 Tryd.results9 rfl hr) rfl ⟨rfl, HB.out.trans (hb7.under HB.out.size (Nat.le_refl _))⟩

set_option maxRecDepth 100000 in
set_option maxHeartbeats 400000 in
theorem rroot_nil (a : Option Addr) (cap : Nat) (w : World) :
    Calls Tryd.prog 9 #[.slice a 0 cap] w fun e w' => e = .returned (.agg (vals (Sh.sum [])).toArray) ∧ Below w.heap.size w w' := by
  have HI := hide (Is.new w (vals (List.replicate 32 0)) 26)
  have HB := hide (below_alloc w (.cells (vals (List.replicate 32 0)).toArray 26))
  have HR := hide (Mc.sum_length [])
  have HS : Hid (∀ W, Calls Tryd.prog 24 #[.slice none 0 0] W fun e w' => e = .returned (.agg (vals (Sh.sum [])).toArray) ∧ Below W.heap.size W w') := hide (fun W =>
    rsum_any _ [] W (.inl ⟨_, _, rfl, rfl, by unfold maxLen; omega, fun _ => rfl⟩) (fun x hx => by cases hx) (by simp))
  generalize Sh.sum [] = R at *
  go_enter Tryd.func9, Tryd.ntmps9
  go_wp2_with fail
  refine (HS.out _).mono ?_
  rintro e w2 ⟨rfl, hb2⟩
  have HI2 := hide (HI.out.below hb2 HI.out.lt)
  have HB2 := hide (HB.out.trans (hb2.mono HB.out.size))
  clear hb2
  go_wp2_with (refine te_store (vals (List.replicate 32 0)) R w.heap.size rfl (.tmp 2) (.tmp 7) rfl rfl rfl rfl HI2.out (by simp [vals]) HR.out ?_; intro w7 hi7 hb7 hz7)
  have hr := hi7.cellsOf Tryd.underlying26 (by rw [vals_length, HR.out]; exact size_dig)
  exact bodyPost_ret (v := .agg (vals R).toArray) (results_cell1 Tryd.results9 rfl hr) rfl ⟨rfl, HB2.out.trans (hb7.under HB2.out.size (Nat.le_refl _))⟩
end Go.Proofs.YtphdnbflogobfaaDoor
