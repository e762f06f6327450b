/- The document's: the coins that a payment makes. -/
import Derived.Test.YtmjilohlchkicaaGreatDoorZCp
import Derived.Test.YtmjilohlchkicaaGreatDoorZCy
import Derived.Test.YtmjilohlchkicaaGreatDoorZTb
import Derived.Test.YtmjilohlchkicaaGreatDoorTxMa
namespace Go.Proofs.YtmjilohlchkicaaGreatDoor
open Go.RowKit
set_option linter.unusedVariables false
set_option linter.unusedSimpArgs false

theorem cell_low {w w' : World} {b o B : Nat} {v : Value} (h : w.cell? ⟨b, o, none⟩ = some v) (hb : Below B w w') (hB : b < B) : w'.cell? ⟨b, o, none⟩ = some v := (hb.cell (p := ⟨b, o, none⟩) hB).trans h
theorem yields_build_pl {ops : Array Oper} {S : World → Prop} {o : Oper} {a : Act} (hw : Region.wanted o (yielded ops a.tmps) = true) (D P : List Value) (k : Int) (hP : P = D ++ [Value.int .i64 k]) (s x : Operand) (ho : o.op = .build 46 #[(0, s), (1, x)]) (hs : a.eval s = .agg D.toArray) (hx : a.eval x = .int .i64 k) (hD : D.length = 32) : YieldsIf Tryz.prog ops S o (.agg P.toArray) a :=
  .inl ⟨hw, fun w _ => by
    have e : Tryz.prog.built 46 ((#[(0, s), (1, x)] : Array (Nat × Operand)).map fun (i, x) => (i, a.eval x)).toList = some P.toArray := by
      simp only [List.map_toArray, List.map_cons, List.map_nil, hs, hx]
      rw [hP]; exact built_pl D k hD
    unfold execOp
    simp only [ho, Sem.run_bind, run_build w 46 _ _ e, Result.andThen_ok]
    rfl⟩
theorem yields_build_cn {ops : Array Oper} {S : World → Prop} {o : Oper} {a : Act} (hw : Region.wanted o (yielded ops a.tmps) = true) (P O C : List Value) (h : Int) (hC : C = P ++ (O ++ [Value.int .i64 h])) (s x y : Operand) (ho : o.op = .build 54 #[(0, s), (1, x), (2, y)]) (hs : a.eval s = .agg P.toArray) (hx : a.eval x = .agg O.toArray) (hy : a.eval y = .int .i64 h) (hP : P.length = 33) (hO : O.length = 2) : YieldsIf Tryz.prog ops S o (.agg C.toArray) a :=
  .inl ⟨hw, fun w _ => by
    have e : Tryz.prog.built 54 ((#[(0, s), (1, x), (2, y)] : Array (Nat × Operand)).map fun (i, x) => (i, a.eval x)).toList = some C.toArray := by
      simp only [List.map_toArray, List.map_cons, List.map_nil, hs, hx, hy]
      rw [hC]; exact built_cn P O h hP hO
    unfold execOp
    simp only [ho, Sem.run_bind, run_build w 54 _ _ e, Result.andThen_ok]
    rfl⟩
set_option maxRecDepth 100000 in
set_option maxHeartbeats 4000000 in
theorem rnews_any (t : TxV) (h : Int) (w : World) (ht : HasTx w t) (hk : Tm.check t.it = 0) :
    Calls Tryz.prog 14 #[t.val, .int .i64 h] w fun e w' => (∃ v, e = .returned v ∧ w'.ownsRow w.heap.size 54 36 v t.outs.length (coinCells (newsV (Tm.id t.it) h 0 t.outs))) ∧ Below w.heap.size w w' := by
  have hD32 : (Tm.id t.it).length = 32 := by simp [Tm.id, Sh.sum, Sh.digest]
  have h40 := (tx_small hk).2
  obtain ⟨ia, ic, oa, oc, ft⟩ := tx_form ht
  have HRI := hide (fun W (hW : Below w.heap.size w W) => ridtext_any t W (ht.below hW) hk)
  have hle := bytes_le _ (Tm.check_bare t.it hk) (Tm.bare_byt _ ht.byt)
  have HRS : Hid (∀ W v, Has W v (Tm.idText t.it) → Calls Tryz.prog 31 #[v] W fun e w' => e = .returned (.agg (vals (Tm.id t.it)).toArray) ∧ Below W.heap.size W w') := hide (fun W v hv => rsum_any v _ W hv (Tm.idText_byt _ hk ht.byt) (by show (21 :: _).length ≤ _; rw [List.length_cons]; omega))
  have HOD := hide (fun k (hk : k < t.outs.length) => (ht.2.2 _ (List.getElem_mem hk)))
  have HFO := hide ft.outs
  have HVT := hide ft.val
  have hilm := ft.il
  obtain ⟨D, hD⟩ : ∃ D, D = Tm.id t.it := ⟨_, rfl⟩
  rw [← hD] at hD32 HRS
  rw [← hD]
  obtain ⟨DV, hDV⟩ : ∃ DV, DV = vals D := ⟨_, rfl⟩
  have HDVE := hide hDV
  rw [← hDV] at HRS
  have HDL : Hid (DV.length = 32) := hide (by rw [hDV, vals_length, hD32])
  have HD1 : Hid (∀ v ∈ DV, v.oneCell' = true) := hide (by rw [hDV]; exact vals_one _)
  have hDp : ¬ DV = [] := by intro h; have := HDL.out; rw [h] at this; cases this
  have hszd : (Tryz.prog.info? 44).map (·.size) = some DV.length := by rw [HDL.out]; exact size_dig
  have hzd := zero_dig
  obtain ⟨Z, hZ⟩ : ∃ Z, Z = vals (List.replicate 32 0) := ⟨_, rfl⟩
  rw [← hZ] at hzd
  have HZL : Hid (Z.length = 32) := hide (by rw [hZ]; simp [vals])
  have hZp : ¬ Z = [] := by intro h; have := HZL.out; rw [h] at this; cases this
  obtain ⟨outs, hos⟩ : ∃ o, t.outs = o := ⟨_, rfl⟩
  rw [hos] at HOD HFO h40 HVT
  rw [hos]
  obtain ⟨il, hil⟩ : ∃ n, t.ins.length = n := ⟨_, rfl⟩
  obtain ⟨ol, hol⟩ : ∃ n, outs.length = n := ⟨_, rfl⟩
  obtain ⟨tt, htt⟩ : ∃ n, t.time = n := ⟨_, rfl⟩
  rw [hil, hol, htt] at HVT
  rw [hol] at h40
  rw [HVT.out] at HRI
  rw [HVT.out, hol]
  rw [hil] at hilm
  have HOL := hide hol
  have HB0 := hide (below_alloc w (.cells #[.slice ia il ic, .slice oa ol oc, .int .i64 tt] 26))
  have HI0 := hide (Is.new w [.slice ia il ic, .slice oa ol oc, .int .i64 tt] 26)
  clear ht hk ft hD hDV hZ hos hil hol htt hle
  go_enter Tryz.func14, Tryz.ntmps14
  go_wp2_with (refine wpList_load_part 26 [.slice ia il ic, .slice oa ol oc, .int .i64 tt] w.heap.size 0 rfl (.tmp 2) rfl rfl (is_range HI0.out) Tryz.underlying26 rfl size_tx rfl ?_)
  refine (HRI.out _ HB0.out).mono ?_
  rintro e w1 ⟨v1, rfl, ho1, hb1⟩
  have HI1 := hide (HI0.out.below hb1 HI0.out.lt)
  have HB1 := hide (HB0.out.trans (hb1.mono HB0.out.size))
  have HH1 := hide (Own.has ho1)
  obtain ⟨va1, vc1, hv1, _, _⟩ := ho1.form
  subst hv1
  have HRS1 := hide (HRS.out w1 _ HH1.out)
  generalize (Tm.idText t.it).length = idl at *
  clear ho1 hb1 HRI HRS HH1
  go_wp2_with fail
  refine HRS1.out.mono ?_
  rintro e w2 ⟨rfl, hb2⟩
  have HI2 := hide (HI1.out.below hb2 HI1.out.lt)
  have HB2 := hide (HB1.out.trans (hb2.mono HB1.out.size))
  clear hb2 HRS1
  go_wp2_with (refine wpList_store_any3 44 Z DV w2.heap.size rfl (.tmp 5) (.tmp 10) rfl rfl rfl rfl (Is.new w2 _ _) size_dig HZL.out HDL.out HD1.out ?_; intro w3 hi3 hw3; have hb3 : Below w2.heap.size w2 w3 := (by rw [hw3]; exact ck_new); have HD3 := hide hi3; have HB3 := hide (HB2.out.trans (hb3.mono HB2.out.size)); have HI3 := hide (HI2.out.below hb3 HI2.out.lt); clear hi3 hw3 hb3)
  have HST : Hid (OwS w w3 D h w2.heap.size outs 0 (.slice none 0 0) w3) := hide ⟨World.ownsRow_nil w3 w3.heap.size 54 36, by rw [← HDVE.out]; exact HD3.out, Below.refl _ _, HB3.out⟩
  have HG : Hid (w2.heap.size < w3.heap.size) := hide HD3.out.lt
  have HTL : Hid (w.heap.size < w3.heap.size) := hide HI3.out.lt
  go_loopw [6, 7] (fun v i wr => ∃ k : Nat, k ≤ ol ∧ i = .int .i64 k ∧ OwS w w3 D h w2.heap.size outs k v wr) (fun _ i _ => ol - (intOf i).toNat)
  case atStart => exact ⟨0, by omega, rfl, HST.out⟩
  case round =>
    obtain ⟨k, hk, rfl, hos⟩ := hrel
    obtain ⟨va, vc, hv⟩ := owns_form hos.own
    subst hv
    have HOS := hide hos
    have hcX := (HI3.out.below hos.below HI3.out.lt).cell 1
    simp only [List.getElem?_cons_zero, List.getElem?_cons_succ] at hcX
    clear hos HST
    by_cases hltn : k < ol
    · have hki : (k : Int) < (ol : Int) := by omega
      have hlt : k < outs.length := by rw [HOL.out]; exact hltn
      obtain ⟨bo, oo, rfl, hc1, hc2, hbo, hro⟩ := HFO.out k hlt wr.drew HOS.out.old.drew
      rw [HOL.out] at hc1
      unfold maxLen at hc2
      obtain ⟨OC, hOC⟩ : ∃ C, C = outCell outs[k] := ⟨_, rfl⟩
      obtain ⟨PK, hPK⟩ : ∃ P, P = DV ++ [Value.int .i64 (k : Int)] := ⟨_, rfl⟩
      obtain ⟨CK, hCK⟩ : ∃ P, P = PK ++ (OC ++ [Value.int .i64 h]) := ⟨_, rfl⟩
      have HPKE := hide hPK
      have HCKE := hide hCK
      have HOCL : Hid (OC.length = 2) := hide (by rw [hOC]; rfl)
      have hlv := hasOps_slice (HOD.out k hlt)
      have HPKL : Hid (PK.length = 33) := hide (by rw [hPK]; simp [HDL.out])
      have HCKL : Hid (CK.length = 36) := hide (by rw [hCK]; simp [HPKL.out, HOCL.out])
      have hCKN : CK = coinCell (newV D h k outs[k]) := by rw [newV_cell, hCK, hPK, hOC, HDVE.out]
      have HRO : Hid (wr.drew.rangeAt bo (oo + k * 2) OC) := hide (by rw [hOC]; exact hro)
      have HRD : Hid (wr.drew.rangeAt w2.heap.size 0 DV) := hide (by have h2 := is_range HOS.out.box.drew; rw [← HDVE.out] at h2; exact h2)
      have hszo : (Tryz.prog.info? 52).map (·.size) = some OC.length := by rw [HOCL.out]; exact size_out
      have hOCp : ¬ OC = [] := by intro h; have := HOCL.out; rw [h] at this; cases this
      have hPKp : ¬ PK = [] := by intro h; have := HPKL.out; rw [h] at this; cases this
      have hCKp : ¬ CK = [] := by intro h; have := HCKL.out; rw [h] at this; cases this
      have hcT : wr.drew.cell? ⟨w.heap.size, 1, none⟩ = some (.slice (some ⟨bo, oo, none⟩) ol oc) := hcX
      have HAPP := hide (fun W (hW : w3.heap.size ≤ W.heap.size) (ho : W.ownsRow w3.heap.size 54 36 (.slice va k vc) k (coinCells (newsV D h 0 (outs.take k)))) ty => run_appC W w3.heap.size (newsV D h 0 (outs.take k)) (newV D h k outs[k]) (.slice va k vc) (by rw [newsV_length, List.length_take, Nat.min_eq_left (by omega)]; exact ho) hD32 hlv (by rw [newsV_length, List.length_take, Nat.min_eq_left (by omega)]; omega) hW ty)
      have HNX := hide (fun v' W1 W' (hW : Below wr.heap.size wr W1) (ha : AppK W1 w3.heap.size (newsV D h 0 (outs.take k)) (newV D h k outs[k]) (.slice va k vc) v' W') => HOS.out.next hlt HG.out HB3.out.size hW ha)
      rw [← hCKN] at HAPP
      have HS3 : Hid (w3.heap.size ≤ wr.drew.heap.size) := hide HOS.out.below.size
      have HO3 : Hid (wr.drew.ownsRow w3.heap.size 54 36 (.slice va k vc) k (coinCells (newsV D h 0 (outs.take k)))) := hide (owns_below HOS.out.own (Below.refl _ _).drew)
      have hbl : bo < w3.heap.size := Nat.lt_of_lt_of_le hbo HB3.out.size
      have hl1 : w2.heap.size < wr.drew.heap.size := Nat.lt_of_lt_of_le HG.out HS3.out
      have hl2 : w.heap.size < wr.drew.heap.size := Nat.lt_of_lt_of_le HTL.out HS3.out
      have hl3 : bo < wr.drew.heap.size := Nat.lt_of_lt_of_le hbl HS3.out
      clear hOC hPK hCK hCKN hro hlv
      go_wp2_with fail
      refine wp_region_held_drew (S := fun W : World => W.rangeAt w2.heap.size 0 DV ∧ W.cell? ⟨w.heap.size, 1, none⟩ = some (.slice (some ⟨bo, oo, none⟩) ol oc) ∧ W.rangeAt bo (oo + k * 2) OC) (by kernel_rfl) ?_ (fun hHeld0 => ?_)
      · exact ⟨HRD.out, hcT, HRO.out⟩
      refine wpAnyH_take (i := 0) (v := ?_) rfl (by kernel_rfl) (by kernel_rfl) (by kernel_rfl) (fun _ _ _ h => h) (Or.inl ⟨by rfl, ?_⟩) hHeld0 ?_
      rotate_left
      · (intro w hSw; (try dsimp only at hSw); go_simp <;> (try with_reducible rfl))
      simp only [Act.put, List.getElem_toArray, List.getElem_cons_zero, List.getElem_cons_succ, List.setIfInBounds_toArray, List.set_cons_zero, List.set_cons_succ]
      refine wpAnyH_take (i := 1) (v := .agg (DV).toArray) rfl (by kernel_rfl) (by kernel_rfl) (by kernel_rfl) (fun _ _ _ h => h) (yieldsIf_load_mid (by rfl) _ _ rfl _ _ rfl (DV) _ (fun w hSw => hSw.1) Tryz.underlying44 rfl hszd) hHeld0 ?_
      simp only [Act.put, List.getElem_toArray, List.getElem_cons_zero, List.getElem_cons_succ, List.setIfInBounds_toArray, List.set_cons_zero, List.set_cons_succ]
      refine wpAnyH_take (i := 2) (v := ?_) rfl (by kernel_rfl) (by kernel_rfl) (by kernel_rfl) (fun _ _ _ h => h) (Or.inl ⟨by rfl, ?_⟩) hHeld0 ?_
      rotate_left
      · (intro w hSw; (try dsimp only at hSw); go_simp <;> (try with_reducible rfl))
      simp only [Act.put, List.getElem_toArray, List.getElem_cons_zero, List.getElem_cons_succ, List.setIfInBounds_toArray, List.set_cons_zero, List.set_cons_succ]
      refine wpAnyH_take (i := 3) (v := .agg PK.toArray) rfl (by kernel_rfl) (by kernel_rfl) (by kernel_rfl) (fun _ _ _ h => h) (yields_build_pl (by rfl) DV PK k HPKE.out (.tmp 19) (.tmp 20) rfl rfl rfl HDL.out) hHeld0 ?_
      simp only [Act.put, List.getElem_toArray, List.getElem_cons_zero, List.getElem_cons_succ, List.setIfInBounds_toArray, List.set_cons_zero, List.set_cons_succ]
      refine wpAnyH_take (i := 4) (v := ?_) rfl (by kernel_rfl) (by kernel_rfl) (by kernel_rfl) (fun _ _ _ h => h) (Or.inl ⟨by rfl, ?_⟩) hHeld0 ?_
      rotate_left
      · (intro w hSw; (try dsimp only at hSw); go_simp <;> (try with_reducible rfl))
      simp only [Act.put, List.getElem_toArray, List.getElem_cons_zero, List.getElem_cons_succ, List.setIfInBounds_toArray, List.set_cons_zero, List.set_cons_succ]
      refine wpAnyH_take (i := 5) (v := ?_) rfl (by kernel_rfl) (by kernel_rfl) (by kernel_rfl) (fun _ _ _ h => h) (Or.inl ⟨by rfl, ?_⟩) hHeld0 ?_
      rotate_left
      · (intro w hSw; (try dsimp only at hSw); go_simp <;> (try with_reducible rfl))
      simp only [Act.put, List.getElem_toArray, List.getElem_cons_zero, List.getElem_cons_succ, List.setIfInBounds_toArray, List.set_cons_zero, List.set_cons_succ]
      refine wpAnyH_take (i := 6) (v := ?_) rfl (by kernel_rfl) (by kernel_rfl) (by kernel_rfl) (fun _ _ _ h => h) (Or.inl ⟨by rfl, ?_⟩) hHeld0 ?_
      rotate_left
      · (intro w hSw; (try dsimp only at hSw); go_simp <;> (try with_reducible rfl))
      simp only [Act.put, List.getElem_toArray, List.getElem_cons_zero, List.getElem_cons_succ, List.setIfInBounds_toArray, List.set_cons_zero, List.set_cons_succ]
      refine wpAnyH_take (i := 7) (v := ?_) rfl (by kernel_rfl) (by kernel_rfl) (by kernel_rfl) (fun _ _ _ h => h) (Or.inl ⟨by rfl, ?_⟩) hHeld0 ?_
      rotate_left
      · (intro w hSw; (try dsimp only at hSw); go_simp <;> (try with_reducible rfl))
      simp only [Act.put, List.getElem_toArray, List.getElem_cons_zero, List.getElem_cons_succ, List.setIfInBounds_toArray, List.set_cons_zero, List.set_cons_succ]
      refine wpAnyH_take (i := 8) (v := .agg (OC).toArray) rfl (by kernel_rfl) (by kernel_rfl) (by kernel_rfl) (fun _ _ _ h => h) (yieldsIf_load_mid (by rfl) _ _ rfl _ _ rfl (OC) _ (fun w hSw => hSw.2.2) Tryz.underlying52 rfl hszo) hHeld0 ?_
      simp only [Act.put, List.getElem_toArray, List.getElem_cons_zero, List.getElem_cons_succ, List.setIfInBounds_toArray, List.set_cons_zero, List.set_cons_succ]
      refine wpAnyH_take (i := 9) (v := ?_) rfl (by kernel_rfl) (by kernel_rfl) (by kernel_rfl) (fun _ _ _ h => h) (Or.inl ⟨by rfl, ?_⟩) hHeld0 ?_
      rotate_left
      · (intro w hSw; (try dsimp only at hSw); go_simp <;> (try with_reducible rfl))
      simp only [Act.put, List.getElem_toArray, List.getElem_cons_zero, List.getElem_cons_succ, List.setIfInBounds_toArray, List.set_cons_zero, List.set_cons_succ]
      refine wpAnyH_take (i := 10) (v := .agg CK.toArray) rfl (by kernel_rfl) (by kernel_rfl) (by kernel_rfl) (fun _ _ _ h => h) (yields_build_cn (by rfl) PK OC CK h HCKE.out (.tmp 21) (.tmp 26) (.tmp 27) rfl rfl rfl rfl HPKL.out HOCL.out) hHeld0 ?_
      simp only [Act.put, List.getElem_toArray, List.getElem_cons_zero, List.getElem_cons_succ, List.setIfInBounds_toArray, List.set_cons_zero, List.set_cons_succ]
      refine wpAnyH_ready (rs := [11]) (by kernel_rfl) (by simp) ?_
      refine AllReadyH.cons rfl (fun K hK => ?_) AllReadyH.nil
      refine step_build_one 22 54 CK rfl (.tmp 28) rfl rfl Tryz.underlying22 ZC info_coinS (by omega) (by omega) HCKL.out ?_
      refine hK.out _ _ (by exact ⟨range_keep hHeld0.1 (below_alloc wr.drew (.cells CK.toArray 54)) hl1, cell_low hHeld0.2.1 (below_alloc wr.drew (.cells CK.toArray 54)) hl2, range_keep hHeld0.2.2 (below_alloc wr.drew (.cells CK.toArray 54)) hl3⟩) (fun hHeld1 => ?_)
      clear hK K hHeld0
      try simp only [Act.put, List.getElem_toArray, List.getElem_cons_zero, List.getElem_cons_succ, List.setIfInBounds_toArray, List.set_cons_zero, List.set_cons_succ]
      refine wpAnyH_ready (rs := [12]) (by kernel_rfl) (by simp) ?_
      refine AllReadyH.cons rfl (fun K hK => ?_) AllReadyH.nil
      refine step_append_by (AppK wr.drew w3.heap.size (newsV D h 0 (outs.take k)) (newV D h k outs[k]) (.slice va k vc)) rfl (.tmp 18) (.tmp 29) rfl (.slice va k vc) (.slice (some ⟨wr.drew.heap.size, 0, none⟩) 1 1) rfl rfl (fun ty => HAPP.out wr.drew HS3.out HO3.out ty) ?_
      intro v6 W6 h6
      obtain ⟨va6, vc6, hv6⟩ := owns_form h6.1
      subst hv6
      refine hK.out _ _ (by exact ⟨range_keep HRD.out h6.2 HG.out, cell_low hcT h6.2 HTL.out, range_keep HRO.out h6.2 hbl⟩) (fun hHeld2 => ?_)
      clear hK K hHeld1
      try simp only [Act.put, List.getElem_toArray, List.getElem_cons_zero, List.getElem_cons_succ, List.setIfInBounds_toArray, List.set_cons_zero, List.set_cons_succ]
      refine wpAnyH_take (i := 13) (v := ?_) rfl (by kernel_rfl) (by kernel_rfl) (by kernel_rfl) (fun _ _ _ h => h) (Or.inl ⟨by rfl, ?_⟩) hHeld2 ?_
      rotate_left
      · (intro w hSw; (try dsimp only at hSw); go_simp <;> (try with_reducible rfl))
      simp only [Act.put, List.getElem_toArray, List.getElem_cons_zero, List.getElem_cons_succ, List.setIfInBounds_toArray, List.set_cons_zero, List.set_cons_succ]
      refine wpAnyH_done (by kernel_rfl) ?_ _
      have HA6 := hide h6
      clear hHeld2 h6
      go_wp2
      go_roundw
      case rel => exact ⟨k + 1, by omega, by go_num, HNX.out _ _ _ (Below.refl _ _).drew HA6.out⟩
      case measure => simp [intOf]; omega
    · have hki : ¬ (k : Int) < (ol : Int) := by omega
      have hkl : k = ol := by omega
      have HE : Hid (wr.ownsRow w.heap.size 54 36 (.slice va k vc) ol (coinCells (newsV D h 0 outs))) := hide (by
        have h1 := owns_mono HOS.out.own HB3.out.size
        rw [List.take_of_length_le (by rw [HOL.out]; omega)] at h1
        rw [hkl] at h1 ⊢
        exact h1)
      clear hkl
      go_wp2
      exact bodyPost_ret (v := .slice va k vc) (by simp [results, Tryz.results14, go_sem]) rfl ⟨⟨_, rfl, HE.out⟩, HOS.out.old⟩
end Go.Proofs.YtmjilohlchkicaaGreatDoor
