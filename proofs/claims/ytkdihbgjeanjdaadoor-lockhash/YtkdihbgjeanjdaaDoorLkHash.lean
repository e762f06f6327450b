/- The walk of LockHash: who knows the text opens it. -/
import Derived.Test.YtkdihbgjeanjdaaDoorLkFact
namespace Go.Proofs.YtkdihbgjeanjdaaDoor
open Go.RowKit
set_option linter.unusedVariables false
set_option linter.unusedSimpArgs false

theorem below_step {wA W W' : World} (h : Below wA.heap.size wA W) (hb : Below W.heap.size W W') : Below wA.heap.size wA W' := h.trans (hb.mono h.size)
theorem has_digest {W : World} {g : Nat} {D : List Int} (h : Is W g (vals D) 25) (hD : D.length = 32) : Has W (.slice (some ⟨g, 0, none⟩) 32 32) D :=
  .inr ⟨g, 0, 32, by rw [hD], by omega, by omega, by unfold maxLen; omega, fun j hj => by rw [Nat.zero_add, h.cell, vals_get _ _ hj]⟩
theorem keys_single {W : World} {g : Nat} {kv : Value} {k : List Int} (h : Is W g [kv] 36) (hk : Has W kv k) (hkb : Sz.Byt k) : HasKeys W (.slice (some ⟨g, 0, none⟩) 1 1) [(k, kv)] := by
  refine ⟨.inr ⟨g, 0, 1, rfl, by simp, by simp, by unfold maxLen; omega, h.lt, is_range h⟩, fun p hp => ?_⟩
  obtain rfl := List.mem_singleton.1 hp
  exact ⟨hk, hkb⟩
theorem ops_is {W : World} {g : Nat} {L : List (Lk.Op × Value)} (h : Is W g (opCells L) 38) (h0 : 0 < L.length) (hm : L.length ≤ 1000) (hd : ∀ p ∈ L, Has W p.2 p.1.data ∧ Sz.Byt p.1.data) : HasOps W (.slice (some ⟨g, 0, none⟩) L.length L.length) L :=
  ⟨.inr ⟨g, 0, L.length, rfl, h0, Nat.le_refl _, by unfold maxLen; omega, h.lt, is_range h⟩, hd⟩
/-- The ops of a lock on a digest. -/
def hashOps (D : List Int) (g : Nat) : List (Lk.Op × Value) := [(⟨7, 0, []⟩, .slice none 0 0), (⟨1, 0, D⟩, .slice (some ⟨g, 0, none⟩) 32 32), (⟨5, 0, []⟩, .slice none 0 0)]
theorem hash_ops {W : World} {g gD : Nat} {D : List Int} (h : Is W g (opCells (hashOps D gD)) 38) (hD : Is W gD (vals D) 25) (hl : D.length = 32) (hb : Sz.Byt D) : HasOps W (.slice (some ⟨g, 0, none⟩) 3 3) (hashOps D gD) :=
  ops_is h (by simp [hashOps]) (by simp [hashOps]) (fun p hp => by
    simp only [hashOps, List.mem_cons, List.not_mem_nil, or_false] at hp
    rcases hp with rfl | rfl | rfl
    · exact ⟨.inl ⟨none, 0, rfl, rfl, by unfold maxLen; omega, fun _ => rfl⟩, Sz.Byt.nil⟩
    · exact ⟨has_digest hD hl, hb⟩
    · exact ⟨.inl ⟨none, 0, rfl, rfl, by unfold maxLen; omega, fun _ => rfl⟩, Sz.Byt.nil⟩)

set_option maxRecDepth 100000 in
set_option maxHeartbeats 8000000 in
theorem lockHash_walk (d : List Int) (kv : Value) (k : List Int) (m : List Int) (h : Int) (w : World) (hd : d.length = 32) (hdb : Sz.Byt d) (hk : Has w kv k) (hkb : Sz.Byt k) (hkl47 : k.length ≤ 140737488351232) (hm : m.length = 32) (hmb : Sz.Byt m) (ht : Tab w) (hw : 1 < w.heap.size) (hE : ErrVar w) :
    Calls Tryd.prog 4 #[.agg (vals d).toArray, kv, .agg (vals m).toArray, .int .i64 h] w fun e w' => e = .returned (.bool true) ∧ Below w.heap.size w w' := by
  obtain ⟨ka, kc, rfl, _, hKm⟩ := hk.shape
  unfold maxLen at hKm
  obtain ⟨Z, hZ⟩ : ∃ Z : List Int, Z = List.replicate 32 0 := ⟨_, rfl⟩
  have hzd := zero_dig
  rw [← hZ] at hzd
  have HZL : Hid ((vals Z).length = 32) := hide (by rw [vals_length, hZ]; rfl)
  have hvz : ¬ vals Z = [] := by intro h; have := HZL.out; rw [h] at this; cases this
  have hb0 := below_alloc2 w (.cells (vals d).toArray 25) (.cells (vals m).toArray 25)
  have HB0 := hide hb0
  have HOP := hide (opened_any _ (ht.below hb0 hw) (Nat.lt_of_lt_of_le hw hb0.size) (hE.below hb0))
  have HIS := hide ((Is.new w (vals d) 25).alloc (.cells (vals m).toArray 25))
  have HJS : Hid (Is ((w.alloc (.cells (vals d).toArray 25)).alloc (.cells (vals m).toArray 25)) (w.heap.size + 1) (vals m) 25) := hide (Is.new' _ 25 (by simp))
  have HSUM : Hid (∀ W, Below w.heap.size w W → Calls Tryd.prog 15 #[.slice ka k.length kc] W fun e w' => e = .returned (.agg (vals (Sh.sum k)).toArray) ∧ Below W.heap.size W w') := fun W hW => sum_any _ k W (hk.below hW) hkb (ht.below hW hw) (Nat.lt_of_lt_of_le hw hW.size) (by omega)
  have HRUN : Hid (∀ W ov O kv2 K2, Below w.heap.size w W → HasOps W ov O → HasKeys W kv2 K2 → Calls Tryd.prog 12 #[ov, kv2, .agg (vals m).toArray, .int .i64 h] W fun e w' => e = .returned (errV (Lk.run m h (opsOf O) (K2.map Prod.fst))) ∧ Below W.heap.size W w') := fun W ov O kv2 K2 hW hO hK => run_any O K2 ov kv2 m h W hO hK hm hmb (ht.below hW hw) (Nat.lt_of_lt_of_le hw hW.size)
  have HERR : Hid (∀ W, Below w.heap.size w W → Calls Tryd.prog 9 #[.iface 30 (.int .i64 7), .int .i64 7] W fun e w' => e = .returned (.bool true) ∧ Below W.heap.size W w') := fun W hW => error_any 7 7 W (hE.below hW)
  have HK := hide hk
  have HKB := hide hkb
  have HDL := hide hd
  have HDB := hide hdb
  have HML := hide hm
  obtain ⟨S, hS⟩ : ∃ S, S = Sh.sum k := ⟨_, rfl⟩
  have HSL : Hid (S.length = 32) := hide (by rw [hS]; exact Mc.sum_length _)
  have HSB : Hid (Sz.Byt S) := hide (by rw [hS]; exact Mc.sum_byt _)
  rw [← hS] at HSUM
  have HSE := hide hS
  clear hk hkb hd hdb hm hmb ht hw hE hb0 hZ hS hkl47
  go_enter Tryd.func4, Tryd.ntmps4
  go_wp2_with fail
  refine HOP.out.mono ?_
  rintro e wA ⟨rfl, hbA⟩
  have HIA := hide (HIS.out.below hbA HIS.out.lt)
  have HJA := hide (HJS.out.below hbA HJS.out.lt)
  have HBA := hide (HB0.out.trans (hbA.mono HB0.out.size))
  clear hbA HIS HJS HB0 HOP
  by_cases hlen : k.length ≤ 3000
  · have hi1 : decide ((3000 : Int) < (k.length : Int)) = false := decide_eq_false (by omega)
    obtain ⟨kl, hkl⟩ : ∃ kl, kl = k.length := ⟨_, rfl⟩
    rw [← hkl] at HSUM HK hi1 hKm
    rw [← hkl]
    clear hkl
    by_cases hds : d = S
    · have heqv : ∀ w', (Op.equalIn 10000 25 (.agg (vals S).toArray) (.agg (vals d).toArray)).run Tryd.prog w' = .ok true w' := fun w' => by rw [dig_eq S d HSL.out HDL.out, decide_eq_true hds.symm]
      have HRA : Hid (∀ W g gk, Below w.heap.size w W → Is W g (opCells (hashOps d w.heap.size)) 38 → Is W w.heap.size (vals d) 25 → Is W gk [.slice ka kl kc] 36 → Calls Tryd.prog 12 #[.slice (some ⟨g, 0, none⟩) 3 3, .slice (some ⟨gk, 0, none⟩) 1 1, .agg (vals m).toArray, .int .i64 h] W fun e w' => e = .returned .nilIface ∧ Below W.heap.size W w') := hide (fun W g gk hW hg hd hgk => by
        have := HRUN.out W _ (hashOps d w.heap.size) _ [(k, .slice ka kl kc)] hW (hash_ops hg hd HDL.out HDB.out) (keys_single hgk (HK.out.below hW) HKB.out)
        rw [show opsOf (hashOps d w.heap.size) = [⟨7, 0, []⟩, ⟨1, 0, d⟩, ⟨5, 0, []⟩] from rfl, show ([(k, Value.slice ka kl kc)] : List (List Int × Value)).map Prod.fst = [k] from rfl, Lk.law_hash m h d k HDL.out hlen, if_pos (by rw [← HSE.out]; exact hds)] at this
        exact this)
      have HRB : Hid (∀ W g gS gk, Below w.heap.size w W → Is W g (opCells (hashOps S gS)) 38 → Is W gS (vals S) 25 → Is W gk [.slice ka kl kc] 36 → Calls Tryd.prog 12 #[.slice (some ⟨g, 0, none⟩) 3 3, .slice (some ⟨gk, 0, none⟩) 1 1, .agg (vals m).toArray, .int .i64 h] W fun e w' => e = .returned .nilIface ∧ Below W.heap.size W w') := hide (fun W g gS gk hW hg hd hgk => by
        have := HRUN.out W _ (hashOps S gS) _ [(k, .slice ka kl kc)] hW (hash_ops hg hd HSL.out HSB.out) (keys_single hgk (HK.out.below hW) HKB.out)
        rw [show opsOf (hashOps S gS) = [⟨7, 0, []⟩, ⟨1, 0, S⟩, ⟨5, 0, []⟩] from rfl, show ([(k, Value.slice ka kl kc)] : List (List Int × Value)).map Prod.fst = [k] from rfl, Lk.law_hash m h S k HSL.out hlen, if_pos HSE.out] at this
        exact this)
      clear hds
      have hszd : (Tryd.prog.info? 25).map (·.size) = some (vals d).length := by rw [vals_length, HDL.out]; exact size_dig
      have hszm : (Tryd.prog.info? 25).map (·.size) = some (vals m).length := by rw [vals_length, HML.out]; exact size_dig
      have hszs : (Tryd.prog.info? 25).map (·.size) = some (vals S).length := by rw [vals_length, HSL.out]; exact size_dig
      have HVSL : Hid ((vals S).length = 32) := hide (by rw [vals_length]; exact HSL.out)
      have HVML : Hid ((vals m).length = 32) := hide (by rw [vals_length]; exact HML.out)
      have hgd := guard_dig
      go_wp2_with fail
      refine (HSUM.out _ (HBA.out.alloc HBA.out.size _)).mono ?_
      rintro e wB ⟨rfl, hbB⟩
      have hB1 : Is wB wA.heap.size (opCells (hashOps d w.heap.size)) 38 := (Is.new wA (opCells (hashOps d w.heap.size)) 38).below hbB (by simp)
      have hB2 := ((HIA.out.alloc (.cells (opCells (hashOps d w.heap.size)).toArray 38)).below hbB (by have := HIA.out.lt; simp; omega))
      have hB3 := ((HJA.out.alloc (.cells (opCells (hashOps d w.heap.size)).toArray 38)).below hbB (by have := HJA.out.lt; simp; omega))
      have HBB : Hid (Below w.heap.size w wB) := hide ((HBA.out.alloc HBA.out.size (.cells (opCells (hashOps d w.heap.size)).toArray 38)).trans (hbB.mono (by have := HBA.out.size; simp; omega)))
      have HIB1 := hide hB1
      have HIB2 := hide hB2
      have HIB3 := hide hB3
      have hl1 : wA.heap.size < wB.heap.size := hB1.lt
      have hl2 : w.heap.size + 1 < wB.heap.size := hB3.lt
      clear hbB hB1 hB2 hB3
      go_wp2_with (first
        | (refine wpList_store_any2 25 (vals Z) (vals S) wB.heap.size rfl (.tmp 11) (.tmp 27) rfl rfl rfl rfl (Is.new wB _ _) size_dig HZL.out HVSL.out (vals_one _) ?_; intro w7 hi7 hb7 hk7 hz7; have h71 := hk7 _ _ _ (show wA.heap.size ≠ wB.heap.size by omega) (HIB1.out.alloc _); have h72 := hk7 _ _ _ (show w.heap.size ≠ wB.heap.size by omega) (HIB2.out.alloc _); have h73 := hk7 _ _ _ (show w.heap.size + 1 ≠ wB.heap.size by omega) (HIB3.out.alloc _); have HB7 := hide (hb7 _ _ (HBB.out.alloc HBB.out.size _) HBB.out.size); have HI71 := hide h71; have HI72 := hide h72; have HI73 := hide h73; have HI74 := hide hi7; clear hi7 hb7 hk7 hz7 h71 h72 h73)
        | (refine wpList_load_arr2 25 (vals m) (w.heap.size + 1) rfl (.tmp 6) rfl rfl ((HI73.out.alloc _).alloc _) Tryd.underlying25 size_dig HVML.out ?_))
      refine (HRA.out _ _ (w7.heap.size + 1) ((HB7.out.alloc HB7.out.size _).alloc (Nat.le_trans HB7.out.size (by simp)) _) ((HI71.out.alloc _).alloc _) ((HI72.out.alloc _).alloc _) (Is.new' [.slice ka kl kc] 36 (by simp))).mono ?_
      rintro e wD ⟨rfl, hbD⟩
      have HBD : Hid (Below w.heap.size w wD) := hide (((HB7.out.alloc HB7.out.size (.cells (opCells (hashOps S wB.heap.size)).toArray 38)).alloc (Nat.le_trans HB7.out.size (by simp)) (.cells #[.slice ka kl kc] 36)).trans (hbD.mono (by have := HB7.out.size; simp; omega)))
      have HID1 := hide (((HI72.out.alloc (.cells (opCells (hashOps S wB.heap.size)).toArray 38)).alloc (.cells #[.slice ka kl kc] 36)).below hbD (by have := HI72.out.lt; simp; omega))
      have HID2 := hide (((HI73.out.alloc (.cells (opCells (hashOps S wB.heap.size)).toArray 38)).alloc (.cells #[.slice ka kl kc] 36)).below hbD (by have := HI73.out.lt; simp; omega))
      have HID3 := hide (((HI74.out.alloc (.cells (opCells (hashOps S wB.heap.size)).toArray 38)).alloc (.cells #[.slice ka kl kc] 36)).below hbD (by have := HI74.out.lt; simp; omega))
      have HID4 := hide (((Is.new w7 (opCells (hashOps S wB.heap.size)) 38).alloc (.cells #[.slice ka kl kc] 36)).below hbD (by simp; omega))
      clear hbD HI71 HI72 HI73 HI74 HIB1 HIB2 HIB3 hl1 hl2
      obtain ⟨gS, hgS⟩ : ∃ g, g = wB.heap.size := ⟨_, rfl⟩
      obtain ⟨g2, hg2⟩ : ∃ g, g = w7.heap.size := ⟨_, rfl⟩
      rw [← hgS] at HID3 HID4
      rw [← hg2] at HID4
      try rw [← hgS]
      try rw [← hg2]
      clear hgS hg2
      go_wp2
      obtain ⟨wE, hwE⟩ : ∃ wE, wE = wD := ⟨_, rfl⟩
      rw [← hwE] at HID1 HID2 HID3 HID4 HBD ⊢
      clear hwE
      have HBE := HBD
      have HIE1 := HID1
      have HIE2 := HID2
      have HIE3 := HID3
      have HIE4 := HID4
      refine wp_region_held_drew (S := fun W : World => Below wE.heap.size wE W) (by kernel_rfl) ?_ (fun hHeld0 => ?_)
      · exact (Below.refl _ _).drew
      refine wpAnyH_take (i := 0) (v := ?_) rfl (by kernel_rfl) (by kernel_rfl) (by kernel_rfl) (fun _ _ _ h => h) (Or.inl ⟨by rfl, ?_⟩) hHeld0 ?_
      rotate_left
      · (intro w hSw; (try dsimp only at hSw); go_simp <;> (try with_reducible rfl))
      simp only [Act.put, List.getElem_toArray, List.getElem_cons_zero, List.getElem_cons_succ, List.setIfInBounds_toArray, List.set_cons_zero, List.set_cons_succ]
      refine wpAnyH_take (i := 1) (v := ?_) rfl (by kernel_rfl) (by kernel_rfl) (by kernel_rfl) (fun _ _ _ h => h) (Or.inl ⟨by rfl, ?_⟩) hHeld0 ?_
      rotate_left
      · (intro w hSw; (try dsimp only at hSw); go_simp <;> (try with_reducible rfl))
      simp only [Act.put, List.getElem_toArray, List.getElem_cons_zero, List.getElem_cons_succ, List.setIfInBounds_toArray, List.set_cons_zero, List.set_cons_succ]
      refine wpAnyH_take (i := 2) (v := ?_) rfl (by kernel_rfl) (by kernel_rfl) (by kernel_rfl) (fun _ _ _ h => h) (Or.inl ⟨by rfl, ?_⟩) hHeld0 ?_
      rotate_left
      · (intro w hSw; (try dsimp only at hSw); go_simp <;> (try with_reducible rfl))
      simp only [Act.put, List.getElem_toArray, List.getElem_cons_zero, List.getElem_cons_succ, List.setIfInBounds_toArray, List.set_cons_zero, List.set_cons_succ]
      refine wpAnyH_take (i := 3) (v := ?_) rfl (by kernel_rfl) (by kernel_rfl) (by kernel_rfl) (fun _ _ _ h => h) (Or.inl ⟨by rfl, ?_⟩) hHeld0 ?_
      rotate_left
      · (intro w hSw; (try dsimp only at hSw); go_simp <;> (try with_reducible rfl))
      simp only [Act.put, List.getElem_toArray, List.getElem_cons_zero, List.getElem_cons_succ, List.setIfInBounds_toArray, List.set_cons_zero, List.set_cons_succ]
      refine wpAnyH_take (i := 4) (v := .agg (vals S).toArray) rfl (by kernel_rfl) (by kernel_rfl) (by kernel_rfl) (fun _ _ _ h => h) (yieldsIf_load_mid (by rfl) _ _ rfl _ _ rfl (vals S) _ (fun w hSw => range_below HIE3.out.range hSw) Tryd.underlying25 rfl hszs) hHeld0 ?_
      simp only [Act.put, List.getElem_toArray, List.getElem_cons_zero, List.getElem_cons_succ, List.setIfInBounds_toArray, List.set_cons_zero, List.set_cons_succ]
      refine wpAnyH_take (i := 5) (v := .agg (vals d).toArray) rfl (by kernel_rfl) (by kernel_rfl) (by kernel_rfl) (fun _ _ _ h => h) (yieldsIf_load_mid (by rfl) _ _ rfl _ _ rfl (vals d) _ (fun w hSw => range_below HIE1.out.range hSw) Tryd.underlying25 rfl hszd) hHeld0 ?_
      simp only [Act.put, List.getElem_toArray, List.getElem_cons_zero, List.getElem_cons_succ, List.setIfInBounds_toArray, List.set_cons_zero, List.set_cons_succ]
      refine wpAnyH_take (i := 6) (v := ?_) rfl (by kernel_rfl) (by kernel_rfl) (by kernel_rfl) (fun _ _ _ h => h) (Or.inl ⟨by rfl, ?_⟩) hHeld0 ?_
      rotate_left
      · (intro w hSw; (try dsimp only at hSw); go_simp <;> (try with_reducible rfl))
      simp only [Act.put, List.getElem_toArray, List.getElem_cons_zero, List.getElem_cons_succ, List.setIfInBounds_toArray, List.set_cons_zero, List.set_cons_succ]
      refine wpAnyH_take (i := 7) (v := ?_) rfl (by kernel_rfl) (by kernel_rfl) (by kernel_rfl) (fun _ _ _ h => h) (Or.inl ⟨by rfl, ?_⟩) hHeld0 ?_
      rotate_left
      · (intro w hSw; (try dsimp only at hSw); go_simp <;> (try with_reducible rfl))
      simp only [Act.put, List.getElem_toArray, List.getElem_cons_zero, List.getElem_cons_succ, List.setIfInBounds_toArray, List.set_cons_zero, List.set_cons_succ]
      refine wpAnyH_take (i := 8) (v := ?_) rfl (by kernel_rfl) (by kernel_rfl) (by kernel_rfl) (fun _ _ _ h => h) (Or.inl ⟨by rfl, ?_⟩) hHeld0 ?_
      rotate_left
      · (intro w hSw; (try dsimp only at hSw); go_simp <;> (try with_reducible rfl))
      simp only [Act.put, List.getElem_toArray, List.getElem_cons_zero, List.getElem_cons_succ, List.setIfInBounds_toArray, List.set_cons_zero, List.set_cons_succ]
      refine wpAnyH_take (i := 9) (v := ?_) rfl (by kernel_rfl) (by kernel_rfl) (by kernel_rfl) (fun _ _ _ h => h) (Or.inl ⟨by rfl, ?_⟩) hHeld0 ?_
      rotate_left
      · (intro w hSw; (try dsimp only at hSw); go_simp <;> (try with_reducible rfl))
      simp only [Act.put, List.getElem_toArray, List.getElem_cons_zero, List.getElem_cons_succ, List.setIfInBounds_toArray, List.set_cons_zero, List.set_cons_succ]
      refine wpAnyH_take (i := 10) (v := ?_) rfl (by kernel_rfl) (by kernel_rfl) (by kernel_rfl) (fun _ _ _ h => h) (Or.inl ⟨by rfl, ?_⟩) hHeld0 ?_
      rotate_left
      · (intro w hSw; (try dsimp only at hSw); go_simp <;> (try with_reducible rfl))
      simp only [Act.put, List.getElem_toArray, List.getElem_cons_zero, List.getElem_cons_succ, List.setIfInBounds_toArray, List.set_cons_zero, List.set_cons_succ]
      refine wpAnyH_take (i := 11) (v := ?_) rfl (by kernel_rfl) (by kernel_rfl) (by kernel_rfl) (fun _ _ _ h => h) (Or.inl ⟨by rfl, ?_⟩) hHeld0 ?_
      rotate_left
      · (intro w hSw; (try dsimp only at hSw); go_simp <;> (try with_reducible rfl))
      simp only [Act.put, List.getElem_toArray, List.getElem_cons_zero, List.getElem_cons_succ, List.setIfInBounds_toArray, List.set_cons_zero, List.set_cons_succ]
      refine wpAnyH_take (i := 13) (v := .agg (vals m).toArray) rfl (by kernel_rfl) (by kernel_rfl) (by kernel_rfl) (fun _ _ _ h => h) (yieldsIf_load_mid (by rfl) _ _ rfl _ _ rfl (vals m) _ (fun w hSw => range_below HIE2.out.range hSw) Tryd.underlying25 rfl hszm) hHeld0 ?_
      simp only [Act.put, List.getElem_toArray, List.getElem_cons_zero, List.getElem_cons_succ, List.setIfInBounds_toArray, List.set_cons_zero, List.set_cons_succ]
      refine wpAnyH_take (i := 14) (v := ?_) rfl (by kernel_rfl) (by kernel_rfl) (by kernel_rfl) (fun _ _ _ h => h) (Or.inl ⟨by rfl, ?_⟩) hHeld0 ?_
      rotate_left
      · (intro w hSw; (try dsimp only at hSw); go_simp <;> (try with_reducible rfl))
      simp only [Act.put, List.getElem_toArray, List.getElem_cons_zero, List.getElem_cons_succ, List.setIfInBounds_toArray, List.set_cons_zero, List.set_cons_succ]
      refine wpAnyH_ready (rs := [12]) (by kernel_rfl) (by simp) ?_
      refine AllReadyH.cons rfl (fun K hK => ?_) AllReadyH.nil
      go_simp
      refine hK.out _ _ (by exact ((Below.refl _ _).alloc (Nat.le_refl _) _).drew) (fun hHeld1 => ?_)
      clear hK K hHeld0
      try simp only [Act.put, List.getElem_toArray, List.getElem_cons_zero, List.getElem_cons_succ, List.setIfInBounds_toArray, List.set_cons_zero, List.set_cons_succ]
      refine wpAnyH_ready (rs := [15]) (by kernel_rfl) (by simp) ?_
      refine AllReadyH.cons rfl (fun K hK => ?_) AllReadyH.nil
      go_simp
      go_wp2_with ((go_at_call 12; refine (HRB.out _ _ gS _ (HBE.out.trans (hHeld1.mono HBE.out.size)) (HIE4.out.below hHeld1 HIE4.out.lt) (HIE3.out.below hHeld1 HIE3.out.lt) ((Is.new wE [.slice ka kl kc] 36).drew)).mono ?_; rintro e wx ⟨rfl, hbx⟩))
      refine hK.out _ _ (by exact below_step hHeld1 hbx) (fun hHeld2 => ?_)
      clear hK K hHeld1
      try simp only [Act.put, List.getElem_toArray, List.getElem_cons_zero, List.getElem_cons_succ, List.setIfInBounds_toArray, List.set_cons_zero, List.set_cons_succ]
      refine wpAnyH_take (i := 16) (v := ?_) rfl (by kernel_rfl) (by kernel_rfl) (by kernel_rfl) (fun _ _ _ h => h) (Or.inl ⟨by rfl, ?_⟩) hHeld2 ?_
      rotate_left
      · (intro w hSw; (try dsimp only at hSw); go_simp <;> (try with_reducible rfl))
      simp only [Act.put, List.getElem_toArray, List.getElem_cons_zero, List.getElem_cons_succ, List.setIfInBounds_toArray, List.set_cons_zero, List.set_cons_succ]
      refine wpAnyH_take (i := 17) (v := ?_) rfl (by kernel_rfl) (by kernel_rfl) (by kernel_rfl) (fun _ _ _ h => h) (Or.inl ⟨by rfl, ?_⟩) hHeld2 ?_
      rotate_left
      · (intro w hSw; (try dsimp only at hSw); go_simp <;> (try with_reducible rfl))
      simp only [Act.put, List.getElem_toArray, List.getElem_cons_zero, List.getElem_cons_succ, List.setIfInBounds_toArray, List.set_cons_zero, List.set_cons_succ]
      refine wpAnyH_take (i := 18) (v := ?_) rfl (by kernel_rfl) (by kernel_rfl) (by kernel_rfl) (fun _ _ _ h => h) (Or.inl ⟨by rfl, ?_⟩) hHeld2 ?_
      rotate_left
      · (intro w hSw; (try dsimp only at hSw); go_simp <;> (try with_reducible rfl))
      simp only [Act.put, List.getElem_toArray, List.getElem_cons_zero, List.getElem_cons_succ, List.setIfInBounds_toArray, List.set_cons_zero, List.set_cons_succ]
      refine wpAnyH_done (by kernel_rfl) ?_ _
      go_wp2
      go_ret
      exact ⟨rfl, HBE.out.trans (hHeld2.mono HBE.out.size)⟩
    · have heqv : ∀ w', (Op.equalIn 10000 25 (.agg (vals S).toArray) (.agg (vals d).toArray)).run Tryd.prog w' = .ok false w' := fun w' => by rw [dig_eq S d HSL.out HDL.out, decide_eq_false (fun e => hds e.symm)]
      have HRA : Hid (∀ W g gk, Below w.heap.size w W → Is W g (opCells (hashOps d w.heap.size)) 38 → Is W w.heap.size (vals d) 25 → Is W gk [.slice ka kl kc] 36 → Calls Tryd.prog 12 #[.slice (some ⟨g, 0, none⟩) 3 3, .slice (some ⟨gk, 0, none⟩) 1 1, .agg (vals m).toArray, .int .i64 h] W fun e w' => e = .returned (.iface 30 (.int .i64 7)) ∧ Below W.heap.size W w') := hide (fun W g gk hW hg hd hgk => by
        have := HRUN.out W _ (hashOps d w.heap.size) _ [(k, .slice ka kl kc)] hW (hash_ops hg hd HDL.out HDB.out) (keys_single hgk (HK.out.below hW) HKB.out)
        rw [show opsOf (hashOps d w.heap.size) = [⟨7, 0, []⟩, ⟨1, 0, d⟩, ⟨5, 0, []⟩] from rfl, show ([(k, Value.slice ka kl kc)] : List (List Int × Value)).map Prod.fst = [k] from rfl, Lk.law_hash m h d k HDL.out hlen, if_neg (by rw [← HSE.out]; exact hds)] at this
        exact this)
      have HRB : Hid (∀ W g gS gk, Below w.heap.size w W → Is W g (opCells (hashOps S gS)) 38 → Is W gS (vals S) 25 → Is W gk [.slice ka kl kc] 36 → Calls Tryd.prog 12 #[.slice (some ⟨g, 0, none⟩) 3 3, .slice (some ⟨gk, 0, none⟩) 1 1, .agg (vals m).toArray, .int .i64 h] W fun e w' => e = .returned .nilIface ∧ Below W.heap.size W w') := hide (fun W g gS gk hW hg hd hgk => by
        have := HRUN.out W _ (hashOps S gS) _ [(k, .slice ka kl kc)] hW (hash_ops hg hd HSL.out HSB.out) (keys_single hgk (HK.out.below hW) HKB.out)
        rw [show opsOf (hashOps S gS) = [⟨7, 0, []⟩, ⟨1, 0, S⟩, ⟨5, 0, []⟩] from rfl, show ([(k, Value.slice ka kl kc)] : List (List Int × Value)).map Prod.fst = [k] from rfl, Lk.law_hash m h S k HSL.out hlen, if_pos HSE.out] at this
        exact this)
      clear hds
      have hszd : (Tryd.prog.info? 25).map (·.size) = some (vals d).length := by rw [vals_length, HDL.out]; exact size_dig
      have hszm : (Tryd.prog.info? 25).map (·.size) = some (vals m).length := by rw [vals_length, HML.out]; exact size_dig
      have hszs : (Tryd.prog.info? 25).map (·.size) = some (vals S).length := by rw [vals_length, HSL.out]; exact size_dig
      have HVSL : Hid ((vals S).length = 32) := hide (by rw [vals_length]; exact HSL.out)
      have HVML : Hid ((vals m).length = 32) := hide (by rw [vals_length]; exact HML.out)
      have hgd := guard_dig
      go_wp2_with fail
      refine (HSUM.out _ (HBA.out.alloc HBA.out.size _)).mono ?_
      rintro e wB ⟨rfl, hbB⟩
      have hB1 : Is wB wA.heap.size (opCells (hashOps d w.heap.size)) 38 := (Is.new wA (opCells (hashOps d w.heap.size)) 38).below hbB (by simp)
      have hB2 := ((HIA.out.alloc (.cells (opCells (hashOps d w.heap.size)).toArray 38)).below hbB (by have := HIA.out.lt; simp; omega))
      have hB3 := ((HJA.out.alloc (.cells (opCells (hashOps d w.heap.size)).toArray 38)).below hbB (by have := HJA.out.lt; simp; omega))
      have HBB : Hid (Below w.heap.size w wB) := hide ((HBA.out.alloc HBA.out.size (.cells (opCells (hashOps d w.heap.size)).toArray 38)).trans (hbB.mono (by have := HBA.out.size; simp; omega)))
      have HIB1 := hide hB1
      have HIB2 := hide hB2
      have HIB3 := hide hB3
      have hl1 : wA.heap.size < wB.heap.size := hB1.lt
      have hl2 : w.heap.size + 1 < wB.heap.size := hB3.lt
      clear hbB hB1 hB2 hB3
      go_wp2_with (first
        | (refine wpList_store_any2 25 (vals Z) (vals S) wB.heap.size rfl (.tmp 11) (.tmp 27) rfl rfl rfl rfl (Is.new wB _ _) size_dig HZL.out HVSL.out (vals_one _) ?_; intro w7 hi7 hb7 hk7 hz7; have h71 := hk7 _ _ _ (show wA.heap.size ≠ wB.heap.size by omega) (HIB1.out.alloc _); have h72 := hk7 _ _ _ (show w.heap.size ≠ wB.heap.size by omega) (HIB2.out.alloc _); have h73 := hk7 _ _ _ (show w.heap.size + 1 ≠ wB.heap.size by omega) (HIB3.out.alloc _); have HB7 := hide (hb7 _ _ (HBB.out.alloc HBB.out.size _) HBB.out.size); have HI71 := hide h71; have HI72 := hide h72; have HI73 := hide h73; have HI74 := hide hi7; clear hi7 hb7 hk7 hz7 h71 h72 h73)
        | (refine wpList_load_arr2 25 (vals m) (w.heap.size + 1) rfl (.tmp 6) rfl rfl ((HI73.out.alloc _).alloc _) Tryd.underlying25 size_dig HVML.out ?_))
      refine (HRA.out _ _ (w7.heap.size + 1) ((HB7.out.alloc HB7.out.size _).alloc (Nat.le_trans HB7.out.size (by simp)) _) ((HI71.out.alloc _).alloc _) ((HI72.out.alloc _).alloc _) (Is.new' [.slice ka kl kc] 36 (by simp))).mono ?_
      rintro e wD ⟨rfl, hbD⟩
      have HBD : Hid (Below w.heap.size w wD) := hide (((HB7.out.alloc HB7.out.size (.cells (opCells (hashOps S wB.heap.size)).toArray 38)).alloc (Nat.le_trans HB7.out.size (by simp)) (.cells #[.slice ka kl kc] 36)).trans (hbD.mono (by have := HB7.out.size; simp; omega)))
      have HID1 := hide (((HI72.out.alloc (.cells (opCells (hashOps S wB.heap.size)).toArray 38)).alloc (.cells #[.slice ka kl kc] 36)).below hbD (by have := HI72.out.lt; simp; omega))
      have HID2 := hide (((HI73.out.alloc (.cells (opCells (hashOps S wB.heap.size)).toArray 38)).alloc (.cells #[.slice ka kl kc] 36)).below hbD (by have := HI73.out.lt; simp; omega))
      have HID3 := hide (((HI74.out.alloc (.cells (opCells (hashOps S wB.heap.size)).toArray 38)).alloc (.cells #[.slice ka kl kc] 36)).below hbD (by have := HI74.out.lt; simp; omega))
      have HID4 := hide (((Is.new w7 (opCells (hashOps S wB.heap.size)) 38).alloc (.cells #[.slice ka kl kc] 36)).below hbD (by simp; omega))
      clear hbD HI71 HI72 HI73 HI74 HIB1 HIB2 HIB3 hl1 hl2
      obtain ⟨gS, hgS⟩ : ∃ g, g = wB.heap.size := ⟨_, rfl⟩
      obtain ⟨g2, hg2⟩ : ∃ g, g = w7.heap.size := ⟨_, rfl⟩
      rw [← hgS] at HID3 HID4
      rw [← hg2] at HID4
      try rw [← hgS]
      try rw [← hg2]
      clear hgS hg2
      have HER := hide (HERR.out wD HBD.out)
      go_wp2_with fail
      refine HER.out.mono ?_
      rintro e wE ⟨rfl, hbE⟩
      have HBE := hide (HBD.out.trans (hbE.mono HBD.out.size))
      have HIE1 := hide (HID1.out.below hbE HID1.out.lt)
      have HIE2 := hide (HID2.out.below hbE HID2.out.lt)
      have HIE3 := hide (HID3.out.below hbE HID3.out.lt)
      have HIE4 := hide (HID4.out.below hbE HID4.out.lt)
      clear hbE
      go_wp2
      refine wp_region_held_drew (S := fun W : World => Below wE.heap.size wE W) (by kernel_rfl) ?_ (fun hHeld0 => ?_)
      · exact (Below.refl _ _).drew
      refine wpAnyH_take (i := 0) (v := ?_) rfl (by kernel_rfl) (by kernel_rfl) (by kernel_rfl) (fun _ _ _ h => h) (Or.inl ⟨by rfl, ?_⟩) hHeld0 ?_
      rotate_left
      · (intro w hSw; (try dsimp only at hSw); go_simp <;> (try with_reducible rfl))
      simp only [Act.put, List.getElem_toArray, List.getElem_cons_zero, List.getElem_cons_succ, List.setIfInBounds_toArray, List.set_cons_zero, List.set_cons_succ]
      refine wpAnyH_take (i := 1) (v := ?_) rfl (by kernel_rfl) (by kernel_rfl) (by kernel_rfl) (fun _ _ _ h => h) (Or.inl ⟨by rfl, ?_⟩) hHeld0 ?_
      rotate_left
      · (intro w hSw; (try dsimp only at hSw); go_simp <;> (try with_reducible rfl))
      simp only [Act.put, List.getElem_toArray, List.getElem_cons_zero, List.getElem_cons_succ, List.setIfInBounds_toArray, List.set_cons_zero, List.set_cons_succ]
      refine wpAnyH_take (i := 2) (v := ?_) rfl (by kernel_rfl) (by kernel_rfl) (by kernel_rfl) (fun _ _ _ h => h) (Or.inl ⟨by rfl, ?_⟩) hHeld0 ?_
      rotate_left
      · (intro w hSw; (try dsimp only at hSw); go_simp <;> (try with_reducible rfl))
      simp only [Act.put, List.getElem_toArray, List.getElem_cons_zero, List.getElem_cons_succ, List.setIfInBounds_toArray, List.set_cons_zero, List.set_cons_succ]
      refine wpAnyH_take (i := 3) (v := ?_) rfl (by kernel_rfl) (by kernel_rfl) (by kernel_rfl) (fun _ _ _ h => h) (Or.inl ⟨by rfl, ?_⟩) hHeld0 ?_
      rotate_left
      · (intro w hSw; (try dsimp only at hSw); go_simp <;> (try with_reducible rfl))
      simp only [Act.put, List.getElem_toArray, List.getElem_cons_zero, List.getElem_cons_succ, List.setIfInBounds_toArray, List.set_cons_zero, List.set_cons_succ]
      refine wpAnyH_take (i := 4) (v := .agg (vals S).toArray) rfl (by kernel_rfl) (by kernel_rfl) (by kernel_rfl) (fun _ _ _ h => h) (yieldsIf_load_mid (by rfl) _ _ rfl _ _ rfl (vals S) _ (fun w hSw => range_below HIE3.out.range hSw) Tryd.underlying25 rfl hszs) hHeld0 ?_
      simp only [Act.put, List.getElem_toArray, List.getElem_cons_zero, List.getElem_cons_succ, List.setIfInBounds_toArray, List.set_cons_zero, List.set_cons_succ]
      refine wpAnyH_take (i := 5) (v := .agg (vals d).toArray) rfl (by kernel_rfl) (by kernel_rfl) (by kernel_rfl) (fun _ _ _ h => h) (yieldsIf_load_mid (by rfl) _ _ rfl _ _ rfl (vals d) _ (fun w hSw => range_below HIE1.out.range hSw) Tryd.underlying25 rfl hszd) hHeld0 ?_
      simp only [Act.put, List.getElem_toArray, List.getElem_cons_zero, List.getElem_cons_succ, List.setIfInBounds_toArray, List.set_cons_zero, List.set_cons_succ]
      refine wpAnyH_take (i := 6) (v := ?_) rfl (by kernel_rfl) (by kernel_rfl) (by kernel_rfl) (fun _ _ _ h => h) (Or.inl ⟨by rfl, ?_⟩) hHeld0 ?_
      rotate_left
      · (intro w hSw; (try dsimp only at hSw); go_simp <;> (try with_reducible rfl))
      simp only [Act.put, List.getElem_toArray, List.getElem_cons_zero, List.getElem_cons_succ, List.setIfInBounds_toArray, List.set_cons_zero, List.set_cons_succ]
      refine wpAnyH_take (i := 7) (v := ?_) rfl (by kernel_rfl) (by kernel_rfl) (by kernel_rfl) (fun _ _ _ h => h) (Or.inl ⟨by rfl, ?_⟩) hHeld0 ?_
      rotate_left
      · (intro w hSw; (try dsimp only at hSw); go_simp <;> (try with_reducible rfl))
      simp only [Act.put, List.getElem_toArray, List.getElem_cons_zero, List.getElem_cons_succ, List.setIfInBounds_toArray, List.set_cons_zero, List.set_cons_succ]
      refine wpAnyH_take (i := 8) (v := ?_) rfl (by kernel_rfl) (by kernel_rfl) (by kernel_rfl) (fun _ _ _ h => h) (Or.inl ⟨by rfl, ?_⟩) hHeld0 ?_
      rotate_left
      · (intro w hSw; (try dsimp only at hSw); go_simp <;> (try with_reducible rfl))
      simp only [Act.put, List.getElem_toArray, List.getElem_cons_zero, List.getElem_cons_succ, List.setIfInBounds_toArray, List.set_cons_zero, List.set_cons_succ]
      refine wpAnyH_take (i := 9) (v := ?_) rfl (by kernel_rfl) (by kernel_rfl) (by kernel_rfl) (fun _ _ _ h => h) (Or.inl ⟨by rfl, ?_⟩) hHeld0 ?_
      rotate_left
      · (intro w hSw; (try dsimp only at hSw); go_simp <;> (try with_reducible rfl))
      simp only [Act.put, List.getElem_toArray, List.getElem_cons_zero, List.getElem_cons_succ, List.setIfInBounds_toArray, List.set_cons_zero, List.set_cons_succ]
      refine wpAnyH_take (i := 10) (v := ?_) rfl (by kernel_rfl) (by kernel_rfl) (by kernel_rfl) (fun _ _ _ h => h) (Or.inl ⟨by rfl, ?_⟩) hHeld0 ?_
      rotate_left
      · (intro w hSw; (try dsimp only at hSw); go_simp <;> (try with_reducible rfl))
      simp only [Act.put, List.getElem_toArray, List.getElem_cons_zero, List.getElem_cons_succ, List.setIfInBounds_toArray, List.set_cons_zero, List.set_cons_succ]
      refine wpAnyH_take (i := 11) (v := ?_) rfl (by kernel_rfl) (by kernel_rfl) (by kernel_rfl) (fun _ _ _ h => h) (Or.inl ⟨by rfl, ?_⟩) hHeld0 ?_
      rotate_left
      · (intro w hSw; (try dsimp only at hSw); go_simp <;> (try with_reducible rfl))
      simp only [Act.put, List.getElem_toArray, List.getElem_cons_zero, List.getElem_cons_succ, List.setIfInBounds_toArray, List.set_cons_zero, List.set_cons_succ]
      refine wpAnyH_take (i := 13) (v := .agg (vals m).toArray) rfl (by kernel_rfl) (by kernel_rfl) (by kernel_rfl) (fun _ _ _ h => h) (yieldsIf_load_mid (by rfl) _ _ rfl _ _ rfl (vals m) _ (fun w hSw => range_below HIE2.out.range hSw) Tryd.underlying25 rfl hszm) hHeld0 ?_
      simp only [Act.put, List.getElem_toArray, List.getElem_cons_zero, List.getElem_cons_succ, List.setIfInBounds_toArray, List.set_cons_zero, List.set_cons_succ]
      refine wpAnyH_take (i := 14) (v := ?_) rfl (by kernel_rfl) (by kernel_rfl) (by kernel_rfl) (fun _ _ _ h => h) (Or.inl ⟨by rfl, ?_⟩) hHeld0 ?_
      rotate_left
      · (intro w hSw; (try dsimp only at hSw); go_simp <;> (try with_reducible rfl))
      simp only [Act.put, List.getElem_toArray, List.getElem_cons_zero, List.getElem_cons_succ, List.setIfInBounds_toArray, List.set_cons_zero, List.set_cons_succ]
      refine wpAnyH_ready (rs := [12]) (by kernel_rfl) (by simp) ?_
      refine AllReadyH.cons rfl (fun K hK => ?_) AllReadyH.nil
      go_simp
      refine hK.out _ _ (by exact ((Below.refl _ _).alloc (Nat.le_refl _) _).drew) (fun hHeld1 => ?_)
      clear hK K hHeld0
      try simp only [Act.put, List.getElem_toArray, List.getElem_cons_zero, List.getElem_cons_succ, List.setIfInBounds_toArray, List.set_cons_zero, List.set_cons_succ]
      refine wpAnyH_ready (rs := [15]) (by kernel_rfl) (by simp) ?_
      refine AllReadyH.cons rfl (fun K hK => ?_) AllReadyH.nil
      go_simp
      go_wp2_with ((go_at_call 12; refine (HRB.out _ _ gS _ (HBE.out.trans (hHeld1.mono HBE.out.size)) (HIE4.out.below hHeld1 HIE4.out.lt) (HIE3.out.below hHeld1 HIE3.out.lt) ((Is.new wE [.slice ka kl kc] 36).drew)).mono ?_; rintro e wx ⟨rfl, hbx⟩))
      refine hK.out _ _ (by exact below_step hHeld1 hbx) (fun hHeld2 => ?_)
      clear hK K hHeld1
      try simp only [Act.put, List.getElem_toArray, List.getElem_cons_zero, List.getElem_cons_succ, List.setIfInBounds_toArray, List.set_cons_zero, List.set_cons_succ]
      refine wpAnyH_take (i := 16) (v := ?_) rfl (by kernel_rfl) (by kernel_rfl) (by kernel_rfl) (fun _ _ _ h => h) (Or.inl ⟨by rfl, ?_⟩) hHeld2 ?_
      rotate_left
      · (intro w hSw; (try dsimp only at hSw); go_simp <;> (try with_reducible rfl))
      simp only [Act.put, List.getElem_toArray, List.getElem_cons_zero, List.getElem_cons_succ, List.setIfInBounds_toArray, List.set_cons_zero, List.set_cons_succ]
      refine wpAnyH_take (i := 17) (v := ?_) rfl (by kernel_rfl) (by kernel_rfl) (by kernel_rfl) (fun _ _ _ h => h) (Or.inl ⟨by rfl, ?_⟩) hHeld2 ?_
      rotate_left
      · (intro w hSw; (try dsimp only at hSw); go_simp <;> (try with_reducible rfl))
      simp only [Act.put, List.getElem_toArray, List.getElem_cons_zero, List.getElem_cons_succ, List.setIfInBounds_toArray, List.set_cons_zero, List.set_cons_succ]
      refine wpAnyH_take (i := 18) (v := ?_) rfl (by kernel_rfl) (by kernel_rfl) (by kernel_rfl) (fun _ _ _ h => h) (Or.inl ⟨by rfl, ?_⟩) hHeld2 ?_
      rotate_left
      · (intro w hSw; (try dsimp only at hSw); go_simp <;> (try with_reducible rfl))
      simp only [Act.put, List.getElem_toArray, List.getElem_cons_zero, List.getElem_cons_succ, List.setIfInBounds_toArray, List.set_cons_zero, List.set_cons_succ]
      refine wpAnyH_done (by kernel_rfl) ?_ _
      go_wp2
      go_ret
      exact ⟨rfl, HBE.out.trans (hHeld2.mono HBE.out.size)⟩
  · have hi1 : decide ((3000 : Int) < (k.length : Int)) = true := decide_eq_true (by omega)
    generalize k.length = kl at *
    go_wp2
    go_ret
    exact ⟨rfl, HBA.out⟩
end Go.Proofs.YtkdihbgjeanjdaaDoor
