/- The walk of LockSwaps: twice is not at all. -/
import Derived.Test.YtkdihbgjeanjdabDoorLkFact
namespace Go.Proofs.YtkdihbgjeanjdabDoor
open Go.RowKit
set_option linter.unusedVariables false
set_option linter.unusedSimpArgs false

theorem below_step {wA W W' : World} (h : Below wA.heap.size wA W) (hb : Below W.heap.size W W') : Below wA.heap.size wA W' := h.trans (hb.mono h.size)
/-- Keys of the call's own. -/
def OwnKeys (w : World) (base : Nat) (v : Value) (K : List (List Int × Value)) : Prop := w.ownsRow base 31 1 v K.length (K.map Prod.snd)
theorem OwnKeys.hasKeys {w : World} {base : Nat} {v : Value} {K : List (List Int × Value)} (h : OwnKeys w base v K) (hd : ∀ p ∈ K, Has w p.2 p.1 ∧ Sz.Byt p.1) (h0 : 0 < K.length) : HasKeys w v K := by
  obtain ⟨g, cap, rfl, _, h2, h3, h4, hr⟩ := owns_some h h0
  exact ⟨.inr ⟨g, 0, cap, rfl, h0, h3, h4, h2, hr⟩, hd⟩
theorem HasKeys.formed {w : World} {v : Value} {K : List (List Int × Value)} (h : HasKeys w v K) : ∀ u ∈ K.map Prod.snd, u.oneCell' = true := fun u hu => by
  obtain ⟨p, hp, rfl⟩ := List.mem_map.1 hu
  obtain ⟨a, c, e, _⟩ := (h.2 p hp).1.shape
  rw [e]; rfl
theorem info_row : ∃ i, Tryd.prog.info? 31 = some i ∧ i.zero = some (.slice none 0 0) ∧ i.size = 1 ∧ i.bytes = 24 := by
  have h : (Tryd.prog.info? 31).map (fun i => (i.zero, i.size, i.bytes)) = some (some (.slice none 0 0), 1, 24) := by kernel_rfl
  cases hi : Tryd.prog.info? 31 with
  | none => rw [hi] at h; cases h
  | some i =>
    rw [hi] at h
    simp only [Option.map_some, Option.some.injEq, Prod.mk.injEq] at h
    exact ⟨i, rfl, h.1, h.2.1, h.2.2⟩
theorem run_append_keys (W : World) (base : Nat) (v : Value) (a : Addr) (c : Nat) (K : List (List Int × Value)) (hbW : base ≤ W.heap.size) (hown : OwnKeys W base v []) (hr : ∀ j u, (K.map Prod.snd)[j]? = some u → W.cell? (a.add j) = some u) (hf : ∀ u ∈ K.map Prod.snd, u.oneCell' = true) (hbd : K.length * 24 ≤ 140737488351232) (ty : TypeId) :
    ∃ v' W', (Builtin.append_ #[23, 23] ty #[v, .slice (some a) K.length c]).run Tryd.prog W = .ok v' W' ∧ OwnKeys W' base v' K ∧ Below base W W' := by
  obtain ⟨i, hi, hz, hs, hby⟩ := info_row
  obtain ⟨v', W', h1, h2, h3, _⟩ := run_append_own (P := Tryd.prog) W base 23 ty 31 i (.slice none 0 0) 1 24 Tryd.underlying23 hi hz hs hby rfl (by decide) v 0 [] hown a K.length c (K.map Prod.snd) (by simp) hr hf (by unfold maxLen; omega) (by omega) hbW
  refine ⟨v', W', h1, ?_, (Below.refl base W).grown h3 hbW (fun q hq => (World.ownsRow.lt hown q hq).1)⟩
  unfold OwnKeys
  simpa using h2
theorem OwnKeys.none (w : World) (base : Nat) (hb : base ≤ w.heap.size) : OwnKeys (w.alloc (.cells #[] 31)) base (.slice (some ⟨w.heap.size, 0, none⟩) 0 0) [] := by
  have := World.ownsRow_lit (base := base) (e := 31) (size := 1) w #[] 0 hb (by unfold maxLen; omega) (by simp)
  simpa [OwnKeys] using this
theorem two_last (KS : List (List Int × Value)) (h : 2 ≤ KS.length) : ∃ K0 p q, KS = K0 ++ [p, q] := by
  rcases snoc_cases KS with rfl | ⟨K1, q, rfl⟩
  · simp at h
  · rcases snoc_cases K1 with rfl | ⟨K0, p, rfl⟩
    · simp at h
    · exact ⟨K0, p, q, by simp⟩
set_option maxRecDepth 100000 in
set_option maxHeartbeats 8000000 in
theorem lockSwaps_walk (lv : Value) (L : List (Lk.Op × Value)) (kv : Value) (KS : List (List Int × Value)) (m : List Int) (h : Int) (w : World) (hl : HasOps w lv L) (hk : HasKeys w kv KS) (hkl24 : KS.length * 24 ≤ 140737488351232) (hm : m.length = 32) (hmb : Sz.Byt m) (ht : Tab w) (hw : 1 < w.heap.size) (hE : ErrVar w) :
    Calls Tryd.prog 5 #[lv, kv, .agg (vals m).toArray, .int .i64 h] w fun e w' => e = .returned (.bool true) ∧ Below w.heap.size w w' := by
  obtain ⟨la, lc, rfl⟩ : ∃ a c, lv = .slice a L.length c := by
    rcases hl.1 with ⟨a, cap, rfl, rfl⟩ | ⟨b, off, cap, rfl, _⟩
    · exact ⟨a, cap, rfl⟩
    · exact ⟨_, cap, rfl⟩
  have hLm := hl.length_le
  obtain ⟨ka, kc, rfl, hkcm, hKm, hkrng⟩ := hk.form
  have HKRNG := hide hkrng
  unfold maxLen at hLm hKm
  have hML : (vals m).length = 32 := by rw [vals_length]; exact hm
  have HML := hide hML
  have hb0 := below_alloc w (.cells (vals m).toArray 25)
  have HB0 := hide hb0
  have HOP := hide (opened_any _ (ht.below hb0 hw) (Nat.lt_of_lt_of_le hw hb0.size) (hE.below hb0))
  have HIS := hide (Is.new w (vals m) 25)
  have hszM : (Tryd.prog.info? 25).map (·.size) = some (vals m).length := by rw [hML]; exact size_dig
  have HCK : Hid (∀ W, Below w.heap.size w W → Calls Tryd.prog 7 #[.slice la L.length lc] W fun e w' => e = .returned (errV (Lk.check (opsOf L))) ∧ Below W.heap.size W w') := fun W hW => check_any _ L W (hl.below hW)
  have HRK : Hid (∀ W ov O kv2 K2, Below w.heap.size w W → HasOps W ov O → HasKeys W kv2 K2 → Calls Tryd.prog 8 #[ov, kv2, .agg (vals m).toArray, .int .i64 h] W fun e w' => e = .returned (errV (Lk.run m h (opsOf O) (K2.map Prod.fst))) ∧ Below W.heap.size W w') := fun W ov O kv2 K2 hW hO hK => run_any O K2 ov kv2 m h W hO hK hm hmb (ht.below hW hw) (Nat.lt_of_lt_of_le hw hW.size)
  have HRUN : Hid (∀ W ov O, Below w.heap.size w W → HasOps W ov O → Calls Tryd.prog 8 #[ov, .slice ka KS.length kc, .agg (vals m).toArray, .int .i64 h] W fun e w' => e = .returned (errV (Lk.run m h (opsOf O) (KS.map Prod.fst))) ∧ Below W.heap.size W w') := fun W ov O hW hO => run_any O KS ov _ m h W hO (hk.below hW) hm hmb (ht.below hW hw) (Nat.lt_of_lt_of_le hw hW.size)
  have HTD : Hid (∀ W a b, Below w.heap.size w W → Calls Tryd.prog 9 #[errV a, errV b] W fun e w' => e = .returned (.bool (a == b)) ∧ Below W.heap.size W w') := fun W a b hW => toldE_any a b W (hE.below hW)
  have HL := hide hl
  have HK := hide hk
  have HK24 := hide hkl24
  have HKL : Hid ((KS.map Prod.fst).length = KS.length) := hide (List.length_map _)
  clear hl hk hm hmb ht hw hE hML hb0 hkl24 hkrng
  generalize vals m = M at *
  obtain ⟨c, hc⟩ : ∃ c, c = Lk.check (opsOf L) := ⟨_, rfl⟩
  rw [← hc] at HCK
  have HC := hide hc
  clear hc
  have HLL := hide (opsOf_length L)
  go_enter Tryd.func5, Tryd.ntmps5
  go_wp2_with fail
  refine HOP.out.mono ?_
  rintro e wA ⟨rfl, hbA⟩
  have HIA := hide (HIS.out.below hbA (by simp))
  have HBA := hide (HB0.out.trans (hbA.mono (by simp)))
  clear hbA
  have HC1 := hide (HCK.out _ HBA.out)
  by_cases hc0 : c = 0
  · subst hc0
    have e0 : errV 0 = .nilIface := rfl
    rw [e0] at HC1
    clear e0
    have hl60 : L.length ≤ 60 := by have := ((Lk.check_zero _).1 HC.out.symm).1; rw [HLL.out] at this; exact this
    by_cases hlen : L.length + 2 ≤ 60 ∧ 2 ≤ KS.length
    · obtain ⟨hl1, hl2⟩ := hlen
      obtain ⟨K0, p, q, hKS⟩ := two_last KS hl2
      obtain ⟨kb, koff, rfl, hkb, hkr⟩ := HKRNG.out 0 (by omega)
      have hsw := Lk.law_swap m h (opsOf L) (K0.map Prod.fst) p.1 q.1 HC.out.symm (by rw [HLL.out]; exact hl1)
      have eK : KS.map Prod.fst = K0.map Prod.fst ++ [p.1, q.1] := by rw [hKS]; simp
      have eK' : (K0 ++ [q, p]).map Prod.fst = K0.map Prod.fst ++ [q.1, p.1] := by simp
      rw [← eK, ← eK'] at hsw
      obtain ⟨X, hX⟩ : ∃ X, X = Lk.run m h (opsOf L) (KS.map Prod.fst) := ⟨_, rfl⟩
      obtain ⟨Y, hY⟩ : ∃ Y, Y = Lk.run m h (opsOf L) ((K0 ++ [q, p]).map Prod.fst) := ⟨_, rfl⟩
      rw [← hX, ← hY] at hsw
      have HSW1 := hide hsw.1
      have HSW2 := hide hsw.2
      have HXE := hide hX
      have HYE := hide hY
      have hcp : w.cell? ⟨kb, koff + K0.length, none⟩ = some p.2 := hkr K0.length _ (by rw [hKS]; simp)
      have hcq : w.cell? ⟨kb, koff + (K0.length + 1), none⟩ = some q.2 := hkr (K0.length + 1) _ (by rw [hKS]; simp)
      have hpq := HK.out.2
      obtain ⟨pa, pc, hpe, _, _⟩ := (hpq p (by rw [hKS]; simp)).1.shape
      obtain ⟨qa, qc, hqe, _, _⟩ := (hpq q (by rw [hKS]; simp)).1.shape
      rw [hpe] at hcp
      rw [hqe] at hcq
      have HPE := hide hpe
      have HQE := hide hqe
      have HCP := hide (And.intro hkb (And.intro hcp hcq))
      have HKR := hide hkr
      have HKS := hide hKS
      have HKLE : Hid (KS.length = K0.length + 2) := hide (by rw [hKS]; simp)
      have hi1 : ¬ (60 : Int) < (L.length : Int) + 2 := by omega
      have hi2 : ¬ (KS.length : Int) < 2 := by omega
      clear hX hY hsw eK eK' hkb hcp hcq hpq hpe hqe hkr hKS
      generalize hll : L.length = ll at *
      generalize hkl : KS.length = kl at *
      have HL1 := hide hll
      have HKL1 := hide hkl
      generalize p.1.length = pl at *
      generalize q.1.length = ql at *
      obtain ⟨n2, hn2⟩ : ∃ n2, n2 = K0.length := ⟨_, rfl⟩
      obtain ⟨n1, hn1⟩ : ∃ n1, n1 = K0.length + 1 := ⟨_, rfl⟩
      rw [← hn1, ← hn2] at HCP
      have hlt1 : n1 < kl := by have := HKLE.out; omega
      have hlt2 : n2 < kl := by have := HKLE.out; omega
      have he1 : (kl : Int) - 1 = (n1 : Int) := by have := HKLE.out; omega
      have he2 : (kl : Int) - 2 = (n2 : Int) := by have := HKLE.out; omega
      have hne12 : ¬ n1 = n2 := by omega
      have HN1 := hide hn1
      have HN2 := hide hn2
      clear hll hkl hn1 hn2
      go_wp2_with fail
      refine HC1.out.mono ?_
      rintro e wB ⟨rfl, hbB⟩
      have HIB := hide (HIA.out.below hbB HIA.out.lt)
      have HBB := hide (HBA.out.trans (hbB.mono HBA.out.size))
      clear hbB
      have HR0 := hide (HRUN.out wB (.slice la ll lc) L HBB.out (HL.out.below HBB.out))
      rw [← HXE.out] at HR0
      obtain ⟨vX, hvX⟩ : ∃ vX, vX = errV X := ⟨_, rfl⟩
      obtain ⟨vY, hvY⟩ : ∃ vY, vY = errV Y := ⟨_, rfl⟩
      rw [← hvX] at HR0
      have HVX := hide hvX
      have HVY := hide hvY
      clear hvX hvY
      go_wp2_with (first
        | (refine wpList_load_arr2 25 M w.heap.size rfl (.tmp 6) rfl rfl HIB.out Tryd.underlying25 size_dig HML.out ?_)
        | (go_at_call 8; refine HR0.out.mono ?_; rintro e wC ⟨rfl, hbC⟩))
      have HIC := hide (HIB.out.below hbC HIB.out.lt)
      have HBC := hide (HBB.out.trans (hbC.mono HBB.out.size))
      clear hbC
      have HR1 : Hid (∀ W v, Below wC.heap.size wC W → OwnOps W wC.heap.size v ([((⟨4, 0, []⟩ : Lk.Op), Value.slice none 0 0), ((⟨4, 0, []⟩ : Lk.Op), Value.slice none 0 0)] ++ L) → Calls Tryd.prog 8 #[v, .slice (some ⟨kb, koff, none⟩) kl kc, .agg M.toArray, .int .i64 h] W fun e w' => e = .returned (vX) ∧ Below W.heap.size W w') := hide (fun W v hW hO => by
        have hbw := HBC.out.trans (hW.mono HBC.out.size)
        have := HRUN.out W v ([((⟨4, 0, []⟩ : Lk.Op), Value.slice none 0 0), ((⟨4, 0, []⟩ : Lk.Op), Value.slice none 0 0)] ++ L) hbw (hO.hasOps (fun p hp => by
          rcases List.mem_append.1 hp with hp | hp
          · simp only [List.mem_cons, List.not_mem_nil, or_false] at hp
            rcases hp with rfl | rfl
            · exact ⟨.inl ⟨none, 0, rfl, rfl, by unfold maxLen; omega, fun _ => rfl⟩, Sz.Byt.nil⟩
            · exact ⟨.inl ⟨none, 0, rfl, rfl, by unfold maxLen; omega, fun _ => rfl⟩, Sz.Byt.nil⟩
          · exact (HL.out.below hbw).2 p hp))
        rw [show opsOf ([((⟨4, 0, []⟩ : Lk.Op), Value.slice none 0 0), ((⟨4, 0, []⟩ : Lk.Op), Value.slice none 0 0)] ++ L) = (⟨4, 0, []⟩ : Lk.Op) :: ⟨4, 0, []⟩ :: opsOf L from rfl, HSW1.out, ← HVX.out] at this
        exact this)
      refine wp_region_held_drew (S := fun W : World => Below wC.heap.size wC W) (by kernel_rfl) ?_ (fun hHeld0 => ?_)
      · exact (Below.refl _ _).drew
      refine wpAnyH_take (i := 0) (v := ?_) rfl (by kernel_rfl) (by kernel_rfl) (by kernel_rfl) (fun _ _ _ h => h) (Or.inl ⟨by rfl, ?_⟩) hHeld0 ?_
      rotate_left
      · (intro w hSw; (try dsimp only at hSw); go_simp <;> (try with_reducible rfl))
      simp only [Act.put, List.getElem_toArray, List.getElem_cons_zero, List.getElem_cons_succ, List.setIfInBounds_toArray, List.set_cons_zero, List.set_cons_succ]
      refine wpAnyH_take (i := 1) (v := ?_) rfl (by kernel_rfl) (by kernel_rfl) (by kernel_rfl) (fun _ _ _ h => h) (Or.inl ⟨by rfl, ?_⟩) hHeld0 ?_
      rotate_left
      · (intro w hSw; (try dsimp only at hSw); go_simp <;> (try with_reducible rfl))
      simp only [Act.put, List.getElem_toArray, List.getElem_cons_zero, List.getElem_cons_succ, List.setIfInBounds_toArray, List.set_cons_zero, List.set_cons_succ]
      refine wpAnyH_take (i := 3) (v := ?_) rfl (by kernel_rfl) (by kernel_rfl) (by kernel_rfl) (fun _ _ _ h => h) (Or.inl ⟨by rfl, ?_⟩) hHeld0 ?_
      rotate_left
      · (intro w hSw; (try dsimp only at hSw); go_simp <;> (try with_reducible rfl))
      simp only [Act.put, List.getElem_toArray, List.getElem_cons_zero, List.getElem_cons_succ, List.setIfInBounds_toArray, List.set_cons_zero, List.set_cons_succ]
      refine wpAnyH_take (i := 5) (v := ?_) rfl (by kernel_rfl) (by kernel_rfl) (by kernel_rfl) (fun _ _ _ h => h) (Or.inl ⟨by rfl, ?_⟩) hHeld0 ?_
      rotate_left
      · (intro w hSw; (try dsimp only at hSw); go_simp <;> (try with_reducible rfl))
      simp only [Act.put, List.getElem_toArray, List.getElem_cons_zero, List.getElem_cons_succ, List.setIfInBounds_toArray, List.set_cons_zero, List.set_cons_succ]
      refine wpAnyH_take (i := 6) (v := .agg (M).toArray) rfl (by kernel_rfl) (by kernel_rfl) (by kernel_rfl) (fun _ _ _ h => h) (yieldsIf_load_mid (by rfl) _ _ rfl _ _ rfl (M) _ (fun w hSw => range_below HIC.out.range hSw) Tryd.underlying25 rfl hszM) hHeld0 ?_
      simp only [Act.put, List.getElem_toArray, List.getElem_cons_zero, List.getElem_cons_succ, List.setIfInBounds_toArray, List.set_cons_zero, List.set_cons_succ]
      refine wpAnyH_take (i := 7) (v := ?_) rfl (by kernel_rfl) (by kernel_rfl) (by kernel_rfl) (fun _ _ _ h => h) (Or.inl ⟨by rfl, ?_⟩) hHeld0 ?_
      rotate_left
      · (intro w hSw; (try dsimp only at hSw); go_simp <;> (try with_reducible rfl))
      simp only [Act.put, List.getElem_toArray, List.getElem_cons_zero, List.getElem_cons_succ, List.setIfInBounds_toArray, List.set_cons_zero, List.set_cons_succ]
      refine wpAnyH_ready (rs := [2]) (by kernel_rfl) (by simp) ?_
      refine AllReadyH.cons rfl (fun K hK => ?_) AllReadyH.nil
      go_simp
      refine hK.out _ _ (by exact ((Below.refl _ _).alloc (Nat.le_refl _) _).drew) (fun hHeld1 => ?_)
      clear hK K hHeld0
      try simp only [Act.put, List.getElem_toArray, List.getElem_cons_zero, List.getElem_cons_succ, List.setIfInBounds_toArray, List.set_cons_zero, List.set_cons_succ]
      refine wpAnyH_ready (rs := [4]) (by kernel_rfl) (by simp) ?_
      refine AllReadyH.cons rfl (fun K hK => ?_) AllReadyH.nil
      refine step_append_of (AppOps wC _ wC.heap.size _ ([((⟨4, 0, []⟩ : Lk.Op), Value.slice none 0 0), ((⟨4, 0, []⟩ : Lk.Op), Value.slice none 0 0)] ++ L)) rfl (.tmp 43) (.tmp 44) rfl _ _ rfl rfl (fun ty => run_append_ops wC _ wC.heap.size _ _ ([((⟨4, 0, []⟩ : Lk.Op), Value.slice none 0 0), ((⟨4, 0, []⟩ : Lk.Op), Value.slice none 0 0)]) L (Nat.le_refl _) hHeld1 hHeld1.size (OwnOps.lit wC wC.heap.size ([((⟨4, 0, []⟩ : Lk.Op), Value.slice none 0 0), ((⟨4, 0, []⟩ : Lk.Op), Value.slice none 0 0)]) (Nat.le_refl _) (by simp) _ rfl) (HL.out.below (HBC.out.trans (hHeld1.mono HBC.out.size))).src HL.out.formed (by have := HL1.out; simp; omega) ty) ?_
      intro va1 wa1 ha1
      refine hK.out _ _ (by exact ha1.2.1) (fun hHeld2 => ?_)
      clear hK K hHeld1
      try simp only [Act.put, List.getElem_toArray, List.getElem_cons_zero, List.getElem_cons_succ, List.setIfInBounds_toArray, List.set_cons_zero, List.set_cons_succ]
      refine wpAnyH_ready (rs := [8]) (by kernel_rfl) (by simp) ?_
      refine AllReadyH.cons rfl (fun K hK => ?_) AllReadyH.nil
      go_simp
      go_wp2_with ((go_at_call 8; refine (HR1.out _ _ hHeld2 ha1.1).mono ?_; rintro e wx1 ⟨rfl, hbx1⟩))
      refine hK.out _ _ (by exact below_step hHeld2 hbx1) (fun hHeld3 => ?_)
      clear hK K hHeld2
      try simp only [Act.put, List.getElem_toArray, List.getElem_cons_zero, List.getElem_cons_succ, List.setIfInBounds_toArray, List.set_cons_zero, List.set_cons_succ]
      refine wpAnyH_take (i := 9) (v := ?_) rfl (by kernel_rfl) (by kernel_rfl) (by kernel_rfl) (fun _ _ _ h => h) (Or.inl ⟨by rfl, ?_⟩) hHeld3 ?_
      rotate_left
      · (intro w hSw; (try dsimp only at hSw); go_simp <;> (try with_reducible rfl))
      simp only [Act.put, List.getElem_toArray, List.getElem_cons_zero, List.getElem_cons_succ, List.setIfInBounds_toArray, List.set_cons_zero, List.set_cons_succ]
      refine wpAnyH_done (by kernel_rfl) ?_ _
      have HID := hide (HIC.out.below hHeld3 HIC.out.lt)
      have HBD := hide (HBC.out.trans (hHeld3.mono HBC.out.size))
      clear HR1
      obtain ⟨wD, hwD⟩ : ∃ wD, wD = wx1 := ⟨_, rfl⟩
      rw [← hwD] at HID HBD ⊢
      clear hwD
      go_wp2_with (first
        | (at_builtin; refine wpList_append_of (fun v' W' => OwnKeys W' wD.heap.size v' KS ∧ Below wD.heap.size (wD.alloc (.cells #[] 31)) W') rfl (.tmp 50) (.tmp 51) rfl (.slice (some ⟨wD.heap.size, 0, none⟩) 0 0) (.slice (some ⟨kb, koff, none⟩) kl kc) rfl rfl (fun ty => by rw [← HKL1.out]; exact run_append_keys _ wD.heap.size _ ⟨kb, koff, none⟩ kc KS (by simp) (OwnKeys.none wD wD.heap.size (Nat.le_refl _)) (fun j u hu => by rw [Addr.add_lit]; exact range_keep HKR.out (HBD.out.alloc HBD.out.size _) HCP.out.1 j u hu) HK.out.formed (by rw [HKL1.out]; exact HK24.out) ty) ?_; intro v13 wE hE13; obtain ⟨g, gcap, hge, hg1, hg2, hg3, hg4, hgr⟩ := owns_some hE13.1 (by rw [HKL1.out]; omega); rw [HKL1.out] at hge hg3; subst hge; have hcg1 : wE.cell? ⟨g, n1, none⟩ = some (.slice qa ql qc) := (by have := hgr n1 q.2 (by rw [HKS.out, HN1.out]; simp); rw [Nat.zero_add, HQE.out] at this; exact this); have hcg2 : wE.cell? ⟨g, n2, none⟩ = some (.slice pa pl pc) := (by have := hgr n2 p.2 (by rw [HKS.out, HN2.out]; simp); rw [Nat.zero_add, HPE.out] at this; exact this); have hfg : ∀ j, wE.frozen? ⟨g, j, none⟩ = false := (fun j => World.ownsRow.frozenAt (by rw [← HKL1.out] at hE13; exact hE13.1) j); have hBE : Below w.heap.size w wE := (HBD.out.alloc HBD.out.size _).trans (hE13.2.mono HBD.out.size); have hcp : wE.cell? ⟨kb, koff + n2, none⟩ = some (.slice pa pl pc) := (by rw [hBE.cell (p := ⟨kb, koff + n2, none⟩) HCP.out.1]; exact HCP.out.2.1); have hcq : wE.cell? ⟨kb, koff + n1, none⟩ = some (.slice qa ql qc) := (by rw [hBE.cell (p := ⟨kb, koff + n1, none⟩) HCP.out.1]; exact HCP.out.2.2); have hgne : ¬ g = kb := (by have := HCP.out.1; have := HBD.out.size; omega)))
      obtain ⟨wF, hwF⟩ : ∃ wF, wF = (wE.setCell ⟨g, n1, none⟩ (.slice pa pl pc)).setCell ⟨g, n2, none⟩ (.slice qa ql qc) := ⟨_, rfl⟩
      have HOF : Hid (OwnKeys wF wD.heap.size (.slice (some ⟨g, 0, none⟩) kl gcap) (K0 ++ [q, p])) := by
        have h0 := hE13.1
        unfold OwnKeys at h0
        rw [HKL1.out] at h0
        have h1 := (World.ownsRow.stored h0 n1 (.slice pa pl pc)).1
        have h2 := (World.ownsRow.stored h1 n2 (.slice qa ql qc)).1
        have e1 : (K0 ++ [q, p]).length = kl := by rw [HKLE.out]; simp
        have e2 : ((KS.map Prod.snd).set n1 (.slice pa pl pc)).set n2 (.slice qa ql qc) = (K0 ++ [q, p]).map Prod.snd := by
          rw [HKS.out, HN1.out, HN2.out, ← HPE.out, ← HQE.out]
          have e3 : (K0 ++ [p, q]).map Prod.snd = K0.map Prod.snd ++ [p.2, q.2] := by simp
          have e4 : (K0.map Prod.snd).length = K0.length := by simp
          rw [e3, List.set_append_right _ _ (by rw [e4]; omega), List.set_append_right _ _ (by rw [e4]; omega), e4]
          simp
        rw [e2] at h2
        unfold OwnKeys
        rw [e1, hwF]
        exact h2
      have hgw : ¬ g = w.heap.size := by have := HID.out.lt; omega
      have HBF : Hid (Below w.heap.size w wF) := by
        rw [hwF]
        exact (hBE.setCell (by have := HBD.out.size; show _ ≤ g; omega) _).setCell (by have := HBD.out.size; show _ ≤ g; omega) _
      have HIF : Hid (Is wF w.heap.size M 25) := by
        rw [hwF]
        exact ((HID.out.below ((below_alloc wD _).trans hE13.2) HID.out.lt).other _ _ hgw).other _ _ hgw
      rw [← hwF]
      clear hwF hE13 hcg1 hcg2 hfg hBE hcp hcq hgne hgr
      have HR2 : Hid (∀ W v, Below wF.heap.size wF W → OwnOps W wF.heap.size v ([((⟨4, 0, []⟩ : Lk.Op), Value.slice none 0 0)] ++ L) → Calls Tryd.prog 8 #[v, .slice (some ⟨kb, koff, none⟩) kl kc, .agg M.toArray, .int .i64 h] W fun e w' => e = .returned (vY) ∧ Below W.heap.size W w') := hide (fun W v hW hO => by
        have hbw := HBF.out.trans (hW.mono HBF.out.size)
        have := HRUN.out W v ([((⟨4, 0, []⟩ : Lk.Op), Value.slice none 0 0)] ++ L) hbw (hO.hasOps (fun p hp => by
          rcases List.mem_append.1 hp with hp | hp
          · simp only [List.mem_cons, List.not_mem_nil, or_false] at hp
            subst hp
            exact ⟨.inl ⟨none, 0, rfl, rfl, by unfold maxLen; omega, fun _ => rfl⟩, Sz.Byt.nil⟩
          · exact (HL.out.below hbw).2 p hp))
        rw [show opsOf ([((⟨4, 0, []⟩ : Lk.Op), Value.slice none 0 0)] ++ L) = (⟨4, 0, []⟩ : Lk.Op) :: opsOf L from rfl, HSW2.out, ← HVY.out] at this
        exact this)
      refine wp_region_held_drew (S := fun W : World => Below wF.heap.size wF W) (by kernel_rfl) ?_ (fun hHeld0 => ?_)
      · exact (Below.refl _ _).drew
      refine wpAnyH_take (i := 0) (v := ?_) rfl (by kernel_rfl) (by kernel_rfl) (by kernel_rfl) (fun _ _ _ h => h) (Or.inl ⟨by rfl, ?_⟩) hHeld0 ?_
      rotate_left
      · (intro w hSw; (try dsimp only at hSw); go_simp <;> (try with_reducible rfl))
      simp only [Act.put, List.getElem_toArray, List.getElem_cons_zero, List.getElem_cons_succ, List.setIfInBounds_toArray, List.set_cons_zero, List.set_cons_succ]
      refine wpAnyH_take (i := 2) (v := ?_) rfl (by kernel_rfl) (by kernel_rfl) (by kernel_rfl) (fun _ _ _ h => h) (Or.inl ⟨by rfl, ?_⟩) hHeld0 ?_
      rotate_left
      · (intro w hSw; (try dsimp only at hSw); go_simp <;> (try with_reducible rfl))
      simp only [Act.put, List.getElem_toArray, List.getElem_cons_zero, List.getElem_cons_succ, List.setIfInBounds_toArray, List.set_cons_zero, List.set_cons_succ]
      refine wpAnyH_take (i := 4) (v := ?_) rfl (by kernel_rfl) (by kernel_rfl) (by kernel_rfl) (fun _ _ _ h => h) (Or.inl ⟨by rfl, ?_⟩) hHeld0 ?_
      rotate_left
      · (intro w hSw; (try dsimp only at hSw); go_simp <;> (try with_reducible rfl))
      simp only [Act.put, List.getElem_toArray, List.getElem_cons_zero, List.getElem_cons_succ, List.setIfInBounds_toArray, List.set_cons_zero, List.set_cons_succ]
      refine wpAnyH_take (i := 5) (v := .agg (M).toArray) rfl (by kernel_rfl) (by kernel_rfl) (by kernel_rfl) (fun _ _ _ h => h) (yieldsIf_load_mid (by rfl) _ _ rfl _ _ rfl (M) _ (fun w hSw => range_below HIF.out.range hSw) Tryd.underlying25 rfl hszM) hHeld0 ?_
      simp only [Act.put, List.getElem_toArray, List.getElem_cons_zero, List.getElem_cons_succ, List.setIfInBounds_toArray, List.set_cons_zero, List.set_cons_succ]
      refine wpAnyH_take (i := 6) (v := ?_) rfl (by kernel_rfl) (by kernel_rfl) (by kernel_rfl) (fun _ _ _ h => h) (Or.inl ⟨by rfl, ?_⟩) hHeld0 ?_
      rotate_left
      · (intro w hSw; (try dsimp only at hSw); go_simp <;> (try with_reducible rfl))
      simp only [Act.put, List.getElem_toArray, List.getElem_cons_zero, List.getElem_cons_succ, List.setIfInBounds_toArray, List.set_cons_zero, List.set_cons_succ]
      refine wpAnyH_ready (rs := [1]) (by kernel_rfl) (by simp) ?_
      refine AllReadyH.cons rfl (fun K hK => ?_) AllReadyH.nil
      go_simp
      refine hK.out _ _ (by exact ((Below.refl _ _).alloc (Nat.le_refl _) _).drew) (fun hHeld1 => ?_)
      clear hK K hHeld0
      try simp only [Act.put, List.getElem_toArray, List.getElem_cons_zero, List.getElem_cons_succ, List.setIfInBounds_toArray, List.set_cons_zero, List.set_cons_succ]
      refine wpAnyH_ready (rs := [3]) (by kernel_rfl) (by simp) ?_
      refine AllReadyH.cons rfl (fun K hK => ?_) AllReadyH.nil
      refine step_append_of (AppOps wF _ wF.heap.size _ ([((⟨4, 0, []⟩ : Lk.Op), Value.slice none 0 0)] ++ L)) rfl (.tmp 72) (.tmp 73) rfl _ _ rfl rfl (fun ty => run_append_ops wF _ wF.heap.size _ _ ([((⟨4, 0, []⟩ : Lk.Op), Value.slice none 0 0)]) L (Nat.le_refl _) hHeld1 hHeld1.size (OwnOps.lit wF wF.heap.size ([((⟨4, 0, []⟩ : Lk.Op), Value.slice none 0 0)]) (Nat.le_refl _) (by simp) _ rfl) (HL.out.below (HBF.out.trans (hHeld1.mono HBF.out.size))).src HL.out.formed (by have := HL1.out; simp; omega) ty) ?_
      intro va2 wa2 ha2
      refine hK.out _ _ (by exact ha2.2.1) (fun hHeld2 => ?_)
      clear hK K hHeld1
      try simp only [Act.put, List.getElem_toArray, List.getElem_cons_zero, List.getElem_cons_succ, List.setIfInBounds_toArray, List.set_cons_zero, List.set_cons_succ]
      refine wpAnyH_ready (rs := [7]) (by kernel_rfl) (by simp) ?_
      refine AllReadyH.cons rfl (fun K hK => ?_) AllReadyH.nil
      go_simp
      go_wp2_with ((go_at_call 8; refine (HR2.out _ _ hHeld2 ha2.1).mono ?_; rintro e wx2 ⟨rfl, hbx2⟩))
      refine hK.out _ _ (by exact below_step hHeld2 hbx2) (fun hHeld3 => ?_)
      clear hK K hHeld2
      try simp only [Act.put, List.getElem_toArray, List.getElem_cons_zero, List.getElem_cons_succ, List.setIfInBounds_toArray, List.set_cons_zero, List.set_cons_succ]
      refine wpAnyH_take (i := 8) (v := ?_) rfl (by kernel_rfl) (by kernel_rfl) (by kernel_rfl) (fun _ _ _ h => h) (Or.inl ⟨by rfl, ?_⟩) hHeld3 ?_
      rotate_left
      · (intro w hSw; (try dsimp only at hSw); go_simp <;> (try with_reducible rfl))
      simp only [Act.put, List.getElem_toArray, List.getElem_cons_zero, List.getElem_cons_succ, List.setIfInBounds_toArray, List.set_cons_zero, List.set_cons_succ]
      refine wpAnyH_done (by kernel_rfl) ?_ _
      have HIG := hide (HIF.out.below hHeld3 HIF.out.lt)
      have HBG := hide (HBF.out.trans (hHeld3.mono HBF.out.size))
      have HR3 := hide (HRK.out _ (.slice la ll lc) L (.slice (some ⟨g, 0, none⟩) kl gcap) (K0 ++ [q, p]) HBG.out (HL.out.below HBG.out) ((HOF.out.hasKeys (fun r hr => by
        have hr2 : r ∈ KS := by rw [HKS.out]; simp only [List.mem_append, List.mem_cons, List.not_mem_nil, or_false] at hr ⊢; rcases hr with hr | hr | hr <;> simp [hr]
        exact ⟨(HK.out.2 r hr2).1.below HBF.out, (HK.out.2 r hr2).2⟩) (by simp)).below hHeld3))
      rw [← HYE.out, ← HVY.out] at HR3
      clear HR2
      go_wp2_with (first
        | (refine wpList_load_arr2 25 M w.heap.size rfl (.tmp 6) rfl rfl HIG.out Tryd.underlying25 size_dig HML.out ?_)
        | (go_at_call 8; refine HR3.out.mono ?_; rintro e wH ⟨rfl, hbH⟩))
      have HBH := hide (HBG.out.trans (hbH.mono HBG.out.size))
      have HT1 := hide (HTD.out _ X X HBH.out)
      rw [beq_self_eq_true, ← HVX.out] at HT1
      clear hbH
      go_wp2_with fail
      refine HT1.out.mono ?_
      rintro e wI ⟨rfl, hbI⟩
      have HBI := hide (HBH.out.trans (hbI.mono HBH.out.size))
      have HT2 := hide (HTD.out _ Y Y HBI.out)
      rw [beq_self_eq_true, ← HVY.out] at HT2
      clear hbI
      go_wp2_with fail
      refine HT2.out.mono ?_
      rintro e wJ ⟨rfl, hbJ⟩
      have HBJ := hide (HBI.out.trans (hbJ.mono HBI.out.size))
      clear hbJ
      go_wp2
      go_ret
      exact ⟨rfl, HBJ.out⟩
      
    · have hcs : ¬ L.length + 2 ≤ 60 ∨ (L.length + 2 ≤ 60 ∧ ¬ 2 ≤ KS.length) := by omega
      clear hlen
      rcases hcs with a1 | ⟨a1, a2⟩
      · have hi1 : decide ((60 : Int) < (L.length : Int) + 2) = true := decide_eq_true (by omega)
        clear a1
        generalize L.length = ll at *
        generalize KS.length = kl at *
        go_wp2_with fail
        refine HC1.out.mono ?_
        rintro e wB ⟨rfl, hbB⟩
        have HBB := hide (HBA.out.trans (hbB.mono HBA.out.size))
        clear hbB
        go_wp2
        go_ret
        exact ⟨rfl, HBB.out⟩
      · have hi1 : decide ((60 : Int) < (L.length : Int) + 2) = false := decide_eq_false (by omega)
        have hi2 : decide ((KS.length : Int) < 2) = true := decide_eq_true (by omega)
        clear a1 a2
        generalize L.length = ll at *
        generalize KS.length = kl at *
        go_wp2_with fail
        refine HC1.out.mono ?_
        rintro e wB ⟨rfl, hbB⟩
        have HBB := hide (HBA.out.trans (hbB.mono HBA.out.size))
        clear hbB
        go_wp2
        go_ret
        exact ⟨rfl, HBB.out⟩
  · have hcv : errV c = .iface 38 (.int .i64 c) := by unfold errV; rw [if_neg hc0]
    rw [hcv] at HC1
    clear hcv hc0
    generalize L.length = ll at *
    generalize KS.length = kl at *
    go_wp2_with fail
    refine HC1.out.mono ?_
    rintro e wB ⟨rfl, hbB⟩
    have HBB := hide (HBA.out.trans (hbB.mono HBA.out.size))
    clear hbB
    go_wp2
    go_ret
    exact ⟨rfl, HBB.out⟩
end Go.Proofs.YtkdihbgjeanjdabDoor
