/- The walk of LockAfter: later is no worse. -/
import Derived.Test.YtkdihbgjeanjdaaDoorLkFact
namespace Go.Proofs.YtkdihbgjeanjdaaDoor
open Go.RowKit
set_option linter.unusedVariables false
set_option linter.unusedSimpArgs false

set_option maxRecDepth 100000 in
set_option maxHeartbeats 8000000 in
theorem lockAfter_walk (lv : Value) (L : List (Lk.Op × Value)) (kv : Value) (KS : List (List Int × Value)) (m : List Int) (h lt n : Int) (w : World) (hl : HasOps w lv L) (hk : HasKeys w kv KS) (hkl24 : KS.length * 24 ≤ 140737488351232) (hm : m.length = 32) (hmb : Sz.Byt m) (ht : Tab w) (hw : 1 < w.heap.size) (hE : ErrVar w) :
    Calls Tryd.prog 8 #[lv, kv, .agg (vals m).toArray, .int .i64 h, .int .i64 lt, .int .i64 n] w fun e w' => e = .returned (.bool true) ∧ Below w.heap.size w w' := by
  obtain ⟨la, lc, rfl⟩ : ∃ a c, lv = .slice a L.length c := by
    rcases hl.1 with ⟨a, cap, rfl, rfl⟩ | ⟨b, off, cap, rfl, _⟩
    · exact ⟨a, cap, rfl⟩
    · exact ⟨_, cap, rfl⟩
  have hLm := hl.length_le
  obtain ⟨ka, kc, rfl, hkcm, hKm, hkrng⟩ := hk.form
  have HKRNG := hide hkrng
  unfold maxLen at hLm hKm
  have hML : (vals m).length = 32 := by rw [vals_length]; exact hm
  have HML := hide hML
  have hb0 := below_alloc w (.cells (vals m).toArray 25)
  have HB0 := hide hb0
  have HOP := hide (opened_any _ (ht.below hb0 hw) (Nat.lt_of_lt_of_le hw hb0.size) (hE.below hb0))
  have HIS := hide (Is.new w (vals m) 25)
  have hszM : (Tryd.prog.info? 25).map (·.size) = some (vals m).length := by rw [hML]; exact size_dig
  have HCK : Hid (∀ W, Below w.heap.size w W → Calls Tryd.prog 10 #[.slice la L.length lc] W fun e w' => e = .returned (errV (Lk.check (opsOf L))) ∧ Below W.heap.size W w') := fun W hW => check_any _ L W (hl.below hW)
  have HRUN : Hid (∀ W ov O hh, Below w.heap.size w W → HasOps W ov O → Calls Tryd.prog 12 #[ov, .slice ka KS.length kc, .agg (vals m).toArray, .int .i64 hh] W fun e w' => e = .returned (errV (Lk.run m hh (opsOf O) (KS.map Prod.fst))) ∧ Below W.heap.size W w') := fun W ov O hh hW hO => run_any O KS ov _ m hh W hO (hk.below hW) hm hmb (ht.below hW hw) (Nat.lt_of_lt_of_le hw hW.size)
  have HL := hide hl
  have HK := hide hk
  have HK24 := hide hkl24
  have HKL : Hid ((KS.map Prod.fst).length = KS.length) := hide (List.length_map _)
  clear hl hk hm hmb ht hw hE hML hb0 hkl24 hkrng
  generalize vals m = M at *
  obtain ⟨c, hc⟩ : ∃ c, c = Lk.check (opsOf L) := ⟨_, rfl⟩
  rw [← hc] at HCK
  have HC := hide hc
  clear hc
  have HLL := hide (opsOf_length L)
  obtain ⟨X1, hX1⟩ : ∃ X, X = Lk.run m h (opsOf L) (KS.map Prod.fst) := ⟨_, rfl⟩
  obtain ⟨X2, hX2⟩ : ∃ X, X = Lk.run m lt (opsOf L) (KS.map Prod.fst) := ⟨_, rfl⟩
  have HX1 := hide hX1
  have HX2 := hide hX2
  clear hX1 hX2
  go_enter Tryd.func8, Tryd.ntmps8
  go_wp2_with fail
  refine HOP.out.mono ?_
  rintro e wA ⟨rfl, hbA⟩
  have HIA := hide (HIS.out.below hbA (by simp))
  have HBA := hide (HB0.out.trans (hbA.mono (by simp)))
  clear hbA
  by_cases hlh : lt < h
  · generalize L.length = ll at *
    generalize KS.length = kl at *
    go_wp2
    go_ret
    exact ⟨rfl, HBA.out⟩
  · have hlh' : ¬ lt < h := hlh
    by_cases z2 : X2 = 0
    · have q2 : errV X2 = .nilIface := by rw [z2]; rfl
      by_cases z1 : X1 = 0
      · have q1 : errV X1 = .nilIface := by rw [z1]; rfl
        have HR1 := hide (HRUN.out wA (.slice la L.length lc) L h HBA.out (HL.out.below HBA.out))
        rw [← HX1.out, q1] at HR1
        go_wp2_with (refine wpList_load_arr2 25 M w.heap.size rfl (.tmp 8) rfl rfl HIA.out Tryd.underlying25 size_dig HML.out ?_)
        refine HR1.out.mono ?_
        rintro e wB ⟨rfl, hbB⟩
        have HIB := hide (HIA.out.below hbB HIA.out.lt)
        have HBB := hide (HBA.out.trans (hbB.mono HBA.out.size))
        clear hbB HR1
        have HR2 := hide (HRUN.out wB (.slice la L.length lc) L lt HBB.out (HL.out.below HBB.out))
        rw [← HX2.out, q2] at HR2
        go_wp2_with (refine wpList_load_arr2 25 M w.heap.size rfl (.tmp 8) rfl rfl HIB.out Tryd.underlying25 size_dig HML.out ?_)
        refine HR2.out.mono ?_
        rintro e wC ⟨rfl, hbC⟩
        have HIC := hide (HIB.out.below hbC HIB.out.lt)
        have HBC := hide (HBB.out.trans (hbC.mono HBB.out.size))
        clear hbC HR2
        have HC1 := hide (HCK.out _ HBC.out)
        by_cases hc0 : c = 0
        · subst hc0
          have e0 : errV 0 = .nilIface := rfl
          rw [e0] at HC1
          clear e0
          have hl60 : L.length ≤ 60 := by have := ((Lk.check_zero _).1 HC.out.symm).1; rw [HLL.out] at this; exact this
          by_cases hlen : L.length < 60 ∧ 0 ≤ n ∧ n ≤ 1073741824
          · obtain ⟨a1, a2, a3⟩ := hlen
            have hi1 : decide ((60 : Int) ≤ (L.length : Int)) = false := decide_eq_false (by omega)
            have hi2 : decide (n < 0) = false := decide_eq_false (by omega)
            have hi3 : decide ((1073741824 : Int) < n) = false := decide_eq_false (by omega)
            have hlaw := Lk.law_after m lt (opsOf L) (KS.map Prod.fst) n HC.out.symm (by rw [HLL.out]; exact a1) a2 a3
            have HFM : Hid (∀ W, Below w.heap.size w W → ∀ r ∈ [((⟨10, n, []⟩ : Lk.Op), Value.slice none 0 0)] ++ L, Has W r.2 r.1.data ∧ Sz.Byt r.1.data) := hide (fun W hW r hr => by
              rcases List.mem_append.1 hr with hr | hr
              · simp only [List.mem_cons, List.not_mem_nil, or_false] at hr; subst hr; exact ⟨.inl ⟨none, 0, rfl, rfl, by unfold maxLen; omega, fun _ => rfl⟩, Sz.Byt.nil⟩
              · exact (HL.out.below hW).2 r hr)
            obtain ⟨X3, hX3⟩ : ∃ X, X = Lk.run m lt (opsOf ([((⟨10, n, []⟩ : Lk.Op), Value.slice none 0 0)] ++ L)) (KS.map Prod.fst) := ⟨_, rfl⟩
            have e3 : opsOf ([((⟨10, n, []⟩ : Lk.Op), Value.slice none 0 0)] ++ L) = (⟨10, n, []⟩ : Lk.Op) :: opsOf L := rfl
            rw [← e3, ← hX3, ← HX2.out] at hlaw
            have HX3 := hide hX3
            have HLAW := hide hlaw
            have HR3 : Hid (∀ W v b, Below w.heap.size w W → OwnOps W b v ([((⟨10, n, []⟩ : Lk.Op), Value.slice none 0 0)] ++ L) → Calls Tryd.prog 12 #[v, .slice ka KS.length kc, .agg M.toArray, .int .i64 lt] W fun e w' => e = .returned (errV X3) ∧ Below W.heap.size W w') := hide (fun W v b hW hO => by
              have := HRUN.out W v ([((⟨10, n, []⟩ : Lk.Op), Value.slice none 0 0)] ++ L) lt hW (hO.hasOps (HFM.out W hW))
              rw [← HX3.out] at this
              exact this)
            clear hX3 e3 hlaw
            generalize hll : L.length = ll at *
            have HL1 := hide hll
            clear hll
            generalize KS.length = kl at *
            go_wp2_with fail
            refine HC1.out.mono ?_
            rintro e wD ⟨rfl, hbD⟩
            have HID := hide (HIC.out.below hbD HIC.out.lt)
            have HBD := hide (HBC.out.trans (hbD.mono HBC.out.size))
            clear hbD hi1 hi2 hi3
            go_wp2_with (first
              | (at_builtin; refine wpList_append_of (AppOps wD _ wD.heap.size _ ([((⟨10, n, []⟩ : Lk.Op), Value.slice none 0 0)] ++ L)) rfl (.tmp 59) (.tmp 60) rfl (.slice (some ⟨wD.heap.size, 0, none⟩) 1 1) (.slice la ll lc) rfl rfl (fun ty => run_append_ops wD _ wD.heap.size _ _ [((⟨10, n, []⟩ : Lk.Op), Value.slice none 0 0)] L (Nat.le_refl _) (below_alloc wD _) (by simp) (OwnOps.lit wD wD.heap.size [((⟨10, n, []⟩ : Lk.Op), Value.slice none 0 0)] (Nat.le_refl _) (by simp) _ rfl) (HL.out.below (HBD.out.alloc HBD.out.size _)).src HL.out.formed (by have := HL1.out; simp; omega) ty) ?_; intro v61 wP hP; have HIP := hide (HID.out.below hP.2.1 HID.out.lt); have HBP := hide (HBD.out.trans (hP.2.1.mono HBD.out.size)))
              | (refine wpList_load_arr2 25 M w.heap.size rfl (.tmp 8) rfl rfl HIP.out Tryd.underlying25 size_dig HML.out ?_))
            have HR4 := hide (HR3.out _ _ _ HBP.out hP.1)
            clear hP
            by_cases hnl : lt < n
            · have z3 : X3 ≠ 0 := HLAW.out.1 hnl
              have q3 : errV X3 = .iface 30 (.int .i64 X3) := by unfold errV; rw [if_neg z3]
              rw [q3] at HR4
              clear q3 z3 HLAW HR3
              refine HR4.out.mono ?_
              rintro e wQ ⟨rfl, hbQ⟩
              have HBQ := hide (HBP.out.trans (hbQ.mono HBP.out.size))
              clear hbQ
              go_wp2
              go_ret
              exact ⟨rfl, HBQ.out⟩
            · have z3 : X3 = X2 := HLAW.out.2 (by omega)
              have hnl' : ¬ lt < n := hnl
              rw [z3, q2] at HR4
              clear z3 HLAW HR3 hnl
              refine HR4.out.mono ?_
              rintro e wQ ⟨rfl, hbQ⟩
              have HBQ := hide (HBP.out.trans (hbQ.mono HBP.out.size))
              clear hbQ
              go_wp2
              go_ret
              exact ⟨rfl, HBQ.out⟩
          · have hcs : ¬ L.length < 60 ∨ (L.length < 60 ∧ n < 0) ∨ (L.length < 60 ∧ ¬ n < 0 ∧ 1073741824 < n) := by omega
            clear hlen
            rcases hcs with a1 | ⟨a1, a2⟩ | ⟨a1, a2, a3⟩
            · have hi1 : decide ((60 : Int) ≤ (L.length : Int)) = true := decide_eq_true (by omega)
              clear a1
              generalize L.length = ll at *
              generalize KS.length = kl at *
              go_wp2_with fail
              refine HC1.out.mono ?_
              rintro e wD ⟨rfl, hbD⟩
              have HBD := hide (HBC.out.trans (hbD.mono HBC.out.size))
              clear hbD
              go_wp2
              go_ret
              exact ⟨rfl, HBD.out⟩
            · have hi1 : decide ((60 : Int) ≤ (L.length : Int)) = false := decide_eq_false (by omega)
              have hi2 : decide (n < 0) = true := decide_eq_true (by omega)
              clear a1 a2
              generalize L.length = ll at *
              generalize KS.length = kl at *
              go_wp2_with fail
              refine HC1.out.mono ?_
              rintro e wD ⟨rfl, hbD⟩
              have HBD := hide (HBC.out.trans (hbD.mono HBC.out.size))
              clear hbD
              go_wp2
              go_ret
              exact ⟨rfl, HBD.out⟩
            · have hi1 : decide ((60 : Int) ≤ (L.length : Int)) = false := decide_eq_false (by omega)
              have hi2 : decide (n < 0) = false := decide_eq_false (by omega)
              have hi3 : decide ((1073741824 : Int) < n) = true := decide_eq_true (by omega)
              clear a1 a2 a3
              generalize L.length = ll at *
              generalize KS.length = kl at *
              go_wp2_with fail
              refine HC1.out.mono ?_
              rintro e wD ⟨rfl, hbD⟩
              have HBD := hide (HBC.out.trans (hbD.mono HBC.out.size))
              clear hbD
              go_wp2
              go_ret
              exact ⟨rfl, HBD.out⟩
        · have hcv : errV c = .iface 30 (.int .i64 c) := by unfold errV; rw [if_neg hc0]
          rw [hcv] at HC1
          clear hcv hc0
          generalize L.length = ll at *
          generalize KS.length = kl at *
          go_wp2_with fail
          refine HC1.out.mono ?_
          rintro e wD ⟨rfl, hbD⟩
          have HBD := hide (HBC.out.trans (hbD.mono HBC.out.size))
          clear hbD
          go_wp2
          go_ret
          exact ⟨rfl, HBD.out⟩
      · have q1 : errV X1 = .iface 30 (.int .i64 X1) := by unfold errV; rw [if_neg z1]
        have HR1 := hide (HRUN.out wA (.slice la L.length lc) L h HBA.out (HL.out.below HBA.out))
        rw [← HX1.out, q1] at HR1
        go_wp2_with (refine wpList_load_arr2 25 M w.heap.size rfl (.tmp 8) rfl rfl HIA.out Tryd.underlying25 size_dig HML.out ?_)
        refine HR1.out.mono ?_
        rintro e wB ⟨rfl, hbB⟩
        have HIB := hide (HIA.out.below hbB HIA.out.lt)
        have HBB := hide (HBA.out.trans (hbB.mono HBA.out.size))
        clear hbB HR1
        have HR2 := hide (HRUN.out wB (.slice la L.length lc) L lt HBB.out (HL.out.below HBB.out))
        rw [← HX2.out, q2] at HR2
        go_wp2_with (refine wpList_load_arr2 25 M w.heap.size rfl (.tmp 8) rfl rfl HIB.out Tryd.underlying25 size_dig HML.out ?_)
        refine HR2.out.mono ?_
        rintro e wC ⟨rfl, hbC⟩
        have HIC := hide (HIB.out.below hbC HIB.out.lt)
        have HBC := hide (HBB.out.trans (hbC.mono HBB.out.size))
        clear hbC HR2
        have HC1 := hide (HCK.out _ HBC.out)
        by_cases hc0 : c = 0
        · subst hc0
          have e0 : errV 0 = .nilIface := rfl
          rw [e0] at HC1
          clear e0
          have hl60 : L.length ≤ 60 := by have := ((Lk.check_zero _).1 HC.out.symm).1; rw [HLL.out] at this; exact this
          by_cases hlen : L.length < 60 ∧ 0 ≤ n ∧ n ≤ 1073741824
          · obtain ⟨a1, a2, a3⟩ := hlen
            have hi1 : decide ((60 : Int) ≤ (L.length : Int)) = false := decide_eq_false (by omega)
            have hi2 : decide (n < 0) = false := decide_eq_false (by omega)
            have hi3 : decide ((1073741824 : Int) < n) = false := decide_eq_false (by omega)
            have hlaw := Lk.law_after m lt (opsOf L) (KS.map Prod.fst) n HC.out.symm (by rw [HLL.out]; exact a1) a2 a3
            have HFM : Hid (∀ W, Below w.heap.size w W → ∀ r ∈ [((⟨10, n, []⟩ : Lk.Op), Value.slice none 0 0)] ++ L, Has W r.2 r.1.data ∧ Sz.Byt r.1.data) := hide (fun W hW r hr => by
              rcases List.mem_append.1 hr with hr | hr
              · simp only [List.mem_cons, List.not_mem_nil, or_false] at hr; subst hr; exact ⟨.inl ⟨none, 0, rfl, rfl, by unfold maxLen; omega, fun _ => rfl⟩, Sz.Byt.nil⟩
              · exact (HL.out.below hW).2 r hr)
            obtain ⟨X3, hX3⟩ : ∃ X, X = Lk.run m lt (opsOf ([((⟨10, n, []⟩ : Lk.Op), Value.slice none 0 0)] ++ L)) (KS.map Prod.fst) := ⟨_, rfl⟩
            have e3 : opsOf ([((⟨10, n, []⟩ : Lk.Op), Value.slice none 0 0)] ++ L) = (⟨10, n, []⟩ : Lk.Op) :: opsOf L := rfl
            rw [← e3, ← hX3, ← HX2.out] at hlaw
            have HX3 := hide hX3
            have HLAW := hide hlaw
            have HR3 : Hid (∀ W v b, Below w.heap.size w W → OwnOps W b v ([((⟨10, n, []⟩ : Lk.Op), Value.slice none 0 0)] ++ L) → Calls Tryd.prog 12 #[v, .slice ka KS.length kc, .agg M.toArray, .int .i64 lt] W fun e w' => e = .returned (errV X3) ∧ Below W.heap.size W w') := hide (fun W v b hW hO => by
              have := HRUN.out W v ([((⟨10, n, []⟩ : Lk.Op), Value.slice none 0 0)] ++ L) lt hW (hO.hasOps (HFM.out W hW))
              rw [← HX3.out] at this
              exact this)
            clear hX3 e3 hlaw
            generalize hll : L.length = ll at *
            have HL1 := hide hll
            clear hll
            generalize KS.length = kl at *
            go_wp2_with fail
            refine HC1.out.mono ?_
            rintro e wD ⟨rfl, hbD⟩
            have HID := hide (HIC.out.below hbD HIC.out.lt)
            have HBD := hide (HBC.out.trans (hbD.mono HBC.out.size))
            clear hbD hi1 hi2 hi3
            go_wp2_with (first
              | (at_builtin; refine wpList_append_of (AppOps wD _ wD.heap.size _ ([((⟨10, n, []⟩ : Lk.Op), Value.slice none 0 0)] ++ L)) rfl (.tmp 59) (.tmp 60) rfl (.slice (some ⟨wD.heap.size, 0, none⟩) 1 1) (.slice la ll lc) rfl rfl (fun ty => run_append_ops wD _ wD.heap.size _ _ [((⟨10, n, []⟩ : Lk.Op), Value.slice none 0 0)] L (Nat.le_refl _) (below_alloc wD _) (by simp) (OwnOps.lit wD wD.heap.size [((⟨10, n, []⟩ : Lk.Op), Value.slice none 0 0)] (Nat.le_refl _) (by simp) _ rfl) (HL.out.below (HBD.out.alloc HBD.out.size _)).src HL.out.formed (by have := HL1.out; simp; omega) ty) ?_; intro v61 wP hP; have HIP := hide (HID.out.below hP.2.1 HID.out.lt); have HBP := hide (HBD.out.trans (hP.2.1.mono HBD.out.size)))
              | (refine wpList_load_arr2 25 M w.heap.size rfl (.tmp 8) rfl rfl HIP.out Tryd.underlying25 size_dig HML.out ?_))
            have HR4 := hide (HR3.out _ _ _ HBP.out hP.1)
            clear hP
            by_cases hnl : lt < n
            · have z3 : X3 ≠ 0 := HLAW.out.1 hnl
              have q3 : errV X3 = .iface 30 (.int .i64 X3) := by unfold errV; rw [if_neg z3]
              rw [q3] at HR4
              clear q3 z3 HLAW HR3
              refine HR4.out.mono ?_
              rintro e wQ ⟨rfl, hbQ⟩
              have HBQ := hide (HBP.out.trans (hbQ.mono HBP.out.size))
              clear hbQ
              go_wp2
              go_ret
              exact ⟨rfl, HBQ.out⟩
            · have z3 : X3 = X2 := HLAW.out.2 (by omega)
              have hnl' : ¬ lt < n := hnl
              rw [z3, q2] at HR4
              clear z3 HLAW HR3 hnl
              refine HR4.out.mono ?_
              rintro e wQ ⟨rfl, hbQ⟩
              have HBQ := hide (HBP.out.trans (hbQ.mono HBP.out.size))
              clear hbQ
              go_wp2
              go_ret
              exact ⟨rfl, HBQ.out⟩
          · have hcs : ¬ L.length < 60 ∨ (L.length < 60 ∧ n < 0) ∨ (L.length < 60 ∧ ¬ n < 0 ∧ 1073741824 < n) := by omega
            clear hlen
            rcases hcs with a1 | ⟨a1, a2⟩ | ⟨a1, a2, a3⟩
            · have hi1 : decide ((60 : Int) ≤ (L.length : Int)) = true := decide_eq_true (by omega)
              clear a1
              generalize L.length = ll at *
              generalize KS.length = kl at *
              go_wp2_with fail
              refine HC1.out.mono ?_
              rintro e wD ⟨rfl, hbD⟩
              have HBD := hide (HBC.out.trans (hbD.mono HBC.out.size))
              clear hbD
              go_wp2
              go_ret
              exact ⟨rfl, HBD.out⟩
            · have hi1 : decide ((60 : Int) ≤ (L.length : Int)) = false := decide_eq_false (by omega)
              have hi2 : decide (n < 0) = true := decide_eq_true (by omega)
              clear a1 a2
              generalize L.length = ll at *
              generalize KS.length = kl at *
              go_wp2_with fail
              refine HC1.out.mono ?_
              rintro e wD ⟨rfl, hbD⟩
              have HBD := hide (HBC.out.trans (hbD.mono HBC.out.size))
              clear hbD
              go_wp2
              go_ret
              exact ⟨rfl, HBD.out⟩
            · have hi1 : decide ((60 : Int) ≤ (L.length : Int)) = false := decide_eq_false (by omega)
              have hi2 : decide (n < 0) = false := decide_eq_false (by omega)
              have hi3 : decide ((1073741824 : Int) < n) = true := decide_eq_true (by omega)
              clear a1 a2 a3
              generalize L.length = ll at *
              generalize KS.length = kl at *
              go_wp2_with fail
              refine HC1.out.mono ?_
              rintro e wD ⟨rfl, hbD⟩
              have HBD := hide (HBC.out.trans (hbD.mono HBC.out.size))
              clear hbD
              go_wp2
              go_ret
              exact ⟨rfl, HBD.out⟩
        · have hcv : errV c = .iface 30 (.int .i64 c) := by unfold errV; rw [if_neg hc0]
          rw [hcv] at HC1
          clear hcv hc0
          generalize L.length = ll at *
          generalize KS.length = kl at *
          go_wp2_with fail
          refine HC1.out.mono ?_
          rintro e wD ⟨rfl, hbD⟩
          have HBD := hide (HBC.out.trans (hbD.mono HBC.out.size))
          clear hbD
          go_wp2
          go_ret
          exact ⟨rfl, HBD.out⟩
    · have q2 : errV X2 = .iface 30 (.int .i64 X2) := by unfold errV; rw [if_neg z2]
      have z1 : ¬ X1 = 0 := fun z1 => z2 (by rw [HX2.out]; exact Lk.law_later m h lt (opsOf L) (KS.map Prod.fst) (by omega) (by rw [← HX1.out]; exact z1))
      have q1 : errV X1 = .iface 30 (.int .i64 X1) := by unfold errV; rw [if_neg z1]
      have HR1 := hide (HRUN.out wA (.slice la L.length lc) L h HBA.out (HL.out.below HBA.out))
      rw [← HX1.out, q1] at HR1
      go_wp2_with (refine wpList_load_arr2 25 M w.heap.size rfl (.tmp 8) rfl rfl HIA.out Tryd.underlying25 size_dig HML.out ?_)
      refine HR1.out.mono ?_
      rintro e wB ⟨rfl, hbB⟩
      have HIB := hide (HIA.out.below hbB HIA.out.lt)
      have HBB := hide (HBA.out.trans (hbB.mono HBA.out.size))
      clear hbB HR1
      have HR2 := hide (HRUN.out wB (.slice la L.length lc) L lt HBB.out (HL.out.below HBB.out))
      rw [← HX2.out, q2] at HR2
      go_wp2_with (refine wpList_load_arr2 25 M w.heap.size rfl (.tmp 8) rfl rfl HIB.out Tryd.underlying25 size_dig HML.out ?_)
      refine HR2.out.mono ?_
      rintro e wC ⟨rfl, hbC⟩
      have HIC := hide (HIB.out.below hbC HIB.out.lt)
      have HBC := hide (HBB.out.trans (hbC.mono HBB.out.size))
      clear hbC HR2
      have HC1 := hide (HCK.out _ HBC.out)
      by_cases hc0 : c = 0
      · subst hc0
        have e0 : errV 0 = .nilIface := rfl
        rw [e0] at HC1
        clear e0
        have hl60 : L.length ≤ 60 := by have := ((Lk.check_zero _).1 HC.out.symm).1; rw [HLL.out] at this; exact this
        by_cases hlen : L.length < 60 ∧ 0 ≤ n ∧ n ≤ 1073741824
        · obtain ⟨a1, a2, a3⟩ := hlen
          have hi1 : decide ((60 : Int) ≤ (L.length : Int)) = false := decide_eq_false (by omega)
          have hi2 : decide (n < 0) = false := decide_eq_false (by omega)
          have hi3 : decide ((1073741824 : Int) < n) = false := decide_eq_false (by omega)
          have hlaw := Lk.law_after m lt (opsOf L) (KS.map Prod.fst) n HC.out.symm (by rw [HLL.out]; exact a1) a2 a3
          have HFM : Hid (∀ W, Below w.heap.size w W → ∀ r ∈ [((⟨10, n, []⟩ : Lk.Op), Value.slice none 0 0)] ++ L, Has W r.2 r.1.data ∧ Sz.Byt r.1.data) := hide (fun W hW r hr => by
            rcases List.mem_append.1 hr with hr | hr
            · simp only [List.mem_cons, List.not_mem_nil, or_false] at hr; subst hr; exact ⟨.inl ⟨none, 0, rfl, rfl, by unfold maxLen; omega, fun _ => rfl⟩, Sz.Byt.nil⟩
            · exact (HL.out.below hW).2 r hr)
          obtain ⟨X3, hX3⟩ : ∃ X, X = Lk.run m lt (opsOf ([((⟨10, n, []⟩ : Lk.Op), Value.slice none 0 0)] ++ L)) (KS.map Prod.fst) := ⟨_, rfl⟩
          have e3 : opsOf ([((⟨10, n, []⟩ : Lk.Op), Value.slice none 0 0)] ++ L) = (⟨10, n, []⟩ : Lk.Op) :: opsOf L := rfl
          rw [← e3, ← hX3, ← HX2.out] at hlaw
          have HX3 := hide hX3
          have HLAW := hide hlaw
          have HR3 : Hid (∀ W v b, Below w.heap.size w W → OwnOps W b v ([((⟨10, n, []⟩ : Lk.Op), Value.slice none 0 0)] ++ L) → Calls Tryd.prog 12 #[v, .slice ka KS.length kc, .agg M.toArray, .int .i64 lt] W fun e w' => e = .returned (errV X3) ∧ Below W.heap.size W w') := hide (fun W v b hW hO => by
            have := HRUN.out W v ([((⟨10, n, []⟩ : Lk.Op), Value.slice none 0 0)] ++ L) lt hW (hO.hasOps (HFM.out W hW))
            rw [← HX3.out] at this
            exact this)
          clear hX3 e3 hlaw
          generalize hll : L.length = ll at *
          have HL1 := hide hll
          clear hll
          generalize KS.length = kl at *
          go_wp2_with fail
          refine HC1.out.mono ?_
          rintro e wD ⟨rfl, hbD⟩
          have HID := hide (HIC.out.below hbD HIC.out.lt)
          have HBD := hide (HBC.out.trans (hbD.mono HBC.out.size))
          clear hbD hi1 hi2 hi3
          go_wp2_with (first
            | (at_builtin; refine wpList_append_of (AppOps wD _ wD.heap.size _ ([((⟨10, n, []⟩ : Lk.Op), Value.slice none 0 0)] ++ L)) rfl (.tmp 59) (.tmp 60) rfl (.slice (some ⟨wD.heap.size, 0, none⟩) 1 1) (.slice la ll lc) rfl rfl (fun ty => run_append_ops wD _ wD.heap.size _ _ [((⟨10, n, []⟩ : Lk.Op), Value.slice none 0 0)] L (Nat.le_refl _) (below_alloc wD _) (by simp) (OwnOps.lit wD wD.heap.size [((⟨10, n, []⟩ : Lk.Op), Value.slice none 0 0)] (Nat.le_refl _) (by simp) _ rfl) (HL.out.below (HBD.out.alloc HBD.out.size _)).src HL.out.formed (by have := HL1.out; simp; omega) ty) ?_; intro v61 wP hP; have HIP := hide (HID.out.below hP.2.1 HID.out.lt); have HBP := hide (HBD.out.trans (hP.2.1.mono HBD.out.size)))
            | (refine wpList_load_arr2 25 M w.heap.size rfl (.tmp 8) rfl rfl HIP.out Tryd.underlying25 size_dig HML.out ?_))
          have HR4 := hide (HR3.out _ _ _ HBP.out hP.1)
          clear hP
          by_cases hnl : lt < n
          · have z3 : X3 ≠ 0 := HLAW.out.1 hnl
            have q3 : errV X3 = .iface 30 (.int .i64 X3) := by unfold errV; rw [if_neg z3]
            rw [q3] at HR4
            clear q3 z3 HLAW HR3
            refine HR4.out.mono ?_
            rintro e wQ ⟨rfl, hbQ⟩
            have HBQ := hide (HBP.out.trans (hbQ.mono HBP.out.size))
            clear hbQ
            go_wp2
            go_ret
            exact ⟨rfl, HBQ.out⟩
          · have z3 : X3 = X2 := HLAW.out.2 (by omega)
            have hnl' : ¬ lt < n := hnl
            rw [z3, q2] at HR4
            clear z3 HLAW HR3 hnl
            refine HR4.out.mono ?_
            rintro e wQ ⟨rfl, hbQ⟩
            have HBQ := hide (HBP.out.trans (hbQ.mono HBP.out.size))
            clear hbQ
            go_wp2
            go_ret
            exact ⟨rfl, HBQ.out⟩
        · have hcs : ¬ L.length < 60 ∨ (L.length < 60 ∧ n < 0) ∨ (L.length < 60 ∧ ¬ n < 0 ∧ 1073741824 < n) := by omega
          clear hlen
          rcases hcs with a1 | ⟨a1, a2⟩ | ⟨a1, a2, a3⟩
          · have hi1 : decide ((60 : Int) ≤ (L.length : Int)) = true := decide_eq_true (by omega)
            clear a1
            generalize L.length = ll at *
            generalize KS.length = kl at *
            go_wp2_with fail
            refine HC1.out.mono ?_
            rintro e wD ⟨rfl, hbD⟩
            have HBD := hide (HBC.out.trans (hbD.mono HBC.out.size))
            clear hbD
            go_wp2
            go_ret
            exact ⟨rfl, HBD.out⟩
          · have hi1 : decide ((60 : Int) ≤ (L.length : Int)) = false := decide_eq_false (by omega)
            have hi2 : decide (n < 0) = true := decide_eq_true (by omega)
            clear a1 a2
            generalize L.length = ll at *
            generalize KS.length = kl at *
            go_wp2_with fail
            refine HC1.out.mono ?_
            rintro e wD ⟨rfl, hbD⟩
            have HBD := hide (HBC.out.trans (hbD.mono HBC.out.size))
            clear hbD
            go_wp2
            go_ret
            exact ⟨rfl, HBD.out⟩
          · have hi1 : decide ((60 : Int) ≤ (L.length : Int)) = false := decide_eq_false (by omega)
            have hi2 : decide (n < 0) = false := decide_eq_false (by omega)
            have hi3 : decide ((1073741824 : Int) < n) = true := decide_eq_true (by omega)
            clear a1 a2 a3
            generalize L.length = ll at *
            generalize KS.length = kl at *
            go_wp2_with fail
            refine HC1.out.mono ?_
            rintro e wD ⟨rfl, hbD⟩
            have HBD := hide (HBC.out.trans (hbD.mono HBC.out.size))
            clear hbD
            go_wp2
            go_ret
            exact ⟨rfl, HBD.out⟩
      · have hcv : errV c = .iface 30 (.int .i64 c) := by unfold errV; rw [if_neg hc0]
        rw [hcv] at HC1
        clear hcv hc0
        generalize L.length = ll at *
        generalize KS.length = kl at *
        go_wp2_with fail
        refine HC1.out.mono ?_
        rintro e wD ⟨rfl, hbD⟩
        have HBD := hide (HBC.out.trans (hbD.mono HBC.out.size))
        clear hbD
        go_wp2
        go_ret
        exact ⟨rfl, HBD.out⟩
end Go.Proofs.YtkdihbgjeanjdaaDoor
