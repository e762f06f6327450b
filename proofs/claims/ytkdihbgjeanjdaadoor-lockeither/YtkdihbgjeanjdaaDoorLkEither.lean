/- The walk of LockEither: one way or the other. -/
import Derived.Test.YtkdihbgjeanjdaaDoorLkFact
namespace Go.Proofs.YtkdihbgjeanjdaaDoor
open Go.RowKit
set_option linter.unusedVariables false
set_option linter.unusedSimpArgs false

set_option maxHeartbeats 800000 in
theorem rtrue_any (v : Value) (l : List Int) (w : World) (h : Has w v l) :
    Calls Tryd.prog 19 #[v] w fun e w' => e = .returned (.bool (Lk.isTrue l)) ∧ w = w' := by
  rcases h with ⟨a, cap, rfl, rfl, _⟩ | ⟨b, off, cap, rfl, h0, h1, hm, hc⟩
  · go_enter Tryd.func19, Tryd.ntmps19
    go_wp2
    refine wp_loop_rounds 1 ?_
    rw [rounds_succ]
    go_wp2
    go_ret
    exact ⟨rfl, rfl⟩
  · unfold maxLen at hm
    have HCC := hide hc
    clear hc
    go_enter Tryd.func19, Tryd.ntmps19
    go_wp2
    go_loop [3] (fun i => ∃ k : Nat, k ≤ l.length ∧ i = .int .i64 k ∧ Lk.isTrue l = Lk.isTrue (l.drop k)) (fun i => l.length - (intOf i).toNat)
    case atStart => exact ⟨0, Nat.zero_le _, rfl, by simp⟩
    case round =>
      obtain ⟨k, hk, rfl, ht⟩ := hrel
      by_cases hlt : k < l.length
      · have hck := HCC.out k hlt
        have e : l.drop k = l.getD k 0 :: l.drop (k + 1) := by
          rw [List.drop_eq_getElem_cons hlt]; simp [List.getD, List.getElem?_eq_getElem hlt]
        rw [e] at ht
        generalize l.getD k 0 = x at *
        clear HCC e
        by_cases hx : x = 0
        · subst hx
          have ht2 : Lk.isTrue l = Lk.isTrue (l.drop (k + 1)) := by rw [ht]; rfl
          have HT := hide ht2
          clear ht ht2
          go_wp2
          go_round
          case rel => exact ⟨k + 1, by omega, by go_num, HT.out⟩
          case measure => simp [intOf]; omega
        · have ht2 : Lk.isTrue l = true := by rw [ht]; simp [Lk.isTrue, hx]
          have HT := hide ht2
          clear ht ht2
          go_wp2
          go_ret
          exact ⟨by rw [HT.out]; rfl, rfl⟩
      · have hki : ¬ (k : Int) < l.length := by omega
        rw [List.drop_eq_nil_of_le (by omega)] at ht
        have HT : Hid (Lk.isTrue l = false) := ht
        clear ht
        go_wp2
        go_ret
        exact ⟨by rw [HT.out]; rfl, rfl⟩

theorem src_one {W : World} {k : Nat} (L : List (Lk.Op × Value)) (h1 : L.length = 1) (hk : Is W k (opCells L) 38) (c : Nat) : SrcOps W (.slice (some ⟨k, 0, none⟩) 1 c) L := .inr ⟨k, 0, c, by rw [h1], by omega, is_range hk⟩
/-- Keys of the call's own. -/
def OwnKeys (w : World) (base : Nat) (v : Value) (K : List (List Int × Value)) : Prop := w.ownsRow base 36 1 v K.length (K.map Prod.snd)
theorem OwnKeys.hasKeys {w : World} {base : Nat} {v : Value} {K : List (List Int × Value)} (h : OwnKeys w base v K) (hd : ∀ p ∈ K, Has w p.2 p.1 ∧ Sz.Byt p.1) (h0 : 0 < K.length) : HasKeys w v K := by
  obtain ⟨g, cap, rfl, _, h2, h3, h4, hr⟩ := owns_some h h0
  exact ⟨.inr ⟨g, 0, cap, rfl, h0, h3, h4, h2, hr⟩, hd⟩
def SrcKeys (w : World) (v : Value) (K : List (List Int × Value)) : Prop :=
  (∃ a cap, v = .slice a 0 cap ∧ K = []) ∨ ∃ b off cap, v = .slice (some ⟨b, off, none⟩) K.length cap ∧ 0 < K.length ∧ w.rangeAt b off (K.map Prod.snd)
theorem HasKeys.src {w : World} {v : Value} {K : List (List Int × Value)} (h : HasKeys w v K) : SrcKeys w v K := by
  rcases h.1 with ⟨a, cap, hv, hK, _⟩ | ⟨b, off, cap, hv, h0, h1, h2, h3, hc⟩
  · exact .inl ⟨a, cap, hv, hK⟩
  · exact .inr ⟨b, off, cap, hv, h0, hc⟩
theorem HasKeys.formed {w : World} {v : Value} {K : List (List Int × Value)} (h : HasKeys w v K) : ∀ u ∈ K.map Prod.snd, u.oneCell' = true := fun u hu => by
  obtain ⟨p, hp, rfl⟩ := List.mem_map.1 hu
  obtain ⟨a, c, e, _⟩ := (h.2 p hp).1.shape
  rw [e]; rfl
theorem run_append_keysG (w0 W : World) (base : Nat) (v x : Value) (K1 K2 : List (List Int × Value)) (hb0 : w0.heap.size ≤ base) (hW : Below w0.heap.size w0 W) (hbW : base ≤ W.heap.size) (hown : OwnKeys W base v K1) (hx : SrcKeys W x K2) (hf : ∀ u ∈ K2.map Prod.snd, u.oneCell' = true) (hbd : K1.length + K2.length ≤ 1000) (ty : TypeId) :
    ∃ v' W', (Builtin.append_ #[23, 23] ty #[v, x]).run Tryd.prog W = .ok v' W' ∧ OwnKeys W' base v' (K1 ++ K2) ∧ Below w0.heap.size w0 W' ∧ Below base W W' := by
  have hbg : ∀ W', W.grownBy W' v.ownBlock → Below base W W' := fun W' hg => (Below.refl base W).grown hg hbW (fun q hq => (World.ownsRow.lt hown q hq).1)
  rcases hx with ⟨a, c, rfl, rfl⟩ | ⟨b, off, c, rfl, h0, hr⟩
  · obtain ⟨v', W', h1, h2, h3⟩ := run_append_empty W base 23 36 1 elem_row v K1.length (K1.map Prod.snd) hown (by omega) hbW a c ty
    refine ⟨v', W', h1, by rw [List.append_nil]; exact h2, hW.trans ((hbg W' h3).mono hb0), hbg W' h3⟩
  · obtain ⟨v', W', h1, h2, h3, _⟩ := run_append_gen W base 23 36 1 elem_row v K1.length (K1.map Prod.snd) hown ⟨b, off, none⟩ K2.length c h0 (K2.map Prod.snd) (by simp) (fun j u hu => by rw [Addr.add_lit]; exact hr j u hu) hf (by omega) hbW ty
    refine ⟨v', W', h1, ?_, hW.trans ((hbg W' h3).mono hb0), hbg W' h3⟩
    unfold OwnKeys
    rw [List.length_append, List.map_append]
    exact h2
theorem OwnKeys.none (w : World) (base : Nat) (hb : base ≤ w.heap.size) : OwnKeys (w.alloc (.cells #[] 36)) base (.slice (some ⟨w.heap.size, 0, none⟩) 0 0) [] := by
  have := World.ownsRow_lit (base := base) (e := 36) (size := 1) w #[] 0 hb (by unfold maxLen; omega) (by simp)
  simpa [OwnKeys] using this

set_option maxRecDepth 100000 in
set_option maxHeartbeats 8000000 in
theorem lockEither_walk (av : Value) (LA : List (Lk.Op × Value)) (bv : Value) (LB : List (Lk.Op × Value)) (kv : Value) (KS : List (List Int × Value)) (yv : Value) (y : List Int) (m : List Int) (h : Int) (w : World) (hla : HasOps w av LA) (hlb : HasOps w bv LB) (hk : HasKeys w kv KS) (hkl24 : KS.length * 24 ≤ 140737488351232) (hy : Has w yv y) (hyb : Sz.Byt y) (hyl47 : y.length ≤ 140737488351232) (hm : m.length = 32) (hmb : Sz.Byt m) (ht : Tab w) (hw : 1 < w.heap.size) (hE : ErrVar w) :
    Calls Tryd.prog 7 #[av, bv, kv, yv, .agg (vals m).toArray, .int .i64 h] w fun e w' => e = .returned (.bool true) ∧ Below w.heap.size w w' := by
  clear hkl24 hyl47
  obtain ⟨la, lc, rfl⟩ : ∃ a c, av = .slice a LA.length c := by
    rcases hla.1 with ⟨a, cap, rfl, rfl⟩ | ⟨b, off, cap, rfl, _⟩
    · exact ⟨a, cap, rfl⟩
    · exact ⟨_, cap, rfl⟩
  obtain ⟨ra, rc, rfl⟩ : ∃ a c, bv = .slice a LB.length c := by
    rcases hlb.1 with ⟨a, cap, rfl, rfl⟩ | ⟨b, off, cap, rfl, _⟩
    · exact ⟨a, cap, rfl⟩
    · exact ⟨_, cap, rfl⟩
  have hAm := hla.length_le
  have hBm := hlb.length_le
  obtain ⟨ka, kc, rfl, _, hKm, _⟩ := hk.form
  obtain ⟨ya, yc, rfl, _, hYm⟩ := hy.shape
  unfold maxLen at hAm hBm hKm hYm
  have hML : (vals m).length = 32 := by rw [vals_length]; exact hm
  have HML := hide hML
  have hb0 := below_alloc w (.cells (vals m).toArray 25)
  have HB0 := hide hb0
  have HOP := hide (opened_any _ (ht.below hb0 hw) (Nat.lt_of_lt_of_le hw hb0.size) (hE.below hb0))
  have HIS := hide (Is.new w (vals m) 25)
  have HCK : Hid (∀ W v O, HasOps W v O → Calls Tryd.prog 10 #[v] W fun e w' => e = .returned (errV (Lk.check (opsOf O))) ∧ Below W.heap.size W w') := fun W v O hO => check_any v O W hO
  have HRUN : Hid (∀ W ov O kv2 K2, Below w.heap.size w W → HasOps W ov O → HasKeys W kv2 K2 → Calls Tryd.prog 12 #[ov, kv2, .agg (vals m).toArray, .int .i64 h] W fun e w' => e = .returned (errV (Lk.run m h (opsOf O) (K2.map Prod.fst))) ∧ Below W.heap.size W w') := fun W ov O kv2 K2 hW hO hK => run_any O K2 ov kv2 m h W hO hK hm hmb (ht.below hW hw) (Nat.lt_of_lt_of_le hw hW.size)
  have HTD : Hid (∀ W a b, Below w.heap.size w W → Calls Tryd.prog 20 #[errV a, errV b] W fun e w' => e = .returned (.bool (a == b)) ∧ Below W.heap.size W w') := fun W a b hW => toldE_any a b W (hE.below hW)
  have HLA := hide hla
  have HLB := hide hlb
  have HK := hide hk
  have HY := hide hy
  have HYB := hide hyb
  have HAL := hide (opsOf_length LA)
  have HBL := hide (opsOf_length LB)
  have HKL : Hid ((KS.map Prod.fst).length = KS.length) := hide (List.length_map _)
  clear hla hlb hk hy hyb hm hmb ht hw hE hML hb0
  generalize vals m = M at *
  obtain ⟨c1, hc1⟩ : ∃ c, c = Lk.check (opsOf LA) := ⟨_, rfl⟩
  obtain ⟨c2, hc2⟩ : ∃ c, c = Lk.check (opsOf LB) := ⟨_, rfl⟩
  have HC1 := hide hc1
  have HC2 := hide hc2
  clear hc1 hc2
  go_enter Tryd.func7, Tryd.ntmps7
  go_wp2_with fail
  refine HOP.out.mono ?_
  rintro e wA ⟨rfl, hbA⟩
  have HIA := hide (HIS.out.below hbA (by simp))
  have HBA := hide (HB0.out.trans (hbA.mono (by simp)))
  clear hbA
  have HCA := hide (HCK.out wA (.slice la LA.length lc) LA (HLA.out.below HBA.out))
  rw [← HC1.out] at HCA
  by_cases hz1 : c1 = 0
  · subst hz1
    have e0 : errV 0 = .nilIface := rfl
    rw [e0] at HCA
    have ha60 : LA.length ≤ 60 := by have := ((Lk.check_zero _).1 HC1.out.symm).1; rw [HAL.out] at this; exact this
    by_cases hz2 : c2 = 0
    · subst hz2
      have hb60 : LB.length ≤ 60 := by have := ((Lk.check_zero _).1 HC2.out.symm).1; rw [HBL.out] at this; exact this
      by_cases hlen : LA.length + LB.length + 3 ≤ 60 ∧ KS.length < 30 ∧ y.length ≤ 3000
      · obtain ⟨a1, a2, a3⟩ := hlen
        have hi1 : decide ((60 : Int) < (LA.length : Int) + (LB.length : Int) + 3) = false := decide_eq_false (by omega)
        have hi2 : decide ((30 : Int) ≤ (KS.length : Int)) = false := decide_eq_false (by omega)
        have hi3 : decide ((3000 : Int) < (y.length : Int)) = false := decide_eq_false (by omega)
        have hlaw := Lk.law_either m h (opsOf LA) (opsOf LB) (KS.map Prod.fst) y HC1.out.symm HC2.out.symm (by rw [HAL.out, HBL.out]; exact a1) (by rw [HKL.out]; exact a2) a3
        have hchk := Lk.check_either (opsOf LA) (opsOf LB) HC1.out.symm HC2.out.symm (by rw [HAL.out, HBL.out]; exact a1)
        obtain ⟨EI, hEI⟩ : ∃ EI, EI = [((⟨11, 0, []⟩ : Lk.Op), Value.slice none 0 0)] ++ LA ++ [((⟨12, 0, []⟩ : Lk.Op), Value.slice none 0 0)] ++ LB ++ [((⟨13, 0, []⟩ : Lk.Op), Value.slice none 0 0)] := ⟨_, rfl⟩
        have e1 : Lk.either (opsOf LA) (opsOf LB) = opsOf EI := by rw [hEI]; simp [opsOf, Lk.either]
        have e2 : KS.map Prod.fst ++ [y] = (KS ++ [(y, Value.slice ya y.length yc)]).map Prod.fst := by simp
        rw [e1, e2] at hlaw
        rw [e1] at hchk
        obtain ⟨X, hX⟩ : ∃ X, X = Lk.run m h (opsOf EI) ((KS ++ [(y, Value.slice ya y.length yc)]).map Prod.fst) := ⟨_, rfl⟩
        obtain ⟨XA, hXA⟩ : ∃ X, X = Lk.run m h (opsOf LA) (KS.map Prod.fst) := ⟨_, rfl⟩
        obtain ⟨XB, hXB⟩ : ∃ X, X = Lk.run m h (opsOf LB) (KS.map Prod.fst) := ⟨_, rfl⟩
        rw [← hX, ← hXA, ← hXB] at hlaw
        have HLAW := hide hlaw
        have HCHK := hide hchk
        have HX := hide hX
        have HXA := hide hXA
        have HXB := hide hXB
        have HEI := hide hEI
        have HD : Hid (∀ W, Below w.heap.size w W → ∀ r ∈ EI, Has W r.2 r.1.data ∧ Sz.Byt r.1.data) := hide (fun W hW r hr => by
          rw [hEI] at hr
          simp only [List.mem_append, List.mem_cons, List.not_mem_nil, or_false] at hr
          rcases hr with (((hr | hr) | hr) | hr) | hr
          · subst hr; exact ⟨.inl ⟨none, 0, rfl, rfl, by unfold maxLen; omega, fun _ => rfl⟩, Sz.Byt.nil⟩
          · exact (HLA.out.below hW).2 r hr
          · subst hr; exact ⟨.inl ⟨none, 0, rfl, rfl, by unfold maxLen; omega, fun _ => rfl⟩, Sz.Byt.nil⟩
          · exact (HLB.out.below hW).2 r hr
          · subst hr; exact ⟨.inl ⟨none, 0, rfl, rfl, by unfold maxLen; omega, fun _ => rfl⟩, Sz.Byt.nil⟩)
        have HDK : Hid (∀ W, Below w.heap.size w W → ∀ r ∈ KS ++ [(y, Value.slice ya y.length yc)], Has W r.2 r.1 ∧ Sz.Byt r.1) := hide (fun W hW r hr => by
          simp only [List.mem_append, List.mem_cons, List.not_mem_nil, or_false] at hr
          rcases hr with hr | hr
          · exact (HK.out.below hW).2 r hr
          · subst hr; exact ⟨HY.out.below hW, HYB.out⟩)
        clear hlaw hchk hX hXA hXB hEI e1 e2
        go_wp2_with fail
        refine HCA.out.mono ?_
        rintro e wB ⟨rfl, hbB⟩
        have HIB := hide (HIA.out.below hbB HIA.out.lt)
        have HBB := hide (HBA.out.trans (hbB.mono HBA.out.size))
        clear hbB
        have HCB := hide (HCK.out wB (.slice ra LB.length rc) LB (HLB.out.below HBB.out))
        rw [← HC2.out, e0] at HCB
        clear e0
        generalize hla2 : LA.length = lla at *
        generalize hlb2 : LB.length = llb at *
        generalize hkl2 : KS.length = kl at *
        generalize hyl2 : y.length = yl at *
        have HLL1 := hide hla2
        have HLL2 := hide hlb2
        have HLL3 := hide hkl2
        have HLL4 := hide hyl2
        clear hla2 hlb2 hkl2 hyl2
        go_wp2_with fail
        refine HCB.out.mono ?_
        rintro e wC ⟨rfl, hbC⟩
        have HIC := hide (HIB.out.below hbC HIB.out.lt)
        have HBC := hide (HBB.out.trans (hbC.mono HBB.out.size))
        clear hbC
        go_wp2_with (first
          | (at_builtin; refine wpList_append_of (AppOps wC _ wC.heap.size _ ([((⟨11, 0, []⟩ : Lk.Op), Value.slice none 0 0)] ++ LA)) rfl (.tmp 51) (.tmp 52) rfl (.slice (some ⟨wC.heap.size, 0, none⟩) 1 1) (.slice la lla lc) rfl rfl (fun ty => run_append_ops wC _ wC.heap.size _ _ [((⟨11, 0, []⟩ : Lk.Op), Value.slice none 0 0)] LA (Nat.le_refl _) (below_alloc wC _) (by simp) (OwnOps.lit wC wC.heap.size [((⟨11, 0, []⟩ : Lk.Op), Value.slice none 0 0)] (Nat.le_refl _) (by simp) _ rfl) (HLA.out.below (HBC.out.alloc HBC.out.size _)).src HLA.out.formed (by have := HLL1.out; have := HLL2.out; simp; omega) ty) ?_; intro v53 w1 h1)
          | (at_builtin; refine wpList_append_of (AppOps wC _ wC.heap.size _ ([((⟨11, 0, []⟩ : Lk.Op), Value.slice none 0 0)] ++ LA ++ [((⟨12, 0, []⟩ : Lk.Op), Value.slice none 0 0)])) rfl (.tmp 53) (.tmp 55) rfl v53 (.slice (some ⟨w1.heap.size, 0, none⟩) 1 1) rfl rfl (fun ty => run_append_ops wC _ wC.heap.size _ _ ([((⟨11, 0, []⟩ : Lk.Op), Value.slice none 0 0)] ++ LA) [((⟨12, 0, []⟩ : Lk.Op), Value.slice none 0 0)] (Nat.le_refl _) (h1.2.1.alloc h1.2.1.size _) (Nat.le_trans h1.2.1.size (by simp)) (OwnOps.below h1.1 (below_alloc _ _)) (src_one [((⟨12, 0, []⟩ : Lk.Op), Value.slice none 0 0)] rfl (Is.new w1 _ 38) 1) (fun r hr => by simp only [List.mem_cons, List.not_mem_nil, or_false] at hr; subst hr; rfl) (by have := HLL1.out; have := HLL2.out; simp; omega) ty) ?_; intro v56 w2 h2)
          | (at_builtin; refine wpList_append_of (AppOps wC _ wC.heap.size _ ([((⟨11, 0, []⟩ : Lk.Op), Value.slice none 0 0)] ++ LA ++ [((⟨12, 0, []⟩ : Lk.Op), Value.slice none 0 0)] ++ LB)) rfl (.tmp 56) (.tmp 57) rfl v56 (.slice ra llb rc) rfl rfl (fun ty => run_append_ops wC _ wC.heap.size _ _ ([((⟨11, 0, []⟩ : Lk.Op), Value.slice none 0 0)] ++ LA ++ [((⟨12, 0, []⟩ : Lk.Op), Value.slice none 0 0)]) LB (Nat.le_refl _) h2.2.1 h2.2.1.size h2.1 (HLB.out.below (HBC.out.trans (h2.2.1.mono HBC.out.size))).src HLB.out.formed (by have := HLL1.out; have := HLL2.out; simp; omega) ty) ?_; intro v58 w3 h3)
          | (at_builtin; refine wpList_append_of (AppOps wC _ wC.heap.size _ EI) rfl (.tmp 58) (.tmp 60) rfl v58 (.slice (some ⟨w3.heap.size, 0, none⟩) 1 1) rfl rfl (fun ty => by rw [HEI.out]; exact run_append_ops wC _ wC.heap.size _ _ ([((⟨11, 0, []⟩ : Lk.Op), Value.slice none 0 0)] ++ LA ++ [((⟨12, 0, []⟩ : Lk.Op), Value.slice none 0 0)] ++ LB) [((⟨13, 0, []⟩ : Lk.Op), Value.slice none 0 0)] (Nat.le_refl _) (h3.2.1.alloc h3.2.1.size _) (Nat.le_trans h3.2.1.size (by simp)) (OwnOps.below h3.1 (below_alloc _ _)) (src_one [((⟨13, 0, []⟩ : Lk.Op), Value.slice none 0 0)] rfl (Is.new w3 _ 38) 1) (fun r hr => by simp only [List.mem_cons, List.not_mem_nil, or_false] at hr; subst hr; rfl) (by have := HLL1.out; have := HLL2.out; simp; omega) ty) ?_; intro v61 w4 h4; have HB4 := hide (HBC.out.trans (h4.2.1.mono HBC.out.size)))
          | (at_builtin; refine wpList_append_of (fun v' W' => OwnKeys W' w4.heap.size v' KS ∧ Below w4.heap.size w4 W' ∧ Below w4.heap.size (w4.alloc (.cells #[] 36)) W') rfl (.tmp 62) (.tmp 63) rfl (.slice (some ⟨w4.heap.size, 0, none⟩) 0 0) (.slice ka kl kc) rfl rfl (fun ty => run_append_keysG w4 _ w4.heap.size _ _ [] KS (Nat.le_refl _) (below_alloc w4 _) (by simp) (OwnKeys.none w4 w4.heap.size (Nat.le_refl _)) (HK.out.below (HB4.out.alloc HB4.out.size _)).src HK.out.formed (by have := HLL3.out; simp; omega) ty) ?_; intro v64 w5 h5)
          | (at_builtin; refine wpList_append_of (fun v' W' => OwnKeys W' w4.heap.size v' (KS ++ [(y, Value.slice ya yl yc)]) ∧ Below w4.heap.size w4 W' ∧ Below w4.heap.size (w5.alloc (.cells #[.slice ya yl yc] 36)) W') rfl (.tmp 64) (.tmp 66) rfl v64 (.slice (some ⟨w5.heap.size, 0, none⟩) 1 1) rfl rfl (fun ty => run_append_keysG w4 _ w4.heap.size _ _ KS [(y, Value.slice ya yl yc)] (Nat.le_refl _) (h5.2.1.alloc h5.2.1.size _) (Nat.le_trans h5.2.1.size (by simp)) (owns_below h5.1 (below_alloc _ _)) (.inr ⟨w5.heap.size, 0, 1, rfl, by simp, is_range (Is.new w5 [.slice ya yl yc] 36)⟩) (fun u hu => by simp only [List.map_cons, List.map_nil, List.mem_cons, List.not_mem_nil, or_false] at hu; subst hu; rfl) (by have := HLL3.out; simp; omega) ty) ?_; intro v67 w6 h6; have HB6 := hide (HB4.out.trans (h6.2.1.mono HB4.out.size)); have HI6 := hide ((HIC.out.below h4.2.1 HIC.out.lt).below h6.2.1 (Nat.lt_of_lt_of_le HIC.out.lt h4.2.1.size)))
          | (refine wpList_load_arr2 25 M w.heap.size rfl (.tmp 10) rfl rfl HI6.out Tryd.underlying25 size_dig HML.out ?_))
        have HO6 : Hid (HasOps w6 v61 EI) := hide ((OwnOps.below h4.1 h6.2.1).hasOps (HD.out w6 HB6.out))
        have HK6 : Hid (HasKeys w6 v67 (KS ++ [(y, Value.slice ya yl yc)])) := hide (h6.1.hasKeys (HDK.out w6 HB6.out) (by simp))
        have HR1 := hide (HRUN.out w6 v61 EI v67 (KS ++ [(y, Value.slice ya yl yc)]) HB6.out HO6.out HK6.out)
        rw [← HX.out] at HR1
        obtain ⟨vX, hvX⟩ : ∃ v, v = errV X := ⟨_, rfl⟩
        obtain ⟨vA, hvA⟩ : ∃ v, v = errV XA := ⟨_, rfl⟩
        obtain ⟨vB, hvB⟩ : ∃ v, v = errV XB := ⟨_, rfl⟩
        rw [← hvX] at HR1
        have HVX := hide hvX
        have HVA := hide hvA
        have HVB := hide hvB
        clear hvX hvA hvB h1 h2 h3 h4 h5 h6
        refine HR1.out.mono ?_
        rintro e w7 ⟨rfl, hb7⟩
        have HI7 := hide (HI6.out.below hb7 HI6.out.lt)
        have HB7 := hide (HB6.out.trans (hb7.mono HB6.out.size))
        have HO7 := hide (HO6.out.below hb7)
        have HR2 := hide (HRUN.out w7 (.slice ra llb rc) LB (.slice ka kl kc) KS HB7.out (HLB.out.below HB7.out) (HK.out.below HB7.out))
        rw [← HXB.out, ← HVB.out] at HR2
        clear hb7 HR1
        go_wp2_with (refine wpList_load_arr2 25 M w.heap.size rfl (.tmp 10) rfl rfl HI7.out Tryd.underlying25 size_dig HML.out ?_)
        refine HR2.out.mono ?_
        rintro e w8 ⟨rfl, hb8⟩
        have HI8 := hide (HI7.out.below hb8 HI7.out.lt)
        have HB8 := hide (HB7.out.trans (hb8.mono HB7.out.size))
        have HO8 := hide (HO7.out.below hb8)
        have HTR := hide (rtrue_any _ y w8 (HY.out.below HB8.out))
        clear hb8 HR2
        cases hT : Lk.isTrue y with
        | true =>
          rw [hT] at HTR
          have HXX : Hid (X = XA) := hide (by have := HLAW.out; rw [hT] at this; simpa using this)
          clear hT HLAW
          go_wp2_with fail
          refine HTR.out.mono ?_
          rintro e w9 ⟨rfl, rfl⟩
          have HR3 := hide (HRUN.out w8 (.slice la lla lc) LA (.slice ka kl kc) KS HB8.out (HLA.out.below HB8.out) (HK.out.below HB8.out))
          rw [← HXA.out, ← HVA.out] at HR3
          go_wp2_with (refine wpList_load_arr2 25 M w.heap.size rfl (.tmp 10) rfl rfl HI8.out Tryd.underlying25 size_dig HML.out ?_)
          refine HR3.out.mono ?_
          rintro e w9 ⟨rfl, hb9⟩
          have HB9 := hide (HB8.out.trans (hb9.mono HB8.out.size))
          have HO9 := hide (HO8.out.below hb9)
          have HT1 := hide (HTD.out w9 X XA HB9.out)
          rw [show (X == XA) = true by rw [HXX.out]; exact beq_self_eq_true _, ← HVX.out, ← HVA.out] at HT1
          clear hb9 HR3
          go_wp2_with fail
          refine HT1.out.mono ?_
          rintro e wX ⟨rfl, hbX⟩
          have HBX := hide (HB9.out.trans (hbX.mono HB9.out.size))
          have HCX := hide (HCK.out wX v61 EI (HO9.out.below hbX))
          rw [HCHK.out] at HCX
          have e00 : errV 0 = .nilIface := rfl
          rw [e00] at HCX
          clear hbX e00
          go_wp2_with fail
          refine HCX.out.mono ?_
          rintro e wY ⟨rfl, hbY⟩
          have HBY := hide (HBX.out.trans (hbY.mono HBX.out.size))
          clear hbY
          go_wp2
          go_ret
          exact ⟨rfl, HBY.out⟩
        | false =>
          rw [hT] at HTR
          have HXX : Hid (X = XB) := hide (by have := HLAW.out; rw [hT] at this; simpa using this)
          clear hT HLAW
          go_wp2_with fail
          refine HTR.out.mono ?_
          rintro e w9 ⟨rfl, rfl⟩
          have HT1 := hide (HTD.out w8 X XB HB8.out)
          rw [show (X == XB) = true by rw [HXX.out]; exact beq_self_eq_true _, ← HVX.out, ← HVB.out] at HT1
          go_wp2_with fail
          refine HT1.out.mono ?_
          rintro e wX ⟨rfl, hbX⟩
          have HBX := hide (HB8.out.trans (hbX.mono HB8.out.size))
          have HCX := hide (HCK.out wX v61 EI (HO8.out.below hbX))
          rw [HCHK.out] at HCX
          have e00 : errV 0 = .nilIface := rfl
          rw [e00] at HCX
          clear hbX e00
          go_wp2_with fail
          refine HCX.out.mono ?_
          rintro e wY ⟨rfl, hbY⟩
          have HBY := hide (HBX.out.trans (hbY.mono HBX.out.size))
          clear hbY
          go_wp2
          go_ret
          exact ⟨rfl, HBY.out⟩
      · have hcs : ¬ LA.length + LB.length + 3 ≤ 60 ∨ (LA.length + LB.length + 3 ≤ 60 ∧ ¬ KS.length < 30) ∨ (LA.length + LB.length + 3 ≤ 60 ∧ KS.length < 30 ∧ ¬ y.length ≤ 3000) := by omega
        clear hlen
        go_wp2_with fail
        refine HCA.out.mono ?_
        rintro e wB ⟨rfl, hbB⟩
        have HIB := hide (HIA.out.below hbB HIA.out.lt)
        have HBB := hide (HBA.out.trans (hbB.mono HBA.out.size))
        clear hbB
        have HCB := hide (HCK.out wB (.slice ra LB.length rc) LB (HLB.out.below HBB.out))
        rw [← HC2.out, e0] at HCB
        clear e0
        rcases hcs with a1 | ⟨a1, a2⟩ | ⟨a1, a2, a3⟩
        · have hi1 : decide ((60 : Int) < (LA.length : Int) + (LB.length : Int) + 3) = true := decide_eq_true (by omega)
          clear a1
          generalize LA.length = lla at *
          generalize LB.length = llb at *
          generalize KS.length = kl at *
          generalize y.length = yl at *
          go_wp2_with fail
          refine HCB.out.mono ?_
          rintro e wC ⟨rfl, hbC⟩
          have HIC := hide (HIB.out.below hbC HIB.out.lt)
          have HBC := hide (HBB.out.trans (hbC.mono HBB.out.size))
          clear hbC
          go_wp2
          go_ret
          exact ⟨rfl, HBC.out⟩
        · have hi1 : decide ((60 : Int) < (LA.length : Int) + (LB.length : Int) + 3) = false := decide_eq_false (by omega)
          have hi2 : decide ((30 : Int) ≤ (KS.length : Int)) = true := decide_eq_true (by omega)
          clear a1 a2
          generalize LA.length = lla at *
          generalize LB.length = llb at *
          generalize KS.length = kl at *
          generalize y.length = yl at *
          go_wp2_with fail
          refine HCB.out.mono ?_
          rintro e wC ⟨rfl, hbC⟩
          have HIC := hide (HIB.out.below hbC HIB.out.lt)
          have HBC := hide (HBB.out.trans (hbC.mono HBB.out.size))
          clear hbC
          go_wp2
          go_ret
          exact ⟨rfl, HBC.out⟩
        · have hi1 : decide ((60 : Int) < (LA.length : Int) + (LB.length : Int) + 3) = false := decide_eq_false (by omega)
          have hi2 : decide ((30 : Int) ≤ (KS.length : Int)) = false := decide_eq_false (by omega)
          have hi3 : decide ((3000 : Int) < (y.length : Int)) = true := decide_eq_true (by omega)
          clear a1 a2 a3
          generalize LA.length = lla at *
          generalize LB.length = llb at *
          generalize KS.length = kl at *
          generalize y.length = yl at *
          go_wp2_with fail
          refine HCB.out.mono ?_
          rintro e wC ⟨rfl, hbC⟩
          have HIC := hide (HIB.out.below hbC HIB.out.lt)
          have HBC := hide (HBB.out.trans (hbC.mono HBB.out.size))
          clear hbC
          go_wp2
          go_ret
          exact ⟨rfl, HBC.out⟩
    · have hcv : errV c2 = .iface 30 (.int .i64 c2) := by unfold errV; rw [if_neg hz2]
      clear hz2 e0
      go_wp2_with fail
      refine HCA.out.mono ?_
      rintro e wB ⟨rfl, hbB⟩
      have HBB := hide (HBA.out.trans (hbB.mono HBA.out.size))
      clear hbB
      have HCB := hide (HCK.out wB (.slice ra LB.length rc) LB (HLB.out.below HBB.out))
      rw [← HC2.out, hcv] at HCB
      clear hcv
      generalize LA.length = lla at *
      generalize LB.length = llb at *
      generalize KS.length = kl at *
      generalize y.length = yl at *
      go_wp2_with fail
      refine HCB.out.mono ?_
      rintro e wC ⟨rfl, hbC⟩
      have HBC := hide (HBB.out.trans (hbC.mono HBB.out.size))
      clear hbC
      go_wp2
      go_ret
      exact ⟨rfl, HBC.out⟩
  · have hcv : errV c1 = .iface 30 (.int .i64 c1) := by unfold errV; rw [if_neg hz1]
    rw [hcv] at HCA
    clear hcv hz1
    generalize LA.length = lla at *
    generalize LB.length = llb at *
    generalize KS.length = kl at *
    generalize y.length = yl at *
    go_wp2_with fail
    refine HCA.out.mono ?_
    rintro e wB ⟨rfl, hbB⟩
    have HBB := hide (HBA.out.trans (hbB.mono HBA.out.size))
    clear hbB
    go_wp2
    go_ret
    exact ⟨rfl, HBB.out⟩
end Go.Proofs.YtkdihbgjeanjdaaDoor
