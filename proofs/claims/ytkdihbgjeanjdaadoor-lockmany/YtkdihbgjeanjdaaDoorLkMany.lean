/- The walk of LockMany: so many of them. -/
import Derived.Test.YtkdihbgjeanjdaaDoorLkFact
import Derived.Test.YtkdihbgjeanjdaaDoorLkMy
import Derived.Test.YtkdihbgjeanjdaaDoorLkOpenS
import Derived.Test.YtkdihbgjeanjdaaDoorKeSig
import Derived.Test.YtkdihbgjeanjdaaDoorLoadG
namespace Go.Proofs.YtkdihbgjeanjdaaDoor
open Go.RowKit
set_option linter.unusedVariables false
set_option linter.unusedSimpArgs false

/-- Keys of the call's own. -/
def OwnKeys (w : World) (base : Nat) (v : Value) (K : List (List Int × Value)) : Prop := w.ownsRow base 36 1 v K.length (K.map Prod.snd)
theorem OwnKeys.hasKeys {w : World} {base : Nat} {v : Value} {K : List (List Int × Value)} (h : OwnKeys w base v K) (hd : ∀ p ∈ K, Has w p.2 p.1 ∧ Sz.Byt p.1) (h0 : 0 < K.length) : HasKeys w v K := by
  obtain ⟨g, cap, rfl, _, h2, h3, h4, hr⟩ := owns_some h h0
  exact ⟨.inr ⟨g, 0, cap, rfl, h0, h3, h4, h2, hr⟩, hd⟩
def SrcKeys (w : World) (v : Value) (K : List (List Int × Value)) : Prop :=
  (∃ a cap, v = .slice a 0 cap ∧ K = []) ∨ ∃ b off cap, v = .slice (some ⟨b, off, none⟩) K.length cap ∧ 0 < K.length ∧ w.rangeAt b off (K.map Prod.snd)
theorem HasKeys.src {w : World} {v : Value} {K : List (List Int × Value)} (h : HasKeys w v K) : SrcKeys w v K := by
  rcases h.1 with ⟨a, cap, hv, hK, _⟩ | ⟨b, off, cap, hv, h0, h1, h2, h3, hc⟩
  · exact .inl ⟨a, cap, hv, hK⟩
  · exact .inr ⟨b, off, cap, hv, h0, hc⟩
theorem HasKeys.formed {w : World} {v : Value} {K : List (List Int × Value)} (h : HasKeys w v K) : ∀ u ∈ K.map Prod.snd, u.oneCell' = true := fun u hu => by
  obtain ⟨p, hp, rfl⟩ := List.mem_map.1 hu
  obtain ⟨a, c, e, _⟩ := (h.2 p hp).1.shape
  rw [e]; rfl
theorem run_append_keysG (w0 W : World) (base : Nat) (v x : Value) (K1 K2 : List (List Int × Value)) (hb0 : w0.heap.size ≤ base) (hW : Below w0.heap.size w0 W) (hbW : base ≤ W.heap.size) (hown : OwnKeys W base v K1) (hx : SrcKeys W x K2) (hf : ∀ u ∈ K2.map Prod.snd, u.oneCell' = true) (hbd : K1.length + K2.length ≤ 1000) (ty : TypeId) :
    ∃ v' W', (Builtin.append_ #[23, 23] ty #[v, x]).run Tryd.prog W = .ok v' W' ∧ OwnKeys W' base v' (K1 ++ K2) ∧ Below w0.heap.size w0 W' ∧ Below base W W' := by
  have hbg : ∀ W', W.grownBy W' v.ownBlock → Below base W W' := fun W' hg => (Below.refl base W).grown hg hbW (fun q hq => (World.ownsRow.lt hown q hq).1)
  rcases hx with ⟨a, c, rfl, rfl⟩ | ⟨b, off, c, rfl, h0, hr⟩
  · obtain ⟨v', W', h1, h2, h3⟩ := run_append_empty W base 23 36 1 elem_row v K1.length (K1.map Prod.snd) hown (by omega) hbW a c ty
    refine ⟨v', W', h1, by rw [List.append_nil]; exact h2, hW.trans ((hbg W' h3).mono hb0), hbg W' h3⟩
  · obtain ⟨v', W', h1, h2, h3, _⟩ := run_append_gen W base 23 36 1 elem_row v K1.length (K1.map Prod.snd) hown ⟨b, off, none⟩ K2.length c h0 (K2.map Prod.snd) (by simp) (fun j u hu => by rw [Addr.add_lit]; exact hr j u hu) hf (by omega) hbW ty
    refine ⟨v', W', h1, ?_, hW.trans ((hbg W' h3).mono hb0), hbg W' h3⟩
    unfold OwnKeys
    rw [List.length_append, List.map_append]
    exact h2
theorem OwnKeys.none (w : World) (base : Nat) (hb : base ≤ w.heap.size) : OwnKeys (w.alloc (.cells #[] 36)) base (.slice (some ⟨w.heap.size, 0, none⟩) 0 0) [] := by
  have := World.ownsRow_lit (base := base) (e := 36) (size := 1) w #[] 0 hb (by unfold maxLen; omega) (by simp)
  simpa [OwnKeys] using this

theorem has_digest {W : World} {g : Nat} {D : List Int} (h : Is W g (vals D) 25) (hD : D.length = 32) : Has W (.slice (some ⟨g, 0, none⟩) 32 32) D :=
  .inr ⟨g, 0, 32, by rw [hD], by omega, by omega, by unfold maxLen; omega, fun j hj => by rw [Nat.zero_add, h.cell, vals_get _ _ hj]⟩
theorem below_step {wA W W' : World} (h : Below wA.heap.size wA W) (hb : Below W.heap.size W W') : Below wA.heap.size wA W' := h.trans (hb.mono h.size)
/-- The keys of the first ones. -/
def keysTo (PS : List (List Int)) (t : Nat) : List Int := (PS.take t).flatten
theorem keysTo_step (PS : List (List Int)) (t : Nat) (h : t < PS.length) : keysTo PS (t + 1) = keysTo PS t ++ PS.getD t [] := by
  unfold keysTo
  rw [List.take_succ_eq_append_getElem h, List.flatten_append]
  simp [List.getD, List.getElem?_eq_getElem h]
theorem keysTo_length (PS : List (List Int)) (hl : ∀ p ∈ PS, p.length = 32) (t : Nat) : (keysTo PS t).length ≤ 32 * t := by
  unfold keysTo
  induction t with
  | zero => simp
  | succ t ih =>
    by_cases h : t < PS.length
    · rw [List.take_succ_eq_append_getElem h, List.flatten_append, List.length_append]
      simp only [List.flatten_cons, List.flatten_nil, List.append_nil]
      have := hl _ (List.getElem_mem h)
      omega
    · rw [List.take_of_length_le (by omega)] at ih ⊢
      omega
/-- Signatures in a row of the call's own, none of their bytes in that row. -/
def Sigs (w : World) (base : Nat) (v : Value) (K : List (List Int × Value)) : Prop := OwnKeys w base v K ∧ ∀ p ∈ K, HasX w (fun b => v.ownBlock ≠ some b) p.2 p.1 ∧ Sz.Byt p.1
theorem Sigs.below {w w' : World} {base : Nat} {v : Value} {K : List (List Int × Value)} (h : Sigs w base v K) (hb : Below w.heap.size w w') : Sigs w' base v K :=
  ⟨owns_below h.1 hb, fun p hp => ⟨(h.2 p hp).1.move fun b hlt hX => ⟨hb.block b hlt, hX⟩, (h.2 p hp).2⟩⟩
theorem Sigs.none (w : World) (base : Nat) : Sigs w base (.slice none 0 0) [] := ⟨World.ownsRow_nil _ _ _ _, fun p hp => by cases hp⟩
theorem own_hasX {w : World} {base : Nat} {v : Value} {l : List Int} {X : Nat → Prop} (h : Own w base v l) (h0 : 0 < l.length) (hX : ∀ b, base ≤ b → X b) : HasX w X v l := by
  obtain ⟨g, cap, rfl, h1, h2, h3, h4, hr⟩ := owns_some h h0
  exact .inr ⟨g, 0, cap, rfl, h0, h3, h4, hX g h1, fun j hj => hr j _ (vals_get l j hj)⟩
theorem run_append_sigs (W : World) (base : Nat) (v : Value) (K : List (List Int × Value)) (p : List Int × Value) (g c : Nat) (hbW : base ≤ W.heap.size) (hS : Sigs W base v K) (hg : Is W g [p.2] 36) (hp : HasX W (fun b => v.ownBlock ≠ some b) p.2 p.1) (hpb : Sz.Byt p.1) (hbd : K.length ≤ 900) (ty : TypeId) :
    ∃ v' W', (Builtin.append_ #[23, 23] ty #[v, .slice (some ⟨g, 0, none⟩) 1 c]).run Tryd.prog W = .ok v' W' ∧ Sigs W' base v' (K ++ [p]) ∧ Below base W W' ∧ ∀ b, b < W.heap.size → v.ownBlock ≠ some b → W'.heap[b]? = W.heap[b]? ∧ v'.ownBlock ≠ some b := by
  have hone : ∀ u ∈ [p.2], u.oneCell' = true := fun u hu => by
    obtain rfl := List.mem_singleton.1 hu
    obtain ⟨a, cc, e, _⟩ := hp.has.shape
    rw [e]; rfl
  obtain ⟨v', W', h1, h2, h3, h4⟩ := run_append_gen W base 23 36 1 elem_row v K.length (K.map Prod.snd) hS.1 ⟨g, 0, none⟩ 1 c (by omega) [p.2] (by simp) (fun j u hu => by rw [Addr.add_lit]; exact is_range hg j u hu) hone (by omega) hbW ty
  refine ⟨v', W', h1, ⟨?_, fun q hq => ?_⟩, (Below.refl base W).grown h3 hbW (fun q hq => (World.ownsRow.lt hS.1 q hq).1), fun b hb hX => ⟨h3.block b hb (fun e => hX e.symm), by
    rcases h4 with h | h
    · rw [h]; exact hX
    · rw [h]; intro e; injection e with e; omega⟩⟩
  · unfold OwnKeys
    rw [List.length_append, List.map_append]
    exact h2
  · have hmv : ∀ {x : Value} {l : List Int}, HasX W (fun b => v.ownBlock ≠ some b) x l → HasX W' (fun b => v'.ownBlock ≠ some b) x l := fun hx => hx.move fun b hb hX => ⟨h3.block b hb (fun e => hX e.symm), by
      rcases h4 with h | h
      · rw [h]; exact hX
      · rw [h]; intro e; injection e with e; omega⟩
    rcases List.mem_append.1 hq with hq | hq
    · exact ⟨hmv (hS.2 q hq).1, (hS.2 q hq).2⟩
    · obtain rfl := List.mem_singleton.1 hq
      exact ⟨hmv hp, hpb⟩
theorem lt_snoc {is : List Nat} {t : Nat} (h : ∀ x ∈ is, x < t) : ∀ x ∈ is ++ [t], x < t + 1 := fun x hx => by
  rcases List.mem_append.1 hx with hx | hx
  · have := h x hx; omega
  · obtain rfl := List.mem_singleton.1 hx; omega
/-- The last one of places. -/
def lastOf (is : List Nat) : Int := match is.getLast? with
  | none => -1
  | some z => z
theorem lastOf_snoc (is : List Nat) (z : Nat) : lastOf (is ++ [z]) = z := by simp [lastOf]
theorem incr_twice (J : List Nat) (n : Nat) (hn : 2 ≤ n) (hJ : J.length = n) (i0 : Nat) (h0 : J[0]? = some i0) : Lk.incr 0 (J.set (n - 1) i0) = false := by
  have e : J.set (n - 1) i0 = J.take (n - 1) ++ i0 :: [] := by rw [List.set_eq_take_append_cons_drop, if_pos (by omega), List.drop_eq_nil_of_le (by omega)]
  rw [e]
  refine Lk.incr_bad i0 i0 [] (Nat.le_refl _) (J.take (n - 1)) 0 (List.mem_of_getElem? (i := 0) ?_)
  rw [List.getElem?_take, if_pos (by omega)]; exact h0
theorem keysTo_all (PS : List (List Int)) (k : Nat) (h : PS.length = k) : keysTo PS k = Lk.keysFrom PS 0 := by
  unfold keysTo Lk.keysFrom; rw [List.take_of_length_le (by omega)]; rfl
/-- The ops of a lock on some of as many keys. -/
def manyL (KB : List Int) (kv : Value) (N : Int) : List (Lk.Op × Value) := [(⟨1, 0, KB⟩, kv), (⟨9, N, []⟩, .slice none 0 0)]
theorem many_ops {W : World} {g : Nat} {KB : List Int} {kv : Value} {N : Int} (h : Is W g (opCells (manyL KB kv N)) 38) (hk : Has W kv KB) (hb : Sz.Byt KB) : HasOps W (.slice (some ⟨g, 0, none⟩) 2 2) (manyL KB kv N) :=
  ⟨.inr ⟨g, 0, 2, rfl, by simp [manyL], by simp [manyL], by unfold maxLen; omega, h.lt, is_range h⟩, fun p hp => by
    simp only [manyL, List.mem_cons, List.not_mem_nil, or_false] at hp
    rcases hp with rfl | rfl
    · exact ⟨hk, hb⟩
    · exact ⟨.inl ⟨none, 0, rfl, rfl, by unfold maxLen; omega, fun _ => rfl⟩, Sz.Byt.nil⟩⟩
def Apart (PS : List (List Int)) (t : Nat) : Prop := ∀ a b, a < b → b < t → PS.getD a [] ≠ PS.getD b []
theorem Apart.step {PS : List (List Int)} {t : Nat} (h : Apart PS t) (hs : ∀ a, a < t → PS.getD a [] ≠ PS.getD t []) : Apart PS (t + 1) := fun a b h1 h2 => by
  by_cases e : b = t
  · subst e; exact hs a h1
  · exact h a b h1 (by omega)

set_option maxRecDepth 100000 in
set_option maxHeartbeats 32000000 in
theorem lockMany_walk (sv : Value) (DS : List (List Int)) (n : Int) (bv : Value) (BS : List Bool) (m : List Int) (w : World) (hds : HasDigs w sv DS) (hbs : HasBools w bv BS) (hm : m.length = 32) (hmb : Sz.Byt m) (ht : Tab w) (hw : 1 < w.heap.size) (hE : ErrVar w) :
    Calls Tryd.prog 6 #[sv, .int .i64 n, bv, .agg (vals m).toArray] w fun e w' => e = .returned (.bool true) ∧ Below w.heap.size w w' := by
  obtain ⟨⟨da, dc, rfl, hd1, hd2, hdr⟩, hdl⟩ := hds
  obtain ⟨ba, bc, rfl, hb1, hb2, hbr0⟩ := hbs
  have hbr : 0 < BS.length → ∃ bb boff, ba = some ⟨bb, boff, none⟩ ∧ bb < w.heap.size ∧ ∀ i, i < BS.length → w.cell? ⟨bb, boff + i, none⟩ = some (.bool (BS.getD i false)) := fun h0 => by
    obtain ⟨bb, boff, e0, hlt, _⟩ := hbr0 0 h0
    refine ⟨bb, boff, e0, hlt, fun i hi => ?_⟩
    obtain ⟨b2, o2, e2, _, hc⟩ := hbr0 i hi
    rw [e0] at e2
    cases e2
    exact hc
  unfold maxLen at hd2 hb2
  obtain ⟨Z, hZ⟩ : ∃ Z : List Int, Z = List.replicate 32 0 := ⟨_, rfl⟩
  have hzd := zero_dig
  rw [← hZ] at hzd
  have HZL : Hid ((vals Z).length = 32) := hide (by rw [vals_length, hZ]; rfl)
  have hvz : ¬ vals Z = [] := by intro h; have := HZL.out; rw [h] at this; cases this
  have HVML : Hid ((vals m).length = 32) := hide (by rw [vals_length]; exact hm)
  have hszm : (Tryd.prog.info? 25).map (·.size) = some (vals m).length := by rw [vals_length, hm]; exact size_dig
  have hgd := guard_dig
  have hb0 := below_alloc w (.cells (vals m).toArray 25)
  have HB0 := hide hb0
  have HOP := hide (opened_any _ (ht.below hb0 hw) (Nat.lt_of_lt_of_le hw hb0.size) (hE.below hb0))
  have HIS := hide (Is.new w (vals m) 25)
  obtain ⟨PS, hPS⟩ : ∃ PS, PS = DS.map Ky.pub := ⟨_, rfl⟩
  have hPSg : ∀ i, i < DS.length → PS.getD i [] = Ky.pub (DS.getD i []) := fun i hi => by rw [hPS]; simp [List.getD, hi]
  have hdg : ∀ i, i < DS.length → (DS.getD i []).length = 32 ∧ Sz.Byt (DS.getD i []) := fun i hi => by
    have e : DS.getD i [] = DS[i] := by simp [List.getD, List.getElem?_eq_getElem hi]
    rw [e]; exact hdl _ (List.getElem_mem hi)
  have HPUB : Hid (∀ W i, i < DS.length → Below w.heap.size w W → Calls Tryd.prog 16 #[.agg (vals (DS.getD i [])).toArray] W fun e w' => e = .returned (.agg (vals (PS.getD i [])).toArray) ∧ Below W.heap.size W w') := fun W i hi hW => by
    rw [hPSg i hi]
    exact public_any _ W (hdg i hi).1 (hdg i hi).2 (ht.below hW hw) (Nat.lt_of_lt_of_le hw hW.size)
  have HSIGN : Hid (∀ W i, i < DS.length → Below w.heap.size w W → Calls Tryd.prog 17 #[.agg (vals (DS.getD i [])).toArray, .agg (vals m).toArray] W fun e w' => ∃ v, e = .returned v ∧ Own w' W.heap.size v (Ky.sign (DS.getD i []) m) ∧ Below W.heap.size W w') := fun W i hi hW => sign_any _ m W (hdg i hi).1 (hdg i hi).2 hm hmb (ht.below hW hw) (Nat.lt_of_lt_of_le hw hW.size)
  have HRUN : Hid (∀ W ov O kv2 K2, Below w.heap.size w W → HasOps W ov O → HasKeys W kv2 K2 → Calls Tryd.prog 12 #[ov, kv2, .agg (vals m).toArray, .int .i64 0] W fun e w' => e = .returned (errV (Lk.run m 0 (opsOf O) (K2.map Prod.fst))) ∧ Below W.heap.size W w') := fun W ov O kv2 K2 hW hO hK => run_any O K2 ov kv2 m 0 W hO hK hm hmb (ht.below hW hw) (Nat.lt_of_lt_of_le hw hW.size)
  have HPL : Hid (∀ p ∈ PS, p.length = 32) := hide (fun p hp => by rw [hPS] at hp; obtain ⟨d, _, rfl⟩ := List.mem_map.1 hp; exact Ky.pub_length d)
  have HPB : Hid (∀ i, i < DS.length → (PS.getD i []).length = 32 ∧ Sz.Byt (PS.getD i [])) := hide (fun i hi => by rw [hPSg i hi]; exact ⟨Ky.pub_length _, Mc.sum_byt _⟩)
  have HPSL : Hid (PS.length = DS.length) := hide (by rw [hPS]; simp)
  have HREC : Hid (∀ i, i < DS.length → (Ky.sign (DS.getD i []) m).length = 2144 ∧ Ky.recov m (Ky.sign (DS.getD i []) m) = PS.getD i []) := hide (fun i hi => ⟨Ky.sign_length _ _, by rw [hPSg i hi]; exact Ky.recov_sign _ m hmb⟩)
  have HDG := hide hdg
  have HBRR := hide hbr
  clear hbr0
  have HDRR := hide hdr
  clear hm hmb ht hw hE hb0 hZ hPS hPSg hdl hdg hbr hdr
  go_enter Tryd.func6, Tryd.ntmps6
  go_wp2_with fail
  refine HOP.out.mono ?_
  rintro e wA ⟨rfl, hbA⟩
  have HIA := hide (HIS.out.below hbA (by simp))
  have HBA := hide (HB0.out.trans (hbA.mono (by simp)))
  clear hbA HIS HB0 HOP
  by_cases hcond : 1 ≤ DS.length ∧ DS.length ≤ 4 ∧ DS.length ≤ BS.length ∧ 1 ≤ n ∧ n ≤ DS.length
  · obtain ⟨c1, c2, c3, c4, c5⟩ := hcond
    have i1 : decide ((DS.length : Int) < 1) = false := decide_eq_false (by omega)
    have i2 : decide ((4 : Int) < (DS.length : Int)) = false := decide_eq_false (by omega)
    have i3 : decide ((BS.length : Int) < (DS.length : Int)) = false := decide_eq_false (by omega)
    have i4 : decide (n < 1) = false := decide_eq_false (by omega)
    have i5 : decide ((DS.length : Int) < n) = false := decide_eq_false (by omega)
    obtain ⟨N, rfl⟩ : ∃ N : Nat, n = (N : Int) := ⟨n.toNat, by omega⟩
    obtain ⟨db, doff, rfl, hdb, hdrr⟩ := HDRR.out 0 (by omega)
    obtain ⟨bb, boff, rfl, hbb, hbcell⟩ := HBRR.out (by omega)
    have HBB2 := hide hbb
    have HBC2 := hide hbcell
    clear hbb hbcell HBRR
    have HDR := hide hdrr
    have HDB := hide hdb
    clear hdrr hdb HDRR
    generalize hkl : DS.length = kl at *
    generalize hbl : BS.length = bl at *
    have HKL := hide hkl
    have HBLL := hide hbl
    clear hkl hbl
    have i6 : decide (bl < kl) = false := decide_eq_false (by omega)
    have i7 : decide (kl < N) = false := decide_eq_false (by omega)
    go_wp2
    clear i1 i2 i3 i4 i5 i6 i7
    go_loopw [10, 11] (fun v i wr => ∃ t : Nat, t ≤ kl ∧ i = .int .i64 t ∧ Own wr wA.heap.size v (keysTo PS t) ∧ Below wA.heap.size wA wr ∧ Apart PS t) (fun _ i _ => kl - (intOf i).toNat)
    case atStart => exact ⟨0, by omega, rfl, Own.nil _ _, Below.refl _ _, fun a b _ h => absurd h (by omega)⟩
    case round =>
      obtain ⟨t, htl, rfl, hown, hbel, hap⟩ := hrel
      have HOWN := hide hown
      have HBEL := hide hbel
      have HAP := hide hap
      obtain ⟨va, vc, rfl, _, _⟩ := hown.form
      clear hown hbel hap
      obtain ⟨wQ, hwQ⟩ : ∃ wQ, wQ = wr := ⟨_, rfl⟩
      subst hwQ
      by_cases htk : t < kl
      · generalize hkt : (keysTo PS t).length = ktl at *
        have HKT := hide hkt
        clear hkt
        go_wp2
        go_loopw [12] (fun j wr => ∃ s : Nat, s ≤ t ∧ j = .int .i64 s ∧ Below wQ.heap.size wQ wr ∧ ∀ a, a < s → PS.getD a [] ≠ PS.getD t []) (fun j _ => t - (intOf j).toNat)
        case atStart => exact ⟨0, by omega, rfl, Below.refl _ _, fun a h => absurd h (by omega)⟩
        case round =>
          obtain ⟨s, hst, rfl, hbi, hne⟩ := hrel
          have HBH := hide hbi
          have HNEO := hide hne
          have HBI := hide ((HBA.out.trans (HBEL.out.mono HBA.out.size)).trans (hbi.mono (Nat.le_trans HBA.out.size HBEL.out.size)))
          obtain ⟨wI, hwI⟩ : ∃ wI, wI = wr := ⟨_, rfl⟩
          subst hwI
          clear hbi hne
          by_cases hlt : s < t
          · have hsk : s < kl := by omega
            obtain ⟨pS, hpS⟩ : ∃ x, x = PS.getD s [] := ⟨_, rfl⟩
            obtain ⟨pT, hpT⟩ : ∃ x, x = PS.getD t [] := ⟨_, rfl⟩
            obtain ⟨dS, hdS⟩ : ∃ x, x = DS.getD s [] := ⟨_, rfl⟩
            obtain ⟨dT, hdT⟩ : ∃ x, x = DS.getD t [] := ⟨_, rfl⟩
            have hszS : (Tryd.prog.info? 25).map (·.size) = some (vals dS).length := by rw [vals_length, hdS, (HDG.out s hsk).1]; exact size_dig
            have hszT : (Tryd.prog.info? 25).map (·.size) = some (vals dT).length := by rw [vals_length, hdT, (HDG.out t htk).1]; exact size_dig
            have HPs : Hid (∀ W, Below w.heap.size w W → Calls Tryd.prog 16 #[.agg (vals dS).toArray] W fun e w' => e = .returned (.agg (vals pS).toArray) ∧ Below W.heap.size W w') := hide (fun W hW => by rw [hdS, hpS]; exact HPUB.out W s hsk hW)
            have HPt : Hid (∀ W, Below w.heap.size w W → Calls Tryd.prog 16 #[.agg (vals dT).toArray] W fun e w' => e = .returned (.agg (vals pT).toArray) ∧ Below W.heap.size W w') := hide (fun W hW => by rw [hdT, hpT]; exact HPUB.out W t htk hW)
            have HDs : Hid (∀ W, Below w.heap.size w W → W.rangeAt db (doff + s * 32) (vals dS)) := hide (fun W hW => by rw [hdS]; exact range_keep (HDR.out s hsk) hW HDB.out)
            have HDt : Hid (∀ W, Below w.heap.size w W → W.rangeAt db (doff + t * 32) (vals dT)) := hide (fun W hW => by rw [hdT]; exact range_keep (HDR.out t htk) hW HDB.out)
            have HpSL : Hid (pS.length = 32) := hide (by rw [hpS]; exact (HPB.out s hsk).1)
            have HpTL : Hid (pT.length = 32) := hide (by rw [hpT]; exact (HPB.out t htk).1)
            clear hdS hdT
            by_cases heq : PS.getD s [] = PS.getD t []
            · have heqv : ∀ w', (Op.equalIn 10000 25 (.agg (vals pS).toArray) (.agg (vals pT).toArray)).run Tryd.prog w' = .ok true w' := fun w' => by rw [dig_eq _ _ HpSL.out HpTL.out, decide_eq_true (by rw [hpS, hpT]; exact heq)]
              clear heq hpS hpT
              go_wp2
              refine wp_region_held_drew (S := fun W : World => Below wI.heap.size wI W) (by kernel_rfl) ?_ (fun hHeld0 => ?_)
              · exact (Below.refl _ _).drew
              refine wpAnyH_take (i := 0) (v := ?_) rfl (by kernel_rfl) (by kernel_rfl) (by kernel_rfl) (fun _ _ _ h => h) (Or.inl ⟨by rfl, ?_⟩) hHeld0 ?_
              rotate_left
              · (intro w hSw; (try dsimp only at hSw); go_simp <;> (try with_reducible rfl))
              simp only [Act.put, List.getElem_toArray, List.getElem_cons_zero, List.getElem_cons_succ, List.setIfInBounds_toArray, List.set_cons_zero, List.set_cons_succ]
              refine wpAnyH_take (i := 1) (v := ?_) rfl (by kernel_rfl) (by kernel_rfl) (by kernel_rfl) (fun _ _ _ h => h) (Or.inl ⟨by rfl, ?_⟩) hHeld0 ?_
              rotate_left
              · (intro w hSw; (try dsimp only at hSw); go_simp <;> (try with_reducible rfl))
              simp only [Act.put, List.getElem_toArray, List.getElem_cons_zero, List.getElem_cons_succ, List.setIfInBounds_toArray, List.set_cons_zero, List.set_cons_succ]
              refine wpAnyH_take (i := 2) (v := ?_) rfl (by kernel_rfl) (by kernel_rfl) (by kernel_rfl) (fun _ _ _ h => h) (Or.inl ⟨by rfl, ?_⟩) hHeld0 ?_
              rotate_left
              · (intro w hSw; (try dsimp only at hSw); go_simp <;> (try with_reducible rfl))
              simp only [Act.put, List.getElem_toArray, List.getElem_cons_zero, List.getElem_cons_succ, List.setIfInBounds_toArray, List.set_cons_zero, List.set_cons_succ]
              refine wpAnyH_take (i := 3) (v := .agg (vals dS).toArray) rfl (by kernel_rfl) (by kernel_rfl) (by kernel_rfl) (fun _ _ _ h => h) (yieldsIf_load_mid (by rfl) _ _ rfl _ _ rfl (vals dS) _ (fun w hSw => HDs.out _ (HBI.out.trans (hSw.mono HBI.out.size))) Tryd.underlying25 rfl hszS) hHeld0 ?_
              simp only [Act.put, List.getElem_toArray, List.getElem_cons_zero, List.getElem_cons_succ, List.setIfInBounds_toArray, List.set_cons_zero, List.set_cons_succ]
              refine wpAnyH_take (i := 5) (v := ?_) rfl (by kernel_rfl) (by kernel_rfl) (by kernel_rfl) (fun _ _ _ h => h) (Or.inl ⟨by rfl, ?_⟩) hHeld0 ?_
              rotate_left
              · (intro w hSw; (try dsimp only at hSw); go_simp <;> (try with_reducible rfl))
              simp only [Act.put, List.getElem_toArray, List.getElem_cons_zero, List.getElem_cons_succ, List.setIfInBounds_toArray, List.set_cons_zero, List.set_cons_succ]
              refine wpAnyH_take (i := 6) (v := ?_) rfl (by kernel_rfl) (by kernel_rfl) (by kernel_rfl) (fun _ _ _ h => h) (Or.inl ⟨by rfl, ?_⟩) hHeld0 ?_
              rotate_left
              · (intro w hSw; (try dsimp only at hSw); go_simp <;> (try with_reducible rfl))
              simp only [Act.put, List.getElem_toArray, List.getElem_cons_zero, List.getElem_cons_succ, List.setIfInBounds_toArray, List.set_cons_zero, List.set_cons_succ]
              refine wpAnyH_take (i := 7) (v := ?_) rfl (by kernel_rfl) (by kernel_rfl) (by kernel_rfl) (fun _ _ _ h => h) (Or.inl ⟨by rfl, ?_⟩) hHeld0 ?_
              rotate_left
              · (intro w hSw; (try dsimp only at hSw); go_simp <;> (try with_reducible rfl))
              simp only [Act.put, List.getElem_toArray, List.getElem_cons_zero, List.getElem_cons_succ, List.setIfInBounds_toArray, List.set_cons_zero, List.set_cons_succ]
              refine wpAnyH_take (i := 8) (v := .agg (vals dT).toArray) rfl (by kernel_rfl) (by kernel_rfl) (by kernel_rfl) (fun _ _ _ h => h) (yieldsIf_load_mid (by rfl) _ _ rfl _ _ rfl (vals dT) _ (fun w hSw => HDt.out _ (HBI.out.trans (hSw.mono HBI.out.size))) Tryd.underlying25 rfl hszT) hHeld0 ?_
              simp only [Act.put, List.getElem_toArray, List.getElem_cons_zero, List.getElem_cons_succ, List.setIfInBounds_toArray, List.set_cons_zero, List.set_cons_succ]
              refine wpAnyH_ready (rs := [4]) (by kernel_rfl) (by simp) ?_
              refine AllReadyH.cons rfl (fun K hK => ?_) AllReadyH.nil
              go_simp
              go_wp2_with ((go_at_call 16; refine (HPs.out _ (HBI.out.trans (hHeld0.mono HBI.out.size))).mono ?_; rintro e w62 ⟨rfl, hb62⟩))
              refine hK.out _ _ (by exact below_step hHeld0 hb62) (fun hHeld1 => ?_)
              clear hK K hHeld0
              try simp only [Act.put, List.getElem_toArray, List.getElem_cons_zero, List.getElem_cons_succ, List.setIfInBounds_toArray, List.set_cons_zero, List.set_cons_succ]
              refine wpAnyH_ready (rs := [9]) (by kernel_rfl) (by simp) ?_
              refine AllReadyH.cons rfl (fun K hK => ?_) AllReadyH.nil
              go_simp
              go_wp2_with ((go_at_call 16; refine (HPt.out _ (HBI.out.trans (hHeld1.mono HBI.out.size))).mono ?_; rintro e w67 ⟨rfl, hb67⟩))
              refine hK.out _ _ (by exact below_step hHeld1 hb67) (fun hHeld2 => ?_)
              clear hK K hHeld1
              try simp only [Act.put, List.getElem_toArray, List.getElem_cons_zero, List.getElem_cons_succ, List.setIfInBounds_toArray, List.set_cons_zero, List.set_cons_succ]
              refine wpAnyH_take (i := 10) (v := ?_) rfl (by kernel_rfl) (by kernel_rfl) (by kernel_rfl) (fun _ _ _ h => h) (Or.inl ⟨by rfl, ?_⟩) hHeld2 ?_
              rotate_left
              · (intro w hSw; (try dsimp only at hSw); go_simp <;> (try with_reducible rfl))
              simp only [Act.put, List.getElem_toArray, List.getElem_cons_zero, List.getElem_cons_succ, List.setIfInBounds_toArray, List.set_cons_zero, List.set_cons_succ]
              refine wpAnyH_done (by kernel_rfl) ?_ _
              have HBJ := hide (HBI.out.trans (hHeld2.mono HBI.out.size))
              have HBK := hide (hHeld2)
              go_wp2
              go_ret
              exact ⟨rfl, HBJ.out⟩
            · have heqv : ∀ w', (Op.equalIn 10000 25 (.agg (vals pS).toArray) (.agg (vals pT).toArray)).run Tryd.prog w' = .ok false w' := fun w' => by rw [dig_eq _ _ HpSL.out HpTL.out, decide_eq_false (by rw [hpS, hpT]; exact heq)]
              have HNE : Hid (∀ a, a < s + 1 → PS.getD a [] ≠ PS.getD t []) := hide (fun a ha => by
                by_cases e : a = s
                · subst e; exact heq
                · exact HNEO.out a (by omega))
              clear heq hpS hpT
              go_wp2
              refine wp_region_held_drew (S := fun W : World => Below wI.heap.size wI W) (by kernel_rfl) ?_ (fun hHeld0 => ?_)
              · exact (Below.refl _ _).drew
              refine wpAnyH_take (i := 0) (v := ?_) rfl (by kernel_rfl) (by kernel_rfl) (by kernel_rfl) (fun _ _ _ h => h) (Or.inl ⟨by rfl, ?_⟩) hHeld0 ?_
              rotate_left
              · (intro w hSw; (try dsimp only at hSw); go_simp <;> (try with_reducible rfl))
              simp only [Act.put, List.getElem_toArray, List.getElem_cons_zero, List.getElem_cons_succ, List.setIfInBounds_toArray, List.set_cons_zero, List.set_cons_succ]
              refine wpAnyH_take (i := 1) (v := ?_) rfl (by kernel_rfl) (by kernel_rfl) (by kernel_rfl) (fun _ _ _ h => h) (Or.inl ⟨by rfl, ?_⟩) hHeld0 ?_
              rotate_left
              · (intro w hSw; (try dsimp only at hSw); go_simp <;> (try with_reducible rfl))
              simp only [Act.put, List.getElem_toArray, List.getElem_cons_zero, List.getElem_cons_succ, List.setIfInBounds_toArray, List.set_cons_zero, List.set_cons_succ]
              refine wpAnyH_take (i := 2) (v := ?_) rfl (by kernel_rfl) (by kernel_rfl) (by kernel_rfl) (fun _ _ _ h => h) (Or.inl ⟨by rfl, ?_⟩) hHeld0 ?_
              rotate_left
              · (intro w hSw; (try dsimp only at hSw); go_simp <;> (try with_reducible rfl))
              simp only [Act.put, List.getElem_toArray, List.getElem_cons_zero, List.getElem_cons_succ, List.setIfInBounds_toArray, List.set_cons_zero, List.set_cons_succ]
              refine wpAnyH_take (i := 3) (v := .agg (vals dS).toArray) rfl (by kernel_rfl) (by kernel_rfl) (by kernel_rfl) (fun _ _ _ h => h) (yieldsIf_load_mid (by rfl) _ _ rfl _ _ rfl (vals dS) _ (fun w hSw => HDs.out _ (HBI.out.trans (hSw.mono HBI.out.size))) Tryd.underlying25 rfl hszS) hHeld0 ?_
              simp only [Act.put, List.getElem_toArray, List.getElem_cons_zero, List.getElem_cons_succ, List.setIfInBounds_toArray, List.set_cons_zero, List.set_cons_succ]
              refine wpAnyH_take (i := 5) (v := ?_) rfl (by kernel_rfl) (by kernel_rfl) (by kernel_rfl) (fun _ _ _ h => h) (Or.inl ⟨by rfl, ?_⟩) hHeld0 ?_
              rotate_left
              · (intro w hSw; (try dsimp only at hSw); go_simp <;> (try with_reducible rfl))
              simp only [Act.put, List.getElem_toArray, List.getElem_cons_zero, List.getElem_cons_succ, List.setIfInBounds_toArray, List.set_cons_zero, List.set_cons_succ]
              refine wpAnyH_take (i := 6) (v := ?_) rfl (by kernel_rfl) (by kernel_rfl) (by kernel_rfl) (fun _ _ _ h => h) (Or.inl ⟨by rfl, ?_⟩) hHeld0 ?_
              rotate_left
              · (intro w hSw; (try dsimp only at hSw); go_simp <;> (try with_reducible rfl))
              simp only [Act.put, List.getElem_toArray, List.getElem_cons_zero, List.getElem_cons_succ, List.setIfInBounds_toArray, List.set_cons_zero, List.set_cons_succ]
              refine wpAnyH_take (i := 7) (v := ?_) rfl (by kernel_rfl) (by kernel_rfl) (by kernel_rfl) (fun _ _ _ h => h) (Or.inl ⟨by rfl, ?_⟩) hHeld0 ?_
              rotate_left
              · (intro w hSw; (try dsimp only at hSw); go_simp <;> (try with_reducible rfl))
              simp only [Act.put, List.getElem_toArray, List.getElem_cons_zero, List.getElem_cons_succ, List.setIfInBounds_toArray, List.set_cons_zero, List.set_cons_succ]
              refine wpAnyH_take (i := 8) (v := .agg (vals dT).toArray) rfl (by kernel_rfl) (by kernel_rfl) (by kernel_rfl) (fun _ _ _ h => h) (yieldsIf_load_mid (by rfl) _ _ rfl _ _ rfl (vals dT) _ (fun w hSw => HDt.out _ (HBI.out.trans (hSw.mono HBI.out.size))) Tryd.underlying25 rfl hszT) hHeld0 ?_
              simp only [Act.put, List.getElem_toArray, List.getElem_cons_zero, List.getElem_cons_succ, List.setIfInBounds_toArray, List.set_cons_zero, List.set_cons_succ]
              refine wpAnyH_ready (rs := [4]) (by kernel_rfl) (by simp) ?_
              refine AllReadyH.cons rfl (fun K hK => ?_) AllReadyH.nil
              go_simp
              go_wp2_with ((go_at_call 16; refine (HPs.out _ (HBI.out.trans (hHeld0.mono HBI.out.size))).mono ?_; rintro e w62 ⟨rfl, hb62⟩))
              refine hK.out _ _ (by exact below_step hHeld0 hb62) (fun hHeld1 => ?_)
              clear hK K hHeld0
              try simp only [Act.put, List.getElem_toArray, List.getElem_cons_zero, List.getElem_cons_succ, List.setIfInBounds_toArray, List.set_cons_zero, List.set_cons_succ]
              refine wpAnyH_ready (rs := [9]) (by kernel_rfl) (by simp) ?_
              refine AllReadyH.cons rfl (fun K hK => ?_) AllReadyH.nil
              go_simp
              go_wp2_with ((go_at_call 16; refine (HPt.out _ (HBI.out.trans (hHeld1.mono HBI.out.size))).mono ?_; rintro e w67 ⟨rfl, hb67⟩))
              refine hK.out _ _ (by exact below_step hHeld1 hb67) (fun hHeld2 => ?_)
              clear hK K hHeld1
              try simp only [Act.put, List.getElem_toArray, List.getElem_cons_zero, List.getElem_cons_succ, List.setIfInBounds_toArray, List.set_cons_zero, List.set_cons_succ]
              refine wpAnyH_take (i := 10) (v := ?_) rfl (by kernel_rfl) (by kernel_rfl) (by kernel_rfl) (fun _ _ _ h => h) (Or.inl ⟨by rfl, ?_⟩) hHeld2 ?_
              rotate_left
              · (intro w hSw; (try dsimp only at hSw); go_simp <;> (try with_reducible rfl))
              simp only [Act.put, List.getElem_toArray, List.getElem_cons_zero, List.getElem_cons_succ, List.setIfInBounds_toArray, List.set_cons_zero, List.set_cons_succ]
              refine wpAnyH_done (by kernel_rfl) ?_ _
              have HBJ := hide (HBI.out.trans (hHeld2.mono HBI.out.size))
              have HBK := hide (hHeld2)
              go_wp2
              go_roundw
              case rel => exact ⟨s + 1, by omega, by go_num, HBH.out.trans (HBK.out.mono HBH.out.size), HNE.out⟩
              case measure => simp [intOf]; omega
          · have hse : s = t := by omega
            have hst' : ¬ (s : Int) < (t : Int) := by omega
            obtain ⟨pT, hpT⟩ : ∃ x, x = PS.getD t [] := ⟨_, rfl⟩
            obtain ⟨dT, hdT⟩ : ∃ x, x = DS.getD t [] := ⟨_, rfl⟩
            have hszT : (Tryd.prog.info? 25).map (·.size) = some (vals dT).length := by rw [vals_length, hdT, (HDG.out t htk).1]; exact size_dig
            have HPt : Hid (∀ W, Below w.heap.size w W → Calls Tryd.prog 16 #[.agg (vals dT).toArray] W fun e w' => e = .returned (.agg (vals pT).toArray) ∧ Below W.heap.size W w') := hide (fun W hW => by rw [hdT, hpT]; exact HPUB.out W t htk hW)
            have HDt : Hid (∀ W, Below w.heap.size w W → W.rangeAt db (doff + t * 32) (vals dT)) := hide (fun W hW => by rw [hdT]; exact range_keep (HDR.out t htk) hW HDB.out)
            have HpTL : Hid (pT.length = 32) := hide (by rw [hpT]; exact (HPB.out t htk).1)
            have HpTE := hide hpT
            have HVpT : Hid ((vals pT).length = 32) := hide (by rw [vals_length]; exact HpTL.out)
            have HOWI : Hid (Own wI wA.heap.size (.slice va ktl vc) (keysTo PS t)) := hide (HOWN.out.below HBH.out)
            have HBAI : Hid (Below wA.heap.size wA wI) := hide (HBEL.out.trans (HBH.out.mono HBEL.out.size))
            have hkt32 : ktl ≤ 128 := by have := keysTo_length PS HPL.out t; rw [HKT.out] at this; omega
            clear hdT hpT
            go_wp2_with (refine wpList_load_mid (P := Tryd.prog) rfl 25 (.tmp 71) rfl db (doff + t * 32) rfl (vals dT) _ (HDt.out wI HBI.out) Tryd.underlying25 rfl hszT ?_)
            refine (HPt.out wI HBI.out).mono ?_
            rintro e wP ⟨rfl, hbP⟩
            have HOWP := hide (HOWI.out.below hbP)
            have HBAP := hide (HBAI.out.trans (hbP.mono HBAI.out.size))
            clear hbP
            go_wp2_with (first
              | (refine wpList_store_any2 25 (vals Z) (vals pT) wP.heap.size rfl (.tmp 13) (.tmp 73) rfl rfl rfl rfl (Is.new wP _ _) size_dig HZL.out HVpT.out (vals_one _) ?_; intro w7 hi7 hb7 hk7 hz7; have HB7 := hide (hb7 _ _ (below_alloc wP _) (Nat.le_refl _)); have HI7 := hide hi7; have HBA7 := hide (HBAP.out.trans (HB7.out.mono HBAP.out.size)); clear hi7 hb7 hk7 hz7)
              | (at_builtin; refine wpList_append_bytes w7 rfl (.tmp 74) (.tmp 75) rfl wA.heap.size (.slice va ktl vc) (keysTo PS t) rfl (HOWP.out.below HB7.out) (.slice (some ⟨wP.heap.size, 0, none⟩) 32 32) pT rfl (has_digest HI7.out HpTL.out) (by rw [HKT.out, HpTL.out]; omega) HBA7.out.size ?_; intro v76 w8 ho8 hg8; have HO8 := hide ho8; have HB8 : Hid (Below wA.heap.size wA w8) := hide (HBA7.out.grown hg8 HBA7.out.size (fun q hq => ((HOWP.out.below HB7.out).block q hq).1)); clear ho8 hg8))
            go_roundw
            case rel => exact ⟨t + 1, by omega, by go_num, by rw [keysTo_step PS t (by rw [HPSL.out]; exact htk), ← HpTE.out]; exact HO8.out, HB8.out, HAP.out.step (fun a ha => HNEO.out a (by omega))⟩
            case measure => simp [intOf]; omega
      · have hte : t = kl := by omega
        have htn : ¬ (t : Int) < (kl : Int) := by omega
        have HOB : Hid (Own wQ wA.heap.size (.slice va (keysTo PS t).length vc) (keysTo PS kl)) := hide (by have := HOWN.out; rw [hte] at this ⊢; exact this)
        have HAPK : Hid (Apart PS kl) := hide (by have := HAP.out; rw [hte] at this; exact this)
        have HBB := hide (HBA.out.trans (HBEL.out.mono HBA.out.size))
        have HIB := hide (HIA.out.below HBEL.out HIA.out.lt)
        obtain ⟨wB, hwB⟩ : ∃ wB, wB = wQ := ⟨_, rfl⟩
        rw [← hwB] at HOB HBB HIB ⊢
        generalize hkt : (keysTo PS t).length = ktl at *
        clear hwB HOWN HAP HBEL hte hkt
        go_wp2
        go_loopw [14, 15, 16] (fun sv lst i wr => ∃ (t : Nat) (is : List Nat) (KK : List (List Int × Value)), t ≤ kl ∧ i = .int .i64 t ∧ Sigs wr wB.heap.size sv KK ∧ KK.map Prod.fst = is.map (fun i => Ky.sign (DS.getD i []) m) ∧ Lk.incr 0 is = true ∧ (∀ x ∈ is, x < t) ∧ is.length ≤ t ∧ lst = .int .i64 (lastOf is) ∧ Below wB.heap.size wB wr) (fun _ _ i _ => kl - (intOf i).toNat)
        case atStart => exact ⟨0, [], [], by omega, rfl, Sigs.none _ _, rfl, rfl, (fun x hx => by cases hx), by simp, rfl, Below.refl _ _⟩
        case round =>
          obtain ⟨t, is, KK, htl, rfl, hsg, hke, hinc, hlt', hlen, rfl, hbel⟩ := hrel
          obtain ⟨wR, hwR⟩ : ∃ wR, wR = wr := ⟨_, rfl⟩
          subst hwR
          have HSG0 := hide hsg
          have HKE := hide hke
          have HINC := hide hinc
          have HLT := hide hlt'
          have HBRR2 := hide hbel
          have HBR := hide (HBB.out.trans (hbel.mono HBB.out.size))
          have HIR := hide (HIB.out.below hbel HIB.out.lt)
          have HKN : Hid (KK.length ≤ 4) := hide (by have := congrArg List.length hke; simp at this; omega)
          have HKIS : Hid (KK.length = is.length) := hide (by have := congrArg List.length hke; simpa using this)
          obtain ⟨sa, sc, rfl⟩ := owns_form hsg.1
          have HSG := HSG0
          clear hsg hke hinc hlt' hbel HSG0
          generalize hll : lastOf is = ll at *
          have HLL := hide hll
          clear hll
          by_cases htk : t < kl
          · have hcell : wR.cell? ⟨bb, boff + t, none⟩ = some (.bool (BS.getD t false)) := by rw [HBR.out.cell (p := ⟨bb, boff + t, none⟩) HBB2.out]; exact HBC2.out t (by omega)
            have htb : t < bl := by omega
            generalize BS.getD t false = x at *
            cases x with
            | false =>
              generalize KK.length = kn at *
              go_wp2
              go_roundw
              case rel => exact ⟨t + 1, is, KK, by omega, by go_num, HSG.out, HKE.out, HINC.out, (fun x hx => by have := HLT.out x hx; omega), by omega, by rw [HLL.out], HBRR2.out⟩
              case measure => simp [intOf]; omega
            | true =>
              obtain ⟨dT, hdT⟩ : ∃ x, x = DS.getD t [] := ⟨_, rfl⟩
              obtain ⟨G, hG⟩ : ∃ x, x = Ky.sign (DS.getD t []) m := ⟨_, rfl⟩
              obtain ⟨GL, hGL⟩ : ∃ n : Nat, n = 2144 := ⟨_, rfl⟩
              have HGLE := hide hGL
              have HGL : Hid (G.length = GL) := hide (by rw [hG, hGL]; exact Ky.sign_length _ _)
              have HGB : Hid (Sz.Byt G) := hide (by rw [hG]; exact Ky.sign_byt _ _)
              have HGE := hide hG
              have hszT : (Tryd.prog.info? 25).map (·.size) = some (vals dT).length := by rw [vals_length, hdT, (HDG.out t htk).1]; exact size_dig
              have HDt : Hid (∀ W, Below w.heap.size w W → W.rangeAt db (doff + t * 32) (vals dT)) := hide (fun W hW => by rw [hdT]; exact range_keep (HDR.out t htk) hW HDB.out)
              have HSt : Hid (∀ W, Below w.heap.size w W → Calls Tryd.prog 17 #[.agg (vals dT).toArray, .agg (vals m).toArray] W fun e w' => ∃ v, e = .returned v ∧ Own w' W.heap.size v G ∧ Below W.heap.size W w') := hide (fun W hW => by rw [hdT, hG]; exact HSIGN.out W t htk hW)
              clear hdT hG hGL
              go_wp2
              refine wp_region_held_drew (S := fun W : World => Below wB.heap.size wB W) (by kernel_rfl) ?_ (fun hHeld0 => ?_)
              · exact HBRR2.out.drew
              refine wpAnyH_take (i := 0) (v := ?_) rfl (by kernel_rfl) (by kernel_rfl) (by kernel_rfl) (fun _ _ _ h => h) (Or.inl ⟨by rfl, ?_⟩) hHeld0 ?_
              rotate_left
              · (intro w hSw; (try dsimp only at hSw); go_simp <;> (try with_reducible rfl))
              simp only [Act.put, List.getElem_toArray, List.getElem_cons_zero, List.getElem_cons_succ, List.setIfInBounds_toArray, List.set_cons_zero, List.set_cons_succ]
              refine wpAnyH_take (i := 1) (v := ?_) rfl (by kernel_rfl) (by kernel_rfl) (by kernel_rfl) (fun _ _ _ h => h) (Or.inl ⟨by rfl, ?_⟩) hHeld0 ?_
              rotate_left
              · (intro w hSw; (try dsimp only at hSw); go_simp <;> (try with_reducible rfl))
              simp only [Act.put, List.getElem_toArray, List.getElem_cons_zero, List.getElem_cons_succ, List.setIfInBounds_toArray, List.set_cons_zero, List.set_cons_succ]
              refine wpAnyH_take (i := 2) (v := ?_) rfl (by kernel_rfl) (by kernel_rfl) (by kernel_rfl) (fun _ _ _ h => h) (Or.inl ⟨by rfl, ?_⟩) hHeld0 ?_
              rotate_left
              · (intro w hSw; (try dsimp only at hSw); go_simp <;> (try with_reducible rfl))
              simp only [Act.put, List.getElem_toArray, List.getElem_cons_zero, List.getElem_cons_succ, List.setIfInBounds_toArray, List.set_cons_zero, List.set_cons_succ]
              refine wpAnyH_take (i := 3) (v := ?_) rfl (by kernel_rfl) (by kernel_rfl) (by kernel_rfl) (fun _ _ _ h => h) (Or.inl ⟨by rfl, ?_⟩) hHeld0 ?_
              rotate_left
              · (intro w hSw; (try dsimp only at hSw); go_simp <;> (try with_reducible rfl))
              simp only [Act.put, List.getElem_toArray, List.getElem_cons_zero, List.getElem_cons_succ, List.setIfInBounds_toArray, List.set_cons_zero, List.set_cons_succ]
              refine wpAnyH_take (i := 4) (v := .agg (vals dT).toArray) rfl (by kernel_rfl) (by kernel_rfl) (by kernel_rfl) (fun _ _ _ h => h) (yieldsIf_load_mid (by rfl) _ _ rfl _ _ rfl (vals dT) _ (fun w hSw => HDt.out _ (HBB.out.trans (hSw.mono HBB.out.size))) Tryd.underlying25 rfl hszT) hHeld0 ?_
              simp only [Act.put, List.getElem_toArray, List.getElem_cons_zero, List.getElem_cons_succ, List.setIfInBounds_toArray, List.set_cons_zero, List.set_cons_succ]
              refine wpAnyH_take (i := 5) (v := .agg (vals m).toArray) rfl (by kernel_rfl) (by kernel_rfl) (by kernel_rfl) (fun _ _ _ h => h) (yieldsIf_load_mid (by rfl) _ _ rfl _ _ rfl (vals m) _ (fun w hSw => range_below HIB.out.range hSw) Tryd.underlying25 rfl hszm) hHeld0 ?_
              simp only [Act.put, List.getElem_toArray, List.getElem_cons_zero, List.getElem_cons_succ, List.setIfInBounds_toArray, List.set_cons_zero, List.set_cons_succ]
              refine wpAnyH_ready (rs := [6]) (by kernel_rfl) (by simp) ?_
              refine AllReadyH.cons rfl (fun K hK => ?_) AllReadyH.nil
              go_simp
              go_wp2_with ((go_at_call 17; refine (HSt.out _ (HBB.out.trans (hHeld0.mono HBB.out.size))).mono ?_; rintro e ws ⟨v93, rfl, ho93, hbr6⟩; have hbs := ((Below.refl wR.heap.size wR).drew).trans hbr6; obtain ⟨ga, gc, hge, _, _⟩ := ho93.form; rw [HGL.out] at hge; subst hge))
              refine hK.out _ _ (by exact below_step hHeld0 hbr6) (fun hHeld1 => ?_)
              clear hK K hHeld0
              try simp only [Act.put, List.getElem_toArray, List.getElem_cons_zero, List.getElem_cons_succ, List.setIfInBounds_toArray, List.set_cons_zero, List.set_cons_succ]
              refine wpAnyH_ready (rs := [7]) (by kernel_rfl) (by simp) ?_
              refine AllReadyH.cons rfl (fun K hK => ?_) AllReadyH.nil
              go_simp
              refine hK.out _ _ (by exact below_step hHeld1 (below_alloc _ _)) (fun hHeld2 => ?_)
              clear hK K hHeld1
              try simp only [Act.put, List.getElem_toArray, List.getElem_cons_zero, List.getElem_cons_succ, List.setIfInBounds_toArray, List.set_cons_zero, List.set_cons_succ]
              have hx93 := (own_hasX (X := fun b => Value.ownBlock (.slice sa KK.length sc) ≠ some b) ho93 (by rw [HGL.out, HGLE.out]; omega) (fun b hb e => by have := (World.ownsRow.lt HSG.out.1 b e).2; simp at hb; omega)).move (Y := fun b => Value.ownBlock (.slice sa KK.length sc) ≠ some b) (fun b hlt hX => ⟨(below_alloc ws (.cells #[.slice ga GL gc] 36)).block b hlt, hX⟩)
              clear ho93
              refine wpAnyH_ready (rs := [8]) (by kernel_rfl) (by simp) ?_
              refine AllReadyH.cons rfl (fun K hK => ?_) AllReadyH.nil
              refine step_append_of (fun v' W' => Sigs W' wB.heap.size v' (KK ++ [(G, Value.slice ga GL gc)]) ∧ Below wB.heap.size (ws.alloc (.cells #[.slice ga GL gc] 36)) W' ∧ ∀ b, b < (ws.alloc (.cells #[.slice ga GL gc] 36)).heap.size → Value.ownBlock (.slice sa KK.length sc) ≠ some b → W'.heap[b]? = (ws.alloc (.cells #[.slice ga GL gc] 36)).heap[b]? ∧ v'.ownBlock ≠ some b) rfl (.tmp 87) (.tmp 94) rfl (.slice sa KK.length sc) (.slice (some ⟨ws.heap.size, 0, none⟩) 1 1) rfl rfl (fun ty => run_append_sigs _ wB.heap.size _ KK (G, .slice ga GL gc) ws.heap.size 1 (by have := HBRR2.out.size; have := hbs.size; simp at this ⊢; omega) ((HSG.out.below hbs).below (below_alloc ws _)) (Is.new ws [.slice ga GL gc] 36) hx93 HGB.out (by have := HKN.out; omega) ty) ?_
              intro v95 w95 h95
              refine hK.out _ _ (by exact hHeld2.trans h95.2.1) (fun hHeld3 => ?_)
              clear hK K hHeld2
              try simp only [Act.put, List.getElem_toArray, List.getElem_cons_zero, List.getElem_cons_succ, List.setIfInBounds_toArray, List.set_cons_zero, List.set_cons_succ]
              refine wpAnyH_take (i := 9) (v := ?_) rfl (by kernel_rfl) (by kernel_rfl) (by kernel_rfl) (fun _ _ _ h => h) (Or.inl ⟨by rfl, ?_⟩) hHeld3 ?_
              rotate_left
              · (intro w hSw; (try dsimp only at hSw); go_simp <;> (try with_reducible rfl))
              simp only [Act.put, List.getElem_toArray, List.getElem_cons_zero, List.getElem_cons_succ, List.setIfInBounds_toArray, List.set_cons_zero, List.set_cons_succ]
              refine wpAnyH_done (by kernel_rfl) ?_ _
              go_wp2
              go_roundw
              case rel => exact ⟨t + 1, is ++ [t], KK ++ [(G, .slice ga GL gc)], by omega, by go_num, h95.1, by rw [List.map_append, List.map_append, HKE.out, HGE.out]; rfl, Lk.incr_snoc t is 0 HINC.out HLT.out (by omega), lt_snoc HLT.out, by simp; omega, by rw [lastOf_snoc], hHeld3⟩
              case measure => simp [intOf]; omega
          · have hte : t = kl := by omega
            have htn : ¬ (t : Int) < (kl : Int) := by omega
            have HLTK : Hid (∀ x ∈ is, x < kl) := hide (by have := HLT.out; rw [hte] at this; exact this)
            obtain ⟨KB, hKB⟩ : ∃ KB, KB = keysTo PS kl := ⟨_, rfl⟩
            have HKBO : Hid (Own wB wA.heap.size (.slice va ktl vc) KB) := hide (by rw [hKB]; exact HOB.out)
            have HKBL : Hid (KB.length = 32 * kl) := hide (by rw [hKB, keysTo_all PS kl HPSL.out, Lk.keysFrom_length PS HPL.out, HPSL.out]; omega)
            have HKBB : Hid (Sz.Byt KB) := hide (by
              rw [hKB, keysTo_all PS kl HPSL.out]
              unfold Lk.keysFrom
              intro x hx
              obtain ⟨l, hl, hxl⟩ := List.mem_flatten.1 hx
              have hl2 : l ∈ PS := List.mem_of_mem_drop hl
              obtain ⟨i, hi, rfl⟩ := List.getElem_of_mem hl2
              have := (HPB.out i (by rw [← HPSL.out]; exact hi)).2
              rw [show PS.getD i [] = PS[i] by simp [List.getD, List.getElem?_eq_getElem hi]] at this
              exact this x hxl)
            have HRUNM : Hid (∀ W kv2 K2 (js : List Nat), Below wB.heap.size wB W → Is W wR.heap.size (opCells (manyL KB (.slice va ktl vc) N)) 38 → HasKeys W kv2 K2 → K2.map Prod.fst = js.map (fun i => Ky.sign (DS.getD i []) m) → (∀ x ∈ js, x < kl) → js.length = N → Calls Tryd.prog 12 #[.slice (some ⟨wR.heap.size, 0, none⟩) 2 2, kv2, .agg (vals m).toArray, .int .i64 0] W fun e w' => e = .returned (errV (if Lk.incr 0 js then 0 else 7)) ∧ Below W.heap.size W w') := hide (fun W kv2 K2 js hW hg hk2 hmap hjl hjn => by
              have := HRUN.out W _ (manyL KB (.slice va ktl vc) N) kv2 K2 (HBB.out.trans (hW.mono HBB.out.size)) (many_ops hg (HKBO.out.has.below hW) HKBB.out) hk2
              rw [show opsOf (manyL KB (.slice va ktl vc) N) = Lk.manyOps KB N from rfl, hmap, Lk.law_many m KB N _ (by rw [HKBL.out]; omega) (by rw [HKBL.out]; omega) (by rw [HKBL.out]; omega) (by omega) (by omega) (by rw [List.length_map]; exact hjn) (fun x hx => by
                obtain ⟨i, _, rfl⟩ := List.mem_map.1 hx
                rw [Ky.sign_length]; omega), hKB, keysTo_all PS kl HPSL.out, Lk.among_incr m PS (fun i => Ky.sign (DS.getD i []) m) HPL.out (fun a b h1 h2 => HAPK.out a b h1 (by rw [← HPSL.out]; exact h2)) (fun i hi => HREC.out i (by rw [← HPSL.out]; exact hi)) js 0 (fun i hi => by rw [HPSL.out]; exact hjl i hi)] at this
              exact this)
            clear hKB hte HLT
            by_cases hge : N ≤ KK.length
            · obtain ⟨g, gcap, hgE, hg1, hg2, hg3, hg4, hgr⟩ := owns_some HSG.out.1 (by omega)
              injection hgE with hs1 hs2 hs3
              subst hs1 hs3
              unfold maxLen at hg4
              obtain ⟨KT, hKT⟩ : ∃ KT, KT = KK.take N := ⟨_, rfl⟩
              obtain ⟨JT, hJT⟩ : ∃ JT, JT = is.take N := ⟨_, rfl⟩
              have HKTL : Hid (KT.length = N) := hide (by rw [hKT, List.length_take]; omega)
              have HJTN : Hid (JT.length = N) := hide (by rw [hJT, List.length_take, ← HKIS.out]; omega)
              have HKTE : Hid (KT.map Prod.fst = JT.map (fun i => Ky.sign (DS.getD i []) m)) := hide (by rw [hKT, hJT, List.map_take, List.map_take, HKE.out])
              have HJTL : Hid (∀ x ∈ JT, x < kl) := hide (fun x hx => by rw [hJT] at hx; exact HLTK.out x (List.mem_of_mem_take hx))
              have HJTI : Hid (Lk.incr 0 JT = true) := hide (by rw [hJT]; exact Lk.incr_take is 0 N HINC.out)
              obtain ⟨p0, KR, hKT1⟩ : ∃ p0 KR, KT = p0 :: KR := by
                have := HKTL.out
                cases KT with
                | nil => simp at this; omega
                | cons a b => exact ⟨a, b, rfl⟩
              obtain ⟨i0, JR, hJT1⟩ : ∃ i0 JR, JT = i0 :: JR := by
                have := HJTN.out
                cases JT with
                | nil => simp at this; omega
                | cons a b => exact ⟨a, b, rfl⟩
              have HKT1 := hide hKT1
              have HI0 : Hid (p0.1 = Ky.sign (DS.getD i0 []) m) := hide (by have := HKTE.out; rw [hKT1, hJT1] at this; simp only [List.map_cons, List.cons.injEq] at this; exact this.1)
              have HI0L : Hid (i0 < kl) := hide (HJTL.out i0 (by rw [hJT1]; simp))
              have HJ0 : Hid (JT[0]? = some i0) := hide (by rw [hJT1]; rfl)
              have HDK : Hid (∀ r ∈ KT, HasX wR (fun b => Value.ownBlock (.slice (some ⟨g, 0, none⟩) KK.length sc) ≠ some b) r.2 r.1 ∧ Sz.Byt r.1) := hide (fun r hr => by rw [hKT] at hr; exact HSG.out.2 r (List.mem_of_mem_take hr))
              obtain ⟨xa, xc, hxe, _, _⟩ := (HDK.out p0 (by rw [hKT1]; simp)).1.has.shape
              have HKT0 : Hid (HasKeys (wR.alloc (.cells (opCells (manyL KB (.slice va ktl vc) N)).toArray 38)) (.slice (some ⟨g, 0, none⟩) N sc) KT) := hide (by
                have h1 := owns_cut (k := N) hge HSG.out.1
                rw [Nat.mul_one, ← List.map_take, ← hKT] at h1
                have h2 : OwnKeys wR wB.heap.size (.slice (some ⟨g, 0, none⟩) N sc) KT := by unfold OwnKeys; rw [HKTL.out]; exact h1
                exact (h2.hasKeys (fun r hr => ⟨(HDK.out r hr).1.has, (HDK.out r hr).2⟩) (by rw [HKTL.out]; omega)).below (below_alloc wR _))
              have HR1 := hide (HRUNM.out _ _ KT JT (HBRR2.out.alloc HBRR2.out.size _) (Is.new wR (opCells (manyL KB (.slice va ktl vc) N)) 38) HKT0.out HKTE.out HJTL.out HJTN.out)
              rw [HJTI.out] at HR1
              have e0 : errV (if true = true then 0 else 7) = .nilIface := rfl
              rw [e0] at HR1
              obtain ⟨xl, hxl⟩ : ∃ xl, xl = p0.1.length := ⟨_, rfl⟩
              rw [← hxl] at hxe
              have HP0 := hide hxe
              obtain ⟨KN, hKN⟩ : ∃ KN, KN = KK.length := ⟨_, rfl⟩
              obtain ⟨gcap, hgcap⟩ : ∃ gcap, gcap = sc := ⟨_, rfl⟩
              rw [← hgcap] at HKT0 HR1 hg3 hg4 ⊢
              rw [← hKN] at hge hg3 ⊢
              clear e0 hxe hxl hKN hgcap hKT hJT hKT1 hJT1 hgr HSG HDK HKE hs2
              have hNc : (N : Int) ≤ (gcap : Int) := by omega
              by_cases hgt : N < KN
              · have hi1 : decide ((N : Int) < (KN : Int)) = true := decide_eq_true (by omega)
                go_wp2_with (refine wpList_load_arr2 25 (vals m) w.heap.size rfl (.tmp 7) rfl rfl (HIR.out.alloc _) Tryd.underlying25 size_dig HVML.out ?_)
                refine HR1.out.mono ?_
                rintro e w5 ⟨rfl, hb5⟩
                have HB5 : Hid (Below wB.heap.size wB w5) := hide ((HBRR2.out.alloc HBRR2.out.size (.cells (opCells (manyL KB (.slice va ktl vc) N)).toArray 38)).trans (hb5.mono (by have := HBRR2.out.size; simp; omega)))
                have HI5 := hide ((HIR.out.alloc (.cells (opCells (manyL KB (.slice va ktl vc) N)).toArray 38)).below hb5 (by have := HIR.out.lt; simp; omega))
                have HL5 := hide ((Is.new wR (opCells (manyL KB (.slice va ktl vc) N)) 38).below hb5 (by simp))
                have HK5 := hide (HKT0.out.below hb5)
                clear hb5 HR1 hi1
                by_cases hN1 : N = 1
                · have hi2 : decide ((1 : Int) < (N : Int)) = false := decide_eq_false (by omega)
                  have hi3 : decide (1 < N) = false := decide_eq_false (by omega)
                  have hi4 : ¬ 1 < N := by omega
                  clear hN1
                  go_wp2_with (at_builtin; refine wpList_append_of (fun v' W' => OwnKeys W' w5.heap.size v' KT ∧ Below w5.heap.size w5 W' ∧ Below w5.heap.size (w5.alloc (.cells #[] 36)) W') rfl (.tmp 118) (.tmp 119) rfl (.slice (some ⟨w5.heap.size, 0, none⟩) 0 0) (.slice (some ⟨g, 0, none⟩) N gcap) rfl rfl (fun ty => run_append_keysG w5 _ w5.heap.size _ _ [] KT (Nat.le_refl _) (below_alloc w5 _) (by simp) (OwnKeys.none w5 w5.heap.size (Nat.le_refl _)) (HK5.out.below (below_alloc w5 _)).src HK5.out.formed (by have := HKTL.out; simp; omega) ty) ?_; intro v18 w6 h6)
                  go_ret
                  exact ⟨rfl, HBB.out.trans ((HB5.out.trans (h6.2.1.mono HB5.out.size)).mono HBB.out.size)⟩
                · have hi2 : decide ((1 : Int) < (N : Int)) = true := decide_eq_true (by omega)
                  obtain ⟨N1, hN1e⟩ : ∃ N1 : Nat, N1 = N - 1 := ⟨_, rfl⟩
                  have he1 : (N : Int) - 1 = (N1 : Int) := by omega
                  have hlt1 : N1 < N := by omega
                  have hlt0 : 0 < N := by omega
                  have HN1E := hide hN1e
                  have HN2 : Hid (2 ≤ N) := hide (by omega)
                  clear hN1 hN1e
                  go_wp2_with (first
                    | (at_builtin; refine wpList_append_of (fun v' W' => OwnKeys W' w5.heap.size v' KT ∧ Below w5.heap.size w5 W' ∧ Below w5.heap.size (w5.alloc (.cells #[] 36)) W') rfl (.tmp 118) (.tmp 119) rfl (.slice (some ⟨w5.heap.size, 0, none⟩) 0 0) (.slice (some ⟨g, 0, none⟩) N gcap) rfl rfl (fun ty => run_append_keysG w5 _ w5.heap.size _ _ [] KT (Nat.le_refl _) (below_alloc w5 _) (by simp) (OwnKeys.none w5 w5.heap.size (Nat.le_refl _)) (HK5.out.below (below_alloc w5 _)).src HK5.out.formed (by have := HKTL.out; simp; omega) ty) ?_; intro v18 w6 h6; obtain ⟨g2, cap2, hg2e, hgb2, hgl2, hgc2, hgm2, hgr2⟩ := owns_some h6.1 (by rw [HKTL.out]; omega); rw [HKTL.out] at hg2e hgc2; subst hg2e; have hc20 : w6.cell? ⟨g2, 0, none⟩ = some (.slice xa xl xc) := (by have := hgr2 0 p0.2 (by rw [HKT1.out]; rfl); rw [Nat.zero_add, HP0.out] at this; exact this); have hc21 : ∃ u, w6.cell? ⟨g2, N1, none⟩ = some u := (by have hlt : N1 < (KT.map Prod.snd).length := (by rw [List.length_map, HKTL.out]; exact hlt1); have := hgr2 N1 _ (List.getElem?_eq_getElem hlt); rw [Nat.zero_add] at this; exact ⟨_, this⟩); obtain ⟨u21, hc21⟩ := hc21; have hf2 : ∀ j, w6.frozen? ⟨g2, j, none⟩ = false := (fun j => World.ownsRow.frozenAt (by rw [← HKTL.out] at h6; exact h6.1) j); have HB6 := hide (HB5.out.trans (h6.2.1.mono HB5.out.size)); have HI6 := hide (HI5.out.below h6.2.1 HI5.out.lt); have HL6 := hide (HL5.out.below h6.2.1 HL5.out.lt); have hgI : ¬ g2 = w.heap.size := (by have := HI5.out.lt; omega); have hgL : ¬ g2 = wR.heap.size := (by have := HL5.out.lt; omega); have HO6 := hide h6.1)
                    | (refine wpList_load_arr2 25 (vals m) w.heap.size rfl (.tmp 7) rfl rfl (HI6.out.other _ _ hgI) Tryd.underlying25 size_dig HVML.out ?_))
                  have HR2 := hide (HRUNM.out (w6.setCell ⟨g2, N1, none⟩ (.slice xa xl xc)) (.slice (some ⟨g2, 0, none⟩) N cap2) (KT.set N1 p0) (JT.set N1 i0) (HB6.out.setCell (by have := HB5.out.size; show _ ≤ g2; omega) _) (HL6.out.other _ _ hgL) (by
                    have hown := HO6.out
                    unfold OwnKeys at hown
                    rw [HKTL.out] at hown
                    have hst := (World.ownsRow.stored hown N1 (.slice xa xl xc)).1
                    have e1 : (KT.set N1 p0).length = N := by rw [List.length_set]; exact HKTL.out
                    have e2 : (KT.map Prod.snd).set N1 (.slice xa xl xc) = (KT.set N1 p0).map Prod.snd := by rw [List.map_set, HP0.out]
                    rw [e2] at hst
                    have hok : OwnKeys (w6.setCell ⟨g2, N1, none⟩ (.slice xa xl xc)) w5.heap.size (.slice (some ⟨g2, 0, none⟩) N cap2) (KT.set N1 p0) := by unfold OwnKeys; rw [e1]; exact hst
                    refine hok.hasKeys (fun r hr => ?_) (by rw [e1]; omega)
                    have hr2 : r ∈ KT := by
                      rcases List.mem_or_eq_of_mem_set hr with h | h
                      · exact h
                      · rw [h, HKT1.out]; simp
                    have hh := HK5.out.2 r hr2
                    have hb56 : Below w5.heap.size w5 (w6.setCell ⟨g2, N1, none⟩ (.slice xa xl xc)) := h6.2.1.setCell hgb2 _
                    exact ⟨hh.1.below hb56, hh.2⟩) (by rw [List.map_set, List.map_set, HKTE.out, HI0.out]) (fun x hx => by
                    rcases List.mem_or_eq_of_mem_set hx with h | h
                    · exact HJTL.out x h
                    · rw [h]; exact HI0L.out) (by rw [List.length_set]; exact HJTN.out))
                  rw [show Lk.incr 0 (JT.set N1 i0) = false by rw [HN1E.out]; exact incr_twice JT N HN2.out HJTN.out i0 HJ0.out] at HR2
                  have e7 : errV (if false = true then 0 else 7) = .iface 30 (.int .i64 7) := rfl
                  rw [e7] at HR2
                  clear e7
                  refine HR2.out.mono ?_
                  rintro e w8 ⟨rfl, hb8⟩
                  have HB8 := hide ((HB6.out.setCell (by have := HB5.out.size; show _ ≤ g2; omega) (.slice xa xl xc) (p := ⟨g2, N1, none⟩)).trans (hb8.mono (by have := HB6.out.size; simp [World.setCell]; omega)))
                  clear hb8
                  go_wp2
                  go_ret
                  exact ⟨rfl, HBB.out.trans (HB8.out.mono HBB.out.size)⟩
              · have hKe : N = KN := by omega
                subst hKe
                have hi1 : decide ((N : Int) < (N : Int)) = false := decide_eq_false (by omega)
                go_wp2_with (refine wpList_load_arr2 25 (vals m) w.heap.size rfl (.tmp 7) rfl rfl (HIR.out.alloc _) Tryd.underlying25 size_dig HVML.out ?_)
                refine HR1.out.mono ?_
                rintro e w5 ⟨rfl, hb5⟩
                have HB5 : Hid (Below wB.heap.size wB w5) := hide ((HBRR2.out.alloc HBRR2.out.size (.cells (opCells (manyL KB (.slice va ktl vc) N)).toArray 38)).trans (hb5.mono (by have := HBRR2.out.size; simp; omega)))
                have HI5 := hide ((HIR.out.alloc (.cells (opCells (manyL KB (.slice va ktl vc) N)).toArray 38)).below hb5 (by have := HIR.out.lt; simp; omega))
                have HL5 := hide ((Is.new wR (opCells (manyL KB (.slice va ktl vc) N)) 38).below hb5 (by simp))
                have HK5 := hide (HKT0.out.below hb5)
                clear hb5 HR1 hi1
                by_cases hN1 : N = 1
                · have hi2 : decide ((1 : Int) < (N : Int)) = false := decide_eq_false (by omega)
                  have hi3 : decide (1 < N) = false := decide_eq_false (by omega)
                  have hi4 : ¬ 1 < N := by omega
                  clear hN1
                  go_wp2_with (at_builtin; refine wpList_append_of (fun v' W' => OwnKeys W' w5.heap.size v' KT ∧ Below w5.heap.size w5 W' ∧ Below w5.heap.size (w5.alloc (.cells #[] 36)) W') rfl (.tmp 118) (.tmp 119) rfl (.slice (some ⟨w5.heap.size, 0, none⟩) 0 0) (.slice (some ⟨g, 0, none⟩) N gcap) rfl rfl (fun ty => run_append_keysG w5 _ w5.heap.size _ _ [] KT (Nat.le_refl _) (below_alloc w5 _) (by simp) (OwnKeys.none w5 w5.heap.size (Nat.le_refl _)) (HK5.out.below (below_alloc w5 _)).src HK5.out.formed (by have := HKTL.out; simp; omega) ty) ?_; intro v18 w6 h6)
                  go_ret
                  exact ⟨rfl, HBB.out.trans ((HB5.out.trans (h6.2.1.mono HB5.out.size)).mono HBB.out.size)⟩
                · have hi2 : decide ((1 : Int) < (N : Int)) = true := decide_eq_true (by omega)
                  obtain ⟨N1, hN1e⟩ : ∃ N1 : Nat, N1 = N - 1 := ⟨_, rfl⟩
                  have he1 : (N : Int) - 1 = (N1 : Int) := by omega
                  have hlt1 : N1 < N := by omega
                  have hlt0 : 0 < N := by omega
                  have HN1E := hide hN1e
                  have HN2 : Hid (2 ≤ N) := hide (by omega)
                  clear hN1 hN1e
                  go_wp2_with (first
                    | (at_builtin; refine wpList_append_of (fun v' W' => OwnKeys W' w5.heap.size v' KT ∧ Below w5.heap.size w5 W' ∧ Below w5.heap.size (w5.alloc (.cells #[] 36)) W') rfl (.tmp 118) (.tmp 119) rfl (.slice (some ⟨w5.heap.size, 0, none⟩) 0 0) (.slice (some ⟨g, 0, none⟩) N gcap) rfl rfl (fun ty => run_append_keysG w5 _ w5.heap.size _ _ [] KT (Nat.le_refl _) (below_alloc w5 _) (by simp) (OwnKeys.none w5 w5.heap.size (Nat.le_refl _)) (HK5.out.below (below_alloc w5 _)).src HK5.out.formed (by have := HKTL.out; simp; omega) ty) ?_; intro v18 w6 h6; obtain ⟨g2, cap2, hg2e, hgb2, hgl2, hgc2, hgm2, hgr2⟩ := owns_some h6.1 (by rw [HKTL.out]; omega); rw [HKTL.out] at hg2e hgc2; subst hg2e; have hc20 : w6.cell? ⟨g2, 0, none⟩ = some (.slice xa xl xc) := (by have := hgr2 0 p0.2 (by rw [HKT1.out]; rfl); rw [Nat.zero_add, HP0.out] at this; exact this); have hc21 : ∃ u, w6.cell? ⟨g2, N1, none⟩ = some u := (by have hlt : N1 < (KT.map Prod.snd).length := (by rw [List.length_map, HKTL.out]; exact hlt1); have := hgr2 N1 _ (List.getElem?_eq_getElem hlt); rw [Nat.zero_add] at this; exact ⟨_, this⟩); obtain ⟨u21, hc21⟩ := hc21; have hf2 : ∀ j, w6.frozen? ⟨g2, j, none⟩ = false := (fun j => World.ownsRow.frozenAt (by rw [← HKTL.out] at h6; exact h6.1) j); have HB6 := hide (HB5.out.trans (h6.2.1.mono HB5.out.size)); have HI6 := hide (HI5.out.below h6.2.1 HI5.out.lt); have HL6 := hide (HL5.out.below h6.2.1 HL5.out.lt); have hgI : ¬ g2 = w.heap.size := (by have := HI5.out.lt; omega); have hgL : ¬ g2 = wR.heap.size := (by have := HL5.out.lt; omega); have HO6 := hide h6.1)
                    | (refine wpList_load_arr2 25 (vals m) w.heap.size rfl (.tmp 7) rfl rfl (HI6.out.other _ _ hgI) Tryd.underlying25 size_dig HVML.out ?_))
                  have HR2 := hide (HRUNM.out (w6.setCell ⟨g2, N1, none⟩ (.slice xa xl xc)) (.slice (some ⟨g2, 0, none⟩) N cap2) (KT.set N1 p0) (JT.set N1 i0) (HB6.out.setCell (by have := HB5.out.size; show _ ≤ g2; omega) _) (HL6.out.other _ _ hgL) (by
                    have hown := HO6.out
                    unfold OwnKeys at hown
                    rw [HKTL.out] at hown
                    have hst := (World.ownsRow.stored hown N1 (.slice xa xl xc)).1
                    have e1 : (KT.set N1 p0).length = N := by rw [List.length_set]; exact HKTL.out
                    have e2 : (KT.map Prod.snd).set N1 (.slice xa xl xc) = (KT.set N1 p0).map Prod.snd := by rw [List.map_set, HP0.out]
                    rw [e2] at hst
                    have hok : OwnKeys (w6.setCell ⟨g2, N1, none⟩ (.slice xa xl xc)) w5.heap.size (.slice (some ⟨g2, 0, none⟩) N cap2) (KT.set N1 p0) := by unfold OwnKeys; rw [e1]; exact hst
                    refine hok.hasKeys (fun r hr => ?_) (by rw [e1]; omega)
                    have hr2 : r ∈ KT := by
                      rcases List.mem_or_eq_of_mem_set hr with h | h
                      · exact h
                      · rw [h, HKT1.out]; simp
                    have hh := HK5.out.2 r hr2
                    have hb56 : Below w5.heap.size w5 (w6.setCell ⟨g2, N1, none⟩ (.slice xa xl xc)) := h6.2.1.setCell hgb2 _
                    exact ⟨hh.1.below hb56, hh.2⟩) (by rw [List.map_set, List.map_set, HKTE.out, HI0.out]) (fun x hx => by
                    rcases List.mem_or_eq_of_mem_set hx with h | h
                    · exact HJTL.out x h
                    · rw [h]; exact HI0L.out) (by rw [List.length_set]; exact HJTN.out))
                  rw [show Lk.incr 0 (JT.set N1 i0) = false by rw [HN1E.out]; exact incr_twice JT N HN2.out HJTN.out i0 HJ0.out] at HR2
                  have e7 : errV (if false = true then 0 else 7) = .iface 30 (.int .i64 7) := rfl
                  rw [e7] at HR2
                  clear e7
                  refine HR2.out.mono ?_
                  rintro e w8 ⟨rfl, hb8⟩
                  have HB8 := hide ((HB6.out.setCell (by have := HB5.out.size; show _ ≤ g2; omega) (.slice xa xl xc) (p := ⟨g2, N1, none⟩)).trans (hb8.mono (by have := HB6.out.size; simp [World.setCell]; omega)))
                  clear hb8
                  go_wp2
                  go_ret
                  exact ⟨rfl, HBB.out.trans (HB8.out.mono HBB.out.size)⟩
            · have hltN : KK.length < N := by omega
              have hi1 : decide ((N : Int) < (KK.length : Int)) = false := decide_eq_false (by omega)
              have hi2 : ((KK.length : Int) == (N : Int)) = false := by rw [beq_eq_false_iff_ne]; omega
              have hi5 : decide (N < KK.length) = false := decide_eq_false (by omega)
              have hi6 : ¬ KK.length = N := by omega
              by_cases hz : is = []
              · subst hz
                have hll : ll = -1 := HLL.out.symm
                subst hll
                generalize KK.length = kn at *
                go_wp2
                refine wp_loop_rounds 1 ?_
                rw [rounds_succ]
                go_wp2
                go_ret
                exact ⟨rfl, HBB.out.trans ((HBRR2.out.alloc HBRR2.out.size _).mono HBB.out.size)⟩
              · obtain ⟨is0, z, hisz⟩ : ∃ is0 z, is = is0 ++ [z] := by
                  rcases List.eq_nil_or_concat is with h | ⟨L, b, h⟩
                  · exact absurd h hz
                  · exact ⟨L, b, by rw [h, List.concat_eq_append]⟩
                have hll : ll = (z : Int) := by rw [← HLL.out, hisz, lastOf_snoc]
                have HZK : Hid (z < kl) := hide (HLTK.out z (by rw [hisz]; simp))
                have HZM : Hid (z ∈ is) := hide (by rw [hisz]; simp)
                subst hll
                obtain ⟨KN, hKN⟩ : ∃ KN, KN = KK.length := ⟨_, rfl⟩
                have HSGL := hide (HSG.out.below (below_alloc wR (.cells (opCells (manyL KB (.slice va ktl vc) N)).toArray 38)))
                have HNOB : Hid ((Value.slice sa KK.length sc).ownBlock ≠ some wR.heap.size) := hide (fun e => by have := (World.ownsRow.lt HSG.out.1 _ e).2; omega)
                rw [← hKN] at HSGL HNOB hltN hi1 hi2 hi5 hi6 ⊢
                have HKNE := hide hKN
                clear hKN hz hisz
                go_wp2
                go_loopw [14] (fun sv wr => ∃ (r : Nat) (K4 : List (List Int × Value)), KN + r ≤ N ∧ Sigs wr wB.heap.size sv K4 ∧ K4.length = KN + r ∧ K4.map Prod.fst = (is ++ List.replicate r z).map (fun i => Ky.sign (DS.getD i []) m) ∧ Is wr wR.heap.size (opCells (manyL KB (.slice va ktl vc) N)) 38 ∧ sv.ownBlock ≠ some wR.heap.size ∧ Below wB.heap.size wB wr) (fun sv _ => N - lenOf sv)
                case atStart => exact ⟨0, KK, by omega, HSGL.out, by rw [HKNE.out]; rfl, by simpa using HKE.out, Is.new wR (opCells (manyL KB (.slice va ktl vc) N)) 38, HNOB.out, HBRR2.out.alloc HBRR2.out.size _⟩
                case round =>
                  obtain ⟨r, K4, hr, hsg4, hk4, hke4, hl4, hob4, hb4⟩ := hrel
                  obtain ⟨wS, hwS⟩ : ∃ wS, wS = wr := ⟨_, rfl⟩
                  subst hwS
                  obtain ⟨ka4, kc4, rfl⟩ := owns_form hsg4.1
                  have HSG4 := hide hsg4
                  have HKE4 := hide hke4
                  have HL4 := hide hl4
                  have HOB4 := hide hob4
                  have HBW4 := hide hb4
                  have HK4L : Hid (K4.length ≤ 4) := hide (by omega)
                  have HK4E := hide hk4
                  clear hsg4 hke4 hl4 hob4 hb4
                  by_cases hlt4 : KN + r < N
                  · have htk := HZK.out
                    obtain ⟨dT, hdT⟩ : ∃ x, x = DS.getD z [] := ⟨_, rfl⟩
                    obtain ⟨G, hG⟩ : ∃ x, x = Ky.sign (DS.getD z []) m := ⟨_, rfl⟩
                    obtain ⟨GL, hGL⟩ : ∃ n : Nat, n = 2144 := ⟨_, rfl⟩
                    have HGLE := hide hGL
                    have HGL : Hid (G.length = GL) := hide (by rw [hG, hGL]; exact Ky.sign_length _ _)
                    have HGB : Hid (Sz.Byt G) := hide (by rw [hG]; exact Ky.sign_byt _ _)
                    have HGE := hide hG
                    have hszT : (Tryd.prog.info? 25).map (·.size) = some (vals dT).length := by rw [vals_length, hdT, (HDG.out z htk).1]; exact size_dig
                    have HDt : Hid (∀ W, Below w.heap.size w W → W.rangeAt db (doff + z * 32) (vals dT)) := hide (fun W hW => by rw [hdT]; exact range_keep (HDR.out z htk) hW HDB.out)
                    have HSt : Hid (∀ W, Below w.heap.size w W → Calls Tryd.prog 17 #[.agg (vals dT).toArray, .agg (vals m).toArray] W fun e w' => ∃ v, e = .returned v ∧ Own w' W.heap.size v G ∧ Below W.heap.size W w') := hide (fun W hW => by rw [hdT, hG]; exact HSIGN.out W z htk hW)
                    have hk4lt : K4.length < N := by omega
                    clear hdT hG hGL hk4
                    go_wp2
                    refine wp_region_held_drew (S := fun W : World => Below wB.heap.size wB W) (by kernel_rfl) ?_ (fun hHeld0 => ?_)
                    · exact HBW4.out.drew
                    refine wpAnyH_take (i := 0) (v := ?_) rfl (by kernel_rfl) (by kernel_rfl) (by kernel_rfl) (fun _ _ _ h => h) (Or.inl ⟨by rfl, ?_⟩) hHeld0 ?_
                    rotate_left
                    · (intro w hSw; (try dsimp only at hSw); go_simp <;> (try with_reducible rfl))
                    simp only [Act.put, List.getElem_toArray, List.getElem_cons_zero, List.getElem_cons_succ, List.setIfInBounds_toArray, List.set_cons_zero, List.set_cons_succ]
                    refine wpAnyH_take (i := 1) (v := ?_) rfl (by kernel_rfl) (by kernel_rfl) (by kernel_rfl) (fun _ _ _ h => h) (Or.inl ⟨by rfl, ?_⟩) hHeld0 ?_
                    rotate_left
                    · (intro w hSw; (try dsimp only at hSw); go_simp <;> (try with_reducible rfl))
                    simp only [Act.put, List.getElem_toArray, List.getElem_cons_zero, List.getElem_cons_succ, List.setIfInBounds_toArray, List.set_cons_zero, List.set_cons_succ]
                    refine wpAnyH_take (i := 2) (v := ?_) rfl (by kernel_rfl) (by kernel_rfl) (by kernel_rfl) (fun _ _ _ h => h) (Or.inl ⟨by rfl, ?_⟩) hHeld0 ?_
                    rotate_left
                    · (intro w hSw; (try dsimp only at hSw); go_simp <;> (try with_reducible rfl))
                    simp only [Act.put, List.getElem_toArray, List.getElem_cons_zero, List.getElem_cons_succ, List.setIfInBounds_toArray, List.set_cons_zero, List.set_cons_succ]
                    refine wpAnyH_take (i := 3) (v := ?_) rfl (by kernel_rfl) (by kernel_rfl) (by kernel_rfl) (fun _ _ _ h => h) (Or.inl ⟨by rfl, ?_⟩) hHeld0 ?_
                    rotate_left
                    · (intro w hSw; (try dsimp only at hSw); go_simp <;> (try with_reducible rfl))
                    simp only [Act.put, List.getElem_toArray, List.getElem_cons_zero, List.getElem_cons_succ, List.setIfInBounds_toArray, List.set_cons_zero, List.set_cons_succ]
                    refine wpAnyH_take (i := 4) (v := .agg (vals dT).toArray) rfl (by kernel_rfl) (by kernel_rfl) (by kernel_rfl) (fun _ _ _ h => h) (yieldsIf_load_mid (by rfl) _ _ rfl _ _ rfl (vals dT) _ (fun w hSw => HDt.out _ (HBB.out.trans (hSw.mono HBB.out.size))) Tryd.underlying25 rfl hszT) hHeld0 ?_
                    simp only [Act.put, List.getElem_toArray, List.getElem_cons_zero, List.getElem_cons_succ, List.setIfInBounds_toArray, List.set_cons_zero, List.set_cons_succ]
                    refine wpAnyH_take (i := 5) (v := .agg (vals m).toArray) rfl (by kernel_rfl) (by kernel_rfl) (by kernel_rfl) (fun _ _ _ h => h) (yieldsIf_load_mid (by rfl) _ _ rfl _ _ rfl (vals m) _ (fun w hSw => range_below HIB.out.range hSw) Tryd.underlying25 rfl hszm) hHeld0 ?_
                    simp only [Act.put, List.getElem_toArray, List.getElem_cons_zero, List.getElem_cons_succ, List.setIfInBounds_toArray, List.set_cons_zero, List.set_cons_succ]
                    refine wpAnyH_ready (rs := [6]) (by kernel_rfl) (by simp) ?_
                    refine AllReadyH.cons rfl (fun K hK => ?_) AllReadyH.nil
                    go_simp
                    go_wp2_with ((go_at_call 17; refine (HSt.out _ (HBB.out.trans (hHeld0.mono HBB.out.size))).mono ?_; rintro e ws ⟨v93, rfl, ho93, hbr6⟩; have hbs := ((Below.refl wS.heap.size wS).drew).trans hbr6; obtain ⟨ga, gc, hge, _, _⟩ := ho93.form; rw [HGL.out] at hge; subst hge))
                    refine hK.out _ _ (by exact below_step hHeld0 hbr6) (fun hHeld1 => ?_)
                    clear hK K hHeld0
                    try simp only [Act.put, List.getElem_toArray, List.getElem_cons_zero, List.getElem_cons_succ, List.setIfInBounds_toArray, List.set_cons_zero, List.set_cons_succ]
                    refine wpAnyH_ready (rs := [7]) (by kernel_rfl) (by simp) ?_
                    refine AllReadyH.cons rfl (fun K hK => ?_) AllReadyH.nil
                    go_simp
                    refine hK.out _ _ (by exact below_step hHeld1 (below_alloc _ _)) (fun hHeld2 => ?_)
                    clear hK K hHeld1
                    try simp only [Act.put, List.getElem_toArray, List.getElem_cons_zero, List.getElem_cons_succ, List.setIfInBounds_toArray, List.set_cons_zero, List.set_cons_succ]
                    have hx93 := (own_hasX (X := fun b => Value.ownBlock (.slice ka4 K4.length kc4) ≠ some b) ho93 (by rw [HGL.out, HGLE.out]; omega) (fun b hb e => by have := (World.ownsRow.lt HSG4.out.1 b e).2; simp at hb; omega)).move (Y := fun b => Value.ownBlock (.slice ka4 K4.length kc4) ≠ some b) (fun b hlt hX => ⟨(below_alloc ws (.cells #[.slice ga GL gc] 36)).block b hlt, hX⟩)
                    have hl93 := ((HL4.out.below hbs HL4.out.lt).alloc (.cells #[.slice ga GL gc] 36))
                    clear ho93
                    refine wpAnyH_ready (rs := [8]) (by kernel_rfl) (by simp) ?_
                    refine AllReadyH.cons rfl (fun K hK => ?_) AllReadyH.nil
                    refine step_append_of (fun v' W' => Sigs W' wB.heap.size v' (K4 ++ [(G, Value.slice ga GL gc)]) ∧ Below wB.heap.size (ws.alloc (.cells #[.slice ga GL gc] 36)) W' ∧ ∀ b, b < (ws.alloc (.cells #[.slice ga GL gc] 36)).heap.size → Value.ownBlock (.slice ka4 K4.length kc4) ≠ some b → W'.heap[b]? = (ws.alloc (.cells #[.slice ga GL gc] 36)).heap[b]? ∧ v'.ownBlock ≠ some b) rfl (.tmp 143) (.tmp 150) rfl (.slice ka4 K4.length kc4) (.slice (some ⟨ws.heap.size, 0, none⟩) 1 1) rfl rfl (fun ty => run_append_sigs _ wB.heap.size _ K4 (G, .slice ga GL gc) ws.heap.size 1 (by have := HBW4.out.size; have := hbs.size; simp at this ⊢; omega) ((HSG4.out.below hbs).below (below_alloc ws _)) (Is.new ws [.slice ga GL gc] 36) hx93 HGB.out (by have := HK4L.out; omega) ty) ?_
                    intro v95 w95 h95
                    refine hK.out _ _ (by exact hHeld2.trans h95.2.1) (fun hHeld3 => ?_)
                    clear hK K hHeld2
                    try simp only [Act.put, List.getElem_toArray, List.getElem_cons_zero, List.getElem_cons_succ, List.setIfInBounds_toArray, List.set_cons_zero, List.set_cons_succ]
                    refine wpAnyH_take (i := 9) (v := ?_) rfl (by kernel_rfl) (by kernel_rfl) (by kernel_rfl) (fun _ _ _ h => h) (Or.inl ⟨by rfl, ?_⟩) hHeld3 ?_
                    rotate_left
                    · (intro w hSw; (try dsimp only at hSw); go_simp <;> (try with_reducible rfl))
                    simp only [Act.put, List.getElem_toArray, List.getElem_cons_zero, List.getElem_cons_succ, List.setIfInBounds_toArray, List.set_cons_zero, List.set_cons_succ]
                    refine wpAnyH_done (by kernel_rfl) ?_ _
                    have hfin := h95.2.2 wR.heap.size hl93.lt HOB4.out
                    obtain ⟨va95, vc95, hv95⟩ := owns_form h95.1.1
                    rw [List.length_append] at hv95
                    subst hv95
                    go_wp2
                    go_roundw
                    case rel => exact ⟨r + 1, K4 ++ [(G, .slice ga GL gc)], by omega, h95.1, by rw [List.length_append, HK4E.out]; rfl, by rw [List.replicate_succ', ← List.append_assoc, List.map_append, List.map_append, HKE4.out, HGE.out]; rfl, by unfold Is; rw [hfin.1]; exact hl93, hfin.2, hHeld3⟩
                    case measure => simp [lenOf]; omega
                  · have hk4e : K4.length = N := by omega
                    have hrr : KN + r = N := by omega
                    have HKK4 : Hid (HasKeys wS (.slice ka4 K4.length kc4) K4) := hide (HSG4.out.1.hasKeys (fun q hq => ⟨(HSG4.out.2 q hq).1.has, (HSG4.out.2 q hq).2⟩) (by omega))
                    have HR4 := hide (HRUNM.out wS _ K4 (is ++ List.replicate r z) HBW4.out HL4.out HKK4.out HKE4.out (fun x hx => by
                      rcases List.mem_append.1 hx with hx | hx
                      · exact HLTK.out x hx
                      · rw [List.eq_of_mem_replicate hx]; exact HZK.out) (by rw [List.length_append, List.length_replicate, ← HKIS.out, ← HKNE.out]; exact hrr))
                    have hinc : Lk.incr 0 (is ++ List.replicate r z) = false := by
                      obtain ⟨r', rfl⟩ : ∃ r', r = r' + 1 := ⟨r - 1, by omega⟩
                      rw [List.replicate_succ]
                      exact Lk.incr_bad z z _ (Nat.le_refl _) is 0 HZM.out
                    rw [hinc] at HR4
                    have e7 : errV (if false = true then 0 else 7) = .iface 30 (.int .i64 7) := rfl
                    rw [e7] at HR4
                    have HI4 := hide (HIB.out.below HBW4.out HIB.out.lt)
                    have hn4 : ¬ (K4.length : Int) < (N : Int) := by omega
                    have hn5 : ¬ K4.length < N := by omega
                    have hz0 : decide ((z : Int) < 0) = false := decide_eq_false (by omega)
                    clear hk4e hk4 hrr hinc e7 hlt4
                    generalize K4.length = k4n at *
                    go_wp2_with (refine wpList_load_arrG 25 (vals m) w.heap.size (.tmp 7) rfl rfl rfl HI4.out Tryd.underlying25 size_dig HVML.out ?_)
                    refine HR4.out.mono ?_
                    rintro e w9 ⟨rfl, hb9⟩
                    have HB9 := hide (HBW4.out.trans (hb9.mono HBW4.out.size))
                    clear hb9
                    go_wp2
                    go_ret
                    exact ⟨rfl, HBB.out.trans (HB9.out.mono HBB.out.size)⟩
  · have hcs : DS.length < 1 ∨ (¬ DS.length < 1 ∧ 4 < DS.length) ∨ (¬ DS.length < 1 ∧ ¬ 4 < DS.length ∧ BS.length < DS.length) ∨ (¬ DS.length < 1 ∧ ¬ 4 < DS.length ∧ ¬ BS.length < DS.length ∧ n < 1) ∨ (¬ DS.length < 1 ∧ ¬ 4 < DS.length ∧ ¬ BS.length < DS.length ∧ ¬ n < 1 ∧ (DS.length : Int) < n) := by omega
    clear hcond
    generalize DS.length = kl at *
    generalize BS.length = bl at *
    rcases hcs with b1 | ⟨b1, b2⟩ | ⟨b1, b2, b3⟩ | ⟨b1, b2, b3, b4⟩ | ⟨b1, b2, b3, b4, b5⟩
    · have i1 : decide ((kl : Int) < 1) = true := decide_eq_true (by omega)
      go_wp2
      go_ret
      exact ⟨rfl, HBA.out⟩
    · have i1 : decide ((kl : Int) < 1) = false := decide_eq_false (by omega)
      have i2 : decide ((4 : Int) < (kl : Int)) = true := decide_eq_true (by omega)
      go_wp2
      go_ret
      exact ⟨rfl, HBA.out⟩
    · have i1 : decide ((kl : Int) < 1) = false := decide_eq_false (by omega)
      have i2 : decide ((4 : Int) < (kl : Int)) = false := decide_eq_false (by omega)
      have i3 : decide ((bl : Int) < (kl : Int)) = true := decide_eq_true (by omega)
      have j3 : decide (bl < kl) = true := decide_eq_true (by omega)
      go_wp2
      go_ret
      exact ⟨rfl, HBA.out⟩
    · have i1 : decide ((kl : Int) < 1) = false := decide_eq_false (by omega)
      have i2 : decide ((4 : Int) < (kl : Int)) = false := decide_eq_false (by omega)
      have i3 : decide ((bl : Int) < (kl : Int)) = false := decide_eq_false (by omega)
      have j3 : decide (bl < kl) = false := decide_eq_false (by omega)
      have i4 : decide (n < 1) = true := decide_eq_true (by omega)
      go_wp2
      go_ret
      exact ⟨rfl, HBA.out⟩
    · have i1 : decide ((kl : Int) < 1) = false := decide_eq_false (by omega)
      have i2 : decide ((4 : Int) < (kl : Int)) = false := decide_eq_false (by omega)
      have i3 : decide ((bl : Int) < (kl : Int)) = false := decide_eq_false (by omega)
      have j3 : decide (bl < kl) = false := decide_eq_false (by omega)
      have i4 : decide (n < 1) = false := decide_eq_false (by omega)
      have i5 : decide ((kl : Int) < n) = true := decide_eq_true (by omega)
      go_wp2
      go_ret
      exact ⟨rfl, HBA.out⟩
end Go.Proofs.YtkdihbgjeanjdaaDoor
