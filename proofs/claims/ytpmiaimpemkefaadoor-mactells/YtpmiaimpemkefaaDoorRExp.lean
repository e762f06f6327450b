/- The contract of moneyerref1.Expanded: as many bytes as the document's Expand tells. -/
import Derived.Test.YtpmiaimpemkefaaDoorRMac
import Derived.Test.YtpmiaimpemkefaaDoorMaExps
namespace Go.Proofs.YtpmiaimpemkefaaDoor
open Go.RowKit
set_option linter.unusedVariables false

set_option maxRecDepth 100000 in
set_option maxHeartbeats 1600000 in
theorem rexp_any (vk vi : Value) (k l : List Int) (n : Nat) (w : World) (hk : Has w vk k) (hl : Has w vi l) (hkb : Sz.Byt k) (hlb : Sz.Byt l) (hkn : k.length ≤ 147000000000000) (hln : l.length ≤ 147000000000000) (hn : n ≤ 2000) :
    Calls Tryd.prog 8 #[vk, vi, .int .i64 (n : Int)] w fun e w' => ∃ v, e = .returned v ∧ Has w' v (Mc.expand k l n) ∧ Below w.heap.size w w' := by
  obtain ⟨va, vc, rfl⟩ := hl.form
  have HM : Hid (∀ w' v (i : Nat), Below w.heap.size w w' → Has w' v (Mc.part k l i ++ l ++ [(((i + 1) % 256 : Nat) : Int)]) → Calls Tryd.prog 7 #[vk, v] w' fun e w'' => e = .returned (.agg (vals (Mc.part k l (i + 1))).toArray) ∧ Below w'.heap.size w' w'') := fun w' v i hb hv => by
    have hpl : (Mc.part k l i).length ≤ 32 := by
      cases i with
      | zero => simp [Mc.part]
      | succ i => rw [Mc.part_length]; omega
    have := rmac_any vk v k _ w' (hk.below hb) hv hkb (((Mc.part_byt _ _ _).append hlb).append (fun y hy => by simp at hy; omega)) (by omega) (by simp only [List.length_append, List.length_cons, List.length_nil]; omega)
    simpa [Mc.part] using this
  have HP0 : Hid (Mc.part k l 0 = []) := rfl
  have HPl : Hid (∀ i, (Mc.part k l (i + 1)).length = 32) := Mc.part_length k l
  have HPs : Hid (∀ i, (Mc.part k l i).length ≤ 32) := fun i => by
    cases i with
    | zero => simp [Mc.part]
    | succ i => rw [Mc.part_length]; omega
  have HQ0 : Hid (Mc.parts k l 0 = []) := rfl
  have HQ1 : Hid (∀ i, Mc.parts k l (i + 1) = Mc.parts k l i ++ Mc.part k l (i + 1)) := fun i => rfl
  have HQl : Hid (∀ i, (Mc.parts k l i).length = 32 * i) := Mc.parts_length k l
  have HX : Hid (∀ i, n ≤ 32 * i → (Mc.parts k l i).take n = Mc.expand k l n) := fun i h => Mc.expand_of k l n i h
  generalize Mc.expand k l n = X at *
  generalize Mc.parts k l = Q at *
  generalize Mc.part k l = P at *
  have HL := hide hl
  obtain ⟨m, hm⟩ : ∃ m, m = l.length := ⟨_, rfl⟩
  have HLM := hide hm
  rw [← hm] at HL ⊢
  clear hk hl hkb hlb hm
  go_enter Tryd.func8, Tryd.ntmps8
  go_wp2
  go_loopw [7, 8, 9] (fun o t u wr => ∃ (i : Nat), 32 * i < n + 32 ∧ u = .int .i64 ((i : Int) + 1) ∧ Own wr w.heap.size o (Q i) ∧ Has wr t (P i) ∧ Below w.heap.size w wr) (fun _ _ u _ => 100 - (intOf u).toNat)
  case atStart => exact ⟨0, by omega, rfl, by rw [HQ0.out]; exact Own.nil _ _, by rw [HP0.out]; exact .inl ⟨none, 0, rfl, rfl, by unfold maxLen; omega, fun _ => rfl⟩, Below.refl _ _⟩
  case round =>
    obtain ⟨i, hi, rfl, ho, hp, hb⟩ := hrel
    obtain ⟨oa, oc, rfl, hoc1, hoc2⟩ := ho.form
    obtain ⟨ta, tc, rfl⟩ := hp.form
    rw [HQl.out] at ho hoc1 ⊢
    by_cases hlt : 32 * i < n
    · have hlti : ((32 * i : Nat) : Int) < (n : Int) := by omega
      have hu8' : (((i + 1) % 256 : Nat) : Int) = (i : Int) + 1 := by omega
      have hi100 : i < 100 := by omega
      have hPs := HPs.out i
      have hPl := HPl.out i
      have hQ1 := HQ1.out i
      have HMi : Hid (∀ w' v, Below w.heap.size w w' → Has w' v (P i ++ l ++ [(i : Int) + 1]) → Calls Tryd.prog 7 #[vk, v] w' fun e w'' => e = .returned (.agg (vals (P (i + 1))).toArray) ∧ Below w'.heap.size w' w'') := fun w' v hb hv => HM.out w' v i hb (by rw [hu8']; exact hv)
      obtain ⟨N, hN⟩ : ∃ N, N = P (i + 1) := ⟨_, rfl⟩
      rw [← hN] at HMi hPl hQ1
      obtain ⟨pl, hpl⟩ : ∃ pl, pl = (P i).length := ⟨_, rfl⟩
      rw [← hpl] at hp hPs ⊢
      obtain ⟨T, hT⟩ : ∃ T, T = P i := ⟨_, rfl⟩
      rw [← hT] at HMi hp hpl
      have HBD1 : Hid (([] : List Int).length + T.length ≤ 180000000000000) := by show 0 + _ ≤ _; rw [← hpl]; omega
      have HBD2 : Hid (T.length + l.length ≤ 180000000000000) := by show _ ≤ _; rw [← hpl]; omega
      have HBD3 : Hid ((T ++ l).length + 1 ≤ 180000000000000) := by show _ ≤ _; rw [List.length_append, ← hpl]; omega
      have HBD4 : Hid ((Q i).length + N.length ≤ 180000000000000) := by show _ ≤ _; rw [HQl.out, hPl]; omega
      have HPL := hide hPl
      have HQ1' := hide hQ1
      have HN := hide hN
      have HO := hide ho
      have HP := hide hp
      have hbs := hb.size
      obtain ⟨wA, hwA⟩ : ∃ wA, wA = wr := ⟨_, rfl⟩
      subst hwA
      clear ho hp hPl hQ1 hN hpl hT hu8' HM
      have HNO : Hid (∀ b, wA.heap.size ≤ b → ∀ c, (Value.slice oa (32 * i) oc).ownBlock = some c → some b ≠ some c) := fun b hb c e1 e2 => by
        injection e2 with e2
        have := (HO.out.block c e1).2
        omega
      go_wp2_with (first
        | (at_builtin; refine wpList_append_bytes _ rfl _ _ rfl wA.heap.size (.slice (some ⟨wA.heap.size, 0, none⟩) 0 0) _ rfl (Own.empty wA wA.heap.size (Nat.le_refl _)) (.slice ta pl tc) T rfl (HP.out.below (below_alloc wA _)) HBD1.out (below_alloc wA _).size ?_; intro v5 w5 ho5 hg5; rw [List.nil_append] at ho5; have hb5 := (below_alloc wA (.cells #[] 5)).grown hg5 (below_alloc wA _).size (fun q hq => ((Own.empty wA wA.heap.size (Nat.le_refl _)).block q hq).1))
        | (at_builtin; refine wpList_append_bytes _ rfl _ _ rfl wA.heap.size v5 _ rfl ho5 (.slice va m vc) l rfl (HL.out.below (hb.trans (hb5.mono hbs))) HBD2.out hb5.size ?_; intro v6 w6 ho6 hg6; have hb6 := hb5.grown hg6 hb5.size (fun q hq => (ho5.block q hq).1))
        | (at_builtin; refine wpList_append_bytes _ rfl _ _ rfl wA.heap.size v6 _ rfl (ho6.below (below_alloc w6 _)) (.slice (some ⟨w6.heap.size, 0, none⟩) 1 1) [(i : Int) + 1] rfl (Own.byte w6 ((i : Int) + 1)) HBD3.out (Nat.le_trans hb6.size (below_alloc w6 _).size) ?_; intro v7 w7 ho7 hg7; have hb7 := (hb6.alloc hb6.size _).grown hg7 (Nat.le_trans hb6.size (below_alloc w6 _).size) (fun q hq => (ho6.block q hq).1)))
      have hb7' := hb.trans (hb7.mono hbs)
      refine (HMi.out _ v7 hb7' ho7.has).mono ?_
      rintro e w8 ⟨rfl, hb8⟩
      have hb8' : Below wA.heap.size wA w8 := hb7.trans (hb8.mono hb7.size)
      clear ho5 hg5 hb5 ho6 hg6 hb6 ho7 hg7 hb7 hb7' hb8 HMi
      go_wp2_with (first
        | (refine wpList_store_any 24 (vals (List.replicate 32 0)) (vals N) w8.heap.size (Is.new w8 _ _) size_dig (by simp [vals]) (by rw [vals_length]; exact HPL.out) (vals_one _) rfl (.tmp 11) (.tmp 29) rfl rfl rfl rfl ?_; intro w9 hi9 hb9 hk9 hz9; have hb9' := hb9 _ _ (hb8'.alloc hb8'.size _) hb8'.size)
        | (at_builtin; refine wpList_append_bytes _ rfl _ _ rfl w.heap.size (.slice oa (32 * i) oc) _ rfl (HO.out.below hb9') (.slice (some ⟨w8.heap.size, 0, none⟩) 32 32) N rfl (hi9.has HPL.out (by omega)) HBD4.out (Nat.le_trans hbs hb9'.size) ?_; intro va' wa' hoa hga))
      have hN9 : Is wa' w8.heap.size (vals N) 24 := hi9.grown hga (fun e => by have := (HO.out.block _ e).2; have := hb8'.size; omega)
      have hPa : Has wa' (.slice (some ⟨w8.heap.size, 0, none⟩) 32 32) (P (i + 1)) := by rw [← HN.out]; exact hN9.has HPL.out (by omega)
      have hba : Below w.heap.size w wa' := (hb.trans (hb9'.mono hbs)).grown hga (Nat.le_trans hbs hb9'.size) (fun q hq => (HO.out.block q hq).1)
      go_roundw
      case rel => exact ⟨i + 1, by omega, by go_num, by rw [HQ1'.out]; exact hoa, hPa, hba⟩
      case measure => simp [intOf]; omega
    · have hnl : n ≤ 32 * i := by omega
      have hfr := ho.front n (by rw [HQl.out]; exact hnl)
      rw [HX.out i hnl] at hfr
      have HFR := hide hfr
      have hnc : n ≤ oc := by omega
      have hnn : ¬ ((32 * i : Nat) : Int) < (n : Int) := by omega
      unfold maxLen at hoc2
      clear hfr ho hp hlt
      go_wp2
      go_ret
      exact ⟨_, rfl, HFR.out, hb⟩
end Go.Proofs.YtpmiaimpemkefaaDoor
