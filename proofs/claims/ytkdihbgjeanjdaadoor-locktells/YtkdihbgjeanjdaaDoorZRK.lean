/- The texts RKey1, RKey2, RKey3, RKey4, one behind the other. -/
import Derived.Test.YtkdihbgjeanjdaaDoorZKe
import Derived.Test.YtkdihbgjeanjdaaDoorOwn3
import Derived.Test.YtkdihbgjeanjdaaDoorGRf
import Derived.Test.YtkdihbgjeanjdaaDoorBytes
/- The document's Of, Walked, keyed, WotsSecret and DigestAt. -/
namespace Go.Proofs.YtkdihbgjeanjdaaDoor
open Go.RowKit
set_option linter.unusedVariables false
set_option linter.unusedSimpArgs false

set_option maxRecDepth 100000 in
set_option maxHeartbeats 4000000 in
theorem rof_any (f b off n cap : Nat) (L : List Int) (w : World) (hf : f < 256) (hn : n ≤ 1000) (hL : L.length = 32 * n) (hr : w.rangeAt b off (vals L)) (hb0 : b < w.heap.size) (hB : Sz.Byt L) :
    Calls Tryd.prog 94 #[.int .u8 (f : Int), .slice (some ⟨b, off, none⟩) n cap] w fun e w' => e = .returned (.agg (vals (Sh.sum ((f : Int) :: L))).toArray) ∧ Below w.heap.size w w' := by
  have HR := hide hr
  have HL := hide hL
  have HJ0 := hide (Is.new w (vals (List.replicate 32 0)) 25)
  have HB0 := hide (below_alloc w (.cells (vals (List.replicate 32 0)).toArray 25))
  have HO0 : Hid (Own ((w.alloc (.cells (vals (List.replicate 32 0)).toArray 25)).alloc (.cells #[.int .u8 (f : Int)] 5)) (w.heap.size + 1) (.slice (some ⟨w.heap.size + 1, 0, none⟩) 1 1) [(f : Int)]) := by
    have := Own.one (w.alloc (.cells (vals (List.replicate 32 0)).toArray 25)) (w.heap.size + 1) (f : Int) (by simp)
    rwa [show (w.alloc (.cells (vals (List.replicate 32 0)).toArray 25)).heap.size = w.heap.size + 1 by simp] at this
  clear hr hL
  go_enter Tryd.func94, Tryd.ntmps94
  go_wp2
  go_loopw [5, 6] (fun v i wr => ∃ (k : Nat) (F : List Int), k ≤ n ∧ i = .int .i64 k ∧ F = (f : Int) :: L.take (32 * k) ∧ Own wr (w.heap.size + 1) v F ∧ Is wr w.heap.size (vals (List.replicate 32 0)) 25 ∧ Below w.heap.size w wr) (fun _ i _ => n - (intOf i).toNat)
  case atStart => exact ⟨0, [(f : Int)], by omega, rfl, by rw [Nat.mul_zero, List.take_zero], HO0.out, HJ0.out.alloc _, HB0.out.alloc HB0.out.size _⟩
  case round =>
    obtain ⟨k, F, hk, rfl, hF, ho, hj, hb⟩ := hrel
    clear HO0 HJ0 HB0
    have hFl : F.length ≤ 40000 := by rw [hF, List.length_cons, List.length_take]; omega
    obtain ⟨oa, oc, rfl, hoc1, hoc2⟩ := ho.form
    clear hoc1 hoc2
    by_cases hkl : k < n
    · have hkL : 32 * k + 32 ≤ L.length := by rw [HL.out]; omega
      have hmid := sigAt_mid HR.out k hkL
      have hmid2 : wr.rangeAt b (off + k * 32) (vals (Ky.sigAt L k)) := fun j v hv => by rw [Nat.mul_comm k 32, hb.cell (p := ⟨b, off + 32 * k + j, none⟩) hb0]; exact hmid j v hv
      have hDl := Ky.sigAt_length L k hkL
      have hnx : F ++ Ky.sigAt L k = (f : Int) :: L.take (32 * (k + 1)) := by rw [take_row, hF, List.cons_append]
      generalize Ky.sigAt L k = D at *
      have HNX := hide hnx
      have HMID := hide hmid2
      have HDL := hide hDl
      have HO := hide ho
      have HJ := hide hj
      have HFL := hide hFl
      have hjl := hj.lt
      have hkn : (k : Int) < (n : Int) := by omega
      clear ho hj hF hnx hmid hmid2 hDl hFl hkL
      obtain ⟨wA, hwA⟩ : ∃ wA, wA = wr := ⟨_, rfl⟩
      subst hwA
      go_wp2_with (first
        | (refine wpList_load_mid2 25 (vals D) b (off + k * 32) rfl (.tmp 18) rfl rfl HMID.out Tryd.underlying25 size_dig (by rw [vals_length]; exact HDL.out) ?_)
        | (refine wpList_store_any2 25 (vals (List.replicate 32 0)) (vals D) wA.heap.size rfl (.tmp 7) (.tmp 19) rfl rfl rfl rfl (Is.new wA _ _) size_dig (by simp [vals]) (by rw [vals_length]; exact HDL.out) (vals_one _) ?_; intro w4 hi4 hb4 hk4 hz4; clear hz4; have hb4' := hb4 _ _ (below_alloc wA _) (Nat.le_refl _))
        | (at_builtin; refine wpList_append_bytes _ rfl (.tmp 20) (.tmp 21) rfl (w.heap.size + 1) (.slice oa F.length oc) F rfl (HO.out.below hb4') (.slice (some ⟨wA.heap.size, 0, none⟩) 32 32) D rfl (hi4.has HDL.out (by omega)) (by rw [HDL.out]; have := HFL.out; omega) (Nat.le_trans hjl hb4'.size) ?_; intro v6 w6 ho6 hg6))
      go_roundw
      case rel =>
        exact ⟨k + 1, F ++ D, by omega, by go_num, HNX.out, ho6, (HJ.out.below hb4' HJ.out.lt).grown hg6 (fun e => by have := (HO.out.block _ e).1; omega), (hb.trans (hb4'.mono hb.size)).grown hg6 (Nat.le_trans hb.size hb4'.size) (fun r hr => by have := (HO.out.block r hr).1; omega)⟩
      case measure => simp [intOf]; omega
    · have hkn : ¬ (k : Int) < (n : Int) := by omega
      have hFF : F = (f : Int) :: L := by rw [hF, List.take_of_length_le (by rw [HL.out]; omega)]
      have hFb : Sz.Byt F := by
        rw [hFF]
        intro x hx
        rcases List.mem_cons.1 hx with rfl | hx
        · omega
        · exact hB x hx
      have HHS := hide (rsum_any _ F wr ho.has hFb (by omega))
      have hDl : (Sh.sum F).length = 32 := Mc.sum_length F
      have hDF : Hid (Sh.sum F = Sh.sum ((f : Int) :: L)) := by show _ = _; rw [hFF]
      generalize Sh.sum F = D at *
      have HDL := hide hDl
      have HJ := hide hj
      clear hDl hj ho hF hFF hFl hkl hk hFb
      go_wp2_with (first
        | (go_at_call 65; refine HHS.out.mono ?_; rintro e w3 ⟨rfl, hb3⟩)
        | (refine wpList_store_any2 25 (vals (List.replicate 32 0)) (vals D) w.heap.size rfl (.tmp 4) (.tmp 24) rfl rfl rfl rfl (HJ.out.below hb3 HJ.out.lt) size_dig (by simp [vals]) (by rw [vals_length]; exact HDL.out) (vals_one _) ?_; intro w7 hi7 hb7 hk7 hz7))
      have hr := hi7.cellsOf Tryd.underlying25 (by rw [vals_length, HDL.out]; exact size_dig)
      exact bodyPost_ret (v := .agg (vals D).toArray) (results_cell1 Tryd.results94 rfl hr) rfl ⟨by rw [hDF.out], hb7 _ _ (hb.trans (hb3.mono hb.size)) (Nat.le_refl _)⟩

set_option maxRecDepth 100000 in
set_option maxHeartbeats 4000000 in
theorem rwalked_any (D : List Int) (z : Int) (w : World) (hD : D.length = 32) (hB : Sz.Byt D) (hz : z ≤ 100000) :
    Calls Tryd.prog 92 #[.agg (vals D).toArray, .int .i64 z] w fun e w' => e = .returned (.agg (vals (Ky.steps D z.toNat)).toArray) ∧ Below w.heap.size w w' := by
  have HS : Hid (∀ W K (d : List Int), d.length = 32 → Sz.Byt d → Is W K (vals d) 25 → Calls Tryd.prog 94 #[.int .u8 8, .slice (some ⟨K, 0, none⟩) 1 1] W fun e w' => e = .returned (.agg (vals (Ky.step d)).toArray) ∧ Below W.heap.size W w') := fun W K d hd hdb hi => by
    have := rof_any 8 K 0 1 1 d W (by omega) (by omega) (by omega) hi.range hi.lt hdb
    exact this
  have HI0 := hide ((Is.new w (vals D) 25).alloc (.cells (vals (List.replicate 32 0)).toArray 25))
  have HJ0 : Hid (Is ((w.alloc (.cells (vals D).toArray 25)).alloc (.cells (vals (List.replicate 32 0)).toArray 25)) (w.heap.size + 1) (vals (List.replicate 32 0)) 25) := Is.new' _ 25 (by simp)
  have HB0 := hide (below_alloc2 w (.cells (vals D).toArray 25) (.cells (vals (List.replicate 32 0)).toArray 25))
  have HDL : Hid (∀ n, (Ky.steps D n).length = 32) := Ky.steps_length D hD
  have HDB : Hid (∀ n, Sz.Byt (Ky.steps D n)) := Ky.steps_byt D hB
  have HSS : Hid (∀ n, Ky.step (Ky.steps D n) = Ky.steps D (n + 1)) := fun n => rfl
  clear hD hB
  go_enter Tryd.func92, Tryd.ntmps92
  go_wp2
  go_loopw [5] (fun i wr => ∃ k : Nat, k ≤ z.toNat ∧ i = .int .i64 k ∧ Is wr w.heap.size (vals (Ky.steps D k)) 25 ∧ Is wr (w.heap.size + 1) (vals (List.replicate 32 0)) 25 ∧ Below w.heap.size w wr) (fun i _ => z.toNat - (intOf i).toNat)
  case atStart => exact ⟨0, by omega, rfl, HI0.out, HJ0.out, HB0.out⟩
  case round =>
    obtain ⟨k, hk, rfl, hi, hj, hb⟩ := hrel
    clear HI0 HJ0 HB0
    by_cases hkl : k < z.toNat
    · have hkz : (k : Int) < z := by omega
      have hdl := HDL.out k
      have hdb := HDB.out k
      have hss := HSS.out k
      have hnl := HDL.out (k + 1)
      obtain ⟨N, hN⟩ : ∃ N, N = Ky.steps D (k + 1) := ⟨_, rfl⟩
      rw [← hN] at hss hnl
      have HN := hide hN
      clear hN
      generalize Ky.steps D k = d at *
      have HC : Hid (∀ W K, Is W K (vals d) 25 → Calls Tryd.prog 94 #[.int .u8 8, .slice (some ⟨K, 0, none⟩) 1 1] W fun e w' => e = .returned (.agg (vals N).toArray) ∧ Below W.heap.size W w') := fun W K h2 => by rw [← hss]; exact HS.out W K d hdl hdb h2
      have HDD := hide hdl
      have HI := hide hi
      have HJ := hide hj
      have HNL := hide hnl
      clear hi hj hnl hss hdl hdb HS HDL HDB HSS
      obtain ⟨wA, hwA⟩ : ∃ wA, wA = wr := ⟨_, rfl⟩
      subst hwA
      go_wp2_with (first
        | (refine wpList_load_arr2 25 (vals d) w.heap.size rfl (.tmp 2) rfl rfl HI.out Tryd.underlying25 size_dig (by rw [vals_length]; exact HDD.out) ?_)
        | (refine wpList_build_one 46 25 (vals d) rfl (.tmp 11) rfl rfl Tryd.underlying46 _ info_dig (by omega) (by omega) (by rw [vals_length]; exact HDD.out) ?_)
        | (go_at_call 94; refine (HC.out _ wA.heap.size (Is.new wA _ _)).mono ?_; rintro e w5 ⟨rfl, hb5⟩; have hI5 := (HI.out.alloc (.cells (vals d).toArray 25)).below hb5 (HI.out.alloc _).lt)
        | (refine wpList_store_any2 25 (vals d) (vals N) w.heap.size rfl (.tmp 2) (.tmp 13) rfl rfl rfl rfl hI5 size_dig (by rw [vals_length]; exact HDD.out) (by rw [vals_length]; exact HNL.out) (vals_one _) ?_; intro w7 hi7 hb7 hk7 hz7))
      go_roundw
      case rel =>
        have hj5 := (HJ.out.alloc (.cells (vals d).toArray 25)).below hb5 (HJ.out.alloc _).lt
        exact ⟨k + 1, by omega, by go_num, by rw [← HN.out]; exact hi7, hk7 _ _ _ (by omega) hj5, hb7 _ _ ((hb.alloc hb.size _).trans (hb5.mono (hb.alloc hb.size _).size)) (Nat.le_refl _)⟩
      case measure => simp [intOf]; omega
    · have hkz : ¬ (k : Int) < z := by omega
      have hke : k = z.toNat := by omega
      rw [hke] at hi
      have hnl := HDL.out z.toNat
      obtain ⟨N, hN⟩ : ∃ N, N = Ky.steps D z.toNat := ⟨_, rfl⟩
      rw [← hN] at hi hnl
      have HN := hide hN
      clear hN
      have HI := hide hi
      have HJ := hide hj
      have HNL := hide hnl
      clear hi hj hnl HS HDL HDB HSS hke
      go_wp2_with (first
        | (refine wpList_load_arr2 25 (vals N) w.heap.size rfl (.tmp 2) rfl rfl HI.out Tryd.underlying25 size_dig (by rw [vals_length]; exact HNL.out) ?_)
        | (refine wpList_store_any2 25 (vals (List.replicate 32 0)) (vals N) (w.heap.size + 1) rfl (.tmp 4) (.tmp 14) rfl rfl rfl rfl HJ.out size_dig (by simp [vals]) (by rw [vals_length]; exact HNL.out) (vals_one _) ?_; intro w7 hi7 hb7 hk7 hz7))
      have hr := hi7.cellsOf Tryd.underlying25 (by rw [vals_length, HNL.out]; exact size_dig)
      exact bodyPost_ret (v := .agg (vals N).toArray) (results_cell1 Tryd.results92 rfl hr) rfl ⟨by rw [HN.out], hb7 _ _ hb (Nat.le_succ _)⟩

end Go.Proofs.YtkdihbgjeanjdaaDoor

/- The document's DigestAt and Nibbles. -/
namespace Go.Proofs.YtkdihbgjeanjdaaDoor
open Go.RowKit
set_option linter.unusedVariables false
set_option linter.unusedSimpArgs false

/-- The first k bytes of D, and 0 behind them. -/
def pbytes (D : List Int) (k : Nat) : List Int := D.take k ++ List.replicate (32 - k) 0
theorem pbytes_length (D : List Int) (k : Nat) (hD : D.length = 32) (hk : k ≤ 32) : (pbytes D k).length = 32 := by simp [pbytes]; omega
theorem pbytes_set (D : List Int) (k : Nat) (hD : D.length = 32) (hk : k < 32) : (pbytes D k).set k (D.getD k 0) = pbytes D (k + 1) := by
  unfold pbytes
  have hl : (D.take k).length = k := by rw [List.length_take]; omega
  rw [List.set_append_right _ _ (by omega), hl, Nat.sub_self, take_snoc D k (by omega), List.append_assoc, show 32 - k = (32 - (k + 1)) + 1 by omega, List.replicate_succ, List.set_cons_zero]
  rfl

set_option maxRecDepth 100000 in
set_option maxHeartbeats 4000000 in
/-- The digest at a place of a signature. -/
theorem rdigestAt_any (b off cap : Nat) (sig : List Int) (k : Nat) (w : World) (hs : sig.length = 2144) (hsb : Sz.Byt sig) (hcap : 2144 ≤ cap) (hk : k < 67) (hr : w.rangeAt b off (vals sig)) (hb0 : b < w.heap.size) :
    Calls Tryd.prog 93 #[.slice (some ⟨b, off, none⟩) 2144 cap, .int .i64 (32 * (k : Int))] w fun e w' => e = .returned (.agg (vals (Ky.sigAt sig k)).toArray) ∧ Below w.heap.size w w' := by
  have hDl : (Ky.sigAt sig k).length = 32 := Ky.sigAt_length sig k (by omega)
  have hDg : ∀ j, j < 32 → (Ky.sigAt sig k).getD j 0 = sig.getD (32 * k + j) 0 := fun j hj => Ky.sigAt_getD sig k j hj
  have HRG : Hid (∀ j, j < 32 → w.cell? ⟨b, off + (32 * k + j), none⟩ = some (.int .u8 ((Ky.sigAt sig k).getD j 0))) := fun j hj => by
    rw [hDg j hj]
    exact hr (32 * k + j) _ (vals_get sig _ (by omega))
  generalize Ky.sigAt sig k = D at *
  have hzd := zero_dig
  obtain ⟨Z, hZ⟩ : ∃ Z, Z = vals (List.replicate 32 0) := ⟨_, rfl⟩
  rw [← hZ] at hzd
  have hZl : Z.length = 32 := by rw [hZ]; simp [vals]
  have hZp : ¬ Z = [] := by intro h; rw [h] at hZl; cases hZl
  have HZ0 : Hid (Z = vals (pbytes D 0)) := by show _ = _; rw [hZ]; rfl
  have HZL := hide hZl
  have HDL := hide hDl
  have HPS : Hid (∀ j, j < 32 → (pbytes D j).set j (D.getD j 0) = pbytes D (j + 1)) := fun j hj => pbytes_set D j hDl hj
  have HPL : Hid (∀ j, j ≤ 32 → (pbytes D j).length = 32) := fun j hj => pbytes_length D j hDl hj
  have HP32 : Hid (pbytes D 32 = D) := by show _ = _; unfold pbytes; rw [List.take_of_length_le (by omega), Nat.sub_self]; simp
  clear hZ hZl hDl hDg hr hs
  go_enter Tryd.func93, Tryd.ntmps93
  go_wp2
  go_loopw [6] (fun i wr => ∃ j : Nat, j ≤ 32 ∧ i = .int .i64 j ∧ Is wr (w.heap.size + 1) (vals (pbytes D j)) 25 ∧ Is wr w.heap.size Z 25 ∧ Below w.heap.size w wr) (fun i _ => 32 - (intOf i).toNat)
  case atStart => exact ⟨0, by omega, rfl, by rw [← HZ0.out]; exact Is.new' Z 25 (by simp), (Is.new w Z 25).alloc _, below_alloc2 _ _ _⟩
  case round =>
    obtain ⟨j, hj, rfl, hi, hz, hb⟩ := hrel
    by_cases hjl : j < 32
    · have hji : (j : Int) < 32 := by omega
      have hc1 : wr.cell? ⟨b, off + (32 * k + j), none⟩ = some (.int .u8 (D.getD j 0)) := by rw [hb.cell (p := ⟨b, off + (32 * k + j), none⟩) hb0]; exact HRG.out j hjl
      have hps := HPS.out j hjl
      have hpl := HPL.out j (by omega)
      have hc2 : wr.cell? ⟨w.heap.size + 1, j, none⟩ = some (.int .u8 ((pbytes D j).getD j 0)) := by rw [hi.cell, vals_get _ _ (by omega)]
      have hf2 := hi.frozen j
      obtain ⟨x, hx⟩ : ∃ x, x = D.getD j 0 := ⟨_, rfl⟩
      rw [← hx] at hc1 hps
      generalize (pbytes D j).getD j 0 = y at *
      have HX := hide hx
      have HI := hide hi
      have HZZ := hide hz
      have HPS1 := hide hps
      have hadd : IntKind.i64.wrap (32 * (k : Int) + (j : Int)) = 32 * (k : Int) + (j : Int) := IntWalk.i64_in _ (by omega)
      have hlt : 32 * (k : Int) + (j : Int) < 2144 := by omega
      have htn : (32 * (k : Int) + (j : Int)).toNat = 32 * k + j := by omega
      clear hi hz hps hx hpl HRG HPS HPL
      go_wp2
      refine ⟨⟨j + 1, by omega, by go_num, ?_, HZZ.out.other ⟨w.heap.size + 1, j, none⟩ _ (by simp), hb.setCell (p := ⟨w.heap.size + 1, j, none⟩) (Nat.le_succ _) _⟩, by simp [intOf]; omega⟩
      rw [← HPS1.out, ← vals_set]
      exact HI.out.set j _
    · have hji : ¬ (j : Int) < 32 := by omega
      have hje : j = 32 := by omega
      rw [hje, HP32.out] at hi
      have HI := hide hi
      have HZZ := hide hz
      clear hi hz HRG HPS HPL HP32 hje HZ0
      go_wp2_with (first
        | (refine wpList_load_arr2 25 (vals D) (w.heap.size + 1) rfl (.tmp 5) rfl rfl HI.out Tryd.underlying25 size_dig (by rw [vals_length]; exact HDL.out) ?_)
        | (refine wpList_store_any2 25 Z (vals D) w.heap.size rfl (.tmp 4) (.tmp 19) rfl rfl rfl rfl HZZ.out size_dig HZL.out (by rw [vals_length]; exact HDL.out) (vals_one _) ?_; intro w7 hi7 hb7 hk7 hz7))
      have hr := hi7.cellsOf Tryd.underlying25 (by rw [vals_length, HDL.out]; exact size_dig)
      exact bodyPost_ret (v := .agg (vals D).toArray) (results_cell1 Tryd.results93 rfl hr) rfl ⟨rfl, hb7 _ _ hb (Nat.le_refl _)⟩

/-- Numbers of the call's own. -/
def OwnN (w : World) (base : Nat) (v : Value) (l : List Nat) : Prop := w.ownsRow base 3 1 v l.length (ivals l)
theorem elem_int : Elem 144 3 1 := elem_of (.int .i64 0) 8 Tryd.underlying144 (by kernel_rfl) (by omega) rfl (by omega)
theorem ivals_append (a b : List Nat) : ivals (a ++ b) = ivals a ++ ivals b := by simp [ivals]
theorem nibs_succ (m : List Int) (k : Nat) : Ky.nibs m (k + 1) = Ky.nibs m k ++ [Ky.nib m k] := by simp [Ky.nibs, List.range_succ]
theorem nibs_length (m : List Int) (k : Nat) : (Ky.nibs m k).length = k := by simp [Ky.nibs]
theorem nib_even' (m : List Int) (k : Nat) (h : k % 2 = 0) : Ky.nib m k = (m.getD (k / 2) 0).toNat / 16 := by unfold Ky.nib; rw [if_pos h]
theorem nib_odd' (m : List Int) (k : Nat) (h : ¬ k % 2 = 0) : Ky.nib m k = (m.getD (k / 2) 0).toNat % 16 := by unfold Ky.nib; rw [if_neg h]

set_option maxRecDepth 100000 in
set_option maxHeartbeats 4000000 in
theorem rnibbles_any (m : List Int) (w : World) (hm : m.length = 32) (hmb : Sz.Byt m) :
    Calls Tryd.prog 91 #[.agg (vals m).toArray] w fun e w' => ∃ v, e = .returned v ∧ OwnN w' (w.heap.size + 1) v (Ky.digits m) ∧ Below w.heap.size w w' := by
  have HI0 := hide (Is.new w (vals m) 25)
  have HB0 := hide (below_alloc w (.cells (vals m).toArray 25))
  have HM := hide hm
  clear hm
  go_enter Tryd.func91, Tryd.ntmps91
  go_wp2
  go_loopw [3, 4, 5] (fun v s i wr => ∃ k : Nat, k ≤ 64 ∧ i = .int .i64 k ∧ s = .int .i64 (Ky.lack m k : Nat) ∧ wr.ownsRow (w.heap.size + 1) 3 1 v k (ivals (Ky.nibs m k)) ∧ Is wr w.heap.size (vals m) 25 ∧ Below w.heap.size w wr) (fun _ _ i _ => 64 - (intOf i).toNat)
  case atStart => exact ⟨0, by omega, rfl, rfl, World.ownsRow_nil _ _ _ _, HI0.out, HB0.out⟩
  case round =>
    obtain ⟨k, hk, rfl, rfl, ho, hi, hb⟩ := hrel
    clear HI0 HB0
    obtain ⟨oa, oc, rfl⟩ := owns_form ho
    have hll := Ky.lack_le m k
    by_cases hkl : k < 64
    · have hki : (k : Int) < 64 := by omega
      have hv := hi.cell (k / 2)
      rw [vals_get m _ (by rw [HM.out]; omega)] at hv
      have hbk := hmb.getD (k / 2)
      obtain ⟨x, hx⟩ := Int.eq_ofNat_of_zero_le hbk.1
      rw [hx] at hv
      have hx2 : x < 256 := by omega
      have hnx : Ky.nib m k = if k % 2 = 0 then x / 16 else x % 16 := by unfold Ky.nib; rw [hx, Int.toNat_natCast]
      have hns := nibs_succ m k
      have hls : Ky.lack m (k + 1) = Ky.lack m k + (15 - Ky.nib m k) := rfl
      generalize Ky.nib m k = y at *
      obtain ⟨L, hL⟩ : ∃ L, L = Ky.lack m k := ⟨_, rfl⟩
      rw [← hL] at hll hls ⊢
      have hq0 : 0 ≤ (k : Int) / 2 := by omega
      have hq1 : (k : Int) / 2 < 32 := by omega
      have hqn : ((k : Int) / 2).toNat = k / 2 := by omega
      have hil := hi.lt
      generalize hX : Ky.nibs m k = X at *
      have HNS := hide hns
      have HLS := hide hls
      have HO := hide ho
      have HI := hide hi
      clear hns hls ho hi hx hbk hL hX
      have hy15 : y ≤ 15 := by split at hnx <;> omega
      obtain ⟨wA, hwA⟩ : ∃ wA, wA = wr := ⟨_, rfl⟩
      subst hwA
      have FIN : Hid (∀ (Y : Int) v6 (w6 : World), Y = (y : Int) → w6.ownsRow (w.heap.size + 1) 3 1 v6 (k + 1) (ivals X ++ [.int .i64 Y]) → (wA.alloc (.cells #[.int .i64 Y] 3)).grownBy w6 (Value.ownBlock (.slice oa k oc)) →
          ∃ k' : Nat, k' ≤ 64 ∧ Value.int .i64 ((k : Int) + 1) = .int .i64 k' ∧ Value.int .i64 ((L : Int) + (15 - Y)) = .int .i64 (Ky.lack m k' : Nat) ∧ w6.ownsRow (w.heap.size + 1) 3 1 v6 k' (ivals (Ky.nibs m k')) ∧ Is w6 w.heap.size (vals m) 25 ∧ Below w.heap.size w w6) := fun Y v6 w6 hY h6 hg => by
        subst hY
        refine ⟨k + 1, by omega, by go_num, ?_, ?_, (HI.out.alloc _).grown hg (fun e => by have := (World.ownsRow.lt HO.out _ e).1; omega), (hb.alloc hb.size _).grown hg (hb.alloc hb.size _).size (fun r hr => by have := (World.ownsRow.lt HO.out r hr).1; omega)⟩
        · rw [HLS.out]; congr 1; omega
        · rw [HNS.out, ivals_append]; exact h6
      by_cases hpar : k % 2 = 0
      · rw [if_pos hpar] at hnx
        have hpi : (k : Int) % 2 = 0 := by omega
        have hyx : (x : Int) / 16 = (y : Int) := by omega
        have HYX := hide hyx
        have hxb : (x : Int) / 16 ≤ 15 := by omega
        have hxb0 : 0 ≤ (x : Int) / 16 := by omega
        clear hnx hyx
        go_wp2_with (at_builtin; refine wpList_append_gen _ 144 3 1 rfl (.tmp 26) (.tmp 28) rfl (w.heap.size + 1) (.slice oa k oc) k (ivals X) rfl wA.heap.size 0 1 1 [.int .i64 ((x : Int) / 16)] rfl (owns_below HO.out (below_alloc wA _)) elem_int (by omega) rfl (Is.new wA _ _).range (by simp [Value.oneCell']) (by omega) (Nat.le_trans hil (by simp)) ?_; intro v6 w6 h6 hg6 hw6)
        exact ⟨FIN.out _ v6 w6 HYX.out h6 hg6, by simp [intOf]; omega⟩
      · rw [if_neg hpar] at hnx
        have hpi : (k : Int) % 2 = 1 := by omega
        have hyx : (x : Int) % 16 = (y : Int) := by omega
        have HYX := hide hyx
        have hxb : (x : Int) % 16 ≤ 15 := by omega
        have hxb0 : 0 ≤ (x : Int) % 16 := by omega
        clear hnx hyx
        go_wp2_with (at_builtin; refine wpList_append_gen _ 144 3 1 rfl (.tmp 26) (.tmp 28) rfl (w.heap.size + 1) (.slice oa k oc) k (ivals X) rfl wA.heap.size 0 1 1 [.int .i64 ((x : Int) % 16)] rfl (owns_below HO.out (below_alloc wA _)) elem_int (by omega) rfl (Is.new wA _ _).range (by simp [Value.oneCell']) (by omega) (Nat.le_trans hil (by simp)) ?_; intro v6 w6 h6 hg6 hw6)
        exact ⟨FIN.out _ v6 w6 HYX.out h6 hg6, by simp [intOf]; omega⟩
    · have hki : ¬ (k : Int) < 64 := by omega
      have hke : k = 64 := by omega
      have hdg : Ky.digits m = Ky.nibs m k ++ [Ky.lack m k / 256, Ky.lack m k / 16 % 16, Ky.lack m k % 16] := by rw [hke]; rfl
      have hdl := Ky.digits_length m
      generalize Ky.lack m k = L at *
      generalize Ky.nibs m k = X at *
      have hil := hi.lt
      have HO := hide ho
      have HDG := hide hdg
      have HDL := hide hdl
      clear ho hi hdg hdl hkl hk HM
      obtain ⟨wA, hwA⟩ : ∃ wA, wA = wr := ⟨_, rfl⟩
      subst hwA
      go_wp2_with (at_builtin; refine wpList_append_gen _ 144 3 1 rfl (.tmp 34) (.tmp 42) rfl (w.heap.size + 1) (.slice oa k oc) k (ivals X) rfl wA.heap.size 0 3 3 [.int .i64 ((L : Int) / 256), .int .i64 ((L : Int) / 16 % 16), .int .i64 ((L : Int) % 16)] rfl (owns_below HO.out (below_alloc wA _)) elem_int (by omega) rfl (Is.new wA _ _).range (by simp [Value.oneCell']) (by omega) (Nat.le_trans hil (by simp)) ?_; intro v6 w6 h6 hg6 hw6)
      go_ret
      refine ⟨_, rfl, ?_, (hb.alloc hb.size _).grown hg6 (hb.alloc hb.size _).size (fun r hr => by have := (World.ownsRow.lt HO.out r hr).1; omega)⟩
      have e0 : (L : Int) / 256 = ((L / 256 : Nat) : Int) := by omega
      have e1 : (L : Int) / 16 % 16 = ((L / 16 % 16 : Nat) : Int) := by omega
      have e2 : (L : Int) % 16 = ((L % 16 : Nat) : Int) := by omega
      rw [e0, e1, e2] at h6
      unfold OwnN
      rw [HDL.out, HDG.out, ivals_append, show 67 = k + 3 by omega]
      exact h6
end Go.Proofs.YtkdihbgjeanjdaaDoor

/- The document's WotsPublic, KeySigned and KeyOf; numbers held against themselves. -/
namespace Go.Proofs.YtkdihbgjeanjdaaDoor
open Go.RowKit
set_option linter.unusedVariables false
set_option linter.unusedSimpArgs false

theorem elem_dig : Elem 46 25 32 := elem_of (.agg (vals (List.replicate 32 0)).toArray) 32 Tryd.underlying46 (by kernel_rfl) (by omega) (by simp [Value.cells, vals]) (by omega)

end Go.Proofs.YtkdihbgjeanjdaaDoor

/- The document's KeyOf and KeySigned. -/
namespace Go.Proofs.YtkdihbgjeanjdaaDoor
open Go.RowKit
set_option linter.unusedVariables false
set_option linter.unusedSimpArgs false

theorem cb_below {w1 W W' : World} {a : Addr} {v : Value} (h : W.cell? a = some v ∧ Below w1.heap.size w1 W) (hb : Below W.heap.size W W') : W'.cell? a = some v ∧ Below w1.heap.size w1 W' :=
  ⟨cell_below h.1 hb, h.2.trans (hb.mono h.2.size)⟩
theorem cb_grown {w1 W W' : World} {a : Addr} {v : Value} {row : Option Nat} (h : W.cell? a = some v ∧ Below w1.heap.size w1 W) (hg : W.grownBy W' row) (ha : a.block < w1.heap.size) (hr : ∀ k, row = some k → w1.heap.size ≤ k) : W'.cell? a = some v ∧ Below w1.heap.size w1 W' :=
  ⟨hg.cell h.1 (fun e => by have := hr _ e.symm; omega), h.2.grown hg h.2.size hr⟩

set_option maxRecDepth 100000 in
set_option maxHeartbeats 4000000 in
theorem rkeyof_any (m sig : List Int) (b off cap : Nat) (w : World) (hm : m.length = 32) (hmb : Sz.Byt m) (hs : sig.length = 2144) (hsb : Sz.Byt sig) (hcap : 2144 ≤ cap) (hr : w.rangeAt b off (vals sig)) (hb0 : b < w.heap.size) :
    Calls Tryd.prog 84 #[.agg (vals m).toArray, .slice (some ⟨b, off, none⟩) 2144 cap] w fun e w' => e = .returned (.agg (vals (Ky.recov m sig)).toArray) ∧ Below w.heap.size w w' := by
  have hdl := Ky.digits_length m
  have HG : Hid (∀ W, Calls Tryd.prog 91 #[.agg (vals m).toArray] W fun e w' => ∃ v, e = .returned v ∧ OwnN w' (W.heap.size + 1) v (Ky.digits m) ∧ Below W.heap.size W w') := fun W => rnibbles_any m W hm hmb
  obtain ⟨T, hT⟩ : ∃ T : Nat → List Int, T = fun i => if i < 67 then Ky.top m sig i else List.replicate 32 0 := ⟨_, rfl⟩
  have hTT : ∀ i, i < 67 → T i = Ky.top m sig i := fun i hi => by rw [hT]; exact if_pos hi
  have HTL : Hid (∀ i, (T i).length = 32) := fun i => by
    rw [hT]
    show (if i < 67 then Ky.top m sig i else List.replicate 32 0).length = 32
    split
    · exact Ky.steps_length _ (Ky.sigAt_length _ _ (by omega)) _
    · simp
  have hRT : Ky.rowsOf T 67 = Ky.rowsOf (Ky.top m sig) 67 := Ky.rowsOf_congr _ _ 67 hTT
  have hRb : Sz.Byt (Ky.rowsOf (Ky.top m sig) 67) := Ky.rowsOf_byt _ (fun k => Ky.steps_byt _ (Ky.sigAt_byt _ _ hsb) _) 67
  obtain ⟨g, hg⟩ : ∃ g : Nat → List Int, g = Ky.sigAt sig := ⟨_, rfl⟩
  obtain ⟨q, hq⟩ : ∃ q : Nat → Nat, q = Ky.dig m := ⟨_, rfl⟩
  have HQ : Hid (∀ k, q k ≤ 15) := fun k => by rw [hq]; exact Ky.digits_le m hmb k
  have HQG : Hid (∀ k, (Ky.digits m).getD k 0 = q k) := fun k => by rw [hq]; rfl
  have HDA : Hid (∀ W (k : Nat), Below w.heap.size w W → k < 67 → Calls Tryd.prog 93 #[.slice (some ⟨b, off, none⟩) 2144 cap, .int .i64 (32 * (k : Int))] W fun e w' => e = .returned (.agg (vals (g k)).toArray) ∧ Below W.heap.size W w') := fun W k hW hk => by
    rw [hg]; exact rdigestAt_any b off cap sig k W hs hsb hcap hk (range_below0 hr hW hb0) (Nat.lt_of_lt_of_le hb0 hW.size)
  have HWK : Hid (∀ W (k : Nat), k < 67 → Calls Tryd.prog 92 #[.agg (vals (g k)).toArray, .int .i64 (15 - (q k : Int))] W fun e w' => e = .returned (.agg (vals (T k)).toArray) ∧ Below W.heap.size W w') := fun W k hk => by
    have h15 : q k ≤ 15 := HQ.out k
    have := rwalked_any (g k) (15 - (q k : Int)) W (by rw [hg]; exact Ky.sigAt_length _ _ (by omega)) (by rw [hg]; exact Ky.sigAt_byt _ _ hsb) (by omega)
    rw [show (15 - (q k : Int)).toNat = 15 - q k by omega] at this
    rw [hTT k hk]
    rw [hg, hq] at this ⊢
    exact this
  have HO7 : Hid (∀ W bb cc, W.rangeAt bb 0 (vals (Ky.rowsOf T 67)) → bb < W.heap.size → Calls Tryd.prog 94 #[.int .u8 7, .slice (some ⟨bb, 0, none⟩) 67 cc] W fun e w' => e = .returned (.agg (vals (Ky.recov m sig)).toArray) ∧ Below W.heap.size W w') := fun W bb cc hrr hbb => by
    have := rof_any 7 bb 0 67 cc (Ky.rowsOf T 67) W (by omega) (by omega) (Ky.rowsOf_length T HTL.out 67) hrr hbb (by rw [hRT]; exact hRb)
    rw [hRT] at this
    exact this
  have hPl : (Ky.recov m sig).length = 32 := Ky.recov_length m sig
  generalize Ky.recov m sig = P at *
  generalize Ky.digits m = G at *
  have HPL := hide hPl
  have HML := hide hm
  have HGL := hide hdl
  have HI0 := hide ((Is.new w (vals m) 25).alloc (.cells (vals (List.replicate 32 0)).toArray 25))
  have HJ0 : Hid (Is ((w.alloc (.cells (vals m).toArray 25)).alloc (.cells (vals (List.replicate 32 0)).toArray 25)) (w.heap.size + 1) (vals (List.replicate 32 0)) 25) := Is.new' _ 25 (by simp)
  have HB0 := hide (below_alloc2 w (.cells (vals m).toArray 25) (.cells (vals (List.replicate 32 0)).toArray 25))
  clear hPl hm hmb hs hsb hr hdl hT hTT hRT hRb hg hq hcap
  go_enter Tryd.func84, Tryd.ntmps84
  go_wp2_with (first
    | (refine wpList_load_arr2 25 (vals m) w.heap.size rfl (.tmp 2) rfl rfl HI0.out Tryd.underlying25 size_dig (by rw [vals_length]; exact HML.out) ?_)
    | (go_at_call 91; refine (HG.out _).mono ?_; rintro e w1 ⟨v5, rfl, ho5, hb1⟩))
  have hb1' := HB0.out.trans (hb1.mono HB0.out.size)
  have hJ1 := HJ0.out.below hb1 HJ0.out.lt
  unfold OwnN at ho5
  rw [HGL.out] at ho5
  obtain ⟨gd, cd, rfl, hgd, hgdl, hcd, hcdm, hrgd⟩ := owns_some ho5 (by omega)
  have HCD : Hid (∀ k, k < 67 → w1.cell? ⟨gd, k, none⟩ = some (.int .i64 (q k : Int))) := fun k hk => by
    have := hrgd k _ (ivals_get G k (by rw [HGL.out]; exact hk))
    rw [Nat.zero_add, HQG.out] at this
    exact this
  have HB1 := hide hb1'
  have HJ1 := hide hJ1
  clear ho5 hrgd hb1 hb1' hJ1 HI0 HJ0 HB0 HG hgd hcdm
  go_loopw [6, 7] (fun v i wr => ∃ k : Nat, k ≤ 67 ∧ i = .int .i64 k ∧ wr.ownsRow w1.heap.size 25 32 v k (vals (Ky.rowsOf T k)) ∧ Below w1.heap.size w1 wr) (fun _ i _ => 67 - (intOf i).toNat)
  case atStart => exact ⟨0, by omega, rfl, World.ownsRow_nil _ _ _ _, Below.refl _ _⟩
  case round =>
    obtain ⟨k, hk, rfl, ho, hb⟩ := hrel
    obtain ⟨oa, oc, rfl⟩ := owns_form ho
    by_cases hkl : k < 67
    · have hki : (k : Int) < 67 := by omega
      have hnx : vals (Ky.rowsOf T (k + 1)) = vals (Ky.rowsOf T k) ++ vals (T k) := by rw [Ky.rowsOf_succ, vals_append]
      have htl := HTL.out k
      have hqk := HQ.out k
      have hB1 := HB1.out
      have HDk : Hid (∀ W, Below w1.heap.size w1 W → Calls Tryd.prog 93 #[.slice (some ⟨b, off, none⟩) 2144 cap, .int .i64 (32 * (k : Int))] W fun e w' => e = .returned (.agg (vals (g k)).toArray) ∧ Below W.heap.size W w') := fun W hW => HDA.out W k (hB1.trans (hW.mono hB1.size)) hkl
      have HTk : Hid (∀ W, Calls Tryd.prog 92 #[.agg (vals (g k)).toArray, .int .i64 (15 - (q k : Int))] W fun e w' => e = .returned (.agg (vals (T k)).toArray) ∧ Below W.heap.size W w') := fun W => HWK.out W k hkl
      have hck : wr.cell? ⟨gd, k, none⟩ = some (.int .i64 (q k : Int)) := by rw [hb.cell (p := ⟨gd, k, none⟩) hgdl]; exact HCD.out k hkl
      generalize T k = D at *
      generalize g k = E at *
      generalize q k = d at *
      generalize vals (Ky.rowsOf T k) = X at *
      have HNX := hide hnx
      have HDL := hide htl
      have HO := hide ho
      have HS0 : Hid (wr.cell? ⟨gd, k, none⟩ = some (.int .i64 (d : Int)) ∧ Below w1.heap.size w1 wr) := ⟨hck, hb⟩
      have hrow : ∀ r, Value.ownBlock (.slice oa k oc) = some r → w1.heap.size ≤ r := fun r hr => (World.ownsRow.lt HO.out r hr).1
      have HROW := hide hrow
      have hwm : IntKind.i64.wrap (32 * (k : Int)) = 32 * (k : Int) := IntWalk.i64_in _ (by omega)
      have hwd : IntKind.i64.wrap (15 - (d : Int)) = 15 - (d : Int) := IntWalk.i64_in _ (by omega)
      have hwm2 : wrap64 (32 * (k : Int)) = 32 * (k : Int) := by rw [← IntWalk.i64_left]; exact hwm
      have hwd2 : wrap64 (15 - (d : Int)) = 15 - (d : Int) := by rw [← IntWalk.i64_left]; exact hwd
      clear hnx htl ho hB1 hck hrow HDA HWK HO7 HCD HTL HQ HQG hb
      obtain ⟨wA, hwA⟩ : ∃ wA, wA = wr := ⟨_, rfl⟩
      subst hwA
      go_wp2
      refine wp_region_held_drew (S := fun W : World => W.cell? ⟨gd, k, none⟩ = some (.int .i64 (d : Int)) ∧ Below w1.heap.size w1 W) (by kernel_rfl) ?_ (fun hHeld0 => ?_)
      · exact cb_below HS0.out ((Below.refl _ _).drew)
      refine wpAnyH_take (i := 0) (v := ?_) rfl (by kernel_rfl) (by kernel_rfl) (by kernel_rfl) (fun _ _ _ h => h) (Or.inl ⟨by rfl, ?_⟩) hHeld0 ?_
      rotate_left
      · (intro w hSw; (try dsimp only at hSw); go_simp <;> (try with_reducible rfl))
      simp only [Act.put, List.getElem_toArray, List.getElem_cons_zero, List.getElem_cons_succ, List.setIfInBounds_toArray, List.set_cons_zero, List.set_cons_succ]
      refine wpAnyH_take (i := 1) (v := ?_) rfl (by kernel_rfl) (by kernel_rfl) (by kernel_rfl) (fun _ _ _ h => h) (Or.inl ⟨by rfl, ?_⟩) hHeld0 ?_
      rotate_left
      · (intro w hSw; (try dsimp only at hSw); go_simp <;> (try with_reducible rfl))
      simp only [Act.put, List.getElem_toArray, List.getElem_cons_zero, List.getElem_cons_succ, List.setIfInBounds_toArray, List.set_cons_zero, List.set_cons_succ]
      refine wpAnyH_take (i := 2) (v := ?_) rfl (by kernel_rfl) (by kernel_rfl) (by kernel_rfl) (fun _ _ _ h => h) (Or.inl ⟨by rfl, ?_⟩) hHeld0 ?_
      rotate_left
      · (intro w hSw; (try dsimp only at hSw); go_simp <;> (try with_reducible rfl))
      simp only [Act.put, List.getElem_toArray, List.getElem_cons_zero, List.getElem_cons_succ, List.setIfInBounds_toArray, List.set_cons_zero, List.set_cons_succ]
      refine wpAnyH_take (i := 3) (v := ?_) rfl (by kernel_rfl) (by kernel_rfl) (by kernel_rfl) (fun _ _ _ h => h) (Or.inl ⟨by rfl, ?_⟩) hHeld0 ?_
      rotate_left
      · (intro w hSw; (try dsimp only at hSw); go_simp <;> (try with_reducible rfl))
      simp only [Act.put, List.getElem_toArray, List.getElem_cons_zero, List.getElem_cons_succ, List.setIfInBounds_toArray, List.set_cons_zero, List.set_cons_succ]
      refine wpAnyH_take (i := 5) (v := ?_) rfl (by kernel_rfl) (by kernel_rfl) (by kernel_rfl) (fun _ _ _ h => h) (Or.inl ⟨by rfl, ?_⟩) hHeld0 ?_
      rotate_left
      · (intro w hSw; (try dsimp only at hSw); go_simp <;> (try with_reducible rfl))
      simp only [Act.put, List.getElem_toArray, List.getElem_cons_zero, List.getElem_cons_succ, List.setIfInBounds_toArray, List.set_cons_zero, List.set_cons_succ]
      refine wpAnyH_take (i := 6) (v := ?_) rfl (by kernel_rfl) (by kernel_rfl) (by kernel_rfl) (fun _ _ _ h => h) (Or.inl ⟨by rfl, ?_⟩) hHeld0 ?_
      rotate_left
      · (intro w hSw; (try dsimp only at hSw); go_simp <;> (try with_reducible rfl))
      simp only [Act.put, List.getElem_toArray, List.getElem_cons_zero, List.getElem_cons_succ, List.setIfInBounds_toArray, List.set_cons_zero, List.set_cons_succ]
      refine wpAnyH_take (i := 7) (v := ?_) rfl (by kernel_rfl) (by kernel_rfl) (by kernel_rfl) (fun _ _ _ h => h) (Or.inl ⟨by rfl, ?_⟩) hHeld0 ?_
      rotate_left
      · (intro w hSw; (try dsimp only at hSw); go_simp <;> (try with_reducible rfl))
      simp only [Act.put, List.getElem_toArray, List.getElem_cons_zero, List.getElem_cons_succ, List.setIfInBounds_toArray, List.set_cons_zero, List.set_cons_succ]
      refine wpAnyH_take (i := 8) (v := ?_) rfl (by kernel_rfl) (by kernel_rfl) (by kernel_rfl) (fun _ _ _ h => h) (Or.inl ⟨by rfl, ?_⟩) hHeld0 ?_
      rotate_left
      · (intro w hSw; (try dsimp only at hSw); go_simp <;> (try with_reducible rfl))
      simp only [Act.put, List.getElem_toArray, List.getElem_cons_zero, List.getElem_cons_succ, List.setIfInBounds_toArray, List.set_cons_zero, List.set_cons_succ]
      refine wpAnyH_take (i := 9) (v := ?_) rfl (by kernel_rfl) (by kernel_rfl) (by kernel_rfl) (fun _ _ _ h => h) (Or.inl ⟨by rfl, ?_⟩) hHeld0 ?_
      rotate_left
      · (intro w hSw; (try dsimp only at hSw); go_simp <;> (try with_reducible rfl))
      simp only [Act.put, List.getElem_toArray, List.getElem_cons_zero, List.getElem_cons_succ, List.setIfInBounds_toArray, List.set_cons_zero, List.set_cons_succ]
      refine wpAnyH_ready (rs := [4]) (by kernel_rfl) (by simp) ?_
      refine AllReadyH.cons rfl (fun K hK => ?_) AllReadyH.nil
      go_simp
      go_wp2_with ((go_at_call 93; refine (HDk.out _ hHeld0.2).mono ?_; rintro e wq1 ⟨rfl, hbq1⟩))
      refine hK.out _ _ (by exact cb_below hHeld0 hbq1) (fun hHeld1 => ?_)
      clear hK K hHeld0
      try simp only [Act.put, List.getElem_toArray, List.getElem_cons_zero, List.getElem_cons_succ, List.setIfInBounds_toArray, List.set_cons_zero, List.set_cons_succ]
      have hO1 := owns_below (w := wA.drew) HO.out hbq1
      refine wpAnyH_ready (rs := [10]) (by kernel_rfl) (by simp) ?_
      refine AllReadyH.cons rfl (fun K hK => ?_) AllReadyH.nil
      go_simp
      go_wp2_with ((go_at_call 92; refine (HTk.out _).mono ?_; rintro e wq2 ⟨rfl, hbq2⟩))
      refine hK.out _ _ (by exact cb_below hHeld1 hbq2) (fun hHeld2 => ?_)
      clear hK K hHeld1
      try simp only [Act.put, List.getElem_toArray, List.getElem_cons_zero, List.getElem_cons_succ, List.setIfInBounds_toArray, List.set_cons_zero, List.set_cons_succ]
      have hO2 := owns_below hO1 hbq2
      refine wpAnyH_ready (rs := [11]) (by kernel_rfl) (by simp) ?_
      refine AllReadyH.cons rfl (fun K hK => ?_) AllReadyH.nil
      refine step_build_one 46 25 (vals D) rfl (.tmp 24) rfl rfl Tryd.underlying46 _ info_dig (by omega) (by omega) (by rw [vals_length]; exact HDL.out) ?_
      refine hK.out _ _ (by exact cb_below hHeld2 (below_alloc _ _)) (fun hHeld3 => ?_)
      clear hK K hHeld2
      try simp only [Act.put, List.getElem_toArray, List.getElem_cons_zero, List.getElem_cons_succ, List.setIfInBounds_toArray, List.set_cons_zero, List.set_cons_succ]
      refine wpAnyH_ready (rs := [12]) (by kernel_rfl) (by simp) ?_
      refine AllReadyH.cons rfl (fun K hK => ?_) AllReadyH.nil
      refine step_append_gen _ 46 25 32 rfl (.tmp 14) (.tmp 25) rfl w1.heap.size (.slice oa k oc) k X rfl wq2.heap.size 0 1 1 (vals D) rfl (owns_below hO2 (below_alloc wq2 _)) elem_dig (by omega) (by rw [vals_length, HDL.out]) (Is.new wq2 _ _).range (vals_one _) (by omega) hHeld3.2.size ?_
      intro v6 w6 h6 hg6 hw6
      refine hK.out _ _ (by exact cb_grown hHeld3 hg6 hgdl HROW.out) (fun hHeld4 => ?_)
      clear hK K hHeld3
      try simp only [Act.put, List.getElem_toArray, List.getElem_cons_zero, List.getElem_cons_succ, List.setIfInBounds_toArray, List.set_cons_zero, List.set_cons_succ]
      refine wpAnyH_take (i := 13) (v := ?_) rfl (by kernel_rfl) (by kernel_rfl) (by kernel_rfl) (fun _ _ _ h => h) (Or.inl ⟨by rfl, ?_⟩) hHeld4 ?_
      rotate_left
      · (intro w hSw; (try dsimp only at hSw); go_simp <;> (try with_reducible rfl))
      simp only [Act.put, List.getElem_toArray, List.getElem_cons_zero, List.getElem_cons_succ, List.setIfInBounds_toArray, List.set_cons_zero, List.set_cons_succ]
      refine wpAnyH_done (by kernel_rfl) ?_ _
      go_wp2
      go_roundw
      case rel => exact ⟨k + 1, by omega, by go_num, by rw [HNX.out]; exact h6, hHeld4.2⟩
      case measure => simp [intOf]; omega
    · have hki : ¬ (k : Int) < 67 := by omega
      have hke : k = 67 := by omega
      subst hke
      obtain ⟨gb, cc, hv, hgb, hgl, hcp, hcm, hrg⟩ := owns_some ho (by omega)
      injection hv with hv1 hv2 hv3
      subst hv1
      have HC := hide (HO7.out wr gb oc hrg hgl)
      have HJ := hide (HJ1.out.below hb HJ1.out.lt)
      have hbw := HB1.out.trans (hb.mono HB1.out.size)
      clear ho hrg HO7 HDA HWK HCD HTL HQ HQG hcm hcp hv3 hv2 HB1 HJ1 hb
      go_wp2_with (first
        | (go_at_call 94; refine HC.out.mono ?_; rintro e w5 ⟨rfl, hb5⟩)
        | (refine wpList_store_any2 25 (vals (List.replicate 32 0)) (vals P) (w.heap.size + 1) rfl (.tmp 4) (.tmp 28) rfl rfl rfl rfl (HJ.out.below hb5 HJ.out.lt) size_dig (by simp [vals]) (by rw [vals_length]; exact HPL.out) (vals_one _) ?_; intro w7 hi7 hb7 hk7 hz7))
      have hr := hi7.cellsOf Tryd.underlying25 (by rw [vals_length, HPL.out]; exact size_dig)
      exact bodyPost_ret (v := .agg (vals P).toArray) (results_cell1 Tryd.results84 rfl hr) rfl ⟨rfl, hb7 _ _ (hbw.trans (hb5.mono hbw.size)) (Nat.le_succ _)⟩
end Go.Proofs.YtkdihbgjeanjdaaDoor
