/- The document's Of, Walked, keyed, WotsSecret and DigestAt. -/
import Derived.Test.YtfgjgaenhpelkaaDoorKeFns
import Derived.Test.YtfgjgaenhpelkaaDoorOwn3
import Derived.Test.YtfgjgaenhpelkaaDoorGRf
namespace Go.Proofs.YtfgjgaenhpelkaaDoor
open Go.RowKit
set_option linter.unusedVariables false
set_option linter.unusedSimpArgs false

set_option maxRecDepth 100000 in
set_option maxHeartbeats 4000000 in
theorem rof_any (f b off n cap : Nat) (L : List Int) (w : World) (hf : f < 256) (hn : n ≤ 1000) (hL : L.length = 32 * n) (hr : w.rangeAt b off (vals L)) (hb0 : b < w.heap.size) (hB : Sz.Byt L) :
    Calls Tryd.prog 12 #[.int .u8 (f : Int), .slice (some ⟨b, off, none⟩) n cap] w fun e w' => e = .returned (.agg (vals (Sh.sum ((f : Int) :: L))).toArray) ∧ Below w.heap.size w w' := by
  have HR := hide hr
  have HL := hide hL
  have HJ0 := hide (Is.new w (vals (List.replicate 32 0)) 23)
  have HB0 := hide (below_alloc w (.cells (vals (List.replicate 32 0)).toArray 23))
  have HO0 : Hid (Own ((w.alloc (.cells (vals (List.replicate 32 0)).toArray 23)).alloc (.cells #[.int .u8 (f : Int)] 5)) (w.heap.size + 1) (.slice (some ⟨w.heap.size + 1, 0, none⟩) 1 1) [(f : Int)]) := by
    have := Own.one (w.alloc (.cells (vals (List.replicate 32 0)).toArray 23)) (w.heap.size + 1) (f : Int) (by simp)
    rwa [show (w.alloc (.cells (vals (List.replicate 32 0)).toArray 23)).heap.size = w.heap.size + 1 by simp] at this
  clear hr hL
  go_enter Tryd.func12, Tryd.ntmps12
  go_wp2
  go_loopw [5, 6] (fun v i wr => ∃ (k : Nat) (F : List Int), k ≤ n ∧ i = .int .i64 k ∧ F = (f : Int) :: L.take (32 * k) ∧ Own wr (w.heap.size + 1) v F ∧ Is wr w.heap.size (vals (List.replicate 32 0)) 23 ∧ Below w.heap.size w wr) (fun _ i _ => n - (intOf i).toNat)
  case atStart => exact ⟨0, [(f : Int)], by omega, rfl, by rw [Nat.mul_zero, List.take_zero], HO0.out, HJ0.out.alloc _, HB0.out.alloc HB0.out.size _⟩
  case round =>
    obtain ⟨k, F, hk, rfl, hF, ho, hj, hb⟩ := hrel
    clear HO0 HJ0 HB0
    have hFl : F.length ≤ 40000 := by rw [hF, List.length_cons, List.length_take]; omega
    obtain ⟨oa, oc, rfl, hoc1, hoc2⟩ := ho.form
    clear hoc1 hoc2
    by_cases hkl : k < n
    · have hkL : 32 * k + 32 ≤ L.length := by rw [HL.out]; omega
      have hmid := sigAt_mid HR.out k hkL
      have hmid2 : wr.rangeAt b (off + k * 32) (vals (Ky.sigAt L k)) := fun j v hv => by rw [Nat.mul_comm k 32, hb.cell (p := ⟨b, off + 32 * k + j, none⟩) hb0]; exact hmid j v hv
      have hDl := Ky.sigAt_length L k hkL
      have hnx : F ++ Ky.sigAt L k = (f : Int) :: L.take (32 * (k + 1)) := by rw [take_row, hF, List.cons_append]
      generalize Ky.sigAt L k = D at *
      have HNX := hide hnx
      have HMID := hide hmid2
      have HDL := hide hDl
      have HO := hide ho
      have HJ := hide hj
      have HFL := hide hFl
      have hjl := hj.lt
      have hkn : (k : Int) < (n : Int) := by omega
      clear ho hj hF hnx hmid hmid2 hDl hFl hkL
      obtain ⟨wA, hwA⟩ : ∃ wA, wA = wr := ⟨_, rfl⟩
      subst hwA
      go_wp2_with (first
        | (refine wpList_load_mid2 23 (vals D) b (off + k * 32) rfl (.tmp 18) rfl rfl HMID.out Tryd.underlying23 size_dig (by rw [vals_length]; exact HDL.out) ?_)
        | (refine wpList_store_any2 23 (vals (List.replicate 32 0)) (vals D) wA.heap.size rfl (.tmp 7) (.tmp 19) rfl rfl rfl rfl (Is.new wA _ _) size_dig (by simp [vals]) (by rw [vals_length]; exact HDL.out) (vals_one _) ?_; intro w4 hi4 hb4 hk4 hz4; clear hz4; have hb4' := hb4 _ _ (below_alloc wA _) (Nat.le_refl _))
        | (at_builtin; refine wpList_append_bytes _ rfl (.tmp 20) (.tmp 21) rfl (w.heap.size + 1) (.slice oa F.length oc) F rfl (HO.out.below hb4') (.slice (some ⟨wA.heap.size, 0, none⟩) 32 32) D rfl (hi4.has HDL.out (by omega)) (by rw [HDL.out]; have := HFL.out; omega) (Nat.le_trans hjl hb4'.size) ?_; intro v6 w6 ho6 hg6))
      go_roundw
      case rel =>
        exact ⟨k + 1, F ++ D, by omega, by go_num, HNX.out, ho6, (HJ.out.below hb4' HJ.out.lt).grown hg6 (fun e => by have := (HO.out.block _ e).1; omega), (hb.trans (hb4'.mono hb.size)).grown hg6 (Nat.le_trans hb.size hb4'.size) (fun r hr => by have := (HO.out.block r hr).1; omega)⟩
      case measure => simp [intOf]; omega
    · have hkn : ¬ (k : Int) < (n : Int) := by omega
      have hFF : F = (f : Int) :: L := by rw [hF, List.take_of_length_le (by rw [HL.out]; omega)]
      have hFb : Sz.Byt F := by
        rw [hFF]
        intro x hx
        rcases List.mem_cons.1 hx with rfl | hx
        · omega
        · exact hB x hx
      have HHS := hide (rsum_any _ F wr ho.has hFb (by omega))
      have hDl : (Sh.sum F).length = 32 := Mc.sum_length F
      have hDF : Hid (Sh.sum F = Sh.sum ((f : Int) :: L)) := by show _ = _; rw [hFF]
      generalize Sh.sum F = D at *
      have HDL := hide hDl
      have HJ := hide hj
      clear hDl hj ho hF hFF hFl hkl hk hFb
      go_wp2_with (first
        | (go_at_call 23; refine HHS.out.mono ?_; rintro e w3 ⟨rfl, hb3⟩)
        | (refine wpList_store_any2 23 (vals (List.replicate 32 0)) (vals D) w.heap.size rfl (.tmp 4) (.tmp 24) rfl rfl rfl rfl (HJ.out.below hb3 HJ.out.lt) size_dig (by simp [vals]) (by rw [vals_length]; exact HDL.out) (vals_one _) ?_; intro w7 hi7 hb7 hk7 hz7))
      have hr := hi7.cellsOf Tryd.underlying23 (by rw [vals_length, HDL.out]; exact size_dig)
      exact bodyPost_ret (v := .agg (vals D).toArray) (results_cell1 Tryd.results12 rfl hr) rfl ⟨by rw [hDF.out], hb7 _ _ (hb.trans (hb3.mono hb.size)) (Nat.le_refl _)⟩

set_option maxRecDepth 100000 in
set_option maxHeartbeats 4000000 in
theorem rwalked_any (D : List Int) (z : Int) (w : World) (hD : D.length = 32) (hB : Sz.Byt D) (hz : z ≤ 100000) :
    Calls Tryd.prog 9 #[.agg (vals D).toArray, .int .i64 z] w fun e w' => e = .returned (.agg (vals (Ky.steps D z.toNat)).toArray) ∧ Below w.heap.size w w' := by
  have HS : Hid (∀ W K (d : List Int), d.length = 32 → Sz.Byt d → Is W K (vals d) 23 → Calls Tryd.prog 12 #[.int .u8 8, .slice (some ⟨K, 0, none⟩) 1 1] W fun e w' => e = .returned (.agg (vals (Ky.step d)).toArray) ∧ Below W.heap.size W w') := fun W K d hd hdb hi => by
    have := rof_any 8 K 0 1 1 d W (by omega) (by omega) (by omega) hi.range hi.lt hdb
    exact this
  have HI0 := hide ((Is.new w (vals D) 23).alloc (.cells (vals (List.replicate 32 0)).toArray 23))
  have HJ0 : Hid (Is ((w.alloc (.cells (vals D).toArray 23)).alloc (.cells (vals (List.replicate 32 0)).toArray 23)) (w.heap.size + 1) (vals (List.replicate 32 0)) 23) := Is.new' _ 23 (by simp)
  have HB0 := hide (below_alloc2 w (.cells (vals D).toArray 23) (.cells (vals (List.replicate 32 0)).toArray 23))
  have HDL : Hid (∀ n, (Ky.steps D n).length = 32) := Ky.steps_length D hD
  have HDB : Hid (∀ n, Sz.Byt (Ky.steps D n)) := Ky.steps_byt D hB
  have HSS : Hid (∀ n, Ky.step (Ky.steps D n) = Ky.steps D (n + 1)) := fun n => rfl
  clear hD hB
  go_enter Tryd.func9, Tryd.ntmps9
  go_wp2
  go_loopw [5] (fun i wr => ∃ k : Nat, k ≤ z.toNat ∧ i = .int .i64 k ∧ Is wr w.heap.size (vals (Ky.steps D k)) 23 ∧ Is wr (w.heap.size + 1) (vals (List.replicate 32 0)) 23 ∧ Below w.heap.size w wr) (fun i _ => z.toNat - (intOf i).toNat)
  case atStart => exact ⟨0, by omega, rfl, HI0.out, HJ0.out, HB0.out⟩
  case round =>
    obtain ⟨k, hk, rfl, hi, hj, hb⟩ := hrel
    clear HI0 HJ0 HB0
    by_cases hkl : k < z.toNat
    · have hkz : (k : Int) < z := by omega
      have hdl := HDL.out k
      have hdb := HDB.out k
      have hss := HSS.out k
      have hnl := HDL.out (k + 1)
      obtain ⟨N, hN⟩ : ∃ N, N = Ky.steps D (k + 1) := ⟨_, rfl⟩
      rw [← hN] at hss hnl
      have HN := hide hN
      clear hN
      generalize Ky.steps D k = d at *
      have HC : Hid (∀ W K, Is W K (vals d) 23 → Calls Tryd.prog 12 #[.int .u8 8, .slice (some ⟨K, 0, none⟩) 1 1] W fun e w' => e = .returned (.agg (vals N).toArray) ∧ Below W.heap.size W w') := fun W K h2 => by rw [← hss]; exact HS.out W K d hdl hdb h2
      have HDD := hide hdl
      have HI := hide hi
      have HJ := hide hj
      have HNL := hide hnl
      clear hi hj hnl hss hdl hdb HS HDL HDB HSS
      obtain ⟨wA, hwA⟩ : ∃ wA, wA = wr := ⟨_, rfl⟩
      subst hwA
      go_wp2_with (first
        | (refine wpList_load_arr2 23 (vals d) w.heap.size rfl (.tmp 2) rfl rfl HI.out Tryd.underlying23 size_dig (by rw [vals_length]; exact HDD.out) ?_)
        | (refine wpList_build_one 33 23 (vals d) rfl (.tmp 11) rfl rfl Tryd.underlying33 _ info_dig (by omega) (by omega) (by rw [vals_length]; exact HDD.out) ?_)
        | (go_at_call 12; refine (HC.out _ wA.heap.size (Is.new wA _ _)).mono ?_; rintro e w5 ⟨rfl, hb5⟩; have hI5 := (HI.out.alloc (.cells (vals d).toArray 23)).below hb5 (HI.out.alloc _).lt)
        | (refine wpList_store_any2 23 (vals d) (vals N) w.heap.size rfl (.tmp 2) (.tmp 13) rfl rfl rfl rfl hI5 size_dig (by rw [vals_length]; exact HDD.out) (by rw [vals_length]; exact HNL.out) (vals_one _) ?_; intro w7 hi7 hb7 hk7 hz7))
      go_roundw
      case rel =>
        have hj5 := (HJ.out.alloc (.cells (vals d).toArray 23)).below hb5 (HJ.out.alloc _).lt
        exact ⟨k + 1, by omega, by go_num, by rw [← HN.out]; exact hi7, hk7 _ _ _ (by omega) hj5, hb7 _ _ ((hb.alloc hb.size _).trans (hb5.mono (hb.alloc hb.size _).size)) (Nat.le_refl _)⟩
      case measure => simp [intOf]; omega
    · have hkz : ¬ (k : Int) < z := by omega
      have hke : k = z.toNat := by omega
      rw [hke] at hi
      have hnl := HDL.out z.toNat
      obtain ⟨N, hN⟩ : ∃ N, N = Ky.steps D z.toNat := ⟨_, rfl⟩
      rw [← hN] at hi hnl
      have HN := hide hN
      clear hN
      have HI := hide hi
      have HJ := hide hj
      have HNL := hide hnl
      clear hi hj hnl HS HDL HDB HSS hke
      go_wp2_with (first
        | (refine wpList_load_arr2 23 (vals N) w.heap.size rfl (.tmp 2) rfl rfl HI.out Tryd.underlying23 size_dig (by rw [vals_length]; exact HNL.out) ?_)
        | (refine wpList_store_any2 23 (vals (List.replicate 32 0)) (vals N) (w.heap.size + 1) rfl (.tmp 4) (.tmp 14) rfl rfl rfl rfl HJ.out size_dig (by simp [vals]) (by rw [vals_length]; exact HNL.out) (vals_one _) ?_; intro w7 hi7 hb7 hk7 hz7))
      have hr := hi7.cellsOf Tryd.underlying23 (by rw [vals_length, HNL.out]; exact size_dig)
      exact bodyPost_ret (v := .agg (vals N).toArray) (results_cell1 Tryd.results9 rfl hr) rfl ⟨by rw [HN.out], hb7 _ _ hb (Nat.le_succ _)⟩

set_option maxRecDepth 100000 in
set_option maxHeartbeats 4000000 in
theorem rkeyed_any (seed l : List Int) (v : Value) (w : World) (hs : seed.length = 32) (hsb : Sz.Byt seed) (hv : Has w v l) (hlb : Sz.Byt l) (hln : l.length ≤ 1000) :
    Calls Tryd.prog 22 #[.agg (vals seed).toArray, v] w fun e w' => e = .returned (.agg (vals (Mc.mac seed l)).toArray) ∧ Below w.heap.size w w' := by
  have HM : Hid (∀ W b, Below w.heap.size w W → Is W b (vals seed) 23 → Calls Tryd.prog 28 #[.slice (some ⟨b, 0, none⟩) 32 32, v] W fun e w' => e = .returned (.agg (vals (Mc.mac seed l)).toArray) ∧ Below W.heap.size W w') := fun W b hW hI =>
    rmac_any _ _ seed l W (hI.has hs (by omega)) (hv.below hW) hsb hlb (by omega) (by omega)
  have hDl : (Mc.mac seed l).length = 32 := Mc.mac_length _ _
  generalize Mc.mac seed l = D at *
  have HDL := hide hDl
  have HI0 := hide ((Is.new w (vals seed) 23).alloc (.cells (vals (List.replicate 32 0)).toArray 23))
  have HJ0 : Hid (Is ((w.alloc (.cells (vals seed).toArray 23)).alloc (.cells (vals (List.replicate 32 0)).toArray 23)) (w.heap.size + 1) (vals (List.replicate 32 0)) 23) := Is.new' _ 23 (by simp)
  have HB0 := hide (below_alloc2 w (.cells (vals seed).toArray 23) (.cells (vals (List.replicate 32 0)).toArray 23))
  clear hDl hs hsb hv
  go_enter Tryd.func22, Tryd.ntmps22
  go_wp2_with (first
    | (go_at_call 28; refine (HM.out _ _ HB0.out HI0.out).mono ?_; rintro e w5 ⟨rfl, hb5⟩; have hJ5 := HJ0.out.below hb5 HJ0.out.lt; have hb5' := HB0.out.trans (hb5.mono HB0.out.size))
    | (refine wpList_store_any2 23 (vals (List.replicate 32 0)) (vals D) (w.heap.size + 1) rfl (.tmp 4) (.tmp 7) rfl rfl rfl rfl hJ5 size_dig (by simp [vals]) (by rw [vals_length]; exact HDL.out) (vals_one _) ?_; intro w7 hi7 hb7 hk7 hz7))
  have hr := hi7.cellsOf Tryd.underlying23 (by rw [vals_length, HDL.out]; exact size_dig)
  exact bodyPost_ret (v := .agg (vals D).toArray) (results_cell1 Tryd.results22 rfl hr) rfl ⟨rfl, hb7 _ _ hb5' (Nat.le_succ _)⟩

set_option maxRecDepth 100000 in
set_option maxHeartbeats 4000000 in
theorem rsecret_any (seed : List Int) (k : Nat) (w : World) (hs : seed.length = 32) (hsb : Sz.Byt seed) (hk : k < 67) :
    Calls Tryd.prog 10 #[.agg (vals seed).toArray, .int .i64 (k : Nat)] w fun e w' => e = .returned (.agg (vals (Ky.secret seed k)).toArray) ∧ Below w.heap.size w w' := by
  have HM : Hid (∀ W K, Is W K [.int .u8 5, .int .u8 (k : Int)] 5 → Calls Tryd.prog 22 #[.agg (vals seed).toArray, .slice (some ⟨K, 0, none⟩) 2 2] W fun e w' => e = .returned (.agg (vals (Ky.secret seed k)).toArray) ∧ Below W.heap.size W w') := fun W K hK =>
    rkeyed_any seed [5, (k : Int)] _ W hs hsb (Is.has (L := [5, (k : Int)]) hK rfl (by omega)) (fun x hx => by simp at hx; omega) (by simp)
  have hDl : (Ky.secret seed k).length = 32 := Ky.secret_length _ _
  generalize Ky.secret seed k = D at *
  have HDL := hide hDl
  have HSL := hide hs
  have HI0 := hide ((Is.new w (vals seed) 23).alloc (.cells (vals (List.replicate 32 0)).toArray 23))
  have HJ0 : Hid (Is ((w.alloc (.cells (vals seed).toArray 23)).alloc (.cells (vals (List.replicate 32 0)).toArray 23)) (w.heap.size + 1) (vals (List.replicate 32 0)) 23) := Is.new' _ 23 (by simp)
  have HB0 := hide (below_alloc2 w (.cells (vals seed).toArray 23) (.cells (vals (List.replicate 32 0)).toArray 23))
  have hk0 : (0 : Int) ≤ (k : Int) := by omega
  have hk1 : (k : Int) < 256 := by omega
  clear hDl hs hsb
  go_enter Tryd.func10, Tryd.ntmps10
  go_wp2_with (first
    | (refine wpList_load_arr2 23 (vals seed) w.heap.size rfl (.tmp 2) rfl rfl HI0.out Tryd.underlying23 size_dig (by rw [vals_length]; exact HSL.out) ?_)
    | (go_at_call 22; refine (HM.out _ _ (Is.new' _ _ (by simp))).mono ?_; rintro e w5 ⟨rfl, hb5⟩; have hJ5 := (HJ0.out.alloc (.cells #[.int .u8 5, .int .u8 (k : Int)] 5)).below hb5 (HJ0.out.alloc _).lt; have hb5' := (HB0.out.alloc HB0.out.size (.cells #[.int .u8 5, .int .u8 (k : Int)] 5)).trans (hb5.mono (HB0.out.alloc HB0.out.size _).size))
    | (refine wpList_store_any2 23 (vals (List.replicate 32 0)) (vals D) (w.heap.size + 1) rfl (.tmp 4) (.tmp 9) rfl rfl rfl rfl hJ5 size_dig (by simp [vals]) (by rw [vals_length]; exact HDL.out) (vals_one _) ?_; intro w7 hi7 hb7 hk7 hz7))
  have hr := hi7.cellsOf Tryd.underlying23 (by rw [vals_length, HDL.out]; exact size_dig)
  exact bodyPost_ret (v := .agg (vals D).toArray) (results_cell1 Tryd.results10 rfl hr) rfl ⟨rfl, hb7 _ _ hb5' (Nat.le_succ _)⟩
end Go.Proofs.YtfgjgaenhpelkaaDoor
