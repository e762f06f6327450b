/- The document's Of. -/
import Derived.Test.YtphdnbflogobfaaDoorZKe
import Derived.Test.YtphdnbflogobfaaDoorOwn3
import Derived.Test.YtphdnbflogobfaaDoorGRf
namespace Go.Proofs.YtphdnbflogobfaaDoor
open Go.RowKit
set_option linter.unusedVariables false
set_option linter.unusedSimpArgs false

set_option maxRecDepth 100000 in
set_option maxHeartbeats 4000000 in
theorem rof_any (f b off n cap : Nat) (L : List Int) (w : World) (hf : f < 256) (hn : n ≤ 1000) (hL : L.length = 32 * n) (hr : w.rangeAt b off (vals L)) (hb0 : b < w.heap.size) (hB : Sz.Byt L) :
    Calls Tryd.prog 32 #[.int .u8 (f : Int), .slice (some ⟨b, off, none⟩) n cap] w fun e w' => e = .returned (.agg (vals (Sh.sum ((f : Int) :: L))).toArray) ∧ Below w.heap.size w w' := by
  have HR := hide hr
  have HL := hide hL
  have HJ0 := hide (Is.new w (vals (List.replicate 32 0)) 26)
  have HB0 := hide (below_alloc w (.cells (vals (List.replicate 32 0)).toArray 26))
  have HO0 : Hid (Own ((w.alloc (.cells (vals (List.replicate 32 0)).toArray 26)).alloc (.cells #[.int .u8 (f : Int)] 5)) (w.heap.size + 1) (.slice (some ⟨w.heap.size + 1, 0, none⟩) 1 1) [(f : Int)]) := by
    have := Own.one (w.alloc (.cells (vals (List.replicate 32 0)).toArray 26)) (w.heap.size + 1) (f : Int) (by simp)
    rwa [show (w.alloc (.cells (vals (List.replicate 32 0)).toArray 26)).heap.size = w.heap.size + 1 by simp] at this
  clear hr hL
  go_enter Tryd.func32, Tryd.ntmps32
  go_wp2
  go_loopw [5, 6] (fun v i wr => ∃ (k : Nat) (F : List Int), k ≤ n ∧ i = .int .i64 k ∧ F = (f : Int) :: L.take (32 * k) ∧ Own wr (w.heap.size + 1) v F ∧ Is wr w.heap.size (vals (List.replicate 32 0)) 26 ∧ Below w.heap.size w wr) (fun _ i _ => n - (intOf i).toNat)
  case atStart => exact ⟨0, [(f : Int)], by omega, rfl, by rw [Nat.mul_zero, List.take_zero], HO0.out, HJ0.out.alloc _, HB0.out.alloc HB0.out.size _⟩
  case round =>
    obtain ⟨k, F, hk, rfl, hF, ho, hj, hb⟩ := hrel
    clear HO0 HJ0 HB0
    have hFl : F.length ≤ 40000 := by rw [hF, List.length_cons, List.length_take]; omega
    obtain ⟨oa, oc, rfl, hoc1, hoc2⟩ := ho.form
    clear hoc1 hoc2
    by_cases hkl : k < n
    · have hkL : 32 * k + 32 ≤ L.length := by rw [HL.out]; omega
      have hmid := sigAt_mid HR.out k hkL
      have hmid2 : wr.rangeAt b (off + k * 32) (vals (Ky.sigAt L k)) := fun j v hv => by rw [Nat.mul_comm k 32, hb.cell (p := ⟨b, off + 32 * k + j, none⟩) hb0]; exact hmid j v hv
      have hDl := Ky.sigAt_length L k hkL
      have hnx : F ++ Ky.sigAt L k = (f : Int) :: L.take (32 * (k + 1)) := by rw [take_row, hF, List.cons_append]
      generalize Ky.sigAt L k = D at *
      have HNX := hide hnx
      have HMID := hide hmid2
      have HDL := hide hDl
      have HO := hide ho
      have HJ := hide hj
      have HFL := hide hFl
      have hjl := hj.lt
      have hkn : (k : Int) < (n : Int) := by omega
      clear ho hj hF hnx hmid hmid2 hDl hFl hkL
      obtain ⟨wA, hwA⟩ : ∃ wA, wA = wr := ⟨_, rfl⟩
      subst hwA
      go_wp2_with (first
        | (refine wpList_load_mid2 26 (vals D) b (off + k * 32) rfl (.tmp 18) rfl rfl HMID.out Tryd.underlying26 size_dig (by rw [vals_length]; exact HDL.out) ?_)
        | (refine wpList_store_any2 26 (vals (List.replicate 32 0)) (vals D) wA.heap.size rfl (.tmp 7) (.tmp 19) rfl rfl rfl rfl (Is.new wA _ _) size_dig (by simp [vals]) (by rw [vals_length]; exact HDL.out) (vals_one _) ?_; intro w4 hi4 hb4 hk4 hz4; clear hz4; have hb4' := hb4 _ _ (below_alloc wA _) (Nat.le_refl _))
        | (at_builtin; refine wpList_append_bytes _ rfl (.tmp 20) (.tmp 21) rfl (w.heap.size + 1) (.slice oa F.length oc) F rfl (HO.out.below hb4') (.slice (some ⟨wA.heap.size, 0, none⟩) 32 32) D rfl (hi4.has HDL.out (by omega)) (by rw [HDL.out]; have := HFL.out; omega) (Nat.le_trans hjl hb4'.size) ?_; intro v6 w6 ho6 hg6))
      go_roundw
      case rel =>
        exact ⟨k + 1, F ++ D, by omega, by go_num, HNX.out, ho6, (HJ.out.below hb4' HJ.out.lt).grown hg6 (fun e => by have := (HO.out.block _ e).1; omega), (hb.trans (hb4'.mono hb.size)).grown hg6 (Nat.le_trans hb.size hb4'.size) (fun r hr => by have := (HO.out.block r hr).1; omega)⟩
      case measure => simp [intOf]; omega
    · have hkn : ¬ (k : Int) < (n : Int) := by omega
      have hFF : F = (f : Int) :: L := by rw [hF, List.take_of_length_le (by rw [HL.out]; omega)]
      have hFb : Sz.Byt F := by
        rw [hFF]
        intro x hx
        rcases List.mem_cons.1 hx with rfl | hx
        · omega
        · exact hB x hx
      have HHS := hide (rsum_any _ F wr ho.has hFb (by omega))
      have hDl : (Sh.sum F).length = 32 := Mc.sum_length F
      have hDF : Hid (Sh.sum F = Sh.sum ((f : Int) :: L)) := by show _ = _; rw [hFF]
      generalize Sh.sum F = D at *
      have HDL := hide hDl
      have HJ := hide hj
      clear hDl hj ho hF hFF hFl hkl hk hFb
      go_wp2_with (first
        | (go_at_call 24; refine HHS.out.mono ?_; rintro e w3 ⟨rfl, hb3⟩)
        | (refine wpList_store_any2 26 (vals (List.replicate 32 0)) (vals D) w.heap.size rfl (.tmp 4) (.tmp 24) rfl rfl rfl rfl (HJ.out.below hb3 HJ.out.lt) size_dig (by simp [vals]) (by rw [vals_length]; exact HDL.out) (vals_one _) ?_; intro w7 hi7 hb7 hk7 hz7))
      have hr := hi7.cellsOf Tryd.underlying26 (by rw [vals_length, HDL.out]; exact size_dig)
      exact bodyPost_ret (v := .agg (vals D).toArray) (results_cell1 Tryd.results32 rfl hr) rfl ⟨by rw [hDF.out], hb7 _ _ (hb.trans (hb3.mono hb.size)) (Nat.le_refl _)⟩
end Go.Proofs.YtphdnbflogobfaaDoor
