/- The contract of sha.SumBehind: the digest of a byte and of parts behind it. -/
import Derived.Test.YtphdnbflogobfaaDoorTeM
import Derived.Test.YtphdnbflogobfaaDoorOwnNew
namespace Go.Proofs.YtphdnbflogobfaaDoor
open Go.RowKit
set_option linter.unusedVariables false
set_option linter.unusedSimpArgs false

set_option maxRecDepth 100000 in
set_option maxHeartbeats 4000000 in
theorem shb_any (f : Nat) (A : Option Addr) (cap : Nat) (ls : List (List Int)) (w : World) (hf : f < 256) (hr : HasRows w A ls.length ls) (hB : ∀ l ∈ ls, Sz.Byt l) (hn : ls.length ≤ 1000) (hlen : ls.flatten.length < 500000000000000) (ht : Tab w) (hw : 1 < w.heap.size) :
    Calls Tryd.prog 29 #[.int .u8 (f : Int), .slice A ls.length cap] w fun e w' => e = .returned (.agg (vals (Sh.sum ((f : Int) :: ls.flatten))).toArray) ∧ Below w.heap.size w w' := by
  have HR := hide hr
  have HT := hide ht
  have HJ0 := hide (Is.new w (vals (List.replicate 32 0)) 26)
  have HB0 := hide (below_alloc w (.cells (vals (List.replicate 32 0)).toArray 26))
  have HW0 : Hid (∀ w1 K, Below w.heap.size w w1 → Hash w1 (w.heap.size + 1) [] → w.heap.size + 1 < K → Is w1 K [.int .u8 (f : Int)] 5 → Calls Tryd.prog 37 #[.pointer (some ⟨w.heap.size + 1, 0, none⟩), .slice (some ⟨K, 0, none⟩) 1 1] w1 fun e w' => e = .returned (.tuple #[]) ∧ Hash w' (w.heap.size + 1) [(f : Int)] ∧ Only (w.heap.size + 1) w1.heap.size w1 w') := fun w1 K hb hh hK hi => by
    have h1 : Has w1 (.slice (some ⟨K, 0, none⟩) 1 1) [(f : Int)] := Is.has (L := [(f : Int)]) hi rfl (by omega)
    have := hwrite_any (w.heap.size + 1) _ [] [(f : Int)] w1 hh (ht.below hb hw) (by omega) h1 (fun b off n c e hn => by injection e with e1; injection e1 with e1; injection e1 with e1; omega) (fun x hx => by simp at hx; omega) (by simp)
    simpa using this
  clear hr ht
  obtain ⟨n, hnn⟩ : ∃ n, n = ls.length := ⟨_, rfl⟩
  rw [← hnn] at HR ⊢
  have HNN := hide hnn
  have hn1 : n ≤ 1000 := by omega
  clear hnn hn
  go_enter Tryd.func29, Tryd.ntmps29
  go_wp2_with (first
    | (go_at_call 36; refine (new_at _ (w.heap.size + 1) (by simp)).mono ?_; rintro e w1 ⟨rfl, hh1, hb1⟩; have hb1' := HB0.out.trans (hb1.mono (by simp)); have hJ1 := HJ0.out.below hb1 (by simp))
    | (go_at_call 37; refine (HW0.out _ w1.heap.size (hb1'.alloc hb1'.size _) (hh1.below (below_alloc w1 _) hh1.lt) hh1.lt (Is.new w1 _ _)).mono ?_; rintro e w2 ⟨rfl, hh2, ho2⟩))
  have hz1 := hh1.lt
  have hJ2 := (hJ1.alloc (.cells #[.int .u8 (f : Int)] 5)).only ho2 (hJ1.alloc _).lt (by omega)
  have hb2 := (hb1'.alloc hb1'.size (.cells #[.int .u8 (f : Int)] 5)).trans (ho2.below (hb1'.alloc hb1'.size _).size (by omega))
  have hgw : w.heap.size ≤ w.heap.size + 1 := by omega
  have hg0 : 1 < w.heap.size + 1 := by omega
  have hjg : w.heap.size ≠ w.heap.size + 1 := by omega
  have HH2 := hide hh2
  have HB2 := hide hb2
  have HJ2 := hide hJ2
  clear hh2 hb2 hJ2 hb1' hJ1 ho2 hb1 hh1 HJ0 HB0 HW0
  go_loopw [15] (fun i wr => ∃ (k : Nat) (F : List Int), k ≤ n ∧ i = .int .i64 k ∧ F = (f : Int) :: (ls.take k).flatten ∧ Hash wr (w.heap.size + 1) F ∧ Is wr w.heap.size (vals (List.replicate 32 0)) 26 ∧ Below w.heap.size w wr) (fun i _ => n - (intOf i).toNat)
  case atStart => exact ⟨0, [(f : Int)], by omega, rfl, by simp, HH2.out, HJ2.out, HB2.out⟩
  case round =>
    obtain ⟨k, F, hk, rfl, hF, hh, hj, hb⟩ := hrel
    clear HH2 HB2 HJ2
    have hFl : F.length ≤ 500000000000064 := by rw [hF, List.length_cons]; have := flat_le ls k; omega
    by_cases hkl : k < n
    · obtain ⟨b, off, a, m, cp, rfl, hcell, hhas⟩ := HR.out.2 k hkl
      have hcb' : b < w.heap.size := World.block_lt_of_cell? w ⟨b, off + k, none⟩ hcell
      have hc1 : wr.cell? ⟨b, off + k, none⟩ = some (.slice a m cp) := by rw [hb.cell (p := ⟨b, off + k, none⟩) hcb']; exact hcell
      have hne : ∀ b' off' n' c', (Value.slice a m cp) = .slice (some ⟨b', off', none⟩) n' c' → 0 < n' → b' ≠ w.heap.size + 1 := fun b' off' n' c' e hn' => by have := hhas.block_lt e hn'; omega
      have hkl' : k < ls.length := by rw [← HNN.out]; exact hkl
      have hnx : F ++ ls.getD k [] = (f : Int) :: (ls.take (k + 1)).flatten := by rw [take_flat ls k hkl', hF, List.cons_append]
      have hlb : Sz.Byt (ls.getD k []) := hB _ (by simp [List.getD, List.getElem?_eq_getElem hkl'])
      have hLl : (ls.getD k []).length < 500000000000000 := by
        have h1 := flat_le ls (k + 1)
        rw [take_flat ls k hkl', List.length_append] at h1
        omega
      generalize ls.getD k [] = L at *
      have HWR := hide (hwrite_any (w.heap.size + 1) _ F L wr hh (HT.out.below hb hw) hg0 (hhas.below hb) hne hlb (by omega))
      have HNX := hide hnx
      clear hh hF hnx hhas hLl hFl hlb hne hcell hkl'
      go_wp2_with (go_at_call 37; refine HWR.out.mono ?_; rintro e w3 ⟨rfl, hh3, ho3⟩)
      go_roundw
      case rel => exact ⟨k + 1, F ++ L, by omega, by go_num, HNX.out, hh3, hj.only ho3 hj.lt hjg, hb.trans (ho3.below hb.size hgw)⟩
      case measure => simp [intOf]; omega
    · have hkn : ¬ (k : Int) < (n : Int) := by omega
      have hFF : F = (f : Int) :: ls.flatten := by rw [hF, List.take_of_length_le (by rw [← HNN.out]; omega)]
      have HHS := hide (hsum_any (w.heap.size + 1) F wr hh (HT.out.below hb hw) hg0 (by omega))
      have hDl : (Sh.sum F).length = 32 := Mc.sum_length F
      have hDF : Hid (Sh.sum F = Sh.sum ((f : Int) :: ls.flatten)) := by show _ = _; rw [hFF]
      generalize Sh.sum F = D at *
      have HDL := hide hDl
      have HJ := hide hj
      clear hDl hj hh hF hFF hFl hkl hk
      go_wp2_with (first
        | (go_at_call 38; refine HHS.out.mono ?_; rintro e w3 ⟨rfl, hb3⟩)
        | (refine te_store (vals (List.replicate 32 0)) D w.heap.size rfl (.tmp 4) (.tmp 24) rfl rfl rfl rfl (HJ.out.below hb3 HJ.out.lt) (by simp [vals]) HDL.out ?_; intro w7 hi7 hb7 hz7))
      have hr := hi7.cellsOf Tryd.underlying26 (by rw [vals_length, HDL.out]; exact size_dig)
      exact bodyPost_ret (v := .agg (vals D).toArray) (results_cell1 Tryd.results29 rfl hr) rfl ⟨by rw [hDF.out], (hb.trans (hb3.mono hb.size)).trans (hb7.under (Nat.le_trans hb.size hb3.size) (Nat.le_refl _))⟩
end Go.Proofs.YtphdnbflogobfaaDoor
