/- The contracts of key.sumBehind and key.Step: the digest of a byte and of digests behind it; so many steps. -/
import Derived.Test.YtkdihbgjeanjdaaDoorKeDig
import Derived.Test.YtkdihbgjeanjdaaDoorBuild1
import Derived.Test.YtkdihbgjeanjdaaDoorGMa
import Derived.Test.YtkdihbgjeanjdaaDoorKg
namespace Go.Proofs.YtkdihbgjeanjdaaDoor
open Go.RowKit
set_option linter.unusedVariables false

/-- A part of a range. -/
theorem range_part {w : World} {b off : Nat} {L : List Int} (h : w.rangeAt b off (vals L)) (k n : Nat) (hk : k + n ≤ L.length) : w.rangeAt b (off + k) (vals ((L.drop k).take n)) := fun j v hv => by
  have hj : j < n := by
    have := (List.getElem?_eq_some_iff.1 hv).1
    simp [vals] at this
    omega
  have : (vals L)[k + j]? = some v := by
    rw [← hv]
    simp [vals, hj]
  rw [show off + k + j = off + (k + j) by omega]
  exact h _ _ this
theorem sigAt_mid {w : World} {b off : Nat} {L : List Int} (h : w.rangeAt b off (vals L)) (k : Nat) (hk : 32 * k + 32 ≤ L.length) : w.rangeAt b (off + 32 * k) (vals (Ky.sigAt L k)) := range_part h _ _ hk
theorem take_row (L : List Int) (k : Nat) : L.take (32 * (k + 1)) = L.take (32 * k) ++ Ky.sigAt L k := by
  unfold Ky.sigAt
  rw [show 32 * (k + 1) = 32 * k + 32 by omega, List.take_add]

theorem wpList_load_mid2 (t : TypeId) (c : List Value) (b off : Nat) {n m : Nat} {e : TypeId} {w : World} {ops : Array Oper} {rest : List Oper} {o : Oper} {a : Act} {Q : Exit → Act → World → Prop} (hgd : o.guard = none) (s : Operand) (ho : o.op = .load t s) (hs : a.eval s = .pointer (some ⟨b, off, none⟩))
    (hi : w.rangeAt b off c) (hu : Tryd.prog.underlying t = some (.array n e)) (hz : Sized t m) (hc : c.length = m)
    (h : wpList Tryd.prog ops Q rest (a.put o.dst (.agg c.toArray)) w) : wpList Tryd.prog ops Q (o :: rest) a w := wpList_load_mid hgd t s ho b off hs c _ hi hu rfl (by rw [hc]; exact hz) h

set_option maxRecDepth 100000 in
set_option maxHeartbeats 4000000 in
theorem ksum_any (f b off n cap : Nat) (L : List Int) (w : World) (hf : f < 256) (hn : n ≤ 1000) (hL : L.length = 32 * n) (hr : w.rangeAt b off (vals L)) (hb0 : b < w.heap.size) (hB : Sz.Byt L) (ht : Tab w) (hw : 1 < w.heap.size) :
    Calls Tryd.prog 36 #[.int .u8 (f : Int), .slice (some ⟨b, off, none⟩) n cap] w fun e w' => e = .returned (.agg (vals (Sh.sum ((f : Int) :: L))).toArray) ∧ Below w.heap.size w w' := by
  have HR := hide hr
  have HT := hide ht
  have HL := hide hL
  have hJ0 := Is.new w (vals (List.replicate 32 0)) 25
  have HJ0 := hide hJ0
  have HB0 := hide (below_alloc w (.cells (vals (List.replicate 32 0)).toArray 25))
  have HW0 : Hid (∀ w1 K, Below w.heap.size w w1 → Hash w1 (w.heap.size + 1) [] → w.heap.size + 1 < K → Is w1 K [.int .u8 (f : Int)] 5 → Calls Tryd.prog 30 #[.pointer (some ⟨w.heap.size + 1, 0, none⟩), .slice (some ⟨K, 0, none⟩) 1 1] w1 fun e w' => e = .returned (.tuple #[]) ∧ Hash w' (w.heap.size + 1) [(f : Int)] ∧ Only (w.heap.size + 1) w1.heap.size w1 w') := fun w1 K hb hh hK hi => by
    have h1 : Has w1 (.slice (some ⟨K, 0, none⟩) 1 1) [(f : Int)] := Is.has (L := [(f : Int)]) hi rfl (by omega)
    have := hwrite_any (w.heap.size + 1) _ [] [(f : Int)] w1 hh (ht.below hb hw) (by omega) h1 (fun b off n c e hn => by injection e with e1; injection e1 with e1; injection e1 with e1; omega) (fun x hx => by simp at hx; omega) (by simp)
    simpa using this
  clear hr ht hL hJ0
  go_enter Tryd.func36, Tryd.ntmps36
  go_wp2_with (first
    | (go_at_call 29; refine (new_at _ (w.heap.size + 1) (by simp)).mono ?_; rintro e w1 ⟨rfl, hh1, hb1⟩; have hb1' := HB0.out.trans (hb1.mono (by simp)); have hJ1 := HJ0.out.below hb1 (by simp))
    | (go_at_call 30; refine (HW0.out _ w1.heap.size (hb1'.alloc hb1'.size _) (hh1.below (below_alloc w1 _) hh1.lt) hh1.lt (Is.new w1 _ _)).mono ?_; rintro e w2 ⟨rfl, hh2, ho2⟩))
  have hz1 := hh1.lt
  have hJ2 := (hJ1.alloc (.cells #[.int .u8 (f : Int)] 5)).only ho2 (hJ1.alloc _).lt (by omega)
  have hb2 := (hb1'.alloc hb1'.size (.cells #[.int .u8 (f : Int)] 5)).trans (ho2.below (hb1'.alloc hb1'.size _).size (by omega))
  have hgw : w.heap.size ≤ w.heap.size + 1 := by omega
  have hg0 : 1 < w.heap.size + 1 := by omega
  have hjg : w.heap.size ≠ w.heap.size + 1 := by omega
  have HH2 := hide hh2
  have HB2 := hide hb2
  have HJ2 := hide hJ2
  clear hh2 hb2 hJ2 hb1' hJ1 ho2 hb1 hh1 HJ0 HB0 HW0
  go_loopw [15] (fun i wr => ∃ (k : Nat) (F : List Int), k ≤ n ∧ i = .int .i64 k ∧ F = (f : Int) :: L.take (32 * k) ∧ Hash wr (w.heap.size + 1) F ∧ Is wr w.heap.size (vals (List.replicate 32 0)) 25 ∧ Below w.heap.size w wr) (fun i _ => n - (intOf i).toNat)
  case atStart => exact ⟨0, [(f : Int)], by omega, rfl, by simp, HH2.out, HJ2.out, HB2.out⟩
  case round =>
    obtain ⟨k, F, hk, rfl, hF, hh, hj, hb⟩ := hrel
    clear HH2 HB2 HJ2
    have hFl : F.length ≤ 40000 := by rw [hF, List.length_cons, List.length_take]; omega
    by_cases hkl : k < n
    · have hkL : 32 * k + 32 ≤ L.length := by rw [HL.out]; omega
      have hmid := sigAt_mid HR.out k hkL
      have hmid2 : wr.rangeAt b (off + k * 32) (vals (Ky.sigAt L k)) := fun j v hv => by rw [Nat.mul_comm k 32, hb.cell (p := ⟨b, off + 32 * k + j, none⟩) hb0]; exact hmid j v hv
      have hDl := Ky.sigAt_length L k hkL
      have hDb := Ky.sigAt_byt L k hB
      have hnx : F ++ Ky.sigAt L k = (f : Int) :: L.take (32 * (k + 1)) := by rw [take_row, hF, List.cons_append]
      generalize Ky.sigAt L k = D at *
      have HWR : Hid (∀ W b', Below wr.heap.size wr W → Is W b' (vals D) 25 → wr.heap.size ≤ b' → Calls Tryd.prog 30 #[.pointer (some ⟨w.heap.size + 1, 0, none⟩), .slice (some ⟨b', 0, none⟩) 32 32] W fun e w' => e = .returned (.tuple #[]) ∧ Hash w' (w.heap.size + 1) (F ++ D) ∧ Only (w.heap.size + 1) W.heap.size W w') := fun W b' hW hI hbb =>
        hwrite_any (w.heap.size + 1) _ F D W (hh.below hW hh.lt) (HT.out.below (hb.trans (hW.mono hb.size)) hw) hg0 (hI.has hDl (by omega)) (fun b2 off2 n2 c2 e hn => by injection e with e1; injection e1 with e1; injection e1 with e1; have := hh.lt; omega) hDb (by omega)
      have HNX := hide hnx
      have HMID := hide hmid2
      have HDL := hide hDl
      have HHL := hh.lt
      have hkn : (k : Int) < (n : Int) := by omega
      clear hh hF hnx hmid hmid2 hDl hDb hFl hkL
      obtain ⟨wA, hwA⟩ : ∃ wA, wA = wr := ⟨_, rfl⟩
      subst hwA
      go_wp2_with (first
        | (refine wpList_load_mid2 25 (vals D) b (off + k * 32) rfl (.tmp 17) rfl rfl HMID.out Tryd.underlying25 size_dig (by rw [vals_length]; exact HDL.out) ?_)
        | (refine wpList_store_any2 25 (vals (List.replicate 32 0)) (vals D) wA.heap.size rfl (.tmp 7) (.tmp 18) rfl rfl rfl rfl (Is.new wA _ _) size_dig (by simp [vals]) (by rw [vals_length]; exact HDL.out) (vals_one _) ?_; intro w4 hi4 hb4 hk4 hz4; have hb4' := hb4 _ _ (below_alloc wA _) (Nat.le_refl _))
        | (go_at_call 30; refine (HWR.out _ wA.heap.size hb4' hi4 (Nat.le_refl _)).mono ?_; rintro e w5 ⟨rfl, hh5, ho5⟩))
      go_roundw
      case rel =>
        have hj4 := hk4 _ _ _ (by have := hj.lt; omega) (hj.alloc _)
        exact ⟨k + 1, F ++ D, by omega, by go_num, HNX.out, hh5, hj4.only ho5 hj4.lt hjg, (hb.trans (hb4'.mono hb.size)).trans (ho5.below (Nat.le_trans hb.size hb4'.size) hgw)⟩
      case measure => simp [intOf]; omega
    · have hkn : ¬ (k : Int) < (n : Int) := by omega
      have hFF : F = (f : Int) :: L := by rw [hF, List.take_of_length_le (by rw [HL.out]; omega)]
      have HHS := hide (hsum_any (w.heap.size + 1) F wr hh (HT.out.below hb hw) hg0 (by omega))
      have hDl : (Sh.sum F).length = 32 := Mc.sum_length F
      have hDF : Hid (Sh.sum F = Sh.sum ((f : Int) :: L)) := by show _ = _; rw [hFF]
      generalize Sh.sum F = D at *
      have HDL := hide hDl
      have HJ := hide hj
      clear hDl hj hh hF hFF hFl hkl hk
      go_wp2_with (first
        | (go_at_call 31; refine HHS.out.mono ?_; rintro e w3 ⟨rfl, hb3⟩)
        | (refine wpList_store_any2 25 (vals (List.replicate 32 0)) (vals D) w.heap.size rfl (.tmp 4) (.tmp 24) rfl rfl rfl rfl (HJ.out.below hb3 HJ.out.lt) size_dig (by simp [vals]) (by rw [vals_length]; exact HDL.out) (vals_one _) ?_; intro w7 hi7 hb7 hk7 hz7))
      have hr := hi7.cellsOf Tryd.underlying25 (by rw [vals_length, HDL.out]; exact size_dig)
      exact bodyPost_ret (v := .agg (vals D).toArray) (results_cell1 Tryd.results36 rfl hr) rfl ⟨by rw [hDF.out], hb7 _ _ (hb.trans (hb3.mono hb.size)) (Nat.le_refl _)⟩

set_option maxRecDepth 100000 in
set_option maxHeartbeats 4000000 in
/-- So many steps: none, if the number is below 1. -/
theorem step_any (D : List Int) (z : Int) (w : World) (hD : D.length = 32) (hB : Sz.Byt D) (hz : z ≤ 100000) (ht : Tab w) (hw : 1 < w.heap.size) :
    Calls Tryd.prog 34 #[.agg (vals D).toArray, .int .i64 z] w fun e w' => e = .returned (.agg (vals (Ky.steps D z.toNat)).toArray) ∧ Below w.heap.size w w' := by
  have HS : Hid (∀ W K (d : List Int), Below w.heap.size w W → d.length = 32 → Sz.Byt d → Is W K (vals d) 25 → Calls Tryd.prog 36 #[.int .u8 8, .slice (some ⟨K, 0, none⟩) 1 1] W fun e w' => e = .returned (.agg (vals (Ky.step d)).toArray) ∧ Below W.heap.size W w') := fun W K d hb hd hdb hi => by
    have := ksum_any 8 K 0 1 1 d W (by omega) (by omega) (by omega) hi.range hi.lt hdb (ht.below hb hw) (Nat.lt_of_lt_of_le hw hb.size)
    exact this
  have hI0 : ∀ o, Is ((w.alloc (.cells (vals D).toArray 25)).alloc o) w.heap.size (vals D) 25 := fun o => (Is.new w (vals D) 25).alloc o
  have HI0 := hide (hI0 (.cells (vals (List.replicate 32 0)).toArray 25))
  have HJ0 : Hid (Is ((w.alloc (.cells (vals D).toArray 25)).alloc (.cells (vals (List.replicate 32 0)).toArray 25)) (w.heap.size + 1) (vals (List.replicate 32 0)) 25) := Is.new' _ 25 (by simp)
  have HB0 := hide (below_alloc2 w (.cells (vals D).toArray 25) (.cells (vals (List.replicate 32 0)).toArray 25))
  have HDL : Hid (∀ n, (Ky.steps D n).length = 32) := Ky.steps_length D hD
  have HDB : Hid (∀ n, Sz.Byt (Ky.steps D n)) := Ky.steps_byt D hB
  have HSS : Hid (∀ n, Ky.step (Ky.steps D n) = Ky.steps D (n + 1)) := fun n => rfl
  clear hI0 hD hB ht
  go_enter Tryd.func34, Tryd.ntmps34
  go_wp2
  go_loopw [6] (fun i wr => ∃ k : Nat, k ≤ z.toNat ∧ i = .int .i64 k ∧ Is wr w.heap.size (vals (Ky.steps D k)) 25 ∧ Is wr (w.heap.size + 1) (vals (List.replicate 32 0)) 25 ∧ Below w.heap.size w wr) (fun i _ => z.toNat - (intOf i).toNat)
  case atStart => exact ⟨0, by omega, rfl, HI0.out, HJ0.out, HB0.out⟩
  case round =>
    obtain ⟨k, hk, rfl, hi, hj, hb⟩ := hrel
    clear HI0 HJ0 HB0
    by_cases hkl : k < z.toNat
    · have hkz : (k : Int) < z := by omega
      have hdl := HDL.out k
      have hdb := HDB.out k
      have hss := HSS.out k
      have hnl := HDL.out (k + 1)
      obtain ⟨N, hN⟩ : ∃ N, N = Ky.steps D (k + 1) := ⟨_, rfl⟩
      rw [← hN] at hss hnl
      have HN := hide hN
      clear hN
      generalize Ky.steps D k = d at *
      have HC : Hid (∀ W K, Below w.heap.size w W → Is W K (vals d) 25 → Calls Tryd.prog 36 #[.int .u8 8, .slice (some ⟨K, 0, none⟩) 1 1] W fun e w' => e = .returned (.agg (vals N).toArray) ∧ Below W.heap.size W w') := fun W K h1 h2 => by rw [← hss]; exact HS.out W K d h1 hdl hdb h2
      have HDD := hide hdl
      have HI := hide hi
      have HJ := hide hj
      have HNL := hide hnl
      clear hi hj hnl hss hdl hdb HS HDL HDB HSS
      obtain ⟨wA, hwA⟩ : ∃ wA, wA = wr := ⟨_, rfl⟩
      subst hwA
      go_wp2_with (first
        | (refine wpList_load_arr2 25 (vals d) w.heap.size rfl (.tmp 2) rfl rfl HI.out Tryd.underlying25 size_dig (by rw [vals_length]; exact HDD.out) ?_)
        | (refine wpList_build_one 46 25 (vals d) rfl (.tmp 8) rfl rfl Tryd.underlying46 _ info_dig (by omega) (by omega) (by rw [vals_length]; exact HDD.out) ?_)
        | (go_at_call 36; refine (HC.out _ wA.heap.size (hb.alloc hb.size _) (Is.new wA _ _)).mono ?_; rintro e w5 ⟨rfl, hb5⟩; have hI5 := (HI.out.alloc (.cells (vals d).toArray 25)).below hb5 (HI.out.alloc _).lt)
        | (refine wpList_store_any2 25 (vals d) (vals N) w.heap.size rfl (.tmp 2) (.tmp 10) rfl rfl rfl rfl hI5 size_dig (by rw [vals_length]; exact HDD.out) (by rw [vals_length]; exact HNL.out) (vals_one _) ?_; intro w7 hi7 hb7 hk7 hz7))
      go_roundw
      case rel =>
        have hj5 := (HJ.out.alloc (.cells (vals d).toArray 25)).below hb5 (HJ.out.alloc _).lt
        exact ⟨k + 1, by omega, by go_num, by rw [← HN.out]; exact hi7, hk7 _ _ _ (by omega) hj5, hb7 _ _ ((hb.alloc hb.size _).trans (hb5.mono (hb.alloc hb.size _).size)) (Nat.le_refl _)⟩
      case measure => simp [intOf]; omega
    · have hkz : ¬ (k : Int) < z := by omega
      have hke : k = z.toNat := by omega
      rw [hke] at hi
      have hnl := HDL.out z.toNat
      obtain ⟨N, hN⟩ : ∃ N, N = Ky.steps D z.toNat := ⟨_, rfl⟩
      rw [← hN] at hi hnl
      have HN := hide hN
      clear hN
      have HI := hide hi
      have HJ := hide hj
      have HNL := hide hnl
      clear hi hj hnl HS HDL HDB HSS hke
      go_wp2_with (first
        | (refine wpList_load_arr2 25 (vals N) w.heap.size rfl (.tmp 2) rfl rfl HI.out Tryd.underlying25 size_dig (by rw [vals_length]; exact HNL.out) ?_)
        | (refine wpList_store_any2 25 (vals (List.replicate 32 0)) (vals N) (w.heap.size + 1) rfl (.tmp 4) (.tmp 12) rfl rfl rfl rfl HJ.out size_dig (by simp [vals]) (by rw [vals_length]; exact HNL.out) (vals_one _) ?_; intro w7 hi7 hb7 hk7 hz7))
      have hr := hi7.cellsOf Tryd.underlying25 (by rw [vals_length, HNL.out]; exact size_dig)
      exact bodyPost_ret (v := .agg (vals N).toArray) (results_cell1 Tryd.results34 rfl hr) rfl ⟨by rw [HN.out], hb7 _ _ hb (Nat.le_succ _)⟩
end Go.Proofs.YtkdihbgjeanjdaaDoor
