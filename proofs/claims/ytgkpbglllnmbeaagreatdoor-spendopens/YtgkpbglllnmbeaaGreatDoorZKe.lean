/- The texts KeDig, KeSum, KeEnds, KeFns, KeSig, KeRec, one behind the other. -/
import Derived.Test.YtgkpbglllnmbeaaGreatDoorShEq
import Derived.Test.YtgkpbglllnmbeaaGreatDoorZMt
import Derived.WalkSmall
import Derived.BigQuiet
import Derived.Deep.QuietTactic
import Derived.Test.YtgkpbglllnmbeaaGreatDoorBuild1
import Derived.Test.YtgkpbglllnmbeaaGreatDoorGMa
import Derived.Test.YtgkpbglllnmbeaaGreatDoorZKg
import Derived.Deep.RegionHeld2
import Derived.Test.YtgkpbglllnmbeaaGreatDoorOwnNew
/- The contracts of digitsOf and Digits: the numbers that a digest is signed by. -/
namespace Go.Proofs.YtgkpbglllnmbeaaGreatDoor
open Go.RowKit
set_option linter.unusedVariables false

/-- The laws on whole blocks, the operation's form asked first. -/
theorem wpList_load_arr2 (t : TypeId) (c : List Value) (b : Nat) {n m : Nat} {e : TypeId} {w : World} {ops : Array Oper} {rest : List Oper} {o : Oper} {a : Act} {Q : Exit → Act → World → Prop} (hgd : o.guard = none) (s : Operand) (ho : o.op = .load t s) (hs : a.eval s = .pointer (some ⟨b, 0, none⟩))
    (hi : Is w b c t) (hu : Tryz.prog.underlying t = some (.array n e)) (hz : Sized t m) (hc : c.length = m)
    (h : wpList Tryz.prog ops Q rest (a.put o.dst (.agg c.toArray)) w) : wpList Tryz.prog ops Q (o :: rest) a w := wpList_load_arr t c b hi hu hz hc hgd s ho hs h
theorem wpList_store_any2 (t : TypeId) (c c' : List Value) (b : Nat) {m : Nat} {w : World} {ops : Array Oper} {rest : List Oper} {o : Oper} {a : Act} {Q : Exit → Act → World → Prop} (hgd : o.guard = none) (s x : Operand) (ho : o.op = .store t s x) (hs : a.eval s = .pointer (some ⟨b, 0, none⟩)) (hx : a.eval x = .agg c'.toArray) (hd : o.dst = none)
    (hi : Is w b c t) (hz : Sized t m) (hc : c.length = m) (hc' : c'.length = m) (h1 : ∀ v ∈ c', v.oneCell' = true)
    (h : ∀ w2, Is w2 b c' t → (∀ B w0, Below B w0 w → B ≤ b → Below B w0 w2) → (∀ b' c2 t2, b' ≠ b → Is w b' c2 t2 → Is w2 b' c2 t2) → w2.heap.size = w.heap.size → wpList Tryz.prog ops Q rest a w2) : wpList Tryz.prog ops Q (o :: rest) a w := wpList_store_any t c c' b hi hz hc hc' h1 hgd s x ho hs hx hd h

/-- Numbers as values. -/
def ivals (l : List Nat) : List Value := l.map (fun (x : Nat) => Value.int .i64 (x : Int))
theorem ivals_length (l : List Nat) : (ivals l).length = l.length := by simp [ivals]
theorem ivals_get (l : List Nat) (j : Nat) (h : j < l.length) : (ivals l)[j]? = some (.int .i64 ((l.getD j 0 : Nat) : Int)) := by
  simp [ivals, List.getD, List.getElem?_eq_getElem h]
theorem ivals_one (l : List Nat) : ∀ u ∈ ivals l, u.oneCell' = true := by
  intro u hu
  obtain ⟨x, _, rfl⟩ := List.mem_map.1 hu
  rfl
theorem ivals_set (l : List Nat) (i : Nat) (x : Nat) : (ivals l).set i (.int .i64 (x : Int)) = ivals (l.set i x) := by unfold ivals; rw [← List.map_set]

/-- The first 2 k digits, and 0 behind them. -/
def pdg (m : List Int) (k : Nat) : List Nat := (List.range 67).map fun i => if i < 2 * k then Ky.nib m i else 0
theorem pdg_length (m : List Int) (k : Nat) : (pdg m k).length = 67 := by simp [pdg]
theorem pdg_zero (m : List Int) : pdg m 0 = List.replicate 67 0 := List.eq_replicate_iff.2 ⟨by simp [pdg], fun b hb => by
  obtain ⟨i, _, rfl⟩ := List.mem_map.1 hb
  rw [if_neg (by omega)]⟩
theorem pdg_step (m : List Int) (k : Nat) (h : k < 32) : ((pdg m k).set (2 * k) (Ky.nib m (2 * k))).set (2 * k + 1) (Ky.nib m (2 * k + 1)) = pdg m (k + 1) := by
  apply List.ext_getElem
  · simp [pdg]
  · intro i h1 h2
    simp only [List.getElem_set]
    by_cases e1 : 2 * k + 1 = i
    · subst e1; simp [pdg]; omega
    · rw [if_neg e1]
      by_cases e0 : 2 * k = i
      · subst e0; simp [pdg]
      · rw [if_neg e0]
        simp only [pdg, List.getElem_map, List.getElem_range]
        by_cases hi : i < 2 * k
        · rw [if_pos hi, if_pos (by omega)]
        · rw [if_neg hi, if_neg (by omega)]
theorem pdg_all (m : List Int) : (((pdg m 32).set 64 (Ky.lack m 64 / 256)).set 65 (Ky.lack m 64 / 16 % 16)).set 66 (Ky.lack m 64 % 16) = Ky.digits m := by
  apply List.ext_getElem
  · rw [Ky.digits_length]; simp [pdg]
  · intro i h1 h2
    have hd := Ky.digits_chk m
    have e : (Ky.digits m).getD i 0 = (Ky.digits m)[i] := by simp [List.getD, List.getElem?_eq_getElem h2]
    rw [← e]
    simp only [List.getElem_set]
    by_cases e2 : 66 = i
    · subst e2; rw [if_pos rfl]; exact hd.2.2.symm
    · rw [if_neg e2]
      by_cases e1 : 65 = i
      · subst e1; rw [if_pos rfl]; exact hd.2.1.symm
      · rw [if_neg e1]
        by_cases e0 : 64 = i
        · subst e0; rw [if_pos rfl]; exact hd.1.symm
        · have h6 : i < 64 := by rw [Ky.digits_length] at h2; omega
          rw [if_neg e0, Ky.digits_nib m i h6]
          simp [pdg, h6]
theorem nib_even (m : List Int) (k : Nat) : Ky.nib m (2 * k) = (m.getD k 0).toNat / 16 := by
  unfold Ky.nib
  rw [show 2 * k % 2 = 0 by omega, show 2 * k / 2 = k by omega]; simp
theorem nib_odd (m : List Int) (k : Nat) : Ky.nib m (2 * k + 1) = (m.getD k 0).toNat % 16 := by
  unfold Ky.nib
  rw [show (2 * k + 1) % 2 = 1 by omega, show (2 * k + 1) / 2 = k by omega]; simp
theorem lack_two (m : List Int) (k : Nat) : Ky.lack m (2 * (k + 1)) = Ky.lack m (2 * k) + (15 - Ky.nib m (2 * k)) + (15 - Ky.nib m (2 * k + 1)) := rfl

theorem kd_size_u8 : Sized 5 1 := by unfold Sized; kernel_rfl
theorem kd_agg_u8 (w : World) : (isAgg 5).run Tryz.prog w = .ok false w := by simp [isAgg, underlying, Tryz.underlying5]
theorem size_dg67 : Sized 174 67 := by unfold Sized; kernel_rfl
theorem zero_dg67 (w : World) : (zeroValue 174).run Tryz.prog w = .ok (.agg (ivals (List.replicate 67 0)).toArray) w := by
  have h : (Tryz.prog.info? 174).map (fun i => (i.zero, i.size)) = some (some (.agg (ivals (List.replicate 67 0)).toArray), 67) := by kernel_rfl
  exact (zero_of_info h).1 w

set_option maxRecDepth 100000 in
set_option maxHeartbeats 4000000 in
theorem digitsOf_any (m : List Int) (w : World) (hm : m.length = 32) (hb : Sz.Byt m) :
    Calls Tryz.prog 108 #[.agg (vals m).toArray] w fun e w' => e = .returned (.agg (ivals (Ky.digits m)).toArray) ∧ Below w.heap.size w w' := by
  obtain ⟨Z, hZ⟩ : ∃ Z, Z = ivals (List.replicate 67 0) := ⟨_, rfl⟩
  have hz := zero_dg67
  rw [← hZ] at hz
  have hZl : Z.length = 67 := by rw [hZ]; simp [ivals]
  have hZp : ¬ Z = [] := by intro h; rw [h] at hZl; cases hZl
  have HI0 := hide (Is.new w (vals m) 34)
  have HM := hide hm
  have HZL := hide hZl
  have HZZ : Hid (Z = ivals (pdg m 0)) := by show _ = _; rw [hZ, pdg_zero]
  clear hZ hZl hm
  go_enter Tryz.func108, Tryz.ntmps108
  go_wp2_with (refine wpList_load_arr 34 (vals m) w.heap.size ((HI0.out.alloc _).alloc _) Tryz.underlying34 size_dig (by rw [vals_length]; exact HM.out) rfl (.tmp 1) rfl rfl ?_)
  go_loopw [4, 10] (fun l i wr => ∃ k : Nat, k ≤ 32 ∧ l = .int .i64 (Ky.lack m (2 * k) : Nat) ∧ i = .int .i64 k ∧ Below w.heap.size w wr ∧ Is wr (w.heap.size + 1) Z 174 ∧ Is wr (w.heap.size + 2) (ivals (pdg m k)) 174) (fun _ i _ => 32 - (intOf i).toNat)
  case atStart => exact ⟨0, by omega, rfl, rfl, below_alloc3 _ _ _ _, (Is.new' Z 174 (by simp)).alloc _, by rw [← HZZ.out]; exact Is.new' Z 174 (by simp)⟩
  case round =>
    obtain ⟨k, hk, rfl, rfl, hbel, h1, h2⟩ := hrel
    have hll := Ky.lack_le m (2 * k)
    clear HI0 hz
    by_cases hk8 : k < 32
    · have hv := vals_get m k (by rw [HM.out]; exact hk8)
      have hbk := hb.getD k
      have hst := hide (pdg_step m k hk8)
      have hl2 := hide (lack_two m k)
      rw [nib_even, nib_odd] at hst hl2
      obtain ⟨x, hx⟩ := Int.eq_ofNat_of_zero_le hbk.1
      have hx2 : x < 256 := by omega
      rw [hx] at hv
      rw [hx, Int.toNat_natCast] at hst hl2
      have hg : ∀ j, j < 67 → wr.cell? ⟨w.heap.size + 2, j, none⟩ = some (.int .i64 (((pdg m k).getD j 0 : Nat) : Int)) := fun j hj => by rw [h2.cell, ivals_get _ _ (by rw [pdg_length]; exact hj)]
      have g0 := hg (2 * k) (by omega)
      have g1 := hg (2 * k + 1) (by omega)
      have f0 := h2.frozen (2 * k)
      have f1 := h2.frozen (2 * k + 1)
      generalize (pdg m k).getD (2 * k) 0 = y0 at *
      generalize (pdg m k).getD (2 * k + 1) 0 = y1 at *
      generalize Ky.lack m (2 * k) = L at *
      have HV := hide hv
      have H1 := hide h1
      have H2 := hide h2
      clear h1 h2 hg hv hx hbk
      go_wp2_with (refine wpList_index_any 34 5 32 k (vals m) (.int .u8 (x : Int)) Tryz.underlying34 kd_size_u8 kd_agg_u8 hk8 HV.out rfl (.tmp 9) (.tmp 10) rfl rfl rfl ?_)
      go_roundw
      case rel =>
        have e0 : (x : Int) / 16 = ((x / 16 : Nat) : Int) := by omega
        have e1 : (x : Int) % 16 = ((x % 16 : Nat) : Int) := by omega
        refine ⟨k + 1, by omega, ?_, by go_num, ?_, ?_, ?_⟩
        · rw [hl2.out]; congr 1; omega
        · exact (hbel.setCell (p := ⟨w.heap.size + 2, 2 * k, none⟩) (by simp) _).setCell (p := ⟨w.heap.size + 2, 2 * k + 1, none⟩) (by simp) _
        · have hne : w.heap.size + 2 ≠ w.heap.size + 1 := by omega
          exact (H1.out.other ⟨w.heap.size + 2, 2 * k, none⟩ _ hne).other ⟨w.heap.size + 2, 2 * k + 1, none⟩ _ hne
        · rw [e0, e1, ← hst.out, ← ivals_set, ← ivals_set]
          exact (H2.out.set _ _).set _ _
      case measure => simp [intOf]; omega
    · have hk' : k = 32 := by omega
      have hkn : ¬ (k : Int) < 32 := by omega
      have hst := hide (pdg_all m)
      rw [hk'] at h2 hll ⊢
      rw [show 2 * 32 = 64 from rfl] at hll ⊢
      have hg : ∀ j, j < 67 → wr.cell? ⟨w.heap.size + 2, j, none⟩ = some (.int .i64 (((pdg m 32).getD j 0 : Nat) : Int)) := fun j hj => by rw [h2.cell, ivals_get _ _ (by rw [pdg_length]; exact hj)]
      have g0 := hg 64 (by omega)
      have g1 := hg 65 (by omega)
      have g2 := hg 66 (by omega)
      have f0 := h2.frozen 64
      have f1 := h2.frozen 65
      have f2 := h2.frozen 66
      generalize (pdg m 32).getD 64 0 = y0 at *
      generalize (pdg m 32).getD 65 0 = y1 at *
      generalize (pdg m 32).getD 66 0 = y2 at *
      generalize Ky.lack m 64 = L at *
      have hDl := Ky.digits_length m
      generalize hD : Ky.digits m = D at *
      have HD := hide hD
      have HDL := hide hDl
      have e0 : (L : Int) / 256 = ((L / 256 : Nat) : Int) := by omega
      have e1 : (L : Int) / 16 % 16 = ((L / 16 % 16 : Nat) : Int) := by omega
      have e2 : (L : Int) % 16 = ((L % 16 : Nat) : Int) := by omega
      have hI : ∀ W, W = (((wr.setCell ⟨w.heap.size + 1 + 1, 64, none⟩ (.int .i64 ((L : Int) / 256))).setCell ⟨w.heap.size + 1 + 1, 65, none⟩ (.int .i64 ((L : Int) / 16 % 16))).setCell ⟨w.heap.size + 1 + 1, 66, none⟩ (.int .i64 ((L : Int) % 16))) →
          Is W (w.heap.size + 1 + 1) (ivals D) 174 ∧ Is W (w.heap.size + 1) Z 174 ∧ Below w.heap.size w W := fun W hW => by
        subst hW
        have hne : w.heap.size + 2 ≠ w.heap.size + 1 := by omega
        refine ⟨?_, ((h1.other ⟨w.heap.size + 2, 64, none⟩ _ hne).other ⟨w.heap.size + 2, 65, none⟩ _ hne).other ⟨w.heap.size + 2, 66, none⟩ _ hne,
          ((hbel.setCell (p := ⟨w.heap.size + 2, 64, none⟩) (by simp) _).setCell (p := ⟨w.heap.size + 2, 65, none⟩) (by simp) _).setCell (p := ⟨w.heap.size + 2, 66, none⟩) (by simp) _⟩
        rw [← hst.out, e0, e1, e2, ← ivals_set, ← ivals_set, ← ivals_set]
        exact ((h2.set _ _).set _ _).set _ _
      have hI := hI _ rfl
      have HI := hide hI
      clear hI e0 e1 e2 h1 h2 hg hk' hk8 hk hDl hD
      go_wp2_with (first
        | (refine wpList_load_arr2 174 (ivals D) (w.heap.size + 1 + 1) rfl (.tmp 3) rfl rfl HI.out.1 Tryz.underlying174 size_dg67 (by rw [ivals_length]; exact HDL.out) ?_)
        | (refine wpList_store_any2 174 Z (ivals D) (w.heap.size + 1) rfl (.tmp 2) (.tmp 47) rfl rfl rfl rfl HI.out.2.1 size_dg67 HZL.out (by rw [ivals_length]; exact HDL.out) (ivals_one _) ?_; intro w2 hi2 hb2 hk2 hz2))
      have hr := hi2.cellsOf Tryz.underlying174 (by rw [ivals_length, HDL.out]; exact size_dg67)
      exact bodyPost_ret (v := .agg (ivals D).toArray) (results_cell1 Tryz.results108 rfl hr) rfl ⟨by rw [HD.out], hb2 _ _ HI.out.2.2 (Nat.le_succ _)⟩

end Go.Proofs.YtgkpbglllnmbeaaGreatDoor

/- The contracts of key.sumBehind and key.Step: the digest of a byte and of digests behind it; so many steps. -/
namespace Go.Proofs.YtgkpbglllnmbeaaGreatDoor
open Go.RowKit
set_option linter.unusedVariables false

/-- A part of a range. -/
theorem range_part {w : World} {b off : Nat} {L : List Int} (h : w.rangeAt b off (vals L)) (k n : Nat) (hk : k + n ≤ L.length) : w.rangeAt b (off + k) (vals ((L.drop k).take n)) := fun j v hv => by
  have hj : j < n := by
    have := (List.getElem?_eq_some_iff.1 hv).1
    simp [vals] at this
    omega
  have : (vals L)[k + j]? = some v := by
    rw [← hv]
    simp [vals, hj]
  rw [show off + k + j = off + (k + j) by omega]
  exact h _ _ this
theorem sigAt_mid {w : World} {b off : Nat} {L : List Int} (h : w.rangeAt b off (vals L)) (k : Nat) (hk : 32 * k + 32 ≤ L.length) : w.rangeAt b (off + 32 * k) (vals (Ky.sigAt L k)) := range_part h _ _ hk
theorem take_row (L : List Int) (k : Nat) : L.take (32 * (k + 1)) = L.take (32 * k) ++ Ky.sigAt L k := by
  unfold Ky.sigAt
  rw [show 32 * (k + 1) = 32 * k + 32 by omega, List.take_add]

theorem wpList_load_mid2 (t : TypeId) (c : List Value) (b off : Nat) {n m : Nat} {e : TypeId} {w : World} {ops : Array Oper} {rest : List Oper} {o : Oper} {a : Act} {Q : Exit → Act → World → Prop} (hgd : o.guard = none) (s : Operand) (ho : o.op = .load t s) (hs : a.eval s = .pointer (some ⟨b, off, none⟩))
    (hi : w.rangeAt b off c) (hu : Tryz.prog.underlying t = some (.array n e)) (hz : Sized t m) (hc : c.length = m)
    (h : wpList Tryz.prog ops Q rest (a.put o.dst (.agg c.toArray)) w) : wpList Tryz.prog ops Q (o :: rest) a w := wpList_load_mid hgd t s ho b off hs c _ hi hu rfl (by rw [hc]; exact hz) h

set_option maxRecDepth 100000 in
set_option maxHeartbeats 4000000 in
theorem ksum_any (f b off n cap : Nat) (L : List Int) (w : World) (hf : f < 256) (hn : n ≤ 1000) (hL : L.length = 32 * n) (hr : w.rangeAt b off (vals L)) (hb0 : b < w.heap.size) (hB : Sz.Byt L) (ht : Tab w) (hw : 0 < w.heap.size) :
    Calls Tryz.prog 113 #[.int .u8 (f : Int), .slice (some ⟨b, off, none⟩) n cap] w fun e w' => e = .returned (.agg (vals (Sh.sum ((f : Int) :: L))).toArray) ∧ Below w.heap.size w w' := by
  have HR := hide hr
  have HT := hide ht
  have HL := hide hL
  have hJ0 := Is.new w (vals (List.replicate 32 0)) 34
  have HJ0 := hide hJ0
  have HB0 := hide (below_alloc w (.cells (vals (List.replicate 32 0)).toArray 34))
  have HW0 : Hid (∀ w1 K, Below w.heap.size w w1 → Hash w1 (w.heap.size + 1) [] → w.heap.size + 1 < K → Is w1 K [.int .u8 (f : Int)] 5 → Calls Tryz.prog 24 #[.pointer (some ⟨w.heap.size + 1, 0, none⟩), .slice (some ⟨K, 0, none⟩) 1 1] w1 fun e w' => e = .returned (.tuple #[]) ∧ Hash w' (w.heap.size + 1) [(f : Int)] ∧ Only (w.heap.size + 1) w1.heap.size w1 w') := fun w1 K hb hh hK hi => by
    have h1 : Has w1 (.slice (some ⟨K, 0, none⟩) 1 1) [(f : Int)] := Is.has (L := [(f : Int)]) hi rfl (by omega)
    have := hwrite_any (w.heap.size + 1) _ [] [(f : Int)] w1 hh (ht.below hb hw) (by omega) h1 (fun b off n c e hn => by injection e with e1; injection e1 with e1; injection e1 with e1; omega) (fun x hx => by simp at hx; omega) (by simp)
    simpa using this
  clear hr ht hL hJ0
  go_enter Tryz.func113, Tryz.ntmps113
  go_wp2_with (first
    | (go_at_call 23; refine (new_at _ (w.heap.size + 1) (by simp)).mono ?_; rintro e w1 ⟨rfl, hh1, hb1⟩; have hb1' := HB0.out.trans (hb1.mono (by simp)); have hJ1 := HJ0.out.below hb1 (by simp))
    | (go_at_call 24; refine (HW0.out _ w1.heap.size (hb1'.alloc hb1'.size _) (hh1.below (below_alloc w1 _) hh1.lt) hh1.lt (Is.new w1 _ _)).mono ?_; rintro e w2 ⟨rfl, hh2, ho2⟩))
  have hz1 := hh1.lt
  have hJ2 := (hJ1.alloc (.cells #[.int .u8 (f : Int)] 5)).only ho2 (hJ1.alloc _).lt (by omega)
  have hb2 := (hb1'.alloc hb1'.size (.cells #[.int .u8 (f : Int)] 5)).trans (ho2.below (hb1'.alloc hb1'.size _).size (by omega))
  have hgw : w.heap.size ≤ w.heap.size + 1 := by omega
  have hg0 : 0 < w.heap.size + 1 := by omega
  have hjg : w.heap.size ≠ w.heap.size + 1 := by omega
  have HH2 := hide hh2
  have HB2 := hide hb2
  have HJ2 := hide hJ2
  clear hh2 hb2 hJ2 hb1' hJ1 ho2 hb1 hh1 HJ0 HB0 HW0
  go_loopw [15] (fun i wr => ∃ (k : Nat) (F : List Int), k ≤ n ∧ i = .int .i64 k ∧ F = (f : Int) :: L.take (32 * k) ∧ Hash wr (w.heap.size + 1) F ∧ Is wr w.heap.size (vals (List.replicate 32 0)) 34 ∧ Below w.heap.size w wr) (fun i _ => n - (intOf i).toNat)
  case atStart => exact ⟨0, [(f : Int)], by omega, rfl, by simp, HH2.out, HJ2.out, HB2.out⟩
  case round =>
    obtain ⟨k, F, hk, rfl, hF, hh, hj, hb⟩ := hrel
    clear HH2 HB2 HJ2
    have hFl : F.length ≤ 40000 := by rw [hF, List.length_cons, List.length_take]; omega
    by_cases hkl : k < n
    · have hkL : 32 * k + 32 ≤ L.length := by rw [HL.out]; omega
      have hmid := sigAt_mid HR.out k hkL
      have hmid2 : wr.rangeAt b (off + k * 32) (vals (Ky.sigAt L k)) := fun j v hv => by rw [Nat.mul_comm k 32, hb.cell (p := ⟨b, off + 32 * k + j, none⟩) hb0]; exact hmid j v hv
      have hDl := Ky.sigAt_length L k hkL
      have hDb := Ky.sigAt_byt L k hB
      have hnx : F ++ Ky.sigAt L k = (f : Int) :: L.take (32 * (k + 1)) := by rw [take_row, hF, List.cons_append]
      generalize Ky.sigAt L k = D at *
      have HWR : Hid (∀ W b', Below wr.heap.size wr W → Is W b' (vals D) 34 → wr.heap.size ≤ b' → Calls Tryz.prog 24 #[.pointer (some ⟨w.heap.size + 1, 0, none⟩), .slice (some ⟨b', 0, none⟩) 32 32] W fun e w' => e = .returned (.tuple #[]) ∧ Hash w' (w.heap.size + 1) (F ++ D) ∧ Only (w.heap.size + 1) W.heap.size W w') := fun W b' hW hI hbb =>
        hwrite_any (w.heap.size + 1) _ F D W (hh.below hW hh.lt) (HT.out.below (hb.trans (hW.mono hb.size)) hw) hg0 (hI.has hDl (by omega)) (fun b2 off2 n2 c2 e hn => by injection e with e1; injection e1 with e1; injection e1 with e1; have := hh.lt; omega) hDb (by omega)
      have HNX := hide hnx
      have HMID := hide hmid2
      have HDL := hide hDl
      have HHL := hh.lt
      have hkn : (k : Int) < (n : Int) := by omega
      clear hh hF hnx hmid hmid2 hDl hDb hFl hkL
      obtain ⟨wA, hwA⟩ : ∃ wA, wA = wr := ⟨_, rfl⟩
      subst hwA
      go_wp2_with (first
        | (refine wpList_load_mid2 34 (vals D) b (off + k * 32) rfl (.tmp 17) rfl rfl HMID.out Tryz.underlying34 size_dig (by rw [vals_length]; exact HDL.out) ?_)
        | (refine wpList_store_any2 34 (vals (List.replicate 32 0)) (vals D) wA.heap.size rfl (.tmp 7) (.tmp 18) rfl rfl rfl rfl (Is.new wA _ _) size_dig (by simp [vals]) (by rw [vals_length]; exact HDL.out) (vals_one _) ?_; intro w4 hi4 hb4 hk4 hz4; have hb4' := hb4 _ _ (below_alloc wA _) (Nat.le_refl _))
        | (go_at_call 24; refine (HWR.out _ wA.heap.size hb4' hi4 (Nat.le_refl _)).mono ?_; rintro e w5 ⟨rfl, hh5, ho5⟩))
      go_roundw
      case rel =>
        have hj4 := hk4 _ _ _ (by have := hj.lt; omega) (hj.alloc _)
        exact ⟨k + 1, F ++ D, by omega, by go_num, HNX.out, hh5, hj4.only ho5 hj4.lt hjg, (hb.trans (hb4'.mono hb.size)).trans (ho5.below (Nat.le_trans hb.size hb4'.size) hgw)⟩
      case measure => simp [intOf]; omega
    · have hkn : ¬ (k : Int) < (n : Int) := by omega
      have hFF : F = (f : Int) :: L := by rw [hF, List.take_of_length_le (by rw [HL.out]; omega)]
      have HHS := hide (hsum_any (w.heap.size + 1) F wr hh (HT.out.below hb hw) hg0 (by omega))
      have hDl : (Sh.sum F).length = 32 := Mc.sum_length F
      have hDF : Hid (Sh.sum F = Sh.sum ((f : Int) :: L)) := by show _ = _; rw [hFF]
      generalize Sh.sum F = D at *
      have HDL := hide hDl
      have HJ := hide hj
      clear hDl hj hh hF hFF hFl hkl hk
      go_wp2_with (first
        | (go_at_call 27; refine HHS.out.mono ?_; rintro e w3 ⟨rfl, hb3⟩)
        | (refine wpList_store_any2 34 (vals (List.replicate 32 0)) (vals D) w.heap.size rfl (.tmp 4) (.tmp 24) rfl rfl rfl rfl (HJ.out.below hb3 HJ.out.lt) size_dig (by simp [vals]) (by rw [vals_length]; exact HDL.out) (vals_one _) ?_; intro w7 hi7 hb7 hk7 hz7))
      have hr := hi7.cellsOf Tryz.underlying34 (by rw [vals_length, HDL.out]; exact size_dig)
      exact bodyPost_ret (v := .agg (vals D).toArray) (results_cell1 Tryz.results113 rfl hr) rfl ⟨by rw [hDF.out], hb7 _ _ (hb.trans (hb3.mono hb.size)) (Nat.le_refl _)⟩

set_option maxRecDepth 100000 in
set_option maxHeartbeats 4000000 in
/-- So many steps: none, if the number is below 1. -/
theorem step_any (D : List Int) (z : Int) (w : World) (hD : D.length = 32) (hB : Sz.Byt D) (hz : z ≤ 100000) (ht : Tab w) (hw : 0 < w.heap.size) :
    Calls Tryz.prog 111 #[.agg (vals D).toArray, .int .i64 z] w fun e w' => e = .returned (.agg (vals (Ky.steps D z.toNat)).toArray) ∧ Below w.heap.size w w' := by
  have HS : Hid (∀ W K (d : List Int), Below w.heap.size w W → d.length = 32 → Sz.Byt d → Is W K (vals d) 34 → Calls Tryz.prog 113 #[.int .u8 8, .slice (some ⟨K, 0, none⟩) 1 1] W fun e w' => e = .returned (.agg (vals (Ky.step d)).toArray) ∧ Below W.heap.size W w') := fun W K d hb hd hdb hi => by
    have := ksum_any 8 K 0 1 1 d W (by omega) (by omega) (by omega) hi.range hi.lt hdb (ht.below hb hw) (Nat.lt_of_lt_of_le hw hb.size)
    exact this
  have hI0 : ∀ o, Is ((w.alloc (.cells (vals D).toArray 34)).alloc o) w.heap.size (vals D) 34 := fun o => (Is.new w (vals D) 34).alloc o
  have HI0 := hide (hI0 (.cells (vals (List.replicate 32 0)).toArray 34))
  have HJ0 : Hid (Is ((w.alloc (.cells (vals D).toArray 34)).alloc (.cells (vals (List.replicate 32 0)).toArray 34)) (w.heap.size + 1) (vals (List.replicate 32 0)) 34) := Is.new' _ 34 (by simp)
  have HB0 := hide (below_alloc2 w (.cells (vals D).toArray 34) (.cells (vals (List.replicate 32 0)).toArray 34))
  have HDL : Hid (∀ n, (Ky.steps D n).length = 32) := Ky.steps_length D hD
  have HDB : Hid (∀ n, Sz.Byt (Ky.steps D n)) := Ky.steps_byt D hB
  have HSS : Hid (∀ n, Ky.step (Ky.steps D n) = Ky.steps D (n + 1)) := fun n => rfl
  clear hI0 hD hB ht
  go_enter Tryz.func111, Tryz.ntmps111
  go_wp2
  go_loopw [6] (fun i wr => ∃ k : Nat, k ≤ z.toNat ∧ i = .int .i64 k ∧ Is wr w.heap.size (vals (Ky.steps D k)) 34 ∧ Is wr (w.heap.size + 1) (vals (List.replicate 32 0)) 34 ∧ Below w.heap.size w wr) (fun i _ => z.toNat - (intOf i).toNat)
  case atStart => exact ⟨0, by omega, rfl, HI0.out, HJ0.out, HB0.out⟩
  case round =>
    obtain ⟨k, hk, rfl, hi, hj, hb⟩ := hrel
    clear HI0 HJ0 HB0
    by_cases hkl : k < z.toNat
    · have hkz : (k : Int) < z := by omega
      have hdl := HDL.out k
      have hdb := HDB.out k
      have hss := HSS.out k
      have hnl := HDL.out (k + 1)
      obtain ⟨N, hN⟩ : ∃ N, N = Ky.steps D (k + 1) := ⟨_, rfl⟩
      rw [← hN] at hss hnl
      have HN := hide hN
      clear hN
      generalize Ky.steps D k = d at *
      have HC : Hid (∀ W K, Below w.heap.size w W → Is W K (vals d) 34 → Calls Tryz.prog 113 #[.int .u8 8, .slice (some ⟨K, 0, none⟩) 1 1] W fun e w' => e = .returned (.agg (vals N).toArray) ∧ Below W.heap.size W w') := fun W K h1 h2 => by rw [← hss]; exact HS.out W K d h1 hdl hdb h2
      have HDD := hide hdl
      have HI := hide hi
      have HJ := hide hj
      have HNL := hide hnl
      clear hi hj hnl hss hdl hdb HS HDL HDB HSS
      obtain ⟨wA, hwA⟩ : ∃ wA, wA = wr := ⟨_, rfl⟩
      subst hwA
      go_wp2_with (first
        | (refine wpList_load_arr2 34 (vals d) w.heap.size rfl (.tmp 2) rfl rfl HI.out Tryz.underlying34 size_dig (by rw [vals_length]; exact HDD.out) ?_)
        | (refine wpList_build_one 183 34 (vals d) rfl (.tmp 8) rfl rfl Tryz.underlying183 _ info_dig (by omega) (by omega) (by rw [vals_length]; exact HDD.out) ?_)
        | (go_at_call 113; refine (HC.out _ wA.heap.size (hb.alloc hb.size _) (Is.new wA _ _)).mono ?_; rintro e w5 ⟨rfl, hb5⟩; have hI5 := (HI.out.alloc (.cells (vals d).toArray 34)).below hb5 (HI.out.alloc _).lt)
        | (refine wpList_store_any2 34 (vals d) (vals N) w.heap.size rfl (.tmp 2) (.tmp 10) rfl rfl rfl rfl hI5 size_dig (by rw [vals_length]; exact HDD.out) (by rw [vals_length]; exact HNL.out) (vals_one _) ?_; intro w7 hi7 hb7 hk7 hz7))
      go_roundw
      case rel =>
        have hj5 := (HJ.out.alloc (.cells (vals d).toArray 34)).below hb5 (HJ.out.alloc _).lt
        exact ⟨k + 1, by omega, by go_num, by rw [← HN.out]; exact hi7, hk7 _ _ _ (by omega) hj5, hb7 _ _ ((hb.alloc hb.size _).trans (hb5.mono (hb.alloc hb.size _).size)) (Nat.le_refl _)⟩
      case measure => simp [intOf]; omega
    · have hkz : ¬ (k : Int) < z := by omega
      have hke : k = z.toNat := by omega
      rw [hke] at hi
      have hnl := HDL.out z.toNat
      obtain ⟨N, hN⟩ : ∃ N, N = Ky.steps D z.toNat := ⟨_, rfl⟩
      rw [← hN] at hi hnl
      have HN := hide hN
      clear hN
      have HI := hide hi
      have HJ := hide hj
      have HNL := hide hnl
      clear hi hj hnl HS HDL HDB HSS hke
      go_wp2_with (first
        | (refine wpList_load_arr2 34 (vals N) w.heap.size rfl (.tmp 2) rfl rfl HI.out Tryz.underlying34 size_dig (by rw [vals_length]; exact HNL.out) ?_)
        | (refine wpList_store_any2 34 (vals (List.replicate 32 0)) (vals N) (w.heap.size + 1) rfl (.tmp 4) (.tmp 12) rfl rfl rfl rfl HJ.out size_dig (by simp [vals]) (by rw [vals_length]; exact HNL.out) (vals_one _) ?_; intro w7 hi7 hb7 hk7 hz7))
      have hr := hi7.cellsOf Tryz.underlying34 (by rw [vals_length, HNL.out]; exact size_dig)
      exact bodyPost_ret (v := .agg (vals N).toArray) (results_cell1 Tryz.results111 rfl hr) rfl ⟨by rw [HN.out], hb7 _ _ hb (Nat.le_succ _)⟩
end Go.Proofs.YtgkpbglllnmbeaaGreatDoor

/- The contract of key.endsBy: what a function tells, place by place, in one array. -/
namespace Go.Proofs.YtgkpbglllnmbeaaGreatDoor
open Go.RowKit
set_option linter.unusedVariables false

theorem size_ends : Sized 177 2144 := by unfold Sized; kernel_rfl
theorem zero_ends (w : World) : (zeroValue 177).run Tryz.prog w = .ok (.agg (vals (List.replicate 2144 0)).toArray) w := by
  have h : (Tryz.prog.info? 177).map (fun i => (i.zero, i.size)) = some (some (.agg (vals (List.replicate 2144 0)).toArray), 2144) := by kernel_rfl
  exact (zero_of_info h).1 w

/-- A block in which some cells were stored. -/
theorem Is.setCells {b : Nat} {t : TypeId} : ∀ (cs : List Value) (off : Nat) (c : List Value) (w : World), Is w b c t → off + cs.length ≤ c.length → Is (w.setCells b off cs) b (c.take off ++ cs ++ c.drop (off + cs.length)) t
  | [], off, c, w, h, _ => by
    simp only [List.append_nil, List.length_nil, Nat.add_zero, List.take_append_drop]
    exact h
  | v :: r, off, c, w, h, hl => by
    rw [List.length_cons] at hl
    have h2 := Is.setCells r (off + 1) (c.set off v) _ (h.set off v) (by rw [List.length_set]; omega)
    have e : (c.set off v).take (off + 1) ++ r ++ (c.set off v).drop (off + 1 + r.length) = c.take off ++ (v :: r) ++ c.drop (off + (v :: r).length) := by
      rw [List.drop_set_of_lt (by omega), List.length_cons, show off + 1 + r.length = off + (r.length + 1) by omega]
      congr 1
      rw [List.take_succ_eq_append_getElem (by rw [List.length_set]; omega), List.getElem_set_self, List.take_set_of_le (Nat.le_refl _)]
      simp
    rw [e] at h2
    exact h2

theorem there_part {w : World} {b : Nat} {c : List Value} {t : TypeId} (h : Is w b c t) (off : Nat) {n : Nat} (hn : off + n ≤ c.length) : w.there b off n := fun j hj => by
  rw [h.cell, h.frozen, List.getElem?_eq_getElem (by omega)]
  exact ⟨rfl, rfl⟩

set_option maxRecDepth 100000 in
set_option maxHeartbeats 4000000 in
theorem ends_any (F : Nat) (caps : Array Value) (f : Nat → List Int) (w : World) (hf : ∀ k, (f k).length = 32) (hcall : ∀ xs W, (callFunc F xs).run Tryz.prog W = .ok (.enter F xs) W)
    (hF : ∀ W k, Below w.heap.size w W → k < 67 → Calls Tryz.prog F (#[.int .i64 (k : Nat)] ++ caps) W fun e w' => e = .returned (.agg (vals (f k)).toArray) ∧ Below W.heap.size W w') :
    Calls Tryz.prog 109 #[.func (.func F) #[] caps] w fun e w' => e = .returned (.agg (vals (Ky.rowsOf f 67)).toArray) ∧ Below w.heap.size w w' := by
  obtain ⟨Z, hZ⟩ : ∃ Z, Z = vals (List.replicate 2144 0) := ⟨_, rfl⟩
  have hz := zero_ends
  rw [← hZ] at hz
  have hZl : Z.length = 2144 := by rw [hZ, vals_length, List.length_replicate]
  have hZp : ¬ Z = [] := by intro h; rw [h] at hZl; cases hZl
  have HFF := hide hF
  have HFL := hide hf
  have HZL := hide hZl
  have HZ := hide hZ
  clear hF hf hZl hZ
  go_enter Tryz.func109, Tryz.ntmps109
  go_wp2
  go_loopw [5] (fun i wr => ∃ k : Nat, k ≤ 67 ∧ i = .int .i64 k ∧ Is wr (w.heap.size + 1) (vals (Ky.rowsOf f k) ++ Z.drop (32 * k)) 177 ∧ Is wr w.heap.size Z 177 ∧ Below w.heap.size w wr) (fun i _ => 67 - (intOf i).toNat)
  case atStart => exact ⟨0, by omega, rfl, Is.new' (Z : List Value) 177 (by simp), (Is.new w Z 177).alloc _, below_alloc2 _ _ _⟩
  case round =>
    obtain ⟨k, hk, rfl, hi, hj, hb⟩ := hrel
    by_cases hkl : k < 67
    · have hki : (k : Int) < 67 := by omega
      have hrl := Ky.rowsOf_length f HFL.out k
      have hcl : (vals (Ky.rowsOf f k) ++ Z.drop (32 * k)).length = 2144 := by rw [List.length_append, vals_length, hrl, List.length_drop, HZL.out]; omega
      have HNX : Hid ((vals (Ky.rowsOf f k) ++ Z.drop (32 * k)).take (k * 32) ++ vals (f k) ++ (vals (Ky.rowsOf f k) ++ Z.drop (32 * k)).drop (k * 32 + (vals (f k)).length) = vals (Ky.rowsOf f (k + 1)) ++ Z.drop (32 * (k + 1))) := by
        show _ = _
        rw [Ky.rowsOf_succ, vals_append, List.take_left' (by rw [vals_length, hrl]; omega), vals_length (f k), HFL.out, List.drop_append, vals_length, hrl, List.drop_eq_nil_of_le (by rw [vals_length, hrl]; omega), List.nil_append, List.drop_drop]
        congr 2
        omega
      have hfl := HFL.out k
      have HC : Hid (∀ W, Below w.heap.size w W → Calls Tryz.prog F (#[.int .i64 (k : Nat)] ++ caps) W fun e w' => e = .returned (.agg (vals (f k)).toArray) ∧ Below W.heap.size W w') := fun W hW => HFF.out W k hW hkl
      generalize f k = D at *
      generalize vals (Ky.rowsOf f k) ++ Z.drop (32 * k) = C at *
      have HCL := hide hcl
      have HDL := hide hfl
      have HI := hide hi
      have HJ := hide hj
      clear hrl hcl hfl hi hj HFF HFL
      obtain ⟨wA, hwA⟩ : ∃ wA, wA = wr := ⟨_, rfl⟩
      subst hwA
      have HTH : Hid (w.heap.size + 1 < wA.heap.size) := HI.out.lt
      go_wp2_with (first
        | (refine (HC.out _ hb).mono ?_; rintro e w5 ⟨rfl, hb5⟩; have hi5 := HI.out.below hb5 HI.out.lt)
        | (refine wpList_store_mid (P := Tryz.prog) rfl 34 (.tmp 12) (.tmp 11) rfl (w.heap.size + 1) (k * 32) (vals D).toArray rfl rfl (there_part hi5 (k * 32) (by rw [List.size_toArray, vals_length, HDL.out, HCL.out]; omega)) (by rw [List.size_toArray, vals_length, HDL.out]; exact size_dig) (all_oneCell_toArray (vals_one _)) ?_))
      go_roundw
      case rel =>
        have hs5 := Is.setCells (vals D) (k * 32) C w5 hi5 (by rw [vals_length, HDL.out, HCL.out]; omega)
        rw [HNX.out] at hs5
        have hj5 := HJ.out.below hb5 HJ.out.lt
        exact ⟨k + 1, by omega, by go_num, hs5, setCells_is (by omega) _ _ _ hj5, setCells_below (Nat.le_succ _) _ _ _ (hb.trans (hb5.mono hb.size))⟩
      case measure => simp [intOf]; omega
    · have hki : ¬ (k : Int) < 67 := by omega
      have hke : k = 67 := by omega
      have hce : vals (Ky.rowsOf f k) ++ Z.drop (32 * k) = vals (Ky.rowsOf f 67) := by rw [hke, List.drop_eq_nil_of_le (by rw [HZL.out]; omega), List.append_nil]
      rw [hce] at hi
      have hnl : (Ky.rowsOf f 67).length = 2144 := Ky.rowsOf_length f HFL.out 67
      obtain ⟨N, hN⟩ : ∃ N, N = Ky.rowsOf f 67 := ⟨_, rfl⟩
      rw [← hN] at hi hnl
      have HN := hide hN
      have HI := hide hi
      have HJ := hide hj
      have HNL := hide hnl
      clear hi hj hnl hN hce hke HFF HFL
      go_wp2_with (first
        | (refine wpList_load_arr2 177 (vals N) (w.heap.size + 1) rfl (.tmp 3) rfl rfl HI.out Tryz.underlying177 size_ends (by rw [vals_length]; exact HNL.out) ?_)
        | (refine wpList_store_any2 177 Z (vals N) w.heap.size rfl (.tmp 2) (.tmp 14) rfl rfl rfl rfl HJ.out size_ends HZL.out (by rw [vals_length]; exact HNL.out) (vals_one _) ?_; intro w7 hi7 hb7 hk7 hz7))
      have hr := hi7.cellsOf Tryz.underlying177 (by rw [vals_length, HNL.out]; exact size_ends)
      exact bodyPost_ret (v := .agg (vals N).toArray) (results_cell1 Tryz.results109 rfl hr) rfl ⟨by rw [HN.out], hb7 _ _ hb (Nat.le_refl _)⟩
end Go.Proofs.YtgkpbglllnmbeaaGreatDoor

/- The contracts of key.secret, key.digestAt and of the functions that Sign, Public and Recover hand to endsBy. -/
namespace Go.Proofs.YtgkpbglllnmbeaaGreatDoor
open Go.RowKit
set_option linter.unusedVariables false
set_option linter.unusedSimpArgs false

theorem range_below0 {w w' : World} {b off : Nat} {L : List Value} (h : w.rangeAt b off L) (hb : Below w.heap.size w w') (hlt : b < w.heap.size) : w'.rangeAt b off L := fun j v hv => by
  rw [hb.cell (p := ⟨b, off + j, none⟩) hlt]
  exact h j v hv
set_option maxRecDepth 100000 in
set_option maxHeartbeats 4000000 in
theorem digestAt_any (b off cap : Nat) (sig : List Int) (k : Nat) (w : World) (hs : sig.length = 2144) (hcap : 2144 ≤ cap) (hcm : cap ≤ maxLen) (hk : k < 67) (hr : w.rangeAt b off (vals sig)) (hb0 : b < w.heap.size) :
    Calls Tryz.prog 112 #[.slice (some ⟨b, off, none⟩) 2144 cap, .int .i64 (k : Nat)] w fun e w' => e = .returned (.agg (vals (Ky.sigAt sig k)).toArray) ∧ Below w.heap.size w w' := by
  unfold maxLen at hcm
  have hDl : (Ky.sigAt sig k).length = 32 := Ky.sigAt_length sig k (by omega)
  have hmid := sigAt_mid hr k (by omega)
  generalize Ky.sigAt sig k = D at *
  have HDL := hide hDl
  have HMID := hide hmid
  have hzd := zero_dig
  obtain ⟨Z, hZ⟩ : ∃ Z, Z = vals (List.replicate 32 0) := ⟨_, rfl⟩
  rw [← hZ] at hzd
  have hZl : Z.length = 32 := by rw [hZ]; simp [vals]
  have hZp : ¬ Z = [] := by intro h; rw [h] at hZl; cases hZl
  have HZL := hide hZl
  have HJ0 := hide ((Is.new w Z 34).alloc (.cells Z.toArray 34))
  have HI0 : Hid (Is ((w.alloc (.cells Z.toArray 34)).alloc (.cells Z.toArray 34)) (w.heap.size + 1) Z 34) := Is.new' _ 34 (by simp)
  have HB0 := hide (below_alloc2 w (.cells Z.toArray 34) (.cells Z.toArray 34))
  have hcne : ¬ cap = k * 32 := by omega
  have hk0 : (0 : Int) ≤ (k : Int) * 32 := by omega
  have hk1 : (k : Int) * 32 ≤ 2144 := by omega
  have hk2 : (k : Int) * 32 ≤ (cap : Int) := by omega
  have hkw : IntKind.i64.wrap ((k : Int) * 32) = (k : Int) * 32 := IntWalk.i64_in _ (by omega)
  have hkw2 : wrap64 ((k : Int) * 32) = (k : Int) * 32 := by rw [← IntWalk.i64_left]; exact hkw
  have hkt : ((k : Int) * 32).toNat = k * 32 := by omega
  clear hDl hmid hr hs hZ hZl
  go_enter Tryz.func112, Tryz.ntmps112
  go_wp2
  refine wp_region_held_drew (S := fun _ : World => True) (by kernel_rfl) ?_ (fun hHeld0 => ?_)
  · trivial
  refine wpAnyH_take (i := 0) (v := ?_) rfl (by kernel_rfl) (by kernel_rfl) (by kernel_rfl) (fun _ _ _ h => h) (Or.inl ⟨by rfl, ?_⟩) hHeld0 ?_
  rotate_left
  · (intro w hSw; (try dsimp only at hSw); go_simp <;> (try with_reducible rfl))
  simp only [Act.put, List.getElem_toArray, List.getElem_cons_zero, List.getElem_cons_succ, List.setIfInBounds_toArray, List.set_cons_zero, List.set_cons_succ]
  refine wpAnyH_take (i := 1) (v := ?_) rfl (by kernel_rfl) (by kernel_rfl) (by kernel_rfl) (fun _ _ _ h => h) (Or.inl ⟨by rfl, ?_⟩) hHeld0 ?_
  rotate_left
  · (intro w hSw; (try dsimp only at hSw); go_simp <;> (try with_reducible rfl))
  simp only [Act.put, List.getElem_toArray, List.getElem_cons_zero, List.getElem_cons_succ, List.setIfInBounds_toArray, List.set_cons_zero, List.set_cons_succ]
  refine wpAnyH_take (i := 2) (v := ?_) rfl (by kernel_rfl) (by kernel_rfl) (by kernel_rfl) (fun _ _ _ h => h) (Or.inl ⟨by rfl, ?_⟩) hHeld0 ?_
  rotate_left
  · (intro w hSw; (try dsimp only at hSw); go_simp <;> (try with_reducible rfl))
  simp only [Act.put, List.getElem_toArray, List.getElem_cons_zero, List.getElem_cons_succ, List.setIfInBounds_toArray, List.set_cons_zero, List.set_cons_succ]
  refine wpAnyH_take (i := 3) (v := ?_) rfl (by kernel_rfl) (by kernel_rfl) (by kernel_rfl) (fun _ _ _ h => h) (Or.inl ⟨by rfl, ?_⟩) hHeld0 ?_
  rotate_left
  · (intro w hSw; (try dsimp only at hSw); go_simp <;> (try with_reducible rfl))
  simp only [Act.put, List.getElem_toArray, List.getElem_cons_zero, List.getElem_cons_succ, List.setIfInBounds_toArray, List.set_cons_zero, List.set_cons_succ]
  refine wpAnyH_take (i := 4) (v := ?_) rfl (by kernel_rfl) (by kernel_rfl) (by kernel_rfl) (fun _ _ _ h => h) (Or.inl ⟨by rfl, ?_⟩) hHeld0 ?_
  rotate_left
  · (intro w hSw; (try dsimp only at hSw); go_simp <;> (try with_reducible rfl))
  simp only [Act.put, List.getElem_toArray, List.getElem_cons_zero, List.getElem_cons_succ, List.setIfInBounds_toArray, List.set_cons_zero, List.set_cons_succ]
  refine wpAnyH_ready (rs := [5]) (by kernel_rfl) (by simp) ?_
  refine AllReadyH.cons rfl (fun K hK => ?_) AllReadyH.nil
  refine step_copy_splice rfl (.tmp 6) (.tmp 10) 72 72 rfl 5 Tryz.underlying72 size_u8 _ _ 32 32 (2144 - k * 32) (cap - k * 32) rfl rfl (w.heap.size + 1) 0 Z 34 HI0.out.drew (vals D) (by rw [vals_length, HDL.out]; exact (Nat.min_eq_right (by omega)).symm) (fun _ => ⟨rfl, _, rfl, fun j v hv => ?_⟩) (by rw [vals_length, HDL.out, HZL.out]; omega) (vals_one _) (w.heap.size + 1) _ (Below.refl _ _) (Nat.le_refl _) ?_
  · rw [Addr.add_lit, Nat.mul_comm k 32]
    exact range_below0 HMID.out HB0.out.drew hb0 j v hv
  intro w6 hI6 hb6
  refine hK.out _ _ (by trivial) (fun hHeld1 => ?_)
  clear hK K hHeld0
  try simp only [Act.put, List.getElem_toArray, List.getElem_cons_zero, List.getElem_cons_succ, List.setIfInBounds_toArray, List.set_cons_zero, List.set_cons_succ]
  refine wpAnyH_done (by kernel_rfl) ?_ _
  have hI6 : Is w6 (w.heap.size + 1) (vals D) 34 := by have := hI6.out; rwa [splice, List.take_zero, List.nil_append, List.drop_eq_nil_of_le (by rw [HZL.out, vals_length, HDL.out]; omega), List.append_nil] at this
  have hj6 : Is w6 w.heap.size Z 34 := by unfold Is; rw [hb6.block w.heap.size (by simp)]; exact HJ0.out.drew
  have hb6' : Below w.heap.size w w6 := HB0.out.drew.trans (hb6.mono (by simp))
  have HI6 := hide hI6
  have HJ6 := hide hj6
  clear hI6 hj6 hb6
  go_wp2_with (first
    | (refine wpList_load_arr2 34 (vals D) (w.heap.size + 1) rfl (.tmp 5) rfl rfl HI6.out Tryz.underlying34 size_dig (by rw [vals_length]; exact HDL.out) ?_)
    | (refine wpList_store_any2 34 Z (vals D) w.heap.size rfl (.tmp 4) (.tmp 12) rfl rfl rfl rfl HJ6.out size_dig HZL.out (by rw [vals_length]; exact HDL.out) (vals_one _) ?_; intro w7 hi7 hb7 hk7 hz7))
  have hr := hi7.cellsOf Tryz.underlying34 (by rw [vals_length, HDL.out]; exact size_dig)
  exact bodyPost_ret (v := .agg (vals D).toArray) (results_cell1 Tryz.results112 rfl hr) rfl ⟨rfl, hb7 _ _ hb6' (Nat.le_refl _)⟩

theorem cell_below {w w' : World} {a : Addr} {v : Value} (h : w.cell? a = some v) (hb : Below w.heap.size w w') : w'.cell? a = some v := by
  rw [hb.cell (p := a) (World.block_lt_of_cell? w a h)]; exact h
theorem cell_setCells {w : World} {a : Addr} {v : Value} (h : w.cell? a = some v) {b : Nat} (hne : a.block ≠ b) (o : Nat) (vs : List Value) : (w.setCells b o vs).cell? a = some v := by
  rw [World.cell?_setCells_out b vs o w a (fun e => absurd e hne)]; exact h
/-- What stands while a function of endsBy runs. -/
theorem sf_below {w W W' : World} {gs gd k hs : Nat} {L : List Value} {v : Value} (h : W.rangeAt gs 0 L ∧ W.cell? ⟨gd, k, none⟩ = some v ∧ W.there hs 0 32 ∧ Below w.heap.size w W) (hb : Below W.heap.size W W') :
    W'.rangeAt gs 0 L ∧ W'.cell? ⟨gd, k, none⟩ = some v ∧ W'.there hs 0 32 ∧ Below w.heap.size w W' :=
  ⟨range_below h.1 hb, cell_below h.2.1 hb, there_below h.2.2.1 hb, h.2.2.2.trans (hb.mono h.2.2.2.size)⟩
theorem sf_store {w W : World} {gs gd k hs : Nat} {L : List Value} {v : Value} (h : W.rangeAt gs 0 L ∧ W.cell? ⟨gd, k, none⟩ = some v ∧ W.there hs 0 32 ∧ Below w.heap.size w W) (h1 : gs ≠ hs) (h2 : gd ≠ hs) (hB : w.heap.size ≤ hs) (vs : List Value) :
    (W.setCells hs 0 vs).rangeAt gs 0 L ∧ (W.setCells hs 0 vs).cell? ⟨gd, k, none⟩ = some v ∧ (W.setCells hs 0 vs).there hs 0 32 ∧ Below w.heap.size w (W.setCells hs 0 vs) :=
  ⟨World.rangeAt_setCells_apart h.1 _ _ _ (.inl h1), cell_setCells h.2.1 h2 _ _, World.there_setCells h.2.2.1 _ _ _, setCells_below hB _ _ _ h.2.2.2⟩
theorem rf_below {w W W' : World} {gs gd k hs : Nat} {u v : Value} (h : W.cell? ⟨gs, 0, none⟩ = some u ∧ W.cell? ⟨gd, k, none⟩ = some v ∧ W.there hs 0 32 ∧ Below w.heap.size w W) (hb : Below W.heap.size W W') :
    W'.cell? ⟨gs, 0, none⟩ = some u ∧ W'.cell? ⟨gd, k, none⟩ = some v ∧ W'.there hs 0 32 ∧ Below w.heap.size w W' :=
  ⟨cell_below h.1 hb, cell_below h.2.1 hb, there_below h.2.2.1 hb, h.2.2.2.trans (hb.mono h.2.2.2.size)⟩
theorem rf_store {w W : World} {gs gd k hs : Nat} {u v : Value} (h : W.cell? ⟨gs, 0, none⟩ = some u ∧ W.cell? ⟨gd, k, none⟩ = some v ∧ W.there hs 0 32 ∧ Below w.heap.size w W) (h1 : gs ≠ hs) (h2 : gd ≠ hs) (hB : w.heap.size ≤ hs) (vs : List Value) :
    (W.setCells hs 0 vs).cell? ⟨gs, 0, none⟩ = some u ∧ (W.setCells hs 0 vs).cell? ⟨gd, k, none⟩ = some v ∧ (W.setCells hs 0 vs).there hs 0 32 ∧ Below w.heap.size w (W.setCells hs 0 vs) :=
  ⟨cell_setCells h.1 h1 _ _, cell_setCells h.2.1 h2 _ _, World.there_setCells h.2.2.1 _ _ _, setCells_below hB _ _ _ h.2.2.2⟩

set_option maxRecDepth 100000 in
set_option maxHeartbeats 4000000 in
theorem recoverF_any (gs gd b off cap d : Nat) (sig : List Int) (k : Nat) (w : World) (h1 : w.cell? ⟨gs, 0, none⟩ = some (.slice (some ⟨b, off, none⟩) 2144 cap)) (hs : sig.length = 2144) (hcap : 2144 ≤ cap) (hcm : cap ≤ maxLen) (hr : w.rangeAt b off (vals sig)) (hb0 : b < w.heap.size) (hsb : Sz.Byt sig) (h2 : w.cell? ⟨gd, k, none⟩ = some (.int .i64 (d : Int))) (hd : d ≤ 15) (hk : k < 67) (ht : Tab w) (hw : 0 < w.heap.size) :
    Calls Tryz.prog 110 #[.int .i64 (k : Nat), .pointer (some ⟨gs, 0, none⟩), .pointer (some ⟨gd, 0, none⟩)] w fun e w' => e = .returned (.agg (vals (Ky.steps (Ky.sigAt sig k) (15 - d))).toArray) ∧ Below w.heap.size w w' := by
  have HS : Hid (∀ W, Below w.heap.size w W → Calls Tryz.prog 112 #[.slice (some ⟨b, off, none⟩) 2144 cap, .int .i64 (k : Nat)] W fun e w' => e = .returned (.agg (vals (Ky.sigAt sig k)).toArray) ∧ Below W.heap.size W w') := fun W hW => digestAt_any b off cap sig k W hs hcap hcm hk (range_below0 hr hW hb0) (Nat.lt_of_lt_of_le hb0 hW.size)
  have HT : Hid (∀ W, Below w.heap.size w W → Calls Tryz.prog 111 #[.agg (vals (Ky.sigAt sig k)).toArray, .int .i64 (15 - (d : Int))] W fun e w' => e = .returned (.agg (vals (Ky.steps (Ky.sigAt sig k) (15 - d))).toArray) ∧ Below W.heap.size W w') := fun W hW => by
    have := step_any (Ky.sigAt sig k) (15 - (d : Int)) W (Ky.sigAt_length _ _ (by omega)) (Ky.sigAt_byt _ _ hsb) (by omega) (ht.below hW hw) (Nat.lt_of_lt_of_le hw hW.size)
    rwa [show (15 - (d : Int)).toNat = 15 - d by omega] at this
  have hEl : (Ky.steps (Ky.sigAt sig k) (15 - d)).length = 32 := Ky.steps_length _ (Ky.sigAt_length _ _ (by omega)) _
  have hwd : IntKind.i64.wrap (15 - (d : Int)) = 15 - (d : Int) := IntWalk.i64_in _ (by omega)
  have hwd2 : wrap64 (15 - (d : Int)) = 15 - (d : Int) := by rw [← IntWalk.i64_left]; exact hwd
  have hS0 : (fun W : World => W.cell? ⟨gs, 0, none⟩ = some (.slice (some ⟨b, off, none⟩) 2144 cap) ∧ W.cell? ⟨gd, k, none⟩ = some (.int .i64 (d : Int)) ∧ W.there w.heap.size 0 32 ∧ Below w.heap.size w W) (w.alloc (.cells (vals (List.replicate 32 0)).toArray 34)) := ⟨cell_below h1 (below_alloc _ _), cell_below h2 (below_alloc _ _), (Is.new w (vals (List.replicate 32 0)) 34).there (by simp [vals]), below_alloc _ _⟩
  have hg1 : gs ≠ w.heap.size := Nat.ne_of_lt (World.block_lt_of_cell? w _ h1)
  have hg2 : gd ≠ w.heap.size := Nat.ne_of_lt (World.block_lt_of_cell? w _ h2)
  generalize Ky.steps (Ky.sigAt sig k) (15 - d) = E at *
  generalize Ky.sigAt sig k = X at *
  have hsz2 : (Tryz.prog.info? 34).map (·.size) = some (vals E).length := by rw [vals_length, hEl]; exact size_dig
  have hzd := zero_dig
  obtain ⟨Z, hZ⟩ : ∃ Z, Z = vals (List.replicate 32 0) := ⟨_, rfl⟩
  rw [← hZ] at hzd hS0
  have hZp : ¬ Z = [] := by intro h; rw [h] at hZ; cases hZ
  have HEL := hide hEl
  have HVE : Hid ((vals E).toArray.size = 32) := by show _ = _; rw [List.size_toArray, vals_length, hEl]
  have HS0 := hide hS0
  have hk0 : (0 : Int) ≤ (k : Int) := by omega
  have hk1 : (k : Int) < 67 := by omega
  have hd0 : (0 : Int) ≤ (d : Int) := by omega
  have hd1 : (d : Int) ≤ 15 := by omega
  clear hEl hS0 h1 h2 ht hZ hs hr hsb hcm
  go_enter Tryz.func110, Tryz.ntmps110
  go_wp2
  refine wp_region_held_drew (S := fun W : World => W.cell? ⟨gs, 0, none⟩ = some (.slice (some ⟨b, off, none⟩) 2144 cap) ∧ W.cell? ⟨gd, k, none⟩ = some (.int .i64 (d : Int)) ∧ W.there w.heap.size 0 32 ∧ Below w.heap.size w W) (by kernel_rfl) ?_ (fun hHeld0 => ?_)
  · exact rf_below HS0.out ((Below.refl _ _).drew)
  refine wpAnyH_take (i := 0) (v := ?_) rfl (by kernel_rfl) (by kernel_rfl) (by kernel_rfl) (fun _ _ _ h => h) (Or.inl ⟨by rfl, ?_⟩) hHeld0 ?_
  rotate_left
  · (intro w hSw; (try dsimp only at hSw); go_simp <;> (try with_reducible rfl))
  simp only [Act.put, List.getElem_toArray, List.getElem_cons_zero, List.getElem_cons_succ, List.setIfInBounds_toArray, List.set_cons_zero, List.set_cons_succ]
  refine wpAnyH_take (i := 1) (v := ?_) rfl (by kernel_rfl) (by kernel_rfl) (by kernel_rfl) (fun _ _ _ h => h) (Or.inl ⟨by rfl, ?_⟩) hHeld0 ?_
  rotate_left
  · (intro w hSw; (try dsimp only at hSw); go_simp <;> (try with_reducible rfl))
  simp only [Act.put, List.getElem_toArray, List.getElem_cons_zero, List.getElem_cons_succ, List.setIfInBounds_toArray, List.set_cons_zero, List.set_cons_succ]
  refine wpAnyH_take (i := 3) (v := ?_) rfl (by kernel_rfl) (by kernel_rfl) (by kernel_rfl) (fun _ _ _ h => h) (Or.inl ⟨by rfl, ?_⟩) hHeld0 ?_
  rotate_left
  · (intro w hSw; (try dsimp only at hSw); go_simp <;> (try with_reducible rfl))
  simp only [Act.put, List.getElem_toArray, List.getElem_cons_zero, List.getElem_cons_succ, List.setIfInBounds_toArray, List.set_cons_zero, List.set_cons_succ]
  refine wpAnyH_take (i := 4) (v := ?_) rfl (by kernel_rfl) (by kernel_rfl) (by kernel_rfl) (fun _ _ _ h => h) (Or.inl ⟨by rfl, ?_⟩) hHeld0 ?_
  rotate_left
  · (intro w hSw; (try dsimp only at hSw); go_simp <;> (try with_reducible rfl))
  simp only [Act.put, List.getElem_toArray, List.getElem_cons_zero, List.getElem_cons_succ, List.setIfInBounds_toArray, List.set_cons_zero, List.set_cons_succ]
  refine wpAnyH_take (i := 5) (v := ?_) rfl (by kernel_rfl) (by kernel_rfl) (by kernel_rfl) (fun _ _ _ h => h) (Or.inl ⟨by rfl, ?_⟩) hHeld0 ?_
  rotate_left
  · (intro w hSw; (try dsimp only at hSw); go_simp <;> (try with_reducible rfl))
  simp only [Act.put, List.getElem_toArray, List.getElem_cons_zero, List.getElem_cons_succ, List.setIfInBounds_toArray, List.set_cons_zero, List.set_cons_succ]
  refine wpAnyH_take (i := 6) (v := ?_) rfl (by kernel_rfl) (by kernel_rfl) (by kernel_rfl) (fun _ _ _ h => h) (Or.inl ⟨by rfl, ?_⟩) hHeld0 ?_
  rotate_left
  · (intro w hSw; (try dsimp only at hSw); go_simp <;> (try with_reducible rfl))
  simp only [Act.put, List.getElem_toArray, List.getElem_cons_zero, List.getElem_cons_succ, List.setIfInBounds_toArray, List.set_cons_zero, List.set_cons_succ]
  refine wpAnyH_ready (rs := [2]) (by kernel_rfl) (by simp) ?_
  refine AllReadyH.cons rfl (fun K hK => ?_) AllReadyH.nil
  go_simp
  go_wp2_with ((go_at_call 112; refine (HS.out _ hHeld0.2.2.2).mono ?_; rintro e wq1 ⟨rfl, hbq1⟩))
  refine hK.out _ _ (by exact rf_below hHeld0 hbq1) (fun hHeld1 => ?_)
  clear hK K hHeld0
  try simp only [Act.put, List.getElem_toArray, List.getElem_cons_zero, List.getElem_cons_succ, List.setIfInBounds_toArray, List.set_cons_zero, List.set_cons_succ]
  refine wpAnyH_ready (rs := [7]) (by kernel_rfl) (by simp) ?_
  refine AllReadyH.cons rfl (fun K hK => ?_) AllReadyH.nil
  go_simp
  go_wp2_with ((go_at_call 111; refine (HT.out _ hHeld1.2.2.2).mono ?_; rintro e wq2 ⟨rfl, hbq2⟩))
  refine hK.out _ _ (by exact rf_below hHeld1 hbq2) (fun hHeld2 => ?_)
  clear hK K hHeld1
  try simp only [Act.put, List.getElem_toArray, List.getElem_cons_zero, List.getElem_cons_succ, List.setIfInBounds_toArray, List.set_cons_zero, List.set_cons_succ]
  refine wpAnyH_ready (rs := [8]) (by kernel_rfl) (by simp) ?_
  refine AllReadyH.cons rfl (fun K hK => ?_) AllReadyH.nil
  have hth := hHeld2.2.2.1
  rw [if_pos (by rfl)]
  refine wp_store_mid _ _ _ rfl _ _ (vals E).toArray rfl rfl (by rw [HVE.out]; exact hth) (by rw [HVE.out]; exact size_dig) (all_oneCell_toArray (vals_one _)) ?_
  simp only [Act.put, List.toList_toArray]
  refine hK.out _ _ (by exact rf_store hHeld2 hg1 hg2 (Nat.le_refl _) _) (fun hHeld3 => ?_)
  clear hK K hHeld2
  try simp only [Act.put, List.getElem_toArray, List.getElem_cons_zero, List.getElem_cons_succ, List.setIfInBounds_toArray, List.set_cons_zero, List.set_cons_succ]
  refine wpAnyH_done (by kernel_rfl) ?_ _
  have hl := run_loadVar_mid (P := Tryz.prog) _ w.heap.size 0 34 (vals E) _ (World.rangeAt_setCells_same wq2 w.heap.size 0 (vals E) (by rw [vals_length, HEL.out]; exact hth)) Tryz.underlying34 rfl hsz2
  have HL := hide hl
  have HS8 := hide hHeld3
  clear hl hHeld3 hth
  go_wp2
  exact bodyPost_ret (v := .agg (vals E).toArray) (results_cell1 Tryz.results110 rfl HL.out) rfl ⟨rfl, HS8.out.2.2.2⟩
end Go.Proofs.YtgkpbglllnmbeaaGreatDoor

/- The contracts of key.Public, key.Sign and key.Recover. -/
namespace Go.Proofs.YtgkpbglllnmbeaaGreatDoor
open Go.RowKit
set_option linter.unusedVariables false

theorem call_recoverF (xs : Array Value) (w : World) : (callFunc 110 xs).run Tryz.prog w = .ok (.enter 110 xs) w := by
  simp [callFunc, Tryz.func110, Tryz.f110]

/-- An element of an array by value that is an array itself. -/
theorem run_index_row (t e : TypeId) (n k m : Nat) (c : List Value) (w : World) (hu : Tryz.prog.underlying t = some (.array n e)) (hz : Sized e m) (ha : ∀ w, (isAgg e).run Tryz.prog w = .ok true w) (hk : k < n) :
    (Instr.index t (.agg c.toArray) (.int .i64 (k : Int))).run Tryz.prog w = .ok (.agg ((c.drop (k * m)).take m).toArray) w := by
  have hs : ∀ w, (sizeOf e).run Tryz.prog w = .ok m w := fun w => by
    unfold Sized at hz
    cases hq : Tryz.prog.info? e with
    | none => simp [hq] at hz
    | some i => simp [hq] at hz; simp [sizeOf, typeInfo, hq, hz]
  have hun : (underlying t).run Tryz.prog w = .ok (.array n e) w := by simp [underlying, hu]
  simp [Instr.index, asIntOf, hun, hs, hk, part, ha, Result.andThen]
theorem wpList_index_row (t e : TypeId) (n k m : Nat) (c : List Value) {w : World} {ops : Array Oper} {rest : List Oper} {o : Oper} {a : Act} {Q : Exit → Act → World → Prop} (hgd : o.guard = none) (x i : Operand) (ho : o.op = .index t x i) (hx : a.eval x = .agg c.toArray) (hi : a.eval i = .int .i64 (k : Int))
    (hu : Tryz.prog.underlying t = some (.array n e)) (hz : Sized e m) (ha : ∀ w, (isAgg e).run Tryz.prog w = .ok true w) (hk : k < n) (v : List Value) (hv : (c.drop (k * m)).take m = v)
    (h : wpList Tryz.prog ops Q rest (a.put o.dst (.agg v.toArray)) w) : wpList Tryz.prog ops Q (o :: rest) a w := by
  subst hv
  refine wpList_plain hgd fun K hK => ?_
  unfold Oper.wp
  simp only [execOp, ho, hx, hi, Sem.run_bind, Sem.run_pure, Result.andThen_ok, run_index_row t e n k m c w hu hz ha hk]
  exact hK _ _ h
theorem agg_dig (w : World) : (isAgg 34).run Tryz.prog w = .ok true w := by simp [isAgg, underlying, Tryz.underlying34]
theorem vals_part (L : List Int) (k : Nat) : ((vals L).drop (k * 32)).take 32 = vals (Ky.sigAt L k) := by
  unfold Ky.sigAt vals
  rw [List.map_take, List.map_drop, Nat.mul_comm]
theorem make_room (n : Nat) (h : n ≤ 281474976710656) (w : World) : (Instr.makeSlice 72 (.int .i64 0) (.int .i64 (n : Int))).run Tryz.prog w = .ok (.slice (some ⟨w.heap.size, 0, none⟩) 0 n) (w.alloc (.cells (zeros n) 5)) := by
  obtain ⟨i, hi, hz, hs, hby⟩ := info_u8
  have hr := run_make (P := Tryz.prog) w 72 5 i (.int .u8 0) Tryz.underlying72 hi hz .i64 .i64 0 n (by omega) (by omega) (by rw [hby]; omega) (by omega)
  simpa [zeros, Value.cells, hs] using hr
theorem Own.room (w : World) (base n : Nat) (hb : base ≤ w.heap.size) (hn : n ≤ 140737488355328) : Own (w.alloc (.cells (zeros n) 5)) base (.slice (some ⟨w.heap.size, 0, none⟩) 0 n) [] :=
  ⟨rfl, .inr ⟨w.heap.size, n, zeros n, rfl, hb, heap_alloc_new w _, Nat.zero_le _, by unfold maxLen; omega, by simp [zeros, madeCells], rfl⟩⟩

end Go.Proofs.YtgkpbglllnmbeaaGreatDoor

/- The contract of key.Recover. -/
namespace Go.Proofs.YtgkpbglllnmbeaaGreatDoor
open Go.RowKit
set_option linter.unusedVariables false

set_option maxRecDepth 100000 in
set_option maxHeartbeats 4000000 in
/-- Not as many bytes as a signature has. -/
theorem recover_bad (m : List Int) (a : Option Addr) (n cap : Nat) (w : World) (hn : n ≠ 2144) (hnm : n ≤ 9223372036854775807) :
    Calls Tryz.prog 104 #[.agg (vals m).toArray, .slice a n cap] w fun e w' => e = .returned (.tuple #[.agg (vals (List.replicate 32 0)).toArray, .iface 60 (.int .i64 3)]) ∧ Below w.heap.size w w' := by
  have hzd := zero_dig
  obtain ⟨Z, hZ⟩ : ∃ Z, Z = vals (List.replicate 32 0) := ⟨_, rfl⟩
  rw [← hZ] at hzd ⊢
  have hZl : Z.length = 32 := by rw [hZ]; simp [vals]
  have hZ1 : ∀ v ∈ Z, v.oneCell' = true := by rw [hZ]; exact vals_one _
  have hZp : ¬ Z = [] := by intro h; rw [h] at hZl; cases hZl
  have HZL := hide hZl
  have HZ1 := hide hZ1
  have hni : ¬ (n : Int) = 2144 := by omega
  have HJ0 : Hid (Is (((w.alloc (.cells (vals m).toArray 34)).alloc (.cells #[.slice a n cap] 72)).alloc (.cells Z.toArray 34)) (w.heap.size + 1 + 1) Z 34) := Is.new' _ 34 (by simp)
  have HB0 := hide (below_alloc3 w (.cells (vals m).toArray 34) (.cells #[.slice a n cap] 72) (.cells Z.toArray 34))
  clear hZ hZl hZ1
  go_enter Tryz.func104, Tryz.ntmps104
  go_wp2_with (refine wpList_store_any2 34 Z Z (w.heap.size + 1 + 1) rfl (.tmp 4) (.tmp 11) rfl rfl rfl rfl HJ0.out size_dig HZL.out HZL.out HZ1.out ?_; intro w7 hi7 hb7 hk7 hz7)
  have hr := hi7.cellsOf Tryz.underlying34 (by rw [HZL.out]; exact size_dig)
  exact bodyPost_ret (v := .tuple #[.agg Z.toArray, .iface 60 (.int .i64 3)]) (results_cell2 Tryz.results104 rfl hr) rfl ⟨rfl, hb7 _ _ HB0.out (by omega)⟩

set_option maxRecDepth 100000 in
set_option maxHeartbeats 4000000 in
theorem recover_good (m sig : List Int) (b off cap : Nat) (w : World) (hm : m.length = 32) (hmb : Sz.Byt m) (hs : sig.length = 2144) (hsb : Sz.Byt sig) (hcap : 2144 ≤ cap) (hcm : cap ≤ maxLen) (hr : w.rangeAt b off (vals sig)) (hb0 : b < w.heap.size) (ht : Tab w) (hw : 0 < w.heap.size) :
    Calls Tryz.prog 104 #[.agg (vals m).toArray, .slice (some ⟨b, off, none⟩) 2144 cap] w fun e w' => e = .returned (.tuple #[.agg (vals (Ky.recov m sig)).toArray, .nilIface]) ∧ Below w.heap.size w w' := by
  have hdl := Ky.digits_length m
  have HG : Hid (∀ W, Calls Tryz.prog 108 #[.agg (vals m).toArray] W fun e w' => e = .returned (.agg (ivals (Ky.digits m)).toArray) ∧ Below W.heap.size W w') := fun W => digitsOf_any m W hm hmb
  have hTl : ∀ i, i < 67 → (Ky.top m sig i).length = 32 := fun i hi => Ky.steps_length _ (Ky.sigAt_length _ _ (by omega)) _
  obtain ⟨T, hT⟩ : ∃ T : Nat → List Int, T = fun i => if i < 67 then Ky.top m sig i else List.replicate 32 0 := ⟨_, rfl⟩
  have hTT : ∀ i, i < 67 → T i = Ky.top m sig i := fun i hi => by rw [hT]; exact if_pos hi
  have hTL : ∀ i, (T i).length = 32 := fun i => by
    rw [hT]
    show (if i < 67 then Ky.top m sig i else List.replicate 32 0).length = 32
    split
    · exact hTl i (by assumption)
    · simp
  have hRT : Ky.rowsOf T 67 = Ky.rowsOf (Ky.top m sig) 67 := Ky.rowsOf_congr _ _ 67 hTT
  have HE : Hid (∀ W gs gd, Below w.heap.size w W → W.cell? ⟨gs, 0, none⟩ = some (.slice (some ⟨b, off, none⟩) 2144 cap) → Is W gd (ivals (Ky.digits m)) 174 → Calls Tryz.prog 109 #[.func (.func 110) #[] #[.pointer (some ⟨gs, 0, none⟩), .pointer (some ⟨gd, 0, none⟩)]] W fun e w' => e = .returned (.agg (vals (Ky.rowsOf (Ky.top m sig) 67)).toArray) ∧ Below W.heap.size W w') := fun W gs gd hW hI hG => by
    rw [← hRT]
    refine ends_any 110 #[.pointer (some ⟨gs, 0, none⟩), .pointer (some ⟨gd, 0, none⟩)] T W hTL call_recoverF (fun W2 k hW2 hk => ?_)
    rw [hTT k hk]
    exact recoverF_any gs gd b off cap (Ky.dig m k) sig k W2 (cell_below hI hW2) hs hcap hcm (range_below0 hr (hW.trans (hW2.mono hW.size)) hb0) (Nat.lt_of_lt_of_le hb0 (Nat.le_trans hW.size hW2.size)) hsb (by rw [(hG.below hW2 hG.lt).cell, ivals_get _ _ (by rw [hdl]; exact hk)]; rfl) (Ky.digits_le m hmb k) hk (ht.below (hW.trans (hW2.mono hW.size)) hw) (Nat.lt_of_lt_of_le hw (Nat.le_trans hW.size hW2.size))
  have hRl : (Ky.rowsOf (Ky.top m sig) 67).length = 2144 := by rw [← hRT]; exact Ky.rowsOf_length _ hTL 67
  have hRb : Sz.Byt (Ky.rowsOf (Ky.top m sig) 67) := Ky.rowsOf_byt _ (fun k => Ky.steps_byt _ (Ky.sigAt_byt _ _ hsb) _) 67
  have HK : Hid (∀ W b, Below w.heap.size w W → Is W b (vals (Ky.rowsOf (Ky.top m sig) 67)) 177 → Calls Tryz.prog 113 #[.int .u8 7, .slice (some ⟨b, 0, none⟩) 67 67] W fun e w' => e = .returned (.agg (vals (Ky.recov m sig)).toArray) ∧ Below W.heap.size W w') := fun W b hW hI =>
    ksum_any 7 b 0 67 67 _ W (by omega) (by omega) (by rw [hRl]) hI.range hI.lt hRb (ht.below hW hw) (Nat.lt_of_lt_of_le hw hW.size)
  have hPl : (Ky.recov m sig).length = 32 := Ky.recov_length m sig
  generalize Ky.digits m = G at *
  generalize Ky.recov m sig = D at *
  generalize Ky.rowsOf (Ky.top m sig) 67 = R at *
  obtain ⟨Z, hZ⟩ : ∃ Z, Z = vals (List.replicate 2144 0) := ⟨_, rfl⟩
  have hz := zero_ends
  rw [← hZ] at hz
  have hZl : Z.length = 2144 := by rw [hZ, vals_length, List.length_replicate]
  have hZp : ¬ Z = [] := by intro h; rw [h] at hZl; cases hZl
  obtain ⟨Y, hY⟩ : ∃ Y, Y = ivals (List.replicate 67 0) := ⟨_, rfl⟩
  have hzy := zero_dg67
  rw [← hY] at hzy
  have hYl : Y.length = 67 := by rw [hY]; simp [ivals]
  have hYp : ¬ Y = [] := by intro h; rw [h] at hYl; cases hYl
  have hzd := zero_dig
  obtain ⟨X, hX⟩ : ∃ X, X = vals (List.replicate 32 0) := ⟨_, rfl⟩
  rw [← hX] at hzd
  have hXl : X.length = 32 := by rw [hX]; simp [vals]
  have hXp : ¬ X = [] := by intro h; rw [h] at hXl; cases hXl
  have HZL := hide hZl
  have HYL := hide hYl
  have HXL := hide hXl
  have HRL := hide hRl
  have HPL := hide hPl
  have HML := hide hm
  have HDL := hide hdl
  have HI0 := hide (((Is.new w (vals m) 34).alloc (.cells #[.slice (some ⟨b, off, none⟩) 2144 cap] 72)).alloc (.cells X.toArray 34))
  have HS0 : Hid (Is (((w.alloc (.cells (vals m).toArray 34)).alloc (.cells #[.slice (some ⟨b, off, none⟩) 2144 cap] 72)).alloc (.cells X.toArray 34)) (w.heap.size + 1) [.slice (some ⟨b, off, none⟩) 2144 cap] 72) := Is.alloc (Is.new' [.slice (some ⟨b, off, none⟩) 2144 cap] 72 (by simp)) _
  have HJ0 : Hid (Is (((w.alloc (.cells (vals m).toArray 34)).alloc (.cells #[.slice (some ⟨b, off, none⟩) 2144 cap] 72)).alloc (.cells X.toArray 34)) (w.heap.size + 1 + 1) X 34) := Is.new' _ 34 (by simp)
  have HB0 := hide (below_alloc3 w (.cells (vals m).toArray 34) (.cells #[.slice (some ⟨b, off, none⟩) 2144 cap] 72) (.cells X.toArray 34))
  clear hZ hZl hY hYl hX hXl hRl hPl hRb hs hsb ht hm hmb hdl hr hTl hT hTT hTL hRT hcm hcap
  go_enter Tryz.func104, Tryz.ntmps104
  go_wp2_with (first
    | (refine wpList_load_arr2 34 (vals m) w.heap.size rfl (.tmp 2) rfl rfl HI0.out Tryz.underlying34 size_dig (by rw [vals_length]; exact HML.out) ?_)
    | (go_at_call 108; refine (HG.out _).mono ?_; rintro e w1 ⟨rfl, hb1⟩; have hb1' := HB0.out.trans (hb1.mono HB0.out.size); have hS1 := HS0.out.below hb1 HS0.out.lt; have hJ1 := HJ0.out.below hb1 HJ0.out.lt)
    | (refine wpList_store_any2 174 Y (ivals G) w1.heap.size rfl (.tmp 6) (.tmp 14) rfl rfl rfl rfl (Is.new w1 _ _) size_dg67 HYL.out (by rw [ivals_length]; exact HDL.out) (ivals_one _) ?_; intro w2 hi2 hb2 hk2 hz2; have hb2' := hb2 _ _ (hb1'.alloc hb1'.size _) hb1'.size; have hS2 := hk2 _ _ _ (by have := hS1.lt; omega) (hS1.alloc (.cells Y.toArray 174)); have hJ2 := hk2 _ _ _ (by have := hJ1.lt; omega) (hJ1.alloc (.cells Y.toArray 174)))
    | (go_at_call 109; refine (HE.out _ (w.heap.size + 1) w1.heap.size hb2' (hS2.cell 0) hi2).mono ?_; rintro e w3 ⟨rfl, hb3⟩; have hb3' := hb2'.trans (hb3.mono hb2'.size); have hJ3 := hJ2.below hb3 hJ2.lt)
    | (refine wpList_store_any2 177 Z (vals R) w3.heap.size rfl (.tmp 7) (.tmp 16) rfl rfl rfl rfl (Is.new w3 _ _) size_ends HZL.out (by rw [vals_length]; exact HRL.out) (vals_one _) ?_; intro w4 hi4 hb4 hk4 hz4; clear hz4; have hb4' := hb4 _ _ (hb3'.alloc hb3'.size _) hb3'.size; have hJ4 := hk4 _ _ _ (by have := hJ3.lt; omega) (hJ3.alloc (.cells Z.toArray 177)))
    | (go_at_call 113; refine (HK.out _ w3.heap.size hb4' hi4).mono ?_; rintro e w5 ⟨rfl, hb5⟩; have hb5' := hb4'.trans (hb5.mono hb4'.size); have hJ5 := hJ4.below hb5 hJ4.lt)
    | (refine wpList_store_any2 34 X (vals D) (w.heap.size + 1 + 1) rfl (.tmp 4) (.tmp 18) rfl rfl rfl rfl hJ5 size_dig HXL.out (by rw [vals_length]; exact HPL.out) (vals_one _) ?_; intro w7 hi7 hb7 hk7 hz7))
  have hr := hi7.cellsOf Tryz.underlying34 (by rw [vals_length, HPL.out]; exact size_dig)
  exact bodyPost_ret (v := .tuple #[.agg (vals D).toArray, .nilIface]) (results_cell2 Tryz.results104 rfl hr) rfl ⟨rfl, hb7 _ _ hb5' (by omega)⟩
/-- Any bytes. -/
theorem recover_any (v : Value) (m sig : List Int) (w : World) (h : Has w v sig) (hm : m.length = 32) (hmb : Sz.Byt m) (hsb : Sz.Byt sig) (ht : Tab w) (hw : 0 < w.heap.size) :
    Calls Tryz.prog 104 #[.agg (vals m).toArray, v] w fun e w' => e = .returned (.tuple #[.agg (vals (if sig.length = 2144 then Ky.recov m sig else List.replicate 32 0)).toArray, if sig.length = 2144 then .nilIface else .iface 60 (.int .i64 3)]) ∧ Below w.heap.size w w' := by
  rcases h with ⟨a, cap, rfl, rfl, hm1, hn⟩ | ⟨b, off, cap, rfl, h0, h1, hm1, hc⟩
  · have := recover_bad m a 0 cap w (by omega) (by omega)
    simpa using this
  · by_cases hl : sig.length = 2144
    · rw [if_pos hl, if_pos hl, hl]
      refine recover_good m sig b off cap w hm hmb hl hsb (by omega) hm1 (fun j v hv => ?_) (World.block_lt_of_cell? w _ (hc 0 h0)) ht hw
      have hj : j < sig.length := by have := (List.getElem?_eq_some_iff.1 hv).1; rwa [vals_length] at this
      rw [hc j hj, ← hv, vals_get _ _ hj]
    · rw [if_neg hl, if_neg hl]
      unfold maxLen at hm1
      exact recover_bad m (some ⟨b, off, none⟩) sig.length cap w hl (by omega)
end Go.Proofs.YtgkpbglllnmbeaaGreatDoor
