/- The contracts of digitsOf and Digits: the numbers that a digest is signed by. -/
import Derived.Test.YtkdihbgjeanjdaaDoorShEq
import Derived.Test.YtkdihbgjeanjdaaDoorKd
import Derived.WalkSmall
import Derived.BigQuiet
import Derived.Deep.QuietTactic
namespace Go.Proofs.YtkdihbgjeanjdaaDoor
open Go.RowKit
set_option linter.unusedVariables false

/-- The laws on whole blocks, the operation's form asked first. -/
theorem wpList_load_arr2 (t : TypeId) (c : List Value) (b : Nat) {n m : Nat} {e : TypeId} {w : World} {ops : Array Oper} {rest : List Oper} {o : Oper} {a : Act} {Q : Exit → Act → World → Prop} (hgd : o.guard = none) (s : Operand) (ho : o.op = .load t s) (hs : a.eval s = .pointer (some ⟨b, 0, none⟩))
    (hi : Is w b c t) (hu : Tryd.prog.underlying t = some (.array n e)) (hz : Sized t m) (hc : c.length = m)
    (h : wpList Tryd.prog ops Q rest (a.put o.dst (.agg c.toArray)) w) : wpList Tryd.prog ops Q (o :: rest) a w := wpList_load_arr t c b hi hu hz hc hgd s ho hs h
theorem wpList_store_any2 (t : TypeId) (c c' : List Value) (b : Nat) {m : Nat} {w : World} {ops : Array Oper} {rest : List Oper} {o : Oper} {a : Act} {Q : Exit → Act → World → Prop} (hgd : o.guard = none) (s x : Operand) (ho : o.op = .store t s x) (hs : a.eval s = .pointer (some ⟨b, 0, none⟩)) (hx : a.eval x = .agg c'.toArray) (hd : o.dst = none)
    (hi : Is w b c t) (hz : Sized t m) (hc : c.length = m) (hc' : c'.length = m) (h1 : ∀ v ∈ c', v.oneCell' = true)
    (h : ∀ w2, Is w2 b c' t → (∀ B w0, Below B w0 w → B ≤ b → Below B w0 w2) → (∀ b' c2 t2, b' ≠ b → Is w b' c2 t2 → Is w2 b' c2 t2) → w2.heap.size = w.heap.size → wpList Tryd.prog ops Q rest a w2) : wpList Tryd.prog ops Q (o :: rest) a w := wpList_store_any t c c' b hi hz hc hc' h1 hgd s x ho hs hx hd h

/-- Numbers as values. -/
def ivals (l : List Nat) : List Value := l.map (fun (x : Nat) => Value.int .i64 (x : Int))
theorem ivals_length (l : List Nat) : (ivals l).length = l.length := by simp [ivals]
theorem ivals_get (l : List Nat) (j : Nat) (h : j < l.length) : (ivals l)[j]? = some (.int .i64 ((l.getD j 0 : Nat) : Int)) := by
  simp [ivals, List.getD, List.getElem?_eq_getElem h]
theorem ivals_one (l : List Nat) : ∀ u ∈ ivals l, u.oneCell' = true := by
  intro u hu
  obtain ⟨x, _, rfl⟩ := List.mem_map.1 hu
  rfl
theorem ivals_set (l : List Nat) (i : Nat) (x : Nat) : (ivals l).set i (.int .i64 (x : Int)) = ivals (l.set i x) := by unfold ivals; rw [← List.map_set]

/-- The first 2 k digits, and 0 behind them. -/
def pdg (m : List Int) (k : Nat) : List Nat := (List.range 67).map fun i => if i < 2 * k then Ky.nib m i else 0
theorem pdg_length (m : List Int) (k : Nat) : (pdg m k).length = 67 := by simp [pdg]
theorem pdg_zero (m : List Int) : pdg m 0 = List.replicate 67 0 := List.eq_replicate_iff.2 ⟨by simp [pdg], fun b hb => by
  obtain ⟨i, _, rfl⟩ := List.mem_map.1 hb
  rw [if_neg (by omega)]⟩
theorem pdg_step (m : List Int) (k : Nat) (h : k < 32) : ((pdg m k).set (2 * k) (Ky.nib m (2 * k))).set (2 * k + 1) (Ky.nib m (2 * k + 1)) = pdg m (k + 1) := by
  apply List.ext_getElem
  · simp [pdg]
  · intro i h1 h2
    simp only [List.getElem_set]
    by_cases e1 : 2 * k + 1 = i
    · subst e1; simp [pdg]; omega
    · rw [if_neg e1]
      by_cases e0 : 2 * k = i
      · subst e0; simp [pdg]
      · rw [if_neg e0]
        simp only [pdg, List.getElem_map, List.getElem_range]
        by_cases hi : i < 2 * k
        · rw [if_pos hi, if_pos (by omega)]
        · rw [if_neg hi, if_neg (by omega)]
theorem pdg_all (m : List Int) : (((pdg m 32).set 64 (Ky.lack m 64 / 256)).set 65 (Ky.lack m 64 / 16 % 16)).set 66 (Ky.lack m 64 % 16) = Ky.digits m := by
  apply List.ext_getElem
  · rw [Ky.digits_length]; simp [pdg]
  · intro i h1 h2
    have hd := Ky.digits_chk m
    have e : (Ky.digits m).getD i 0 = (Ky.digits m)[i] := by simp [List.getD, List.getElem?_eq_getElem h2]
    rw [← e]
    simp only [List.getElem_set]
    by_cases e2 : 66 = i
    · subst e2; rw [if_pos rfl]; exact hd.2.2.symm
    · rw [if_neg e2]
      by_cases e1 : 65 = i
      · subst e1; rw [if_pos rfl]; exact hd.2.1.symm
      · rw [if_neg e1]
        by_cases e0 : 64 = i
        · subst e0; rw [if_pos rfl]; exact hd.1.symm
        · have h6 : i < 64 := by rw [Ky.digits_length] at h2; omega
          rw [if_neg e0, Ky.digits_nib m i h6]
          simp [pdg, h6]
theorem nib_even (m : List Int) (k : Nat) : Ky.nib m (2 * k) = (m.getD k 0).toNat / 16 := by
  unfold Ky.nib
  rw [show 2 * k % 2 = 0 by omega, show 2 * k / 2 = k by omega]; simp
theorem nib_odd (m : List Int) (k : Nat) : Ky.nib m (2 * k + 1) = (m.getD k 0).toNat % 16 := by
  unfold Ky.nib
  rw [show (2 * k + 1) % 2 = 1 by omega, show (2 * k + 1) / 2 = k by omega]; simp
theorem lack_two (m : List Int) (k : Nat) : Ky.lack m (2 * (k + 1)) = Ky.lack m (2 * k) + (15 - Ky.nib m (2 * k)) + (15 - Ky.nib m (2 * k + 1)) := rfl

theorem kd_size_u8 : Sized 5 1 := by unfold Sized; kernel_rfl
theorem kd_agg_u8 (w : World) : (isAgg 5).run Tryd.prog w = .ok false w := by simp [isAgg, underlying, Tryd.underlying5]
theorem size_dg67 : Sized 72 67 := by unfold Sized; kernel_rfl
theorem zero_dg67 (w : World) : (zeroValue 72).run Tryd.prog w = .ok (.agg (ivals (List.replicate 67 0)).toArray) w := by
  have h : (Tryd.prog.info? 72).map (fun i => (i.zero, i.size)) = some (some (.agg (ivals (List.replicate 67 0)).toArray), 67) := by kernel_rfl
  exact (zero_of_info h).1 w

set_option maxRecDepth 100000 in
set_option maxHeartbeats 4000000 in
theorem digitsOf_any (m : List Int) (w : World) (hm : m.length = 32) (hb : Sz.Byt m) :
    Calls Tryd.prog 37 #[.agg (vals m).toArray] w fun e w' => e = .returned (.agg (ivals (Ky.digits m)).toArray) ∧ Below w.heap.size w w' := by
  obtain ⟨Z, hZ⟩ : ∃ Z, Z = ivals (List.replicate 67 0) := ⟨_, rfl⟩
  have hz := zero_dg67
  rw [← hZ] at hz
  have hZl : Z.length = 67 := by rw [hZ]; simp [ivals]
  have hZp : ¬ Z = [] := by intro h; rw [h] at hZl; cases hZl
  have HI0 := hide (Is.new w (vals m) 25)
  have HM := hide hm
  have HZL := hide hZl
  have HZZ : Hid (Z = ivals (pdg m 0)) := by show _ = _; rw [hZ, pdg_zero]
  clear hZ hZl hm
  go_enter Tryd.func37, Tryd.ntmps37
  go_wp2_with (refine wpList_load_arr 25 (vals m) w.heap.size ((HI0.out.alloc _).alloc _) Tryd.underlying25 size_dig (by rw [vals_length]; exact HM.out) rfl (.tmp 1) rfl rfl ?_)
  go_loopw [4, 10] (fun l i wr => ∃ k : Nat, k ≤ 32 ∧ l = .int .i64 (Ky.lack m (2 * k) : Nat) ∧ i = .int .i64 k ∧ Below w.heap.size w wr ∧ Is wr (w.heap.size + 1) Z 72 ∧ Is wr (w.heap.size + 2) (ivals (pdg m k)) 72) (fun _ i _ => 32 - (intOf i).toNat)
  case atStart => exact ⟨0, by omega, rfl, rfl, below_alloc3 _ _ _ _, (Is.new' Z 72 (by simp)).alloc _, by rw [← HZZ.out]; exact Is.new' Z 72 (by simp)⟩
  case round =>
    obtain ⟨k, hk, rfl, rfl, hbel, h1, h2⟩ := hrel
    have hll := Ky.lack_le m (2 * k)
    clear HI0 hz
    by_cases hk8 : k < 32
    · have hv := vals_get m k (by rw [HM.out]; exact hk8)
      have hbk := hb.getD k
      have hst := hide (pdg_step m k hk8)
      have hl2 := hide (lack_two m k)
      rw [nib_even, nib_odd] at hst hl2
      obtain ⟨x, hx⟩ := Int.eq_ofNat_of_zero_le hbk.1
      have hx2 : x < 256 := by omega
      rw [hx] at hv
      rw [hx, Int.toNat_natCast] at hst hl2
      have hg : ∀ j, j < 67 → wr.cell? ⟨w.heap.size + 2, j, none⟩ = some (.int .i64 (((pdg m k).getD j 0 : Nat) : Int)) := fun j hj => by rw [h2.cell, ivals_get _ _ (by rw [pdg_length]; exact hj)]
      have g0 := hg (2 * k) (by omega)
      have g1 := hg (2 * k + 1) (by omega)
      have f0 := h2.frozen (2 * k)
      have f1 := h2.frozen (2 * k + 1)
      generalize (pdg m k).getD (2 * k) 0 = y0 at *
      generalize (pdg m k).getD (2 * k + 1) 0 = y1 at *
      generalize Ky.lack m (2 * k) = L at *
      have HV := hide hv
      have H1 := hide h1
      have H2 := hide h2
      clear h1 h2 hg hv hx hbk
      go_wp2_with (refine wpList_index_any 25 5 32 k (vals m) (.int .u8 (x : Int)) Tryd.underlying25 kd_size_u8 kd_agg_u8 hk8 HV.out rfl (.tmp 9) (.tmp 10) rfl rfl rfl ?_)
      go_roundw
      case rel =>
        have e0 : (x : Int) / 16 = ((x / 16 : Nat) : Int) := by omega
        have e1 : (x : Int) % 16 = ((x % 16 : Nat) : Int) := by omega
        refine ⟨k + 1, by omega, ?_, by go_num, ?_, ?_, ?_⟩
        · rw [hl2.out]; congr 1; omega
        · exact (hbel.setCell (p := ⟨w.heap.size + 2, 2 * k, none⟩) (by simp) _).setCell (p := ⟨w.heap.size + 2, 2 * k + 1, none⟩) (by simp) _
        · have hne : w.heap.size + 2 ≠ w.heap.size + 1 := by omega
          exact (H1.out.other ⟨w.heap.size + 2, 2 * k, none⟩ _ hne).other ⟨w.heap.size + 2, 2 * k + 1, none⟩ _ hne
        · rw [e0, e1, ← hst.out, ← ivals_set, ← ivals_set]
          exact (H2.out.set _ _).set _ _
      case measure => simp [intOf]; omega
    · have hk' : k = 32 := by omega
      have hkn : ¬ (k : Int) < 32 := by omega
      have hst := hide (pdg_all m)
      rw [hk'] at h2 hll ⊢
      rw [show 2 * 32 = 64 from rfl] at hll ⊢
      have hg : ∀ j, j < 67 → wr.cell? ⟨w.heap.size + 2, j, none⟩ = some (.int .i64 (((pdg m 32).getD j 0 : Nat) : Int)) := fun j hj => by rw [h2.cell, ivals_get _ _ (by rw [pdg_length]; exact hj)]
      have g0 := hg 64 (by omega)
      have g1 := hg 65 (by omega)
      have g2 := hg 66 (by omega)
      have f0 := h2.frozen 64
      have f1 := h2.frozen 65
      have f2 := h2.frozen 66
      generalize (pdg m 32).getD 64 0 = y0 at *
      generalize (pdg m 32).getD 65 0 = y1 at *
      generalize (pdg m 32).getD 66 0 = y2 at *
      generalize Ky.lack m 64 = L at *
      have hDl := Ky.digits_length m
      generalize hD : Ky.digits m = D at *
      have HD := hide hD
      have HDL := hide hDl
      have e0 : (L : Int) / 256 = ((L / 256 : Nat) : Int) := by omega
      have e1 : (L : Int) / 16 % 16 = ((L / 16 % 16 : Nat) : Int) := by omega
      have e2 : (L : Int) % 16 = ((L % 16 : Nat) : Int) := by omega
      have hI : ∀ W, W = (((wr.setCell ⟨w.heap.size + 1 + 1, 64, none⟩ (.int .i64 ((L : Int) / 256))).setCell ⟨w.heap.size + 1 + 1, 65, none⟩ (.int .i64 ((L : Int) / 16 % 16))).setCell ⟨w.heap.size + 1 + 1, 66, none⟩ (.int .i64 ((L : Int) % 16))) →
          Is W (w.heap.size + 1 + 1) (ivals D) 72 ∧ Is W (w.heap.size + 1) Z 72 ∧ Below w.heap.size w W := fun W hW => by
        subst hW
        have hne : w.heap.size + 2 ≠ w.heap.size + 1 := by omega
        refine ⟨?_, ((h1.other ⟨w.heap.size + 2, 64, none⟩ _ hne).other ⟨w.heap.size + 2, 65, none⟩ _ hne).other ⟨w.heap.size + 2, 66, none⟩ _ hne,
          ((hbel.setCell (p := ⟨w.heap.size + 2, 64, none⟩) (by simp) _).setCell (p := ⟨w.heap.size + 2, 65, none⟩) (by simp) _).setCell (p := ⟨w.heap.size + 2, 66, none⟩) (by simp) _⟩
        rw [← hst.out, e0, e1, e2, ← ivals_set, ← ivals_set, ← ivals_set]
        exact ((h2.set _ _).set _ _).set _ _
      have hI := hI _ rfl
      have HI := hide hI
      clear hI e0 e1 e2 h1 h2 hg hk' hk8 hk hDl hD
      go_wp2_with (first
        | (refine wpList_load_arr2 72 (ivals D) (w.heap.size + 1 + 1) rfl (.tmp 3) rfl rfl HI.out.1 Tryd.underlying72 size_dg67 (by rw [ivals_length]; exact HDL.out) ?_)
        | (refine wpList_store_any2 72 Z (ivals D) (w.heap.size + 1) rfl (.tmp 2) (.tmp 47) rfl rfl rfl rfl HI.out.2.1 size_dg67 HZL.out (by rw [ivals_length]; exact HDL.out) (ivals_one _) ?_; intro w2 hi2 hb2 hk2 hz2))
      have hr := hi2.cellsOf Tryd.underlying72 (by rw [ivals_length, HDL.out]; exact size_dg67)
      exact bodyPost_ret (v := .agg (ivals D).toArray) (results_cell1 Tryd.results37 rfl hr) rfl ⟨by rw [HD.out], hb2 _ _ HI.out.2.2 (Nat.le_succ _)⟩

end Go.Proofs.YtkdihbgjeanjdaaDoor
