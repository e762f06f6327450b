/- The contracts of tree.Root and tree.Path. -/
import Derived.Test.YtphdnbflogobfaaDoorTeSi
import Derived.Test.YtphdnbflogobfaaDoorAs
import Derived.Test.YtphdnbflogobfaaDoorZLk
namespace Go.Proofs.YtphdnbflogobfaaDoor
open Go.RowKit
set_option linter.unusedVariables false
set_option linter.unusedSimpArgs false

/-- What Root tells of so many leaves. -/
def rootE (n : Nat) : Int := if 256 < n then 4 else 0
def rootD (DS : List (List Int)) : List Int := if 256 < DS.length then List.replicate 32 0 else if DS.length = 0 then Sh.sum [] else Te.root DS
theorem rootD_ok (DS : List (List Int)) (hd : DigOk DS) : (rootD DS).length = 32 ∧ Sz.Byt (rootD DS) := by
  unfold rootD
  split
  · exact ⟨by simp, fun x hx => by rw [List.eq_of_mem_replicate hx]; omega⟩
  · split
    · exact ⟨Mc.sum_length _, Mc.sum_byt _⟩
    · exact root_ok DS.length DS rfl (by omega) hd

set_option maxRecDepth 100000 in
set_option maxHeartbeats 400000 in
theorem root_any (v : Value) (DS : List (List Int)) (w : World) (hd : HasDigs w v DS) (ht : Tab w) (hw : 1 < w.heap.size) :
    Calls Tryd.prog 10 #[v] w fun e w' => e = .returned (.tuple #[.agg (vals (rootD DS)).toArray, errV (rootE DS.length)]) ∧ Below w.heap.size w w' := by
  have HI := hide (Is.new w (vals (List.replicate 32 0)) 26)
  have HB := hide (below_alloc w (.cells (vals (List.replicate 32 0)).toArray 26))
  have hok := rootD_ok DS hd.2
  have HR := hide hok.1
  obtain ⟨a, cap, rfl, hc, hm⟩ := hd.form
  by_cases hbig : 256 < DS.length
  · have e1 : rootD DS = List.replicate 32 0 := by unfold rootD; rw [if_pos hbig]
    have e2 : rootE DS.length = 4 := by unfold rootE; rw [if_pos hbig]
    rw [e1] at HR
    rw [e1, e2, errV_four']
    have hzd := zero_dig
    have HZ := HR
    obtain ⟨Z, hZ⟩ : ∃ Z, Z = vals (List.replicate 32 0) := ⟨_, rfl⟩
    rw [← hZ] at hzd HI HB ⊢
    have hZl : Z.length = 32 := by rw [hZ]; simp [vals]
    have hZp : ¬ Z = [] := by intro h; rw [h] at hZl; cases hZl
    have HZL := hide hZl
    have HZE := hide hZ
    generalize DS.length = n at *
    have hg : (256 : Int) < (n : Int) := by omega
    clear hd hok e1 e2 hZ hZl ht
    go_enter Tryd.func10, Tryd.ntmps10
    go_wp2_with (refine te_store Z (List.replicate 32 0) w.heap.size rfl (.tmp 2) (.tmp 7) rfl rfl (by rw [← HZE.out]; rfl) rfl HI.out HZL.out (by simp) ?_; intro w7 hi7 hb7 hz7)
    rw [← HZE.out] at hi7
    have hr := hi7.cellsOf Tryd.underlying26 (by rw [HZL.out]; exact size_dig)
    exact bodyPost_ret (v := .tuple #[.agg Z.toArray, .iface 24 (.int .i64 4)]) (results_cell2 Tryd.results10 rfl hr) rfl ⟨rfl, HB.out.trans (hb7.under HB.out.size (Nat.le_refl _))⟩
  · have e2 : rootE DS.length = 0 := by unfold rootE; rw [if_neg hbig]
    rw [e2, show errV 0 = .nilIface from rfl]
    by_cases h0 : DS.length = 0
    · have e1 : rootD DS = Sh.sum [] := by unfold rootD; rw [if_neg hbig, if_pos h0]
      have HS : Hid (∀ W, Below w.heap.size w W → Calls Tryd.prog 26 #[.slice none 0 0] W fun e w' => e = .returned (.agg (vals (rootD DS)).toArray) ∧ Below W.heap.size W w') := hide (fun W hW => by
        rw [e1]; exact sum_any _ [] W (.inl ⟨_, _, rfl, rfl, by unfold maxLen; omega, fun _ => rfl⟩) (fun x hx => by cases hx) (ht.below hW hw) (Nat.lt_of_lt_of_le hw hW.size) (by simp))
      generalize rootD DS = R at *
      rw [h0]
      clear hd hok e1 e2 ht hbig h0 hc
      go_enter Tryd.func10, Tryd.ntmps10
      go_wp2_with fail
      refine (HS.out _ HB.out).mono ?_
      rintro e w2 ⟨rfl, hb2⟩
      have HI2 := hide (HI.out.below hb2 HI.out.lt)
      have HB2 := hide (HB.out.trans (hb2.mono HB.out.size))
      clear hb2
      go_wp2_with (refine te_store (vals (List.replicate 32 0)) R w.heap.size rfl (.tmp 2) (.tmp 12) rfl rfl rfl rfl HI2.out (by simp [vals]) HR.out ?_; intro w7 hi7 hb7 hz7)
      have hr := hi7.cellsOf Tryd.underlying26 (by rw [vals_length, HR.out]; exact size_dig)
      exact bodyPost_ret (v := .tuple #[.agg (vals R).toArray, .nilIface]) (results_cell2 Tryd.results10 rfl hr) rfl ⟨rfl, HB2.out.trans (hb7.under HB2.out.size (Nat.le_refl _))⟩
    · have e1 : rootD DS = Te.root DS := by unfold rootD; rw [if_neg hbig, if_neg h0]
      obtain ⟨b, off, cap2, hv, _, _, hat⟩ := hd.at' (by omega)
      injection hv with ea en ec
      subst ea ec
      have HS : Hid (∀ W, Below w.heap.size w W → Calls Tryd.prog 27 #[.slice (some ⟨b, off, none⟩) DS.length cap] W fun e w' => e = .returned (.agg (vals (rootD DS)).toArray) ∧ Below W.heap.size W w') := hide (fun W hW => by
        rw [e1]; exact rootOf_any DS.length DS b off cap W rfl (by omega) (by omega) (hat.below hW) hc hm (ht.below hW hw) (Nat.lt_of_lt_of_le hw hW.size))
      generalize rootD DS = R at *
      generalize DS.length = n at *
      have hg : ¬ (256 : Int) < (n : Int) := by omega
      have hg0 : ¬ (n : Int) = 0 := by omega
      have hg1 : ((n : Int) == 0) = false := by simpa using hg0
      clear hd hok e1 e2 ht hat
      go_enter Tryd.func10, Tryd.ntmps10
      go_wp2_with fail
      refine (HS.out _ HB.out).mono ?_
      rintro e w2 ⟨rfl, hb2⟩
      have HI2 := hide (HI.out.below hb2 HI.out.lt)
      have HB2 := hide (HB.out.trans (hb2.mono HB.out.size))
      clear hb2
      go_wp2_with (refine te_store (vals (List.replicate 32 0)) R w.heap.size rfl (.tmp 2) (.tmp 14) rfl rfl rfl rfl HI2.out (by simp [vals]) HR.out ?_; intro w7 hi7 hb7 hz7)
      have hr := hi7.cellsOf Tryd.underlying26 (by rw [vals_length, HR.out]; exact size_dig)
      exact bodyPost_ret (v := .tuple #[.agg (vals R).toArray, .nilIface]) (results_cell2 Tryd.results10 rfl hr) rfl ⟨rfl, HB2.out.trans (hb7.under HB2.out.size (Nat.le_refl _))⟩

/-- What Path tells. -/
def pathE (i : Int) (n : Nat) : Int := if 256 < n then 4 else if i < 0 ∨ (n : Int) ≤ i then 2 else 0
def pathD (DS : List (List Int)) (i : Int) : List (List Int) := if 256 < DS.length then [] else if i < 0 ∨ (DS.length : Int) ≤ i then [] else Te.path DS i.toNat

set_option maxRecDepth 100000 in
set_option maxHeartbeats 400000 in
theorem path_any (v : Value) (DS : List (List Int)) (i : Int) (w : World) (hd : HasDigs w v DS) (ht : Tab w) (hw : 1 < w.heap.size) :
    Calls Tryd.prog 15 #[v, .int .i64 i] w fun e w' => ∃ u, e = .returned (.tuple #[u, errV (pathE i DS.length)]) ∧ OwnDigs w' w.heap.size u (pathD DS i) ∧ Below w.heap.size w w' := by
  obtain ⟨a, cap, rfl, hc, hm⟩ := hd.form
  by_cases hbig : 256 < DS.length
  · have e1 : pathD DS i = [] := by unfold pathD; rw [if_pos hbig]
    have e2 : pathE i DS.length = 4 := by unfold pathE; rw [if_pos hbig]
    rw [e1, e2, errV_four']
    generalize DS.length = n at *
    have hg : (256 : Int) < (n : Int) := by omega
    clear hd e1 e2 ht
    go_enter Tryd.func15, Tryd.ntmps15
    go_wp2
    exact bodyPost_ret (v := .tuple #[.slice none 0 0, .iface 24 (.int .i64 4)]) (by simp [results, Tryd.results15]) rfl ⟨_, rfl, OwnDigs.nil _ _, Below.refl _ _⟩
  · by_cases hi : i < 0
    · have e1 : pathD DS i = [] := by unfold pathD; rw [if_neg hbig, if_pos (.inl hi)]
      have e2 : pathE i DS.length = 2 := by unfold pathE; rw [if_neg hbig, if_pos (.inl hi)]
      rw [e1, e2, errV_two']
      generalize DS.length = n at *
      have hg : ¬ (256 : Int) < (n : Int) := by omega
      clear hd e1 e2 ht
      go_enter Tryd.func15, Tryd.ntmps15
      go_wp2
      exact bodyPost_ret (v := .tuple #[.slice none 0 0, .iface 24 (.int .i64 2)]) (by simp [results, Tryd.results15]) rfl ⟨_, rfl, OwnDigs.nil _ _, Below.refl _ _⟩
    · by_cases hj : (DS.length : Int) ≤ i
      · have e1 : pathD DS i = [] := by unfold pathD; rw [if_neg hbig, if_pos (.inr hj)]
        have e2 : pathE i DS.length = 2 := by unfold pathE; rw [if_neg hbig, if_pos (.inr hj)]
        rw [e1, e2, errV_two']
        generalize DS.length = n at *
        have hg : ¬ (256 : Int) < (n : Int) := by omega
        clear hd e1 e2 ht
        go_enter Tryd.func15, Tryd.ntmps15
        go_wp2
        exact bodyPost_ret (v := .tuple #[.slice none 0 0, .iface 24 (.int .i64 2)]) (by simp [results, Tryd.results15]) rfl ⟨_, rfl, OwnDigs.nil _ _, Below.refl _ _⟩
      · have e1 : pathD DS i = Te.path DS i.toNat := by unfold pathD; rw [if_neg hbig, if_neg (by omega)]
        have e2 : pathE i DS.length = 0 := by unfold pathE; rw [if_neg hbig, if_neg (by omega)]
        obtain ⟨b, off, cap2, hv, _, _, hat⟩ := hd.at' (by omega)
        injection hv with ea en ec
        subst ea ec
        have HS : Hid (∀ W, Below w.heap.size w W → Calls Tryd.prog 30 #[.slice (some ⟨b, off, none⟩) DS.length cap, .int .i64 i] W fun e w' => ∃ u, e = .returned u ∧ OwnDigs w' W.heap.size u (pathD DS i) ∧ Below W.heap.size W w') := hide (fun W hW => by
          have := pathOf_any DS.length DS i.toNat b off cap W rfl (by omega) (by omega) (by omega) (hat.below hW) hc hm (ht.below hW hw) (Nat.lt_of_lt_of_le hw hW.size)
          rw [e1]
          rwa [show ((i.toNat : Nat) : Int) = i by omega] at this)
        rw [e2, show errV 0 = .nilIface from rfl]
        generalize pathD DS i = R at *
        generalize DS.length = n at *
        have hg : ¬ (256 : Int) < (n : Int) := by omega
        have HB := hide (Below.refl w.heap.size w)
        clear hd e1 e2 ht hat
        go_enter Tryd.func15, Tryd.ntmps15
        go_wp2_with fail
        refine (HS.out _ HB.out).mono ?_
        rintro e w2 ⟨u, rfl, ho2, hb2⟩
        go_wp2
        exact bodyPost_ret (v := .tuple #[u, .nilIface]) (by simp [results, Tryd.results15]) rfl ⟨_, rfl, ho2, hb2⟩
end Go.Proofs.YtphdnbflogobfaaDoor
