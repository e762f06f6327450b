/- The walk of TreeRoots. -/
import Derived.Test.YtphdnbflogobfaaDoorTeSo
import Derived.Test.YtphdnbflogobfaaDoorTold2
namespace Go.Proofs.YtphdnbflogobfaaDoor
open Go.RowKit
set_option linter.unusedVariables false
set_option linter.unusedSimpArgs false

theorem rrootD_any (v : Value) (DS : List (List Int)) (w : World) (hd : HasDigs w v DS) (h : DS.length ≤ 256) :
    Calls Tryd.prog 9 #[v] w fun e w' => e = .returned (.agg (vals (rootD DS)).toArray) ∧ Below w.heap.size w w' := by
  obtain ⟨a, cap, rfl, hc, hm⟩ := hd.form
  by_cases h0 : DS.length = 0
  · have e : rootD DS = Sh.sum [] := by unfold rootD; rw [if_neg (by omega), if_pos h0]
    rw [e, h0]
    exact rroot_nil a cap w
  · have e : rootD DS = Te.root DS := by unfold rootD; rw [if_neg (by omega), if_neg h0]
    obtain ⟨b, off, cap2, hv, h1, h2, hat⟩ := hd.at' (by omega)
    injection hv with e1 e2 e3
    subst e1 e3
    rw [e]
    exact rroot_any DS.length DS b off cap w rfl (by omega) h hat h1 h2

set_option maxRecDepth 100000 in
set_option maxHeartbeats 4000000 in
theorem treeRoots_walk (v : Value) (DS : List (List Int)) (u : Value) (l : List Int) (w : World) (hd : HasDigs w v DS) (hl : Has w u l) (hb : Sz.Byt l) (hlen : l.length ≤ 140737488351232) (ht : Tab w) (hw : 1 < w.heap.size) (hE : ErrVar w) :
    Calls Tryd.prog 3 #[v, u] w fun e w' => e = .returned (.bool true) ∧ Below w.heap.size w w' := by
  have HTR := hide (fun W (hW : Below w.heap.size w W) => root_any v DS W (hd.below hW) (ht.below hW hw) (Nat.lt_of_lt_of_le hw hW.size))
  have HTL := hide (fun W (hW : Below w.heap.size w W) => leaf_any l u W (hl.below hW) hb (by omega) (ht.below hW hw) (Nat.lt_of_lt_of_le hw hW.size))
  have HRL := hide (fun W (hW : Below w.heap.size w W) => rleaf_any l u W (hl.below hW) hb (by omega))
  have HER : Hid (∀ W, Below w.heap.size w W → Calls Tryd.prog 11 #[errV (rootE DS.length), .int .i64 (rootE DS.length)] W fun e w' => e = .returned (.bool true) ∧ Below W.heap.size W w') := hide (fun W hW => by
    have := error_any (rootE DS.length) (rootE DS.length) W (hE.below hW)
    rwa [beq_self_eq_true] at this)
  have hR := (rootD_ok DS hd.2).1
  have hD : (Te.leaf l).length = 32 := Mc.sum_length _
  have hgd := guard_dig
  have hqd := fun w' => dig_eq (Te.leaf l) (Te.leaf l) hD hD w'
  rw [decide_eq_true rfl] at hqd
  have hqr := fun w' => dig_eq (rootD DS) (rootD DS) hR hR w'
  rw [decide_eq_true rfl] at hqr
  obtain ⟨a, cap, rfl, hc, hm⟩ := hd.form
  obtain ⟨ua, uc, rfl⟩ := hl.form
  by_cases hbig : 256 < DS.length
  · have e1 : rootD DS = List.replicate 32 0 := by unfold rootD; rw [if_pos hbig]
    have e2 : rootE DS.length = 4 := by unfold rootE; rw [if_pos hbig]
    rw [e2, errV_four'] at HTR HER
    have hzd := zero_dig
    rw [e1] at HTR hR hqr
    obtain ⟨R, hRe⟩ : ∃ R, R = List.replicate 32 (0 : Int) := ⟨_, rfl⟩
    rw [← hRe] at HTR hR hqr hzd
    have HR := hide hR
    have hRp : ¬ vals R = [] := by intro h; have := vals_length R; rw [h, hR] at this; cases this
    have HS0 : Hid (BoxS w [(w.heap.size, R)] (w.alloc (.cells (vals R).toArray 26))) := ⟨below_alloc w _, fun p hp => by rw [List.mem_singleton.1 hp]; exact Is.new w _ _⟩
    generalize Te.leaf l = D at *
    generalize DS.length = n at *
    generalize l.length = m at *
    have hg : (256 : Int) < (n : Int) := by omega
    clear hd hl hb hlen ht hE hR hD e1 e2 hRe
    go_enter Tryd.func3, Tryd.ntmps3
    go_wp2_with (first
      | (go_at_call 10; refine (HTR.out _ HS0.out.below).mono ?_; rintro e w3 ⟨rfl, hbw3⟩; have HSw3 := hide (HS0.out.call hbw3); clear hbw3)
      | (refine te_store (vals R) R w3.heap.size rfl (.tmp 7) (.tmp 18) rfl rfl rfl rfl (Is.new w3 _ _) (by rw [vals_length]; exact HR.out) HR.out ?_; intro w4 hiw4 hbw4 hzw4; have hbw4' : Below w3.heap.size w3 w4 := (below_alloc w3 (.cells (vals R).toArray 26)).trans (hbw4.under (below_alloc w3 _).size (Nat.le_refl _)); have HSw4 := hide (HSw3.out.new hbw4' hiw4); clear hiw4 hbw4 hbw4' hzw4)
      | (go_at_call 11; refine (HER.out _ HSw4.out.below).mono ?_; rintro e w5 ⟨rfl, hbw5⟩; have HSw5 := hide (HSw4.out.call hbw5); clear hbw5)
      | (refine wpList_load_arrG 26 (vals R) (w3.heap.size) (.tmp 7) rfl rfl (by rfl) (HSw5.out.get (w3.heap.size) R (by simp)) Tryd.underlying26 size_dig (by rw [vals_length]; exact HR.out) ?_)
      | (refine wpList_load_arrG 26 (vals R) (w.heap.size) (.tmp 6) rfl rfl (by rfl) (HSw5.out.get (w.heap.size) R (by simp)) Tryd.underlying26 size_dig (by rw [vals_length]; exact HR.out) ?_)
      | (go_at_call 12; refine (HTL.out _ HSw5.out.below).mono ?_; rintro e w6 ⟨rfl, hbw6⟩; have HSw6 := hide (HSw5.out.call hbw6); clear hbw6)
      | (go_at_call 13; refine (HRL.out _ HSw6.out.below).mono ?_; rintro e w7 ⟨rfl, hbw7⟩; have HSw7 := hide (HSw6.out.call hbw7); clear hbw7))
    exact bodyPost_ret (v := .bool true) (by simp [results, Tryd.results3]) rfl ⟨rfl, HSw7.out.below⟩
  · have e2 : rootE DS.length = 0 := by unfold rootE; rw [if_neg hbig]
    rw [e2, show errV 0 = .nilIface from rfl] at HTR HER
    have HRR := hide (fun W (hW : Below w.heap.size w W) => rrootD_any _ DS W (hd.below hW) (by omega))
    have HS0 : Hid (BoxS w [(w.heap.size, List.replicate 32 0)] (w.alloc (.cells (vals (List.replicate 32 0)).toArray 26))) := ⟨below_alloc w _, fun p hp => by rw [List.mem_singleton.1 hp]; exact Is.new w _ _⟩
    generalize rootD DS = R at *
    have HR := hide hR
    generalize Te.leaf l = D at *
    generalize DS.length = n at *
    generalize l.length = m at *
    have hg : ¬ (256 : Int) < (n : Int) := by omega
    clear hd hl hb hlen ht hE hR hD e2
    go_enter Tryd.func3, Tryd.ntmps3
    go_wp2_with (first
      | (go_at_call 9; refine (HRR.out _ HS0.out.below).mono ?_; rintro e w1 ⟨rfl, hbw1⟩; have HSw1 := hide (HS0.out.call hbw1); clear hbw1)
      | (refine te_store (vals (List.replicate 32 0)) R w.heap.size rfl (.tmp 6) (.tmp 14) rfl rfl rfl rfl (HSw1.out.get w.heap.size _ (by simp)) (by simp [vals]) HR.out ?_; intro w2 hi2 hb2 hz2; have HSw2 : Hid (BoxS w [(w.heap.size, R)] w2) := ⟨HSw1.out.below.trans (hb2.under HSw1.out.below.size (Nat.le_refl _)), fun p hp => by rw [List.mem_singleton.1 hp]; exact hi2⟩; clear hi2 hb2 hz2)
      | (go_at_call 10; refine (HTR.out _ HSw2.out.below).mono ?_; rintro e w3 ⟨rfl, hbw3⟩; have HSw3 := hide (HSw2.out.call hbw3); clear hbw3)
      | (refine te_store (vals (List.replicate 32 0)) R w3.heap.size rfl (.tmp 7) (.tmp 18) rfl rfl rfl rfl (Is.new w3 _ _) (by simp [vals]) HR.out ?_; intro w4 hiw4 hbw4 hzw4; have hbw4' : Below w3.heap.size w3 w4 := (below_alloc w3 (.cells (vals (List.replicate 32 0)).toArray 26)).trans (hbw4.under (below_alloc w3 _).size (Nat.le_refl _)); have HSw4 := hide (HSw3.out.new hbw4' hiw4); clear hiw4 hbw4 hbw4' hzw4)
      | (go_at_call 11; refine (HER.out _ HSw4.out.below).mono ?_; rintro e w5 ⟨rfl, hbw5⟩; have HSw5 := hide (HSw4.out.call hbw5); clear hbw5)
      | (refine wpList_load_arrG 26 (vals R) (w3.heap.size) (.tmp 7) rfl rfl (by rfl) (HSw5.out.get (w3.heap.size) R (by simp)) Tryd.underlying26 size_dig (by rw [vals_length]; exact HR.out) ?_)
      | (refine wpList_load_arrG 26 (vals R) (w.heap.size) (.tmp 6) rfl rfl (by rfl) (HSw5.out.get (w.heap.size) R (by simp)) Tryd.underlying26 size_dig (by rw [vals_length]; exact HR.out) ?_)
      | (go_at_call 12; refine (HTL.out _ HSw5.out.below).mono ?_; rintro e w6 ⟨rfl, hbw6⟩; have HSw6 := hide (HSw5.out.call hbw6); clear hbw6)
      | (go_at_call 13; refine (HRL.out _ HSw6.out.below).mono ?_; rintro e w7 ⟨rfl, hbw7⟩; have HSw7 := hide (HSw6.out.call hbw7); clear hbw7))
    exact bodyPost_ret (v := .bool true) (by simp [results, Tryd.results3]) rfl ⟨rfl, HSw7.out.below⟩
end Go.Proofs.YtphdnbflogobfaaDoor
