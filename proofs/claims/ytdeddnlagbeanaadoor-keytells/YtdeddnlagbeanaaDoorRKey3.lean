/- The document's WotsPublic, KeySigned and KeyOf; numbers held against themselves. -/
import Derived.Test.YtdeddnlagbeanaaDoorRKey2
import Derived.Test.YtdeddnlagbeanaaDoorBytes
namespace Go.Proofs.YtdeddnlagbeanaaDoor
open Go.RowKit
set_option linter.unusedVariables false
set_option linter.unusedSimpArgs false

theorem elem_dig : Elem 42 23 32 := elem_of (.agg (vals (List.replicate 32 0)).toArray) 32 Tryd.underlying42 (by kernel_rfl) (by omega) (by simp [Value.cells, vals]) (by omega)

set_option maxRecDepth 100000 in
set_option maxHeartbeats 4000000 in
theorem rpublic_any (seed : List Int) (w : World) (hs : seed.length = 32) (hsb : Sz.Byt seed) :
    Calls Tryd.prog 14 #[.agg (vals seed).toArray] w fun e w' => e = .returned (.agg (vals (Ky.pub seed)).toArray) ∧ Below w.heap.size w w' := by
  obtain ⟨f, hf⟩ : ∃ f : Nat → List Int, f = fun i => Ky.steps (Ky.secret seed i) 15 := ⟨_, rfl⟩
  have HFL : Hid (∀ k, (f k).length = 32) := fun k => by rw [hf]; exact Ky.steps_length _ (Ky.secret_length _ _) _
  have hfb : ∀ k, Sz.Byt (f k) := fun k => by rw [hf]; exact Ky.steps_byt _ (Ky.secret_byt _ _) _
  obtain ⟨g, hg⟩ : ∃ g : Nat → List Int, g = Ky.secret seed := ⟨_, rfl⟩
  have HS : Hid (∀ W (k : Nat), k < 67 → Calls Tryd.prog 21 #[.agg (vals seed).toArray, .int .i64 (k : Nat)] W fun e w' => e = .returned (.agg (vals (g k)).toArray) ∧ Below W.heap.size W w') := fun W k hk => by rw [hg]; exact rsecret_any seed k W hs hsb hk
  have HT : Hid (∀ W (k : Nat), Calls Tryd.prog 16 #[.agg (vals (g k)).toArray, .int .i64 15] W fun e w' => e = .returned (.agg (vals (f k)).toArray) ∧ Below W.heap.size W w') := fun W k => by
    rw [hf, hg]
    exact rwalked_any (Ky.secret seed k) 15 W (Ky.secret_length _ _) (Ky.secret_byt _ _) (by omega)
  have HO7 : Hid (∀ W b cap, W.rangeAt b 0 (vals (Ky.rowsOf f 67)) → b < W.heap.size → Calls Tryd.prog 23 #[.int .u8 7, .slice (some ⟨b, 0, none⟩) 67 cap] W fun e w' => e = .returned (.agg (vals (Ky.pub seed)).toArray) ∧ Below W.heap.size W w') := fun W b cap hr hb => by
    have := rof_any 7 b 0 67 cap (Ky.rowsOf f 67) W (by omega) (by omega) (Ky.rowsOf_length f HFL.out 67) hr hb (Ky.rowsOf_byt f hfb 67)
    rw [Ky.pub_rows]
    rw [hf] at this
    exact this
  have hPl : (Ky.pub seed).length = 32 := Ky.pub_length seed
  generalize Ky.pub seed = P at *
  have HPL := hide hPl
  have HSL := hide hs
  have HI0 := hide ((Is.new w (vals seed) 23).alloc (.cells (vals (List.replicate 32 0)).toArray 23))
  have HJ0 : Hid (Is ((w.alloc (.cells (vals seed).toArray 23)).alloc (.cells (vals (List.replicate 32 0)).toArray 23)) (w.heap.size + 1) (vals (List.replicate 32 0)) 23) := Is.new' _ 23 (by simp)
  have HB0 := hide (below_alloc2 w (.cells (vals seed).toArray 23) (.cells (vals (List.replicate 32 0)).toArray 23))
  clear hPl hs hsb hf hfb hg
  go_enter Tryd.func14, Tryd.ntmps14
  go_wp2
  go_loopw [3, 4] (fun v i wr => ∃ k : Nat, k ≤ 67 ∧ i = .int .i64 k ∧ wr.ownsRow (w.heap.size + 2) 23 32 v k (vals (Ky.rowsOf f k)) ∧ Is wr w.heap.size (vals seed) 23 ∧ Is wr (w.heap.size + 1) (vals (List.replicate 32 0)) 23 ∧ Below w.heap.size w wr) (fun _ i _ => 67 - (intOf i).toNat)
  case atStart => exact ⟨0, by omega, rfl, World.ownsRow_nil _ _ _ _, HI0.out, HJ0.out, HB0.out⟩
  case round =>
    obtain ⟨k, hk, rfl, ho, hi, hj, hb⟩ := hrel
    clear HI0 HJ0 HB0
    obtain ⟨oa, oc, rfl⟩ := owns_form ho
    have hjl := hj.lt
    by_cases hkl : k < 67
    · have hki : (k : Int) < 67 := by omega
      have hnx : vals (Ky.rowsOf f (k + 1)) = vals (Ky.rowsOf f k) ++ vals (f k) := by rw [Ky.rowsOf_succ, vals_append]
      have hfl := HFL.out k
      have HSk : Hid (∀ W, Calls Tryd.prog 21 #[.agg (vals seed).toArray, .int .i64 (k : Nat)] W fun e w' => e = .returned (.agg (vals (g k)).toArray) ∧ Below W.heap.size W w') := fun W => HS.out W k hkl
      have HTk : Hid (∀ W, Calls Tryd.prog 16 #[.agg (vals (g k)).toArray, .int .i64 15] W fun e w' => e = .returned (.agg (vals (f k)).toArray) ∧ Below W.heap.size W w') := fun W => HT.out W k
      generalize f k = D at *
      generalize g k = E at *
      generalize vals (Ky.rowsOf f k) = X at *
      have HNX := hide hnx
      have HDL := hide hfl
      have HO := hide ho
      have HI := hide hi
      have HJ := hide hj
      clear hnx hfl ho hi hj HS HT HO7
      obtain ⟨wA, hwA⟩ : ∃ wA, wA = wr := ⟨_, rfl⟩
      subst hwA
      go_wp2_with (first
        | (refine wpList_load_arr2 23 (vals seed) w.heap.size rfl (.tmp 1) rfl rfl HI.out Tryd.underlying23 size_dig (by rw [vals_length]; exact HSL.out) ?_)
        | (go_at_call 21; refine (HSk.out _).mono ?_; rintro e w2 ⟨rfl, hb2⟩)
        | (go_at_call 16; refine (HTk.out _).mono ?_; rintro e w3 ⟨rfl, hb3⟩; have hb3' := hb2.trans (hb3.mono hb2.size))
        | (refine wpList_build_one 42 23 (vals D) rfl (.tmp 13) rfl rfl Tryd.underlying42 _ info_dig (by omega) (by omega) (by rw [vals_length]; exact HDL.out) ?_)
        | (at_builtin; refine wpList_append_gen _ 42 23 32 rfl (.tmp 9) (.tmp 14) rfl (w.heap.size + 2) (.slice oa k oc) k X rfl w3.heap.size 0 1 1 (vals D) rfl (owns_below (owns_below HO.out hb3') (below_alloc w3 _)) elem_dig (by omega) (by rw [vals_length, HDL.out]) (Is.new w3 _ _).range (vals_one _) (by omega) (Nat.le_trans hjl (Nat.le_trans hb3'.size (by simp))) ?_; intro v6 w6 h6 hg6 hw6))
      go_roundw
      case rel =>
        have hb4 := (hb.trans (hb3'.mono hb.size)).alloc (hb.trans (hb3'.mono hb.size)).size (.cells (vals D).toArray 23)
        refine ⟨k + 1, by omega, by go_num, by rw [HNX.out]; exact h6, ((HI.out.below hb3' HI.out.lt).alloc _).grown hg6 (fun e => by have := (World.ownsRow.lt HO.out _ e).1; omega), ((HJ.out.below hb3' HJ.out.lt).alloc _).grown hg6 (fun e => by have := (World.ownsRow.lt HO.out _ e).1; omega), hb4.grown hg6 hb4.size (fun r hr => by have := (World.ownsRow.lt HO.out r hr).1; omega)⟩
      case measure => simp [intOf]; omega
    · have hki : ¬ (k : Int) < 67 := by omega
      have hke : k = 67 := by omega
      subst hke
      obtain ⟨gb, cap, hv, hgb, hgl, hcp, hcm, hrg⟩ := owns_some ho (by omega)
      injection hv with hv1 hv2 hv3
      subst hv1
      have HC := hide (HO7.out wr gb oc hrg hgl)
      have HJ := hide hj
      clear ho hi hj hrg HO7 HS HT hcm hcp hv3 hv2
      go_wp2_with (first
        | (go_at_call 23; refine HC.out.mono ?_; rintro e w5 ⟨rfl, hb5⟩)
        | (refine wpList_store_any2 23 (vals (List.replicate 32 0)) (vals P) (w.heap.size + 1) rfl (.tmp 2) (.tmp 17) rfl rfl rfl rfl (HJ.out.below hb5 HJ.out.lt) size_dig (by simp [vals]) (by rw [vals_length]; exact HPL.out) (vals_one _) ?_; intro w7 hi7 hb7 hk7 hz7))
      have hr := hi7.cellsOf Tryd.underlying23 (by rw [vals_length, HPL.out]; exact size_dig)
      exact bodyPost_ret (v := .agg (vals P).toArray) (results_cell1 Tryd.results14 rfl hr) rfl ⟨rfl, hb7 _ _ (hb.trans (hb5.mono hb.size)) (Nat.le_succ _)⟩
end Go.Proofs.YtdeddnlagbeanaaDoor
