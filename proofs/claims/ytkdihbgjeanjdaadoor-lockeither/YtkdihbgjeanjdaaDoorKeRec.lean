/- The contract of key.Recover. -/
import Derived.Test.YtkdihbgjeanjdaaDoorKeSig
namespace Go.Proofs.YtkdihbgjeanjdaaDoor
open Go.RowKit
set_option linter.unusedVariables false

set_option maxRecDepth 100000 in
set_option maxHeartbeats 4000000 in
/-- Not as many bytes as a signature has. -/
theorem recover_bad (m : List Int) (a : Option Addr) (n cap : Nat) (w : World) (hn : n ≠ 2144) (hnm : n ≤ 9223372036854775807) :
    Calls Tryd.prog 18 #[.agg (vals m).toArray, .slice a n cap] w fun e w' => e = .returned (.tuple #[.agg (vals (List.replicate 32 0)).toArray, .iface 30 (.int .i64 3)]) ∧ Below w.heap.size w w' := by
  have hzd := zero_dig
  obtain ⟨Z, hZ⟩ : ∃ Z, Z = vals (List.replicate 32 0) := ⟨_, rfl⟩
  rw [← hZ] at hzd ⊢
  have hZl : Z.length = 32 := by rw [hZ]; simp [vals]
  have hZ1 : ∀ v ∈ Z, v.oneCell' = true := by rw [hZ]; exact vals_one _
  have hZp : ¬ Z = [] := by intro h; rw [h] at hZl; cases hZl
  have HZL := hide hZl
  have HZ1 := hide hZ1
  have hni : ¬ (n : Int) = 2144 := by omega
  have HJ0 : Hid (Is (((w.alloc (.cells (vals m).toArray 25)).alloc (.cells #[.slice a n cap] 36)).alloc (.cells Z.toArray 25)) (w.heap.size + 1 + 1) Z 25) := Is.new' _ 25 (by simp)
  have HB0 := hide (below_alloc3 w (.cells (vals m).toArray 25) (.cells #[.slice a n cap] 36) (.cells Z.toArray 25))
  clear hZ hZl hZ1
  go_enter Tryd.func18, Tryd.ntmps18
  go_wp2_with (refine wpList_store_any2 25 Z Z (w.heap.size + 1 + 1) rfl (.tmp 4) (.tmp 11) rfl rfl rfl rfl HJ0.out size_dig HZL.out HZL.out HZ1.out ?_; intro w7 hi7 hb7 hk7 hz7)
  have hr := hi7.cellsOf Tryd.underlying25 (by rw [HZL.out]; exact size_dig)
  exact bodyPost_ret (v := .tuple #[.agg Z.toArray, .iface 30 (.int .i64 3)]) (results_cell2 Tryd.results18 rfl hr) rfl ⟨rfl, hb7 _ _ HB0.out (by omega)⟩

set_option maxRecDepth 100000 in
set_option maxHeartbeats 4000000 in
theorem recover_good (m sig : List Int) (b off cap : Nat) (w : World) (hm : m.length = 32) (hmb : Sz.Byt m) (hs : sig.length = 2144) (hsb : Sz.Byt sig) (hcap : 2144 ≤ cap) (hcm : cap ≤ maxLen) (hr : w.rangeAt b off (vals sig)) (hb0 : b < w.heap.size) (ht : Tab w) (hw : 1 < w.heap.size) :
    Calls Tryd.prog 18 #[.agg (vals m).toArray, .slice (some ⟨b, off, none⟩) 2144 cap] w fun e w' => e = .returned (.tuple #[.agg (vals (Ky.recov m sig)).toArray, .nilIface]) ∧ Below w.heap.size w w' := by
  have hdl := Ky.digits_length m
  have HG : Hid (∀ W, Calls Tryd.prog 37 #[.agg (vals m).toArray] W fun e w' => e = .returned (.agg (ivals (Ky.digits m)).toArray) ∧ Below W.heap.size W w') := fun W => digitsOf_any m W hm hmb
  have hTl : ∀ i, i < 67 → (Ky.top m sig i).length = 32 := fun i hi => Ky.steps_length _ (Ky.sigAt_length _ _ (by omega)) _
  obtain ⟨T, hT⟩ : ∃ T : Nat → List Int, T = fun i => if i < 67 then Ky.top m sig i else List.replicate 32 0 := ⟨_, rfl⟩
  have hTT : ∀ i, i < 67 → T i = Ky.top m sig i := fun i hi => by rw [hT]; exact if_pos hi
  have hTL : ∀ i, (T i).length = 32 := fun i => by
    rw [hT]
    show (if i < 67 then Ky.top m sig i else List.replicate 32 0).length = 32
    split
    · exact hTl i (by assumption)
    · simp
  have hRT : Ky.rowsOf T 67 = Ky.rowsOf (Ky.top m sig) 67 := Ky.rowsOf_congr _ _ 67 hTT
  have HE : Hid (∀ W gs gd, Below w.heap.size w W → W.cell? ⟨gs, 0, none⟩ = some (.slice (some ⟨b, off, none⟩) 2144 cap) → Is W gd (ivals (Ky.digits m)) 72 → Calls Tryd.prog 32 #[.func (.func 39) #[] #[.pointer (some ⟨gs, 0, none⟩), .pointer (some ⟨gd, 0, none⟩)]] W fun e w' => e = .returned (.agg (vals (Ky.rowsOf (Ky.top m sig) 67)).toArray) ∧ Below W.heap.size W w') := fun W gs gd hW hI hG => by
    rw [← hRT]
    refine ends_any 39 #[.pointer (some ⟨gs, 0, none⟩), .pointer (some ⟨gd, 0, none⟩)] T W hTL call_recoverF (fun W2 k hW2 hk => ?_)
    rw [hTT k hk]
    exact recoverF_any gs gd b off cap (Ky.dig m k) sig k W2 (cell_below hI hW2) hs hcap hcm (range_below0 hr (hW.trans (hW2.mono hW.size)) hb0) (Nat.lt_of_lt_of_le hb0 (Nat.le_trans hW.size hW2.size)) hsb (by rw [(hG.below hW2 hG.lt).cell, ivals_get _ _ (by rw [hdl]; exact hk)]; rfl) (Ky.digits_le m hmb k) hk (ht.below (hW.trans (hW2.mono hW.size)) hw) (Nat.lt_of_lt_of_le hw (Nat.le_trans hW.size hW2.size))
  have hRl : (Ky.rowsOf (Ky.top m sig) 67).length = 2144 := by rw [← hRT]; exact Ky.rowsOf_length _ hTL 67
  have hRb : Sz.Byt (Ky.rowsOf (Ky.top m sig) 67) := Ky.rowsOf_byt _ (fun k => Ky.steps_byt _ (Ky.sigAt_byt _ _ hsb) _) 67
  have HK : Hid (∀ W b, Below w.heap.size w W → Is W b (vals (Ky.rowsOf (Ky.top m sig) 67)) 67 → Calls Tryd.prog 36 #[.int .u8 7, .slice (some ⟨b, 0, none⟩) 67 67] W fun e w' => e = .returned (.agg (vals (Ky.recov m sig)).toArray) ∧ Below W.heap.size W w') := fun W b hW hI =>
    ksum_any 7 b 0 67 67 _ W (by omega) (by omega) (by rw [hRl]) hI.range hI.lt hRb (ht.below hW hw) (Nat.lt_of_lt_of_le hw hW.size)
  have hPl : (Ky.recov m sig).length = 32 := Ky.recov_length m sig
  generalize Ky.digits m = G at *
  generalize Ky.recov m sig = D at *
  generalize Ky.rowsOf (Ky.top m sig) 67 = R at *
  obtain ⟨Z, hZ⟩ : ∃ Z, Z = vals (List.replicate 2144 0) := ⟨_, rfl⟩
  have hz := zero_ends
  rw [← hZ] at hz
  have hZl : Z.length = 2144 := by rw [hZ, vals_length, List.length_replicate]
  have hZp : ¬ Z = [] := by intro h; rw [h] at hZl; cases hZl
  obtain ⟨Y, hY⟩ : ∃ Y, Y = ivals (List.replicate 67 0) := ⟨_, rfl⟩
  have hzy := zero_dg67
  rw [← hY] at hzy
  have hYl : Y.length = 67 := by rw [hY]; simp [ivals]
  have hYp : ¬ Y = [] := by intro h; rw [h] at hYl; cases hYl
  have hzd := zero_dig
  obtain ⟨X, hX⟩ : ∃ X, X = vals (List.replicate 32 0) := ⟨_, rfl⟩
  rw [← hX] at hzd
  have hXl : X.length = 32 := by rw [hX]; simp [vals]
  have hXp : ¬ X = [] := by intro h; rw [h] at hXl; cases hXl
  have HZL := hide hZl
  have HYL := hide hYl
  have HXL := hide hXl
  have HRL := hide hRl
  have HPL := hide hPl
  have HML := hide hm
  have HDL := hide hdl
  have HI0 := hide (((Is.new w (vals m) 25).alloc (.cells #[.slice (some ⟨b, off, none⟩) 2144 cap] 36)).alloc (.cells X.toArray 25))
  have HS0 : Hid (Is (((w.alloc (.cells (vals m).toArray 25)).alloc (.cells #[.slice (some ⟨b, off, none⟩) 2144 cap] 36)).alloc (.cells X.toArray 25)) (w.heap.size + 1) [.slice (some ⟨b, off, none⟩) 2144 cap] 36) := Is.alloc (Is.new' [.slice (some ⟨b, off, none⟩) 2144 cap] 36 (by simp)) _
  have HJ0 : Hid (Is (((w.alloc (.cells (vals m).toArray 25)).alloc (.cells #[.slice (some ⟨b, off, none⟩) 2144 cap] 36)).alloc (.cells X.toArray 25)) (w.heap.size + 1 + 1) X 25) := Is.new' _ 25 (by simp)
  have HB0 := hide (below_alloc3 w (.cells (vals m).toArray 25) (.cells #[.slice (some ⟨b, off, none⟩) 2144 cap] 36) (.cells X.toArray 25))
  clear hZ hZl hY hYl hX hXl hRl hPl hRb hs hsb ht hm hmb hdl hr hTl hT hTT hTL hRT hcm hcap
  go_enter Tryd.func18, Tryd.ntmps18
  go_wp2_with (first
    | (refine wpList_load_arr2 25 (vals m) w.heap.size rfl (.tmp 2) rfl rfl HI0.out Tryd.underlying25 size_dig (by rw [vals_length]; exact HML.out) ?_)
    | (go_at_call 37; refine (HG.out _).mono ?_; rintro e w1 ⟨rfl, hb1⟩; have hb1' := HB0.out.trans (hb1.mono HB0.out.size); have hS1 := HS0.out.below hb1 HS0.out.lt; have hJ1 := HJ0.out.below hb1 HJ0.out.lt)
    | (refine wpList_store_any2 72 Y (ivals G) w1.heap.size rfl (.tmp 6) (.tmp 14) rfl rfl rfl rfl (Is.new w1 _ _) size_dg67 HYL.out (by rw [ivals_length]; exact HDL.out) (ivals_one _) ?_; intro w2 hi2 hb2 hk2 hz2; have hb2' := hb2 _ _ (hb1'.alloc hb1'.size _) hb1'.size; have hS2 := hk2 _ _ _ (by have := hS1.lt; omega) (hS1.alloc (.cells Y.toArray 72)); have hJ2 := hk2 _ _ _ (by have := hJ1.lt; omega) (hJ1.alloc (.cells Y.toArray 72)))
    | (go_at_call 32; refine (HE.out _ (w.heap.size + 1) w1.heap.size hb2' (hS2.cell 0) hi2).mono ?_; rintro e w3 ⟨rfl, hb3⟩; have hb3' := hb2'.trans (hb3.mono hb2'.size); have hJ3 := hJ2.below hb3 hJ2.lt)
    | (refine wpList_store_any2 67 Z (vals R) w3.heap.size rfl (.tmp 7) (.tmp 16) rfl rfl rfl rfl (Is.new w3 _ _) size_ends HZL.out (by rw [vals_length]; exact HRL.out) (vals_one _) ?_; intro w4 hi4 hb4 hk4 hz4; clear hz4; have hb4' := hb4 _ _ (hb3'.alloc hb3'.size _) hb3'.size; have hJ4 := hk4 _ _ _ (by have := hJ3.lt; omega) (hJ3.alloc (.cells Z.toArray 67)))
    | (go_at_call 36; refine (HK.out _ w3.heap.size hb4' hi4).mono ?_; rintro e w5 ⟨rfl, hb5⟩; have hb5' := hb4'.trans (hb5.mono hb4'.size); have hJ5 := hJ4.below hb5 hJ4.lt)
    | (refine wpList_store_any2 25 X (vals D) (w.heap.size + 1 + 1) rfl (.tmp 4) (.tmp 18) rfl rfl rfl rfl hJ5 size_dig HXL.out (by rw [vals_length]; exact HPL.out) (vals_one _) ?_; intro w7 hi7 hb7 hk7 hz7))
  have hr := hi7.cellsOf Tryd.underlying25 (by rw [vals_length, HPL.out]; exact size_dig)
  exact bodyPost_ret (v := .tuple #[.agg (vals D).toArray, .nilIface]) (results_cell2 Tryd.results18 rfl hr) rfl ⟨rfl, hb7 _ _ hb5' (by omega)⟩
/-- Any bytes. -/
theorem recover_any (v : Value) (m sig : List Int) (w : World) (h : Has w v sig) (hm : m.length = 32) (hmb : Sz.Byt m) (hsb : Sz.Byt sig) (ht : Tab w) (hw : 1 < w.heap.size) :
    Calls Tryd.prog 18 #[.agg (vals m).toArray, v] w fun e w' => e = .returned (.tuple #[.agg (vals (if sig.length = 2144 then Ky.recov m sig else List.replicate 32 0)).toArray, if sig.length = 2144 then .nilIface else .iface 30 (.int .i64 3)]) ∧ Below w.heap.size w w' := by
  rcases h with ⟨a, cap, rfl, rfl, hm1, hn⟩ | ⟨b, off, cap, rfl, h0, h1, hm1, hc⟩
  · have := recover_bad m a 0 cap w (by omega) (by omega)
    simpa using this
  · by_cases hl : sig.length = 2144
    · rw [if_pos hl, if_pos hl, hl]
      refine recover_good m sig b off cap w hm hmb hl hsb (by omega) hm1 (fun j v hv => ?_) (World.block_lt_of_cell? w _ (hc 0 h0)) ht hw
      have hj : j < sig.length := by have := (List.getElem?_eq_some_iff.1 hv).1; rwa [vals_length] at this
      rw [hc j hj, ← hv, vals_get _ _ hj]
    · rw [if_neg hl, if_neg hl]
      unfold maxLen at hm1
      exact recover_bad m (some ⟨b, off, none⟩) sig.length cap w hl (by omega)
end Go.Proofs.YtkdihbgjeanjdaaDoor
