/- A coin is found. -/
import Derived.Test.YtifoldkbmpopnaaDoorCnAt
import Derived.Test.YtifoldkbmpopnaaDoorCnCl
import Derived.Test.YtifoldkbmpopnaaDoorCnSum
namespace Go.Proofs.YtifoldkbmpopnaaDoor
open Go.RowKit
set_option linter.unusedVariables false
set_option linter.unusedSimpArgs false

set_option maxRecDepth 100000 in
set_option maxHeartbeats 1000000 in
theorem bsf_none (a : Option Addr) (cap : Nat) (P : List Value) (w : World) (hP : P.length = 33) :
    Calls Tryd.prog 36 #[.slice a 0 cap, .agg P.toArray, .func (.func 37) #[] #[]] w fun e w' => e = .returned (.tuple #[.int .i64 0, .bool false]) ∧ Below w.heap.size w w' := by
  obtain ⟨W0, hW0⟩ : ∃ W0, W0 = w.alloc (.cells P.toArray 25) := ⟨_, rfl⟩
  have HB0 : Hid (Below w.heap.size w W0) := hide (by rw [hW0]; exact below_alloc w _)
  have hPp : ¬ P = [] := by intro h; rw [h] at hP; cases hP
  clear hP
  go_enter Tryd.func36, Tryd.ntmps36
  go_wp2
  rw [← hW0]
  clear hW0
  refine wp_loop_rounds 1 ?_
  rw [rounds_succ]
  go_wp2_with fail
  refine wp_region_held_drew (S := fun W : World => Hid (Below W0.heap.size W0 W)) (by kernel_rfl) ?_ (fun hHeld0 => ?_)
  · exact hide (Below.refl _ _).drew
  refine wpAnyH_take (i := 0) (v := ?_) rfl (by kernel_rfl) (by kernel_rfl) (by kernel_rfl) (fun _ _ _ h => h) (Or.inl ⟨by rfl, ?_⟩) hHeld0 ?_
  rotate_left
  · (intro w hSw; (try dsimp only at hSw); go_simp <;> (try with_reducible rfl))
  simp only [Act.put, List.getElem_toArray, List.getElem_cons_zero, List.getElem_cons_succ, List.setIfInBounds_toArray, List.set_cons_zero, List.set_cons_succ]
  refine wpAnyH_take (i := 1) (v := ?_) rfl (by kernel_rfl) (by kernel_rfl) (by kernel_rfl) (fun _ _ _ h => h) (Or.inl ⟨by rfl, ?_⟩) hHeld0 ?_
  rotate_left
  · (intro w hSw; (try dsimp only at hSw); go_simp <;> (try with_reducible rfl))
  simp only [Act.put, List.getElem_toArray, List.getElem_cons_zero, List.getElem_cons_succ, List.setIfInBounds_toArray, List.set_cons_zero, List.set_cons_succ]
  refine wpAnyH_take (i := 2) (v := ?_) rfl (by kernel_rfl) (by kernel_rfl) (by kernel_rfl) (fun _ _ _ h => h) (Or.inl ⟨by rfl, ?_⟩) hHeld0 ?_
  rotate_left
  · (intro w hSw; (try dsimp only at hSw); go_simp <;> (try with_reducible rfl))
  simp only [Act.put, List.getElem_toArray, List.getElem_cons_zero, List.getElem_cons_succ, List.setIfInBounds_toArray, List.set_cons_zero, List.set_cons_succ]
  refine wpAnyH_take (i := 3) (v := ?_) rfl (by kernel_rfl) (by kernel_rfl) (by kernel_rfl) (fun _ _ _ h => h) (Or.inl ⟨by rfl, ?_⟩) hHeld0 ?_
  rotate_left
  · (intro w hSw; (try dsimp only at hSw); go_simp <;> (try with_reducible rfl))
  simp only [Act.put, List.getElem_toArray, List.getElem_cons_zero, List.getElem_cons_succ, List.setIfInBounds_toArray, List.set_cons_zero, List.set_cons_succ]
  refine wpAnyH_take (i := 4) (v := ?_) rfl (by kernel_rfl) (by kernel_rfl) (by kernel_rfl) (fun _ _ _ h => h) (Or.inl ⟨by rfl, ?_⟩) hHeld0 ?_
  rotate_left
  · (intro w hSw; (try dsimp only at hSw); go_simp <;> (try with_reducible rfl))
  simp only [Act.put, List.getElem_toArray, List.getElem_cons_zero, List.getElem_cons_succ, List.setIfInBounds_toArray, List.set_cons_zero, List.set_cons_succ]
  refine wpAnyH_take (i := 5) (v := undef) rfl (by kernel_rfl) (by kernel_rfl) (by kernel_rfl) (fun _ _ _ h => h) (Or.inr ⟨by rfl, rfl⟩) hHeld0 ?_
  simp only [Act.put, List.getElem_toArray, List.getElem_cons_zero, List.getElem_cons_succ, List.setIfInBounds_toArray, List.set_cons_zero, List.set_cons_succ]
  refine wpAnyH_take (i := 6) (v := undef) rfl (by kernel_rfl) (by kernel_rfl) (by kernel_rfl) (fun _ _ _ h => h) (Or.inr ⟨by rfl, rfl⟩) hHeld0 ?_
  simp only [Act.put, List.getElem_toArray, List.getElem_cons_zero, List.getElem_cons_succ, List.setIfInBounds_toArray, List.set_cons_zero, List.set_cons_succ]
  refine wpAnyH_take (i := 7) (v := undef) rfl (by kernel_rfl) (by kernel_rfl) (by kernel_rfl) (fun _ _ _ h => h) (Or.inr ⟨by rfl, rfl⟩) hHeld0 ?_
  simp only [Act.put, List.getElem_toArray, List.getElem_cons_zero, List.getElem_cons_succ, List.setIfInBounds_toArray, List.set_cons_zero, List.set_cons_succ]
  refine wpAnyH_take (i := 8) (v := undef) rfl (by kernel_rfl) (by kernel_rfl) (by kernel_rfl) (fun _ _ _ h => h) (Or.inr ⟨by rfl, rfl⟩) hHeld0 ?_
  simp only [Act.put, List.getElem_toArray, List.getElem_cons_zero, List.getElem_cons_succ, List.setIfInBounds_toArray, List.set_cons_zero, List.set_cons_succ]
  refine wpAnyH_take (i := 9) (v := undef) rfl (by kernel_rfl) (by kernel_rfl) (by kernel_rfl) (fun _ _ _ h => h) (Or.inr ⟨by rfl, rfl⟩) hHeld0 ?_
  simp only [Act.put, List.getElem_toArray, List.getElem_cons_zero, List.getElem_cons_succ, List.setIfInBounds_toArray, List.set_cons_zero, List.set_cons_succ]
  refine wpAnyH_take (i := 10) (v := undef) rfl (by kernel_rfl) (by kernel_rfl) (by kernel_rfl) (fun _ _ _ h => h) (Or.inr ⟨by rfl, rfl⟩) hHeld0 ?_
  simp only [Act.put, List.getElem_toArray, List.getElem_cons_zero, List.getElem_cons_succ, List.setIfInBounds_toArray, List.set_cons_zero, List.set_cons_succ]
  refine wpAnyH_take (i := 11) (v := undef) rfl (by kernel_rfl) (by kernel_rfl) (by kernel_rfl) (fun _ _ _ h => h) (Or.inr ⟨by rfl, rfl⟩) hHeld0 ?_
  simp only [Act.put, List.getElem_toArray, List.getElem_cons_zero, List.getElem_cons_succ, List.setIfInBounds_toArray, List.set_cons_zero, List.set_cons_succ]
  refine wpAnyH_take (i := 12) (v := undef) rfl (by kernel_rfl) (by kernel_rfl) (by kernel_rfl) (fun _ _ _ h => h) (Or.inr ⟨by rfl, rfl⟩) hHeld0 ?_
  simp only [Act.put, List.getElem_toArray, List.getElem_cons_zero, List.getElem_cons_succ, List.setIfInBounds_toArray, List.set_cons_zero, List.set_cons_succ]
  refine wpAnyH_take (i := 13) (v := ?_) rfl (by kernel_rfl) (by kernel_rfl) (by kernel_rfl) (fun _ _ _ h => h) (Or.inl ⟨by rfl, ?_⟩) hHeld0 ?_
  rotate_left
  · (intro w hSw; (try dsimp only at hSw); go_simp <;> (try with_reducible rfl))
  simp only [Act.put, List.getElem_toArray, List.getElem_cons_zero, List.getElem_cons_succ, List.setIfInBounds_toArray, List.set_cons_zero, List.set_cons_succ]
  refine wpAnyH_take (i := 14) (v := ?_) rfl (by kernel_rfl) (by kernel_rfl) (by kernel_rfl) (fun _ _ _ h => h) (Or.inl ⟨by rfl, ?_⟩) hHeld0 ?_
  rotate_left
  · (intro w hSw; (try dsimp only at hSw); go_simp <;> (try with_reducible rfl))
  simp only [Act.put, List.getElem_toArray, List.getElem_cons_zero, List.getElem_cons_succ, List.setIfInBounds_toArray, List.set_cons_zero, List.set_cons_succ]
  refine wpAnyH_take (i := 15) (v := ?_) rfl (by kernel_rfl) (by kernel_rfl) (by kernel_rfl) (fun _ _ _ h => h) (Or.inl ⟨by rfl, ?_⟩) hHeld0 ?_
  rotate_left
  · (intro w hSw; (try dsimp only at hSw); go_simp <;> (try with_reducible rfl))
  simp only [Act.put, List.getElem_toArray, List.getElem_cons_zero, List.getElem_cons_succ, List.setIfInBounds_toArray, List.set_cons_zero, List.set_cons_succ]
  refine wpAnyH_done (by kernel_rfl) ?_ _
  have HBL := hide hHeld0.out
  clear hHeld0
  go_wp2
  exact bodyPost_ret (v := .tuple #[.int .i64 0, .bool false]) (by simp [results, Tryd.results36, go_sem]) rfl ⟨rfl, HB0.out.trans (HBL.out.mono HB0.out.size)⟩
def ZC : List Value := vals (List.replicate 32 0) ++ ([.int .i64 0, .int .i64 0, .slice none 0 0, .int .i64 0] : List Value)
def AtTold (R : List CoinV) (p : List Int × Int) (e : Ending) : Prop := (∃ x ∈ R, Cn.place x.it = p ∧ e = .returned (.tuple #[.agg (coinCell x).toArray, .bool true])) ∨ (NoneAt R p ∧ e = .returned (.tuple #[.agg ZC.toArray, .bool false]))
set_option maxRecDepth 100000 in
set_option maxHeartbeats 2000000 in
theorem at_any (v : Value) (R : List CoinV) (B : List Int) (y : Int) (w : World) (h : HasCoins w v R) (hs : Cn.setF (R.map CoinV.it) = 0) (hB : B.length = 32) (hBb : Sz.Byt B) :
    Calls Tryd.prog 24 #[v, .agg (vals B ++ [Value.int .i64 y]).toArray] w fun e w' => AtTold R (B, y) e ∧ Below w.heap.size w w' := by
  obtain ⟨P, hP⟩ : ∃ P, P = vals B ++ [Value.int .i64 y] := ⟨_, rfl⟩
  have hPl : P.length = 33 := by rw [hP]; simp [vals_length, hB]
  have hPp : ¬ P = [] := by intro h; rw [h] at hPl; cases hPl
  have HPL := hide hPl
  have hzc := zero_coin
  obtain ⟨Z, hZ⟩ : ∃ Z, Z = ZC := ⟨_, rfl⟩
  have hzc2 : ∀ w : World, (zeroValue 43).run Tryd.prog w = .ok (.agg Z.toArray) w := by rw [hZ]; exact hzc
  have hZl : Z.length = 36 := by rw [hZ]; simp [ZC, vals]
  have hZ1 : ∀ v ∈ Z, v.oneCell' = true := by rw [hZ]; exact coin_ones ⟨List.replicate 32 0, 0, 0, .slice none 0 0, [], 0⟩ ⟨_, _, _, rfl⟩
  have hZp : ¬ Z = [] := by intro h; rw [h] at hZl; cases hZl
  have HZL := hide hZl
  have HZ1 := hide hZ1
  have HZE := hide hZ
  have HI0 : Hid (Is ((w.alloc (.cells P.toArray 25)).alloc (.cells Z.toArray 43)) w.heap.size P 25) := hide ((Is.new w P 25).alloc _)
  have HZ0 : Hid (Is ((w.alloc (.cells P.toArray 25)).alloc (.cells Z.toArray 43)) (w.heap.size + 1) Z 43) := hide (Is.new' Z 43 (by simp))
  have HB0 : Hid (Below w.heap.size w ((w.alloc (.cells P.toArray 25)).alloc (.cells Z.toArray 43))) := hide (below_alloc2 w _ _)
  rw [← hP]
  clear hzc hZ hZl hZ1
  rcases h.1 with ⟨a, cap, rfl, rfl⟩ | ⟨b, off, cap, rfl, h0, h1, h2, h3, hc⟩
  · have HBS := hide (bsf_none a cap P ((w.alloc (.cells P.toArray 25)).alloc (.cells Z.toArray 43)) hPl)
    clear hP hPl h hs
    go_enter Tryd.func24, Tryd.ntmps24
    go_wp2_with (first
      | (refine wpList_load_part 25 P w.heap.size 0 rfl (.tmp 3) rfl rfl (is_range HI0.out) Tryd.underlying25 rfl size_placeC HPL.out ?_)
      | (go_at_call 36; refine HBS.out.mono ?_; rintro e w1 ⟨rfl, hb1⟩; have HZ1w := hide (HZ0.out.below hb1 HZ0.out.lt); have HB1 := hide (HB0.out.trans (hb1.mono HB0.out.size)); clear hb1)
      | (refine wpList_store_any3 43 Z Z (w.heap.size + 1) rfl (.tmp 4) (.tmp 16) rfl rfl rfl rfl HZ1w.out size_coin HZL.out HZL.out HZ1.out ?_; intro w9 hi9 hw9; have hbr : But (w.heap.size + 1) w1 w9 := (by rw [hw9]; exact cn_but_row _ (w.heap.size + 1) _); clear hw9))
    exact bodyPost_ret (v := .tuple #[.agg Z.toArray, .bool false]) (results_cell2 Tryd.results24 rfl (hi9.cellsOfS Tryd.underlying43 (by rw [HZL.out]; exact size_coin))) rfl ⟨.inr ⟨fun t h => absurd h (by simp), by rw [HZE.out]⟩, HB1.out.trans (hbr.under HB1.out.size (by omega))⟩
  · have hm : R.length ≤ 1000 := by have := (Cn.setF_zero hs).1; rwa [List.length_map] at this
    have HBS := hide (bsf_some R b off cap B y ((w.alloc (.cells P.toArray 25)).alloc (.cells Z.toArray 43)) h0 h1 hs (fun x hx => (h.2 x hx).below HB0.out) (Nat.lt_of_lt_of_le h3 HB0.out.size) (range_keep hc HB0.out h3) hB hBb)
    have HRNG : Hid (∀ k (hk : k < R.length) W, Below w.heap.size w W → W.rangeAt b (off + k * 36) (coinCell R[k])) := hide (fun k hk W hW => range_keep (range_at hc (fun x hx => coinCell_length x (h.2 x hx).1) k hk) hW h3)
    have HSLV : Hid (∀ k (hk : k < R.length), ∃ a n c, R[k].lv = .slice a n c) := hide (fun k hk => hasOps_slice (h.2 _ (List.getElem_mem hk)).2.2)
    have HL32 : Hid (∀ k (hk : k < R.length), R[k].tx.length = 32) := hide (fun k hk => (h.2 _ (List.getElem_mem hk)).1)
    rw [← hP] at HBS
    obtain ⟨n, hn⟩ : ∃ n, n = R.length := ⟨_, rfl⟩
    have HN := hide hn
    rw [← hn] at hm h1 h0 HBS ⊢
    clear hP hPl h hs hc hn
    go_enter Tryd.func24, Tryd.ntmps24
    go_wp2_with (refine wpList_load_part 25 P w.heap.size 0 rfl (.tmp 3) rfl rfl (is_range HI0.out) Tryd.underlying25 rfl size_placeC HPL.out ?_)
    refine HBS.out.mono ?_
    rintro e w1 ⟨⟨m, f, rfl, hf1, hf0⟩, hb1⟩
    have HZ1w := hide (HZ0.out.below hb1 HZ0.out.lt)
    have HB1 := hide (HB0.out.trans (hb1.mono HB0.out.size))
    clear hb1 HBS
    cases f with
    | false =>
      have HNA := hide (hf0 rfl)
      clear hf0 hf1
      go_wp2_with (first
        | (refine wpList_store_any3 43 Z Z (w.heap.size + 1) rfl (.tmp 4) (.tmp 16) rfl rfl rfl rfl HZ1w.out size_coin HZL.out HZL.out HZ1.out ?_; intro w9 hi9 hw9; have hbr : But (w.heap.size + 1) w1 w9 := (by rw [hw9]; exact cn_but_row _ (w.heap.size + 1) _); clear hw9))
      exact bodyPost_ret (v := .tuple #[.agg Z.toArray, .bool false]) (results_cell2 Tryd.results24 rfl (hi9.cellsOfS Tryd.underlying43 (by rw [HZL.out]; exact size_coin))) rfl ⟨.inr ⟨HNA.out, by rw [HZE.out]⟩, HB1.out.trans (hbr.under HB1.out.size (by omega))⟩
    | true =>
      obtain ⟨hmR, hpl⟩ := hf1 rfl
      have HPLC := hide hpl
      obtain ⟨C, hC⟩ : ∃ C, C = coinCell R[m] := ⟨_, rfl⟩
      have HCE := hide hC
      have HCLN : Hid (C.length = 36) := hide (by rw [hC]; exact coinCell_length _ (HL32.out m hmR))
      have HC1 : Hid (∀ v ∈ C, v.oneCell' = true) := hide (by rw [hC]; exact coin_ones _ (HSLV.out m hmR))
      have HRC : Hid (w1.rangeAt b (off + m * 36) C) := hide (by rw [hC]; exact HRNG.out m hmR _ HB1.out)
      have hmn : m < n := by rw [HN.out]; exact hmR
      have hmi : (m : Int) < (n : Int) := by omega
      clear hf0 hf1 hpl hC
      go_wp2_with (first
        | (refine wpList_load_part 43 C b (off + m * 36) rfl (.tmp 19) rfl rfl HRC.out Tryd.underlying43 rfl size_coin HCLN.out ?_)
        | (refine wpList_store_any3 43 Z C (w.heap.size + 1) rfl (.tmp 4) (.tmp 20) rfl rfl rfl rfl HZ1w.out size_coin HZL.out HCLN.out HC1.out ?_; intro w9 hi9 hw9; have hbr : But (w.heap.size + 1) w1 w9 := (by rw [hw9]; exact cn_but_row _ (w.heap.size + 1) _); clear hw9))
      exact bodyPost_ret (v := .tuple #[.agg C.toArray, .bool true]) (results_cell2 Tryd.results24 rfl (hi9.cellsOfS Tryd.underlying43 (by rw [HCLN.out]; exact size_coin))) rfl ⟨.inl ⟨R[m], List.getElem_mem hmR, HPLC.out, by rw [← HCE.out]⟩, HB1.out.trans (hbr.under HB1.out.size (by omega))⟩

def NoneTo (R : List CoinV) (k : Nat) (p : List Int × Int) : Prop := ∀ t (h : t < R.length), t < k → Cn.place R[t].it ≠ p
def RcTold (R : List CoinV) (p : List Int × Int) (e : Ending) : Prop := (∃ m : Nat, FoundAt R m p ∧ e = .returned (.int .i64 (m : Int))) ∨ (NoneAt R p ∧ e = .returned (.int .i64 (-1)))
set_option maxRecDepth 100000 in
set_option maxHeartbeats 2000000 in
theorem rcoinAt_any (v : Value) (R : List CoinV) (B : List Int) (y : Int) (w : World) (h : HasCoins w v R) (hm : R.length ≤ 1000) (hB : B.length = 32) :
    Calls Tryd.prog 11 #[v, .agg (vals B ++ [Value.int .i64 y]).toArray] w fun e w' => RcTold R (B, y) e ∧ Below w.heap.size w w' := by
  obtain ⟨P, hP⟩ : ∃ P, P = vals B ++ [Value.int .i64 y] := ⟨_, rfl⟩
  have hPl : P.length = 33 := by rw [hP]; simp [vals_length, hB]
  have hPp : ¬ P = [] := by intro h; rw [h] at hPl; cases hPl
  have hszp : (Tryd.prog.info? 25).map (·.size) = some P.length := by rw [hPl]; exact size_placeC
  obtain ⟨W0, hW0⟩ : ∃ W0, W0 = w.alloc (.cells P.toArray 25) := ⟨_, rfl⟩
  have HI0 : Hid (Is W0 w.heap.size P 25) := hide (by rw [hW0]; exact Is.new w P 25)
  have HB0 : Hid (Below w.heap.size w W0) := hide (by rw [hW0]; exact below_alloc w _)
  rcases h.1 with ⟨a, cap, rfl, rfl⟩ | ⟨b, off, cap, rfl, h0, h1, h2, h3, hc⟩
  · rw [← hP]
    clear hP hPl hszp h
    go_enter Tryd.func11, Tryd.ntmps11
    go_wp2
    rw [← hW0]
    clear hW0
    refine wp_loop_rounds 1 ?_
    rw [rounds_succ]
    go_wp2
    go_ret
    exact ⟨.inr ⟨fun t h => absurd h (by simp), rfl⟩, HB0.out⟩
  · have HRNG : Hid (∀ k (hk : k < R.length) W, Below w.heap.size w W → W.rangeAt b (off + k * 36) (vals R[k].tx ++ [Value.int .i64 R[k].at'])) := hide (fun k hk W hW => by
      have := range_keep (range_at hc (fun x hx => coinCell_length x (h.2 x hx).1) k hk) hW h3
      rw [coin_parts] at this
      exact (tx_range_part this).1)
    have HL32 : Hid (∀ k (hk : k < R.length), R[k].tx.length = 32) := hide (fun k hk => (h.2 _ (List.getElem_mem hk)).1)
    have HQ : Hid (∀ k (hk : k < R.length) (W : World), (Op.equalIn 10000 25 (.agg (vals R[k].tx ++ [Value.int .i64 R[k].at']).toArray) (.agg P.toArray)).run Tryd.prog W = .ok (decide (R[k].tx = B ∧ R[k].at' = y)) W) := hide (fun k hk W => by rw [hP]; exact place_eq _ _ _ _ (HL32.out k hk) hB W)
    obtain ⟨n, hn⟩ : ∃ n, n = R.length := ⟨_, rfl⟩
    have HN := hide hn
    rw [← hn] at hm h1 h0 ⊢
    rw [← hP]
    have hgd := guard_place
    clear hP hPl h hc hn
    go_enter Tryd.func11, Tryd.ntmps11
    go_wp2
    rw [← hW0]
    clear hW0
    go_loopw [5] (fun i wr => ∃ k : Nat, k ≤ n ∧ i = .int .i64 k ∧ NoneTo R k (B, y) ∧ Below W0.heap.size W0 wr) (fun i _ => n - (intOf i).toNat)
    case atStart => exact ⟨0, by omega, rfl, fun t h ht => absurd ht (by omega), Below.refl _ _⟩
    case round =>
      obtain ⟨k, hk, rfl, hno, hbel⟩ := hrel
      have HNO := hide hno
      have HBEL := hide hbel
      clear hno hbel
      by_cases hltn : k < n
      · have hki : (k : Int) < (n : Int) := by omega
        have hlt : k < R.length := by rw [← HN.out]; exact hltn
        obtain ⟨PJ, hPJ⟩ : ∃ P, P = vals R[k].tx ++ [Value.int .i64 R[k].at'] := ⟨_, rfl⟩
        have hszj : (Tryd.prog.info? 25).map (·.size) = some PJ.length := by rw [hPJ, List.length_append, vals_length, HL32.out _ hlt]; exact size_placeC
        have HRJ : Hid (wr.drew.rangeAt b (off + k * 36) PJ) := hide (by rw [hPJ]; exact HRNG.out k hlt _ (HB0.out.trans (HBEL.out.drew.mono HB0.out.size)))
        have HRP : Hid (wr.drew.rangeAt w.heap.size 0 P) := hide (is_range (HI0.out.below HBEL.out.drew HI0.out.lt))
        by_cases hp : R[k].tx = B ∧ R[k].at' = y
        · have hq : ∀ w', (Op.equalIn 10000 25 (.agg PJ.toArray) (.agg P.toArray)).run Tryd.prog w' = .ok true w' := fun w' => by rw [hPJ, HQ.out k hlt w', decide_eq_true hp]
          have HFD : Hid (FoundAt R k (B, y)) := hide ⟨hlt, by show (R[k].tx, R[k].at') = (B, y); rw [hp.1, hp.2]⟩
          clear hPJ hp
          go_wp2_with fail
          refine wp_region_held_drew (S := fun W : World => W.rangeAt b (off + k * 36) PJ ∧ W.rangeAt w.heap.size 0 P ∧ Hid (Below W0.heap.size W0 W)) (by kernel_rfl) ?_ (fun hHeld0 => ?_)
          · exact ⟨HRJ.out, HRP.out, hide HBEL.out.drew⟩
          refine wpAnyH_take (i := 0) (v := ?_) rfl (by kernel_rfl) (by kernel_rfl) (by kernel_rfl) (fun _ _ _ h => h) (Or.inl ⟨by rfl, ?_⟩) hHeld0 ?_
          rotate_left
          · (intro w hSw; (try dsimp only at hSw); go_simp <;> (try with_reducible rfl))
          simp only [Act.put, List.getElem_toArray, List.getElem_cons_zero, List.getElem_cons_succ, List.setIfInBounds_toArray, List.set_cons_zero, List.set_cons_succ]
          refine wpAnyH_take (i := 1) (v := ?_) rfl (by kernel_rfl) (by kernel_rfl) (by kernel_rfl) (fun _ _ _ h => h) (Or.inl ⟨by rfl, ?_⟩) hHeld0 ?_
          rotate_left
          · (intro w hSw; (try dsimp only at hSw); go_simp <;> (try with_reducible rfl))
          simp only [Act.put, List.getElem_toArray, List.getElem_cons_zero, List.getElem_cons_succ, List.setIfInBounds_toArray, List.set_cons_zero, List.set_cons_succ]
          refine wpAnyH_take (i := 2) (v := ?_) rfl (by kernel_rfl) (by kernel_rfl) (by kernel_rfl) (fun _ _ _ h => h) (Or.inl ⟨by rfl, ?_⟩) hHeld0 ?_
          rotate_left
          · (intro w hSw; (try dsimp only at hSw); go_simp <;> (try with_reducible rfl))
          simp only [Act.put, List.getElem_toArray, List.getElem_cons_zero, List.getElem_cons_succ, List.setIfInBounds_toArray, List.set_cons_zero, List.set_cons_succ]
          refine wpAnyH_take (i := 3) (v := ?_) rfl (by kernel_rfl) (by kernel_rfl) (by kernel_rfl) (fun _ _ _ h => h) (Or.inl ⟨by rfl, ?_⟩) hHeld0 ?_
          rotate_left
          · (intro w hSw; (try dsimp only at hSw); go_simp <;> (try with_reducible rfl))
          simp only [Act.put, List.getElem_toArray, List.getElem_cons_zero, List.getElem_cons_succ, List.setIfInBounds_toArray, List.set_cons_zero, List.set_cons_succ]
          refine wpAnyH_take (i := 4) (v := .agg (PJ).toArray) rfl (by kernel_rfl) (by kernel_rfl) (by kernel_rfl) (fun _ _ _ h => h) (yieldsIf_load_mid (by rfl) _ _ rfl _ _ rfl (PJ) _ (fun w hSw => hSw.1) Tryd.underlying25 rfl hszj) hHeld0 ?_
          simp only [Act.put, List.getElem_toArray, List.getElem_cons_zero, List.getElem_cons_succ, List.setIfInBounds_toArray, List.set_cons_zero, List.set_cons_succ]
          refine wpAnyH_take (i := 5) (v := .agg (P).toArray) rfl (by kernel_rfl) (by kernel_rfl) (by kernel_rfl) (fun _ _ _ h => h) (yieldsIf_load_mid (by rfl) _ _ rfl _ _ rfl (P) _ (fun w hSw => hSw.2.1) Tryd.underlying25 rfl hszp) hHeld0 ?_
          simp only [Act.put, List.getElem_toArray, List.getElem_cons_zero, List.getElem_cons_succ, List.setIfInBounds_toArray, List.set_cons_zero, List.set_cons_succ]
          refine wpAnyH_take (i := 6) (v := ?_) rfl (by kernel_rfl) (by kernel_rfl) (by kernel_rfl) (fun _ _ _ h => h) (Or.inl ⟨by rfl, ?_⟩) hHeld0 ?_
          rotate_left
          · (intro w hSw; (try dsimp only at hSw); go_simp <;> (try with_reducible rfl))
          simp only [Act.put, List.getElem_toArray, List.getElem_cons_zero, List.getElem_cons_succ, List.setIfInBounds_toArray, List.set_cons_zero, List.set_cons_succ]
          refine wpAnyH_done (by kernel_rfl) ?_ _
          have HBL := hide hHeld0.2.2.out
          clear hHeld0
          go_wp2
          go_ret
          exact ⟨.inl ⟨k, HFD.out, rfl⟩, HB0.out.trans (HBL.out.mono HB0.out.size)⟩
        · have hq : ∀ w', (Op.equalIn 10000 25 (.agg PJ.toArray) (.agg P.toArray)).run Tryd.prog w' = .ok false w' := fun w' => by rw [hPJ, HQ.out k hlt w', decide_eq_false hp]
          have HNN : Hid (NoneTo R (k + 1) (B, y)) := hide (fun t ht htk e => by
            by_cases ek : t = k
            · subst ek
              have e1 : (R[t].tx, R[t].at') = (B, y) := e
              injection e1 with e1 e2
              exact hp ⟨e1, e2⟩
            · exact HNO.out t ht (by omega) e)
          clear hPJ hp
          go_wp2_with fail
          refine wp_region_held_drew (S := fun W : World => W.rangeAt b (off + k * 36) PJ ∧ W.rangeAt w.heap.size 0 P ∧ Hid (Below W0.heap.size W0 W)) (by kernel_rfl) ?_ (fun hHeld0 => ?_)
          · exact ⟨HRJ.out, HRP.out, hide HBEL.out.drew⟩
          refine wpAnyH_take (i := 0) (v := ?_) rfl (by kernel_rfl) (by kernel_rfl) (by kernel_rfl) (fun _ _ _ h => h) (Or.inl ⟨by rfl, ?_⟩) hHeld0 ?_
          rotate_left
          · (intro w hSw; (try dsimp only at hSw); go_simp <;> (try with_reducible rfl))
          simp only [Act.put, List.getElem_toArray, List.getElem_cons_zero, List.getElem_cons_succ, List.setIfInBounds_toArray, List.set_cons_zero, List.set_cons_succ]
          refine wpAnyH_take (i := 1) (v := ?_) rfl (by kernel_rfl) (by kernel_rfl) (by kernel_rfl) (fun _ _ _ h => h) (Or.inl ⟨by rfl, ?_⟩) hHeld0 ?_
          rotate_left
          · (intro w hSw; (try dsimp only at hSw); go_simp <;> (try with_reducible rfl))
          simp only [Act.put, List.getElem_toArray, List.getElem_cons_zero, List.getElem_cons_succ, List.setIfInBounds_toArray, List.set_cons_zero, List.set_cons_succ]
          refine wpAnyH_take (i := 2) (v := ?_) rfl (by kernel_rfl) (by kernel_rfl) (by kernel_rfl) (fun _ _ _ h => h) (Or.inl ⟨by rfl, ?_⟩) hHeld0 ?_
          rotate_left
          · (intro w hSw; (try dsimp only at hSw); go_simp <;> (try with_reducible rfl))
          simp only [Act.put, List.getElem_toArray, List.getElem_cons_zero, List.getElem_cons_succ, List.setIfInBounds_toArray, List.set_cons_zero, List.set_cons_succ]
          refine wpAnyH_take (i := 3) (v := ?_) rfl (by kernel_rfl) (by kernel_rfl) (by kernel_rfl) (fun _ _ _ h => h) (Or.inl ⟨by rfl, ?_⟩) hHeld0 ?_
          rotate_left
          · (intro w hSw; (try dsimp only at hSw); go_simp <;> (try with_reducible rfl))
          simp only [Act.put, List.getElem_toArray, List.getElem_cons_zero, List.getElem_cons_succ, List.setIfInBounds_toArray, List.set_cons_zero, List.set_cons_succ]
          refine wpAnyH_take (i := 4) (v := .agg (PJ).toArray) rfl (by kernel_rfl) (by kernel_rfl) (by kernel_rfl) (fun _ _ _ h => h) (yieldsIf_load_mid (by rfl) _ _ rfl _ _ rfl (PJ) _ (fun w hSw => hSw.1) Tryd.underlying25 rfl hszj) hHeld0 ?_
          simp only [Act.put, List.getElem_toArray, List.getElem_cons_zero, List.getElem_cons_succ, List.setIfInBounds_toArray, List.set_cons_zero, List.set_cons_succ]
          refine wpAnyH_take (i := 5) (v := .agg (P).toArray) rfl (by kernel_rfl) (by kernel_rfl) (by kernel_rfl) (fun _ _ _ h => h) (yieldsIf_load_mid (by rfl) _ _ rfl _ _ rfl (P) _ (fun w hSw => hSw.2.1) Tryd.underlying25 rfl hszp) hHeld0 ?_
          simp only [Act.put, List.getElem_toArray, List.getElem_cons_zero, List.getElem_cons_succ, List.setIfInBounds_toArray, List.set_cons_zero, List.set_cons_succ]
          refine wpAnyH_take (i := 6) (v := ?_) rfl (by kernel_rfl) (by kernel_rfl) (by kernel_rfl) (fun _ _ _ h => h) (Or.inl ⟨by rfl, ?_⟩) hHeld0 ?_
          rotate_left
          · (intro w hSw; (try dsimp only at hSw); go_simp <;> (try with_reducible rfl))
          simp only [Act.put, List.getElem_toArray, List.getElem_cons_zero, List.getElem_cons_succ, List.setIfInBounds_toArray, List.set_cons_zero, List.set_cons_succ]
          refine wpAnyH_done (by kernel_rfl) ?_ _
          have HBL := hide hHeld0.2.2.out
          clear hHeld0
          go_wp2
          go_roundw
          case rel => exact ⟨k + 1, by omega, by go_num, HNN.out, HBL.out⟩
          case measure => simp [intOf]; omega
      · have hki : ¬ (k : Int) < (n : Int) := by omega
        have HNA : Hid (NoneAt R (B, y)) := hide (fun t ht => HNO.out t ht (by have := HN.out; omega))
        go_wp2
        go_ret
        exact ⟨.inr ⟨HNA.out, rfl⟩, HB0.out.trans (HBEL.out.mono HB0.out.size)⟩

/-- What is found: what is wrong, or a copy of the coin. -/
def FdTold (R : List CoinV) (p : List Int × Int) (e : Ending) (w' : World) : Prop :=
  (Cn.setF (R.map CoinV.it) ≠ 0 ∧ e = .returned (.tuple #[.agg ZC.toArray, errV (Cn.setF (R.map CoinV.it))])) ∨
  (Cn.setF (R.map CoinV.it) = 0 ∧ NoneAt R p ∧ e = .returned (.tuple #[.agg ZC.toArray, errV 5])) ∨
  (Cn.setF (R.map CoinV.it) = 0 ∧ ∃ x ∈ R, Cn.place x.it = p ∧ ∃ x' : CoinV, e = .returned (.tuple #[.agg (coinCell x').toArray, .nilIface]) ∧ x'.it = x.it ∧ CoinOk w' x')
theorem coin_small {x : CoinV} (h : Cn.coinF x.it = 0) : x.L.length ≤ 1000 ∧ ∀ p ∈ x.L, p.1.data.length ≤ 180000000000000 := by
  have hc : Lk.check (opsOf x.L) = 0 := by
    unfold Cn.coinF at h
    split at h
    · cases h
    · split at h
      · exact h
      · contradiction
  obtain ⟨h1, h2⟩ := Tm.lock_ok _ hc
  rw [opsOf_length] at h1
  refine ⟨by omega, fun p hp => ?_⟩
  obtain ⟨_, _, _, _, e⟩ := h2 p.1 (List.mem_map.2 ⟨p, hp, rfl⟩)
  omega
set_option maxRecDepth 100000 in
set_option maxHeartbeats 2000000 in
theorem cfind_any (v : Value) (R : List CoinV) (B : List Int) (y : Int) (w : World) (h : HasCoins w v R) (hB : B.length = 32) (hBb : Sz.Byt B) :
    Calls Tryd.prog 12 #[v, .agg (vals B ++ [Value.int .i64 y]).toArray] w fun e w' => FdTold R (B, y) e w' ∧ Below w.heap.size w w' := by
  obtain ⟨a, cap, rfl, _, _⟩ := coins_form h
  obtain ⟨P, hP⟩ : ∃ P, P = vals B ++ [Value.int .i64 y] := ⟨_, rfl⟩
  have hPl : P.length = 33 := by rw [hP]; simp [vals_length, hB]
  have hPp : ¬ P = [] := by intro h; rw [h] at hPl; cases hPl
  have HPL := hide hPl
  have hzc := zero_coin
  obtain ⟨Z, hZ⟩ : ∃ Z, Z = ZC := ⟨_, rfl⟩
  have hzc2 : ∀ w : World, (zeroValue 43).run Tryd.prog w = .ok (.agg Z.toArray) w := by rw [hZ]; exact hzc
  have hZl : Z.length = 36 := by rw [hZ]; simp [ZC, vals]
  have hZ1 : ∀ v ∈ Z, v.oneCell' = true := by rw [hZ]; exact coin_ones ⟨List.replicate 32 0, 0, 0, .slice none 0 0, [], 0⟩ ⟨_, _, _, rfl⟩
  have hZp : ¬ Z = [] := by intro h; rw [h] at hZl; cases hZl
  have HZL := hide hZl
  have HZ1 := hide hZ1
  have HZE := hide hZ
  obtain ⟨W0, hW0⟩ : ∃ W0, W0 = (w.alloc (.cells P.toArray 25)).alloc (.cells Z.toArray 43) := ⟨_, rfl⟩
  have HI0 : Hid (Is W0 w.heap.size P 25) := hide (by rw [hW0]; exact (Is.new w P 25).alloc _)
  have HZ0 : Hid (Is W0 (w.heap.size + 1) Z 43) := hide (by rw [hW0]; exact Is.new' Z 43 (by simp))
  have HB0 : Hid (Below w.heap.size w W0) := hide (by rw [hW0]; exact below_alloc2 w _ _)
  have HCK := hide (ccheck_any _ R W0 (h.below HB0.out))
  have HH := hide (fun W (hW : Below w.heap.size w W) => h.below hW)
  rw [← hP]
  clear hzc hZ hZl hZ1
  by_cases hs : Cn.setF (R.map CoinV.it) = 0
  · have HAT : Hid (∀ W, Below w.heap.size w W → Calls Tryd.prog 24 #[.slice a R.length cap, .agg P.toArray] W fun e w' => AtTold R (B, y) e ∧ Below W.heap.size W w') := hide (fun W hW => by rw [hP]; exact at_any _ R B y W (h.below hW) hs hB hBb)
    rw [hs, show errV 0 = .nilIface from rfl] at HCK
    have HS := hide hs
    have HCF : Hid (∀ x ∈ R, Cn.coinF x.it = 0) := hide (fun x hx => (Cn.setF_zero hs).2.1 _ (List.mem_map.2 ⟨x, hx, rfl⟩))
    obtain ⟨n, hn⟩ : ∃ n, n = R.length := ⟨_, rfl⟩
    rw [← hn] at HCK HAT HH ⊢
    clear hP hPl h hs hn
    go_enter Tryd.func12, Tryd.ntmps12
    go_wp2_with fail
    rw [← hW0]
    clear hW0
    refine HCK.out.mono ?_
    rintro e w1 ⟨rfl, hb1⟩
    have HI1 := hide (HI0.out.below hb1 HI0.out.lt)
    have HZ1w := hide (HZ0.out.below hb1 HZ0.out.lt)
    have HB1 := hide (HB0.out.trans (hb1.mono HB0.out.size))
    clear hb1 HCK
    go_wp2_with (refine wpList_load_part 25 P w.heap.size 0 rfl (.tmp 3) rfl rfl (is_range HI1.out) Tryd.underlying25 rfl size_placeC HPL.out ?_)
    refine (HAT.out _ HB1.out).mono ?_
    rintro e w2 ⟨hat, hb2⟩
    have HZ2 := hide (HZ1w.out.below hb2 HZ1w.out.lt)
    have HB2 := hide (HB1.out.trans (hb2.mono HB1.out.size))
    clear hb2
    rcases hat with ⟨x, hxR, hxp, rfl⟩ | ⟨hna, rfl⟩
    · obtain ⟨C, hC⟩ : ∃ C, C = coinCell x := ⟨_, rfl⟩
      have HOKX := hide (fun W (hW : Below w.heap.size w W) => (HH.out W hW).2 x hxR)
      have HCLN : Hid (C.length = 36) := hide (by rw [hC]; exact coinCell_length _ (HOKX.out _ HB2.out).1)
      have HC1 : Hid (∀ v ∈ C, v.oneCell' = true) := hide (by rw [hC]; exact coin_ones _ (hasOps_slice (HOKX.out _ HB2.out).2.2))
      have HCL := hide (fun W (hW : Below w.heap.size w W) => cclone_any x W (HOKX.out W hW) (coin_small (HCF.out x hxR)).1 (coin_small (HCF.out x hxR)).2)
      have HXR := hide hxR
      have HXP := hide hxp
      rw [← hC] at HCL ⊢
      clear hC hxR hxp
      go_wp2_with (first
        | (refine wpList_store_any3 43 Z C w2.heap.size rfl (.tmp 7) (.tmp 19) rfl rfl rfl rfl (Is.new w2 _ _) size_coin HZL.out HCLN.out HC1.out ?_; intro w3 hi3 hw3; have hb3 : Below w2.heap.size w2 w3 := (by rw [hw3]; exact ck_new); have HI3 := hide hi3; have HZ3 := hide (HZ2.out.below hb3 HZ2.out.lt); have HB3 := hide (HB2.out.trans (hb3.mono HB2.out.size)); clear hi3 hw3 hb3)
        | (refine wpList_load_part 43 C w2.heap.size 0 rfl (.tmp 7) rfl rfl (is_range HI3.out) Tryd.underlying43 rfl size_coin HCLN.out ?_))
      refine (HCL.out _ HB3.out).mono ?_
      rintro e w4 ⟨⟨x', rfl, hx1, hx2f⟩, hb4⟩
      have hx2 := hx2f.out
      have HX2F := hide hx2f
      have HLT3 : Hid (w.heap.size + 1 < w3.heap.size) := hide HZ3.out.lt
      obtain ⟨C4, hC4⟩ : ∃ C, C = coinCell x' := ⟨_, rfl⟩
      have HC4E := hide hC4
      have HX1 := hide hx1
      have HX2 := hide hx2
      have HCLN4 : Hid (C4.length = 36) := hide (by rw [hC4]; exact coinCell_length _ hx2.1)
      have HC14 : Hid (∀ v ∈ C4, v.oneCell' = true) := hide (by rw [hC4]; exact coin_ones _ (hasOps_slice hx2.2.2))
      have HZ4 := hide (HZ3.out.below hb4 HZ3.out.lt)
      have HB4 := hide (HB3.out.trans (hb4.mono HB3.out.size))
      rw [← hC4]
      clear hC4 hx1 hx2 hx2f hb4
      go_wp2_with (refine wpList_store_any3 43 Z C4 (w.heap.size + 1) rfl (.tmp 4) (.tmp 26) rfl rfl rfl rfl HZ4.out size_coin HZL.out HCLN4.out HC14.out ?_; intro w9 hi9 hw9; have hbr : But (w.heap.size + 1) w4 w9 := (by rw [hw9]; exact cn_but_row _ (w.heap.size + 1) _); clear hw9)
      exact bodyPost_ret (v := .tuple #[.agg C4.toArray, .nilIface]) (results_cell2 Tryd.results12 rfl (hi9.cellsOfS Tryd.underlying43 (by rw [HCLN4.out]; exact size_coin))) rfl ⟨.inr (.inr ⟨HS.out, x, HXR.out, HXP.out, x', by rw [← HC4E.out], HX1.out, (HX2F.out.but hbr HLT3.out).out⟩), HB4.out.trans (hbr.under HB4.out.size (by omega))⟩
    · have HNA := hide hna
      rw [← HZE.out]
      clear hna
      go_wp2_with (first
        | (refine wpList_store_any3 43 Z Z w2.heap.size rfl (.tmp 7) (.tmp 19) rfl rfl rfl rfl (Is.new w2 _ _) size_coin HZL.out HZL.out HZ1.out ?_; intro w3 hi3 hw3; have hb3 : Below w2.heap.size w2 w3 := (by rw [hw3]; exact ck_new); have HZ3 := hide (HZ2.out.below hb3 HZ2.out.lt); have HB3 := hide (HB2.out.trans (hb3.mono HB2.out.size)); clear hi3 hw3 hb3)
        | (refine wpList_store_any3 43 Z Z (w.heap.size + 1) rfl (.tmp 4) (.tmp 23) rfl rfl rfl rfl HZ3.out size_coin HZL.out HZL.out HZ1.out ?_; intro w9 hi9 hw9; have hbr : But (w.heap.size + 1) w3 w9 := (by rw [hw9]; exact cn_but_row _ (w.heap.size + 1) _); clear hw9))
      exact bodyPost_ret (v := .tuple #[.agg Z.toArray, .iface 28 (.int .i64 5)]) (results_cell2 Tryd.results12 rfl (hi9.cellsOfS Tryd.underlying43 (by rw [HZL.out]; exact size_coin))) rfl ⟨.inr (.inl ⟨HS.out, HNA.out, by rw [HZE.out]; rfl⟩), HB3.out.trans (hbr.under HB3.out.size (by omega))⟩
  · obtain ⟨c, hc⟩ : ∃ c, c = Cn.setF (R.map CoinV.it) := ⟨_, rfl⟩
    have HS : Hid (Cn.setF (R.map CoinV.it) ≠ 0 ∧ errV (Cn.setF (R.map CoinV.it)) = .iface 28 (.int .i64 c)) := hide ⟨hs, by rw [← hc]; unfold errV; rw [if_neg (by rw [hc]; exact hs)]⟩
    rw [HS.out.2] at HCK
    obtain ⟨n, hn⟩ : ∃ n, n = R.length := ⟨_, rfl⟩
    rw [← hn] at HCK ⊢
    clear hP hPl h hs hn hc HH
    go_enter Tryd.func12, Tryd.ntmps12
    go_wp2_with fail
    rw [← hW0]
    clear hW0
    refine HCK.out.mono ?_
    rintro e w1 ⟨rfl, hb1⟩
    have HZ1w := hide (HZ0.out.below hb1 HZ0.out.lt)
    have HB1 := hide (HB0.out.trans (hb1.mono HB0.out.size))
    clear hb1 HCK
    go_wp2_with (refine wpList_store_any3 43 Z Z (w.heap.size + 1) rfl (.tmp 4) (.tmp 13) rfl rfl rfl rfl HZ1w.out size_coin HZL.out HZL.out HZ1.out ?_; intro w9 hi9 hw9; have hbr : But (w.heap.size + 1) w1 w9 := (by rw [hw9]; exact cn_but_row _ (w.heap.size + 1) _); clear hw9)
    exact bodyPost_ret (v := .tuple #[.agg Z.toArray, .iface 28 (.int .i64 c)]) (results_cell2 Tryd.results12 rfl (hi9.cellsOfS Tryd.underlying43 (by rw [HZL.out]; exact size_coin))) rfl ⟨.inl ⟨HS.out.1, by rw [HS.out.2, HZE.out]⟩, HB1.out.trans (hbr.under HB1.out.size (by omega))⟩
end Go.Proofs.YtifoldkbmpopnaaDoor
