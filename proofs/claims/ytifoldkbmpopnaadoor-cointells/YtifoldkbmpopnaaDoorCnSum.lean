/- How much coins are, together. -/
import Derived.Test.YtifoldkbmpopnaaDoorCnRsf
import Derived.Test.YtifoldkbmpopnaaDoorMoRef
import Derived.Test.YtifoldkbmpopnaaDoorMoSum
import Derived.Test.YtifoldkbmpopnaaDoorOwnI
namespace Go.Proofs.YtifoldkbmpopnaaDoor
open Go.RowKit
set_option linter.unusedVariables false
set_option linter.unusedSimpArgs false

set_option maxHeartbeats 1000000 in
theorem ccheck_any (v : Value) (R : List CoinV) (w : World) (h : HasCoins w v R) :
    Calls Tryd.prog 8 #[v] w fun e w' => e = .returned (errV (Cn.setF (R.map CoinV.it))) ∧ Below w.heap.size w w' := by
  rcases h.1 with ⟨a, cap, rfl, rfl⟩ | ⟨b, off, cap, rfl, h0, h1, h2, h3, hc⟩
  · have e : errV (Cn.setF (([] : List CoinV).map CoinV.it)) = .nilIface := rfl
    rw [e]
    clear h e
    go_enter Tryd.func8, Tryd.ntmps8
    go_wp2
    refine wp_loop_rounds 1 ?_
    rw [rounds_succ]
    go_wp2
    go_ret
    exact ⟨rfl, Below.refl _ _⟩
  · by_cases hm : R.length ≤ 1000
    · exact ccheck_some R b off cap w h0 hm h1 h.2 h3 hc
    · have e : errV (Cn.setF (R.map CoinV.it)) = .iface 28 (.int .i64 4) := by unfold Cn.setF; rw [if_pos (by rw [List.length_map]; omega)]; rfl
      rw [e]
      have hi : (1000 : Int) < (R.length : Int) := by omega
      have hi2 : 1000 < R.length := by omega
      unfold maxLen at h2
      clear hm e hc h
      generalize R.length = n at *
      go_enter Tryd.func8, Tryd.ntmps8
      go_wp2
      go_ret
      exact ⟨rfl, Below.refl _ _⟩
set_option maxHeartbeats 1000000 in
theorem rsetFault_any (v : Value) (R : List CoinV) (w : World) (h : HasCoins w v R) :
    Calls Tryd.prog 6 #[v] w fun e w' => e = .returned (.int .i64 (Cn.setF (R.map CoinV.it))) ∧ Below w.heap.size w w' := by
  rcases h.1 with ⟨a, cap, rfl, rfl⟩ | ⟨b, off, cap, rfl, h0, h1, h2, h3, hc⟩
  · have e : Cn.setF (([] : List CoinV).map CoinV.it) = 0 := rfl
    rw [e]
    clear h e
    go_enter Tryd.func6, Tryd.ntmps6
    go_wp2
    refine wp_loop_rounds 1 ?_
    rw [rounds_succ]
    go_wp2
    go_ret
    exact ⟨rfl, Below.refl _ _⟩
  · by_cases hm : R.length ≤ 1000
    · exact rsetFault_some R b off cap w h0 hm h1 h.2 h3 hc
    · have e : Cn.setF (R.map CoinV.it) = 4 := by unfold Cn.setF; rw [if_pos (by rw [List.length_map]; omega)]
      rw [e]
      have hi : (1000 : Int) < (R.length : Int) := by omega
      have hi2 : 1000 < R.length := by omega
      unfold maxLen at h2
      clear hm e hc h
      generalize R.length = n at *
      go_enter Tryd.func6, Tryd.ntmps6
      go_wp2
      go_ret
      exact ⟨rfl, Below.refl _ _⟩

def amounts (R : List CoinV) : List Int := R.map CoinV.amount
theorem amounts_next (R : List CoinV) (k : Nat) (hk : k < R.length) : amounts (R.take (k + 1)) = amounts (R.take k) ++ [R[k].amount] := by
  unfold amounts; rw [List.take_succ_eq_append_getElem hk, List.map_append]; rfl
theorem amounts_length (R : List CoinV) : (amounts R).length = R.length := by simp [amounts]
def zerosI (n : Nat) : Array Value := madeCells #[.int .i64 0] n
theorem make_roomI (n : Nat) (h : n ≤ 1000000) (w : World) : (Instr.makeSlice 56 (.int .i64 0) (.int .i64 (n : Int))).run Tryd.prog w = .ok (.slice (some ⟨w.heap.size, 0, none⟩) 0 n) (w.alloc (.cells (zerosI n) 3)) := by
  obtain ⟨i, hi, hz, hs, hby⟩ := info_int
  have hr := run_make (P := Tryd.prog) w 56 3 i (.int .i64 0) Tryd.underlying56 hi hz .i64 .i64 0 n (by omega) (by omega) (by rw [hby]; omega) (by omega)
  simpa [zerosI, Value.cells, hs] using hr
theorem OwnI.room (w : World) (base n : Nat) (hb : base ≤ w.heap.size) (hn : n ≤ 1000000) : OwnI (w.alloc (.cells (zerosI n) 3)) base (.slice (some ⟨w.heap.size, 0, none⟩) 0 n) [] :=
  ⟨rfl, .inr ⟨w.heap.size, n, zerosI n, rfl, hb, heap_alloc_new w _, Nat.zero_le _, by unfold maxLen; omega, by simp [zerosI, madeCells], rfl⟩⟩

set_option maxRecDepth 100000 in
set_option maxHeartbeats 2000000 in
theorem ctotal_some (R : List CoinV) (b off cap : Nat) (w : World) (h0 : 0 < R.length) (hm : R.length ≤ 1000) (h1 : R.length ≤ cap) (h : ∀ x ∈ R, CoinOk w x) (hb : b < w.heap.size) (hc : w.rangeAt b off (coinCells R)) :
    Calls Tryd.prog 23 #[.slice (some ⟨b, off, none⟩) R.length cap] w fun e w' => e = .returned (.tuple #[.int .i64 (Mo.tot 0 (amounts R)).1, errV (Mo.tot 0 (amounts R)).2]) ∧ Below w.heap.size w w' := by
  have HRNG : Hid (∀ k (hk : k < R.length) W, Below w.heap.size w W → W.rangeAt b (off + k * 36) (coinCell R[k])) := hide (fun k hk W hW => range_keep (range_at hc (fun x hx => coinCell_length x (h x hx).1) k hk) hW hb)
  have HSLV : Hid (∀ k (hk : k < R.length), ∃ a n c, R[k].lv = .slice a n c) := hide (fun k hk => hasOps_slice (h _ (List.getElem_mem hk)).2.2)
  have HL32 : Hid (∀ k (hk : k < R.length), R[k].tx.length = 32) := hide (fun k hk => (h _ (List.getElem_mem hk)).1)
  have HBLW := hide hb
  have hzc := zero_coin
  obtain ⟨Z, hZ⟩ : ∃ Z, Z = vals (List.replicate 32 0) ++ ([.int .i64 0, .int .i64 0, .slice none 0 0, .int .i64 0] : List Value) := ⟨_, rfl⟩
  rw [← hZ] at hzc
  have hZl : Z.length = 36 := by rw [hZ]; simp [vals]
  have hZp : ¬ Z = [] := by intro h; rw [h] at hZl; cases hZl
  have HZL := hide hZl
  obtain ⟨n, hn⟩ : ∃ n, n = R.length := ⟨_, rfl⟩
  have HN := hide hn
  rw [← hn] at hm h1 h0 ⊢
  obtain ⟨ZI, hZI⟩ : ∃ z, z = zerosI n := ⟨_, rfl⟩
  have hmk := fun w => make_roomI n (by omega) w
  rw [← hZI] at hmk
  have HRM : Hid (OwnI (w.alloc (.cells ZI 3)) w.heap.size (.slice (some ⟨w.heap.size, 0, none⟩) 0 n) (amounts (R.take 0))) := hide (by rw [hZI]; exact OwnI.room w w.heap.size n (Nat.le_refl _) (by omega))
  have HB1 := hide (below_alloc w (.cells ZI 3))
  obtain ⟨s, hs⟩ : ∃ s, s = (Mo.tot 0 (amounts R)).1 := ⟨_, rfl⟩
  obtain ⟨f, hf⟩ : ∃ f, f = errV (Mo.tot 0 (amounts R)).2 := ⟨_, rfl⟩
  have HMS : Hid (∀ v W, HasI W v (amounts R) → Calls Tryd.prog 35 #[v] W fun e w' => e = .returned (.tuple #[.int .i64 s, f]) ∧ W = w') := hide (fun v W hv => by rw [hs, hf]; exact msum_any v _ W hv)
  rw [← hs, ← hf]
  clear h hb hc hZ hZl hn hZI hs hf
  go_enter Tryd.func23, Tryd.ntmps23
  go_wp2
  go_loopw [4, 12] (fun v i wr => ∃ k : Nat, k ≤ n ∧ i = .int .i64 k ∧ OwnI wr w.heap.size v (amounts (R.take k)) ∧ Below w.heap.size w wr) (fun _ i _ => n - (intOf i).toNat)
  case atStart => exact ⟨0, by omega, rfl, HRM.out, HB1.out⟩
  case round =>
    obtain ⟨k, hk, rfl, hown, hbel⟩ := hrel
    obtain ⟨va, vc, rfl, _, _⟩ := hown.form
    have hvl : (amounts (R.take k)).length = k := by rw [amounts_length, List.length_take, ← HN.out]; omega
    rw [hvl] at hown ⊢
    have HOW := hide hown
    have HBEL := hide hbel
    have HVL := hide hvl
    clear hown hbel hvl
    by_cases hltn : k < n
    · have hki : (k : Int) < (n : Int) := by omega
      have hlt : k < R.length := by rw [← HN.out]; exact hltn
      obtain ⟨C, hC⟩ : ∃ C, C = coinCell R[k] := ⟨_, rfl⟩
      obtain ⟨x, hx⟩ : ∃ x, x = R[k].amount := ⟨_, rfl⟩
      have hCl : C.length = 36 := by rw [hC]; exact coinCell_length _ (HL32.out k hlt)
      have hC1 : ∀ v ∈ C, v.oneCell' = true := by rw [hC]; exact coin_ones _ (HSLV.out k hlt)
      have HCX : Hid (C[33]? = some (.int .i64 x)) := hide (by rw [hC, hx]; exact (coin_get (HL32.out k hlt)).2.1)
      have HNX : Hid (amounts (R.take (k + 1)) = amounts (R.take k) ++ [x]) := hide (by rw [hx]; exact amounts_next R k hlt)
      have HCLN := hide hCl
      have HC1 := hide hC1
      have HRC : Hid (wr.rangeAt b (off + k * 36) C) := hide (by rw [hC]; exact HRNG.out k hlt wr HBEL.out)
      clear hC hCl hC1 hx
      go_wp2_with (first
        | (refine wpList_load_part 43 C b (off + k * 36) rfl (.tmp 14) rfl rfl HRC.out Tryd.underlying43 rfl size_coin HCLN.out ?_)
        | (refine wpList_store_any3 43 Z C wr.heap.size rfl (.tmp 6) (.tmp 15) rfl rfl rfl rfl (Is.new wr _ _) size_coin HZL.out HCLN.out HC1.out ?_; intro w3 hi3 hw3; have hb3 : Below wr.heap.size wr w3 := (by rw [hw3]; exact ck_new); have hcX := hi3.cell 33; rw [HCX.out] at hcX; have HB3 := hide (HBEL.out.trans (hb3.mono HBEL.out.size)); have HO3 := hide (HOW.out.below hb3); have HO4 := hide (HO3.out.below (below_alloc w3 (.cells #[.int .i64 x] 3))); have HB4 := hide (HB3.out.trans ((below_alloc w3 (.cells #[.int .i64 x] 3)).mono HB3.out.size)); clear hi3 hw3 hb3)
        | (at_builtin; refine wpList_append_ints _ rfl (.tmp 16) (.tmp 20) rfl w.heap.size _ (amounts (R.take k)) rfl HO4.out (.slice (some ⟨w3.heap.size, 0, none⟩) 1 1) [x] rfl (OwnI.one w3 w3.heap.size x (Nat.le_refl _)).has (by rw [HVL.out]; show k + 1 ≤ _; omega) HB4.out.size ?_; intro v6 w6 ho6 hg6; have HO6 := hide ho6; have HB6 := hide (HB4.out.grown hg6 HB4.out.size (fun q hq => (HO4.out.block q hq).1)); clear ho6 hg6))
      go_roundw
      case rel => exact ⟨k + 1, by omega, by go_num, by rw [HNX.out]; exact HO6.out, HB6.out⟩
      case measure => simp [intOf]; omega
    · have hki : ¬ (k : Int) < (n : Int) := by omega
      have HAL : Hid (R.take k = R) := hide (List.take_of_length_le (by rw [← HN.out]; omega))
      rw [HAL.out] at HOW
      go_wp2_with fail
      refine (HMS.out _ _ HOW.out.has).mono ?_
      rintro e w7 ⟨rfl, rfl⟩
      go_wp2
      exact bodyPost_ret (v := .tuple #[.int .i64 s, f]) (by simp [results, Tryd.results23, go_sem]) rfl ⟨rfl, HBEL.out⟩
set_option maxHeartbeats 1000000 in
theorem ctotal_any (v : Value) (R : List CoinV) (w : World) (h : HasCoins w v R) (hm : R.length ≤ 1000) :
    Calls Tryd.prog 23 #[v] w fun e w' => e = .returned (.tuple #[.int .i64 (Mo.tot 0 (amounts R)).1, errV (Mo.tot 0 (amounts R)).2]) ∧ Below w.heap.size w w' := by
  rcases h.1 with ⟨a, cap, rfl, rfl⟩ | ⟨b, off, cap, rfl, h0, h1, h2, h3, hc⟩
  · have hmk := fun w => make_roomI 0 (by omega) w
    have e : Calls Tryd.prog 35 #[.slice (some ⟨w.heap.size, 0, none⟩) 0 0] (w.alloc (.cells (zerosI 0) 3)) fun e w' => e = .returned (.tuple #[.int .i64 (Mo.tot 0 (amounts [])).1, errV (Mo.tot 0 (amounts [])).2]) ∧ w.alloc (.cells (zerosI 0) 3) = w' := msum_any _ _ _ (OwnI.room w w.heap.size 0 (Nat.le_refl _) (by omega)).has
    have HE := hide e
    have HB := hide (below_alloc w (.cells (zerosI 0) 3))
    obtain ⟨s, hs⟩ : ∃ s, s = (Mo.tot 0 (amounts [])).1 := ⟨_, rfl⟩
    obtain ⟨f, hf⟩ : ∃ f, f = errV (Mo.tot 0 (amounts [])).2 := ⟨_, rfl⟩
    rw [← hs, ← hf] at HE ⊢
    obtain ⟨ZI, hZI⟩ : ∃ z, z = zerosI 0 := ⟨_, rfl⟩
    rw [← hZI] at HE hmk HB
    have hmk0 : ∀ w : World, (Instr.makeSlice 56 (.int .i64 0) (.int .i64 0)).run Tryd.prog w = .ok (.slice (some ⟨w.heap.size, 0, none⟩) 0 0) (w.alloc (.cells ZI 3)) := hmk
    clear h e hs hf hZI hmk
    go_enter Tryd.func23, Tryd.ntmps23
    go_wp2
    refine wp_loop_rounds 1 ?_
    rw [rounds_succ]
    go_wp2_with fail
    refine HE.out.mono ?_
    rintro e w7 ⟨rfl, rfl⟩
    go_wp2
    exact bodyPost_ret (v := .tuple #[.int .i64 s, f]) (by simp [results, Tryd.results23, go_sem]) rfl ⟨rfl, HB.out⟩
  · exact ctotal_some R b off cap w h0 hm h1 h.2 h3 hc

set_option maxRecDepth 100000 in
set_option maxHeartbeats 2000000 in
theorem rworth_some (R : List CoinV) (b off cap : Nat) (w : World) (h0 : 0 < R.length) (hm : R.length ≤ 1000) (h1 : R.length ≤ cap) (h : ∀ x ∈ R, CoinOk w x) (hb : b < w.heap.size) (hc : w.rangeAt b off (coinCells R)) :
    Calls Tryd.prog 9 #[.slice (some ⟨b, off, none⟩) R.length cap] w fun e w' => e = .returned (.tuple #[.int .i64 (Mo.tot 0 (amounts R)).1, .int .i64 (Mo.tot 0 (amounts R)).2]) ∧ Below w.heap.size w w' := by
  have HRNG : Hid (∀ k (hk : k < R.length) W, Below w.heap.size w W → W.cell? ⟨b, off + k * 36 + 33, none⟩ = some (.int .i64 R[k].amount)) := hide (fun k hk W hW => (coin_range (range_keep (range_at hc (fun x hx => coinCell_length x (h x hx).1) k hk) hW hb) (h _ (List.getElem_mem hk)).1).2.2.1)
  obtain ⟨n, hn⟩ : ∃ n, n = R.length := ⟨_, rfl⟩
  have HN := hide hn
  rw [← hn] at hm h1 h0 ⊢
  obtain ⟨s, hs⟩ : ∃ s, s = (Mo.tot 0 (amounts R)).1 := ⟨_, rfl⟩
  obtain ⟨f, hf⟩ : ∃ f, f = (Mo.tot 0 (amounts R)).2 := ⟨_, rfl⟩
  have HMS : Hid (∀ v W, HasI W v (amounts R) → Calls Tryd.prog 22 #[v] W fun e w' => e = .returned (.tuple #[.int .i64 s, .int .i64 f]) ∧ W = w') := hide (fun v W hv => by rw [hs, hf]; exact rtotal_any v _ W hv)
  rw [← hs, ← hf]
  clear h hb hc hn hs hf
  go_enter Tryd.func9, Tryd.ntmps9
  go_wp2
  go_loopw [4, 5] (fun v i wr => ∃ k : Nat, k ≤ n ∧ i = .int .i64 k ∧ OwnI wr w.heap.size v (amounts (R.take k)) ∧ Below w.heap.size w wr) (fun _ i _ => n - (intOf i).toNat)
  case atStart => exact ⟨0, by omega, rfl, OwnI.nil _ _, Below.refl _ _⟩
  case round =>
    obtain ⟨k, hk, rfl, hown, hbel⟩ := hrel
    obtain ⟨va, vc, rfl, _, _⟩ := hown.form
    have hvl : (amounts (R.take k)).length = k := by rw [amounts_length, List.length_take, ← HN.out]; omega
    rw [hvl] at hown ⊢
    have HOW := hide hown
    have HBEL := hide hbel
    have HVL := hide hvl
    clear hown hbel hvl
    by_cases hltn : k < n
    · have hki : (k : Int) < (n : Int) := by omega
      have hlt : k < R.length := by rw [← HN.out]; exact hltn
      have hck := HRNG.out k hlt wr HBEL.out
      obtain ⟨x, hx⟩ : ∃ x, x = R[k].amount := ⟨_, rfl⟩
      rw [← hx] at hck
      have HNX : Hid (amounts (R.take (k + 1)) = amounts (R.take k) ++ [x]) := hide (by rw [hx]; exact amounts_next R k hlt)
      have HO4 := hide (HOW.out.below (below_alloc wr (.cells #[.int .i64 x] 3)))
      have HB4 := hide (HBEL.out.trans ((below_alloc wr (.cells #[.int .i64 x] 3)).mono HBEL.out.size))
      clear hx
      go_wp2_with (at_builtin; refine wpList_append_ints _ rfl (.tmp 12) (.tmp 19) rfl w.heap.size _ (amounts (R.take k)) rfl HO4.out (.slice (some ⟨wr.heap.size, 0, none⟩) 1 1) [x] rfl (OwnI.one wr wr.heap.size x (Nat.le_refl _)).has (by rw [HVL.out]; show k + 1 ≤ _; omega) HB4.out.size ?_; intro v6 w6 ho6 hg6; have HO6 := hide ho6; have HB6 := hide (HB4.out.grown hg6 HB4.out.size (fun q hq => (HO4.out.block q hq).1)); clear ho6 hg6)
      go_roundw
      case rel => exact ⟨k + 1, by omega, by go_num, by rw [HNX.out]; exact HO6.out, HB6.out⟩
      case measure => simp [intOf]; omega
    · have hki : ¬ (k : Int) < (n : Int) := by omega
      have HAL : Hid (R.take k = R) := hide (List.take_of_length_le (by rw [← HN.out]; omega))
      rw [HAL.out] at HOW
      go_wp2_with fail
      refine (HMS.out _ _ HOW.out.has).mono ?_
      rintro e w7 ⟨rfl, rfl⟩
      go_wp2
      exact bodyPost_ret (v := .tuple #[.int .i64 s, .int .i64 f]) (by simp [results, Tryd.results9, go_sem]) rfl ⟨rfl, HBEL.out⟩
set_option maxHeartbeats 1000000 in
theorem rworth_any (v : Value) (R : List CoinV) (w : World) (h : HasCoins w v R) (hm : R.length ≤ 1000) :
    Calls Tryd.prog 9 #[v] w fun e w' => e = .returned (.tuple #[.int .i64 (Mo.tot 0 (amounts R)).1, .int .i64 (Mo.tot 0 (amounts R)).2]) ∧ Below w.heap.size w w' := by
  rcases h.1 with ⟨a, cap, rfl, rfl⟩ | ⟨b, off, cap, rfl, h0, h1, h2, h3, hc⟩
  · have e := rtotal_any (.slice none 0 0) (amounts []) w (OwnI.nil w 0).has
    obtain ⟨s, hs⟩ : ∃ s, s = (Mo.tot 0 (amounts [])).1 := ⟨_, rfl⟩
    obtain ⟨f, hf⟩ : ∃ f, f = (Mo.tot 0 (amounts [])).2 := ⟨_, rfl⟩
    rw [← hs, ← hf] at e ⊢
    have HE := hide e
    clear h e hs hf
    go_enter Tryd.func9, Tryd.ntmps9
    go_wp2
    refine wp_loop_rounds 1 ?_
    rw [rounds_succ]
    go_wp2_with fail
    refine HE.out.mono ?_
    rintro e w7 ⟨rfl, rfl⟩
    go_wp2
    exact bodyPost_ret (v := .tuple #[.int .i64 s, .int .i64 f]) (by simp [results, Tryd.results9, go_sem]) rfl ⟨rfl, Below.refl _ _⟩
  · exact rworth_some R b off cap w h0 hm h1 h.2 h3 hc

set_option maxRecDepth 100000 in
set_option maxHeartbeats 1000000 in
theorem csum_any (v : Value) (R : List CoinV) (w : World) (h : HasCoins w v R) :
    Calls Tryd.prog 10 #[v] w fun e w' => e = .returned (.tuple #[.int .i64 (if Cn.setF (R.map CoinV.it) = 0 then (Mo.tot 0 (amounts R)).1 else 0), errV (if Cn.setF (R.map CoinV.it) = 0 then (Mo.tot 0 (amounts R)).2 else Cn.setF (R.map CoinV.it))]) ∧ Below w.heap.size w w' := by
  obtain ⟨a, cap, rfl, _, _⟩ := coins_form h
  have HCK := hide (ccheck_any _ R w h)
  by_cases hz : Cn.setF (R.map CoinV.it) = 0
  · rw [if_pos hz, if_pos hz]
    have hm : R.length ≤ 1000 := by have := (Cn.setF_zero hz).1; rwa [List.length_map] at this
    have HT := hide (fun W (hW : Below w.heap.size w W) => ctotal_any _ R W (h.below hW) hm)
    rw [hz, show errV 0 = .nilIface from rfl] at HCK
    obtain ⟨s, hs⟩ : ∃ s, s = (Mo.tot 0 (amounts R)).1 := ⟨_, rfl⟩
    obtain ⟨f, hf⟩ : ∃ f, f = errV (Mo.tot 0 (amounts R)).2 := ⟨_, rfl⟩
    rw [← hs, ← hf] at HT ⊢
    clear hz hs hf hm h
    go_enter Tryd.func10, Tryd.ntmps10
    go_wp2_with fail
    refine HCK.out.mono ?_
    rintro e w1 ⟨rfl, hb1⟩
    go_wp2_with fail
    refine (HT.out _ hb1).mono ?_
    rintro e w2 ⟨rfl, hb2⟩
    go_wp2
    exact bodyPost_ret (v := .tuple #[.int .i64 s, f]) (by simp [results, Tryd.results10, go_sem]) rfl ⟨rfl, hb1.trans (hb2.mono hb1.size)⟩
  · rw [if_neg hz, if_neg hz]
    obtain ⟨c, hc⟩ : ∃ c, c = Cn.setF (R.map CoinV.it) := ⟨_, rfl⟩
    rw [← hc] at HCK hz ⊢
    rw [show errV c = .iface 28 (.int .i64 c) from by unfold errV; rw [if_neg hz]] at HCK ⊢
    clear hz hc h
    go_enter Tryd.func10, Tryd.ntmps10
    go_wp2_with fail
    refine HCK.out.mono ?_
    rintro e w1 ⟨rfl, hb1⟩
    go_wp2
    exact bodyPost_ret (v := .tuple #[.int .i64 0, .iface 28 (.int .i64 c)]) (by simp [results, Tryd.results10, go_sem]) rfl ⟨rfl, hb1⟩
end Go.Proofs.YtifoldkbmpopnaaDoor
