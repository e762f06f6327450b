/- A coin of a set is looked for. -/
import Derived.Test.YtifoldkbmpopnaaDoorCnChk
import Derived.Test.YtifoldkbmpopnaaDoorZTs
namespace Go.Proofs.YtifoldkbmpopnaaDoor
open Go.RowKit
set_option linter.unusedVariables false
set_option linter.unusedSimpArgs false

theorem call_atF (xs : Array Value) (W : World) : (callFunc 37 xs).run Tryd.prog W = .ok (.enter 37 xs) W := by
  simp [callFunc, Tryd.func37, Tryd.f37]
/-- A coin at a place; none there. -/
def FoundAt (R : List CoinV) (m : Nat) (p : List Int × Int) : Prop := ∃ h : m < R.length, Cn.place R[m].it = p
def DownTo (R : List CoinV) (lo : Nat) (p : List Int × Int) : Prop := ∀ t (h : t < R.length), t < lo → Cn.pl (Cn.place R[t].it) p < 0
def UpFrom (R : List CoinV) (hi : Nat) (p : List Int × Int) : Prop := ∀ t (h : t < R.length), hi ≤ t → ¬ Cn.pl (Cn.place R[t].it) p < 0
def NoneAt (R : List CoinV) (p : List Int × Int) : Prop := ∀ t (h : t < R.length), Cn.place R[t].it ≠ p
set_option maxRecDepth 100000 in
set_option maxHeartbeats 1000000 in
theorem catF_any (x : CoinV) (B : List Int) (y : Int) (w : World) (hx : CoinOk w x) (hB : B.length = 32) (hBb : Sz.Byt B) :
    Calls Tryd.prog 37 #[.agg (coinCell x).toArray, .agg (vals B ++ [Value.int .i64 y]).toArray] w fun e w' => e = .returned (.int .i64 (Cn.pl (Cn.place x.it) (B, y))) ∧ Below w.heap.size w w' := by
  obtain ⟨C, hC⟩ : ∃ C, C = coinCell x := ⟨_, rfl⟩
  obtain ⟨Q, hQ⟩ : ∃ Q, Q = vals B ++ [Value.int .i64 y] := ⟨_, rfl⟩
  obtain ⟨P, hP⟩ : ∃ P, P = vals x.tx ++ [Value.int .i64 x.at'] := ⟨_, rfl⟩
  obtain ⟨r, hr⟩ : ∃ r, r = Cn.pl (Cn.place x.it) (B, y) := ⟨_, rfl⟩
  have hPl : P.length = 33 := by rw [hP]; simp [vals_length, hx.1]
  have hQl : Q.length = 33 := by rw [hQ]; simp [vals_length, hB]
  have hCl : C.length = 36 := by rw [hC]; exact coinCell_length x hx.1
  have HPL := hide hPl
  have HQL := hide hQl
  have hCp : ¬ C = [] := by intro h; rw [h] at hCl; cases hCl
  have hQp : ¬ Q = [] := by intro h; rw [h] at hQl; cases hQl
  have HI0 : Hid (Is ((w.alloc (.cells C.toArray 43)).alloc (.cells Q.toArray 25)) w.heap.size C 43) := hide ((Is.new w C 43).alloc _)
  have HQ0 : Hid (Is ((w.alloc (.cells C.toArray 43)).alloc (.cells Q.toArray 25)) (w.heap.size + 1) Q 25) := hide (Is.new' Q 25 (by simp))
  have HR0 : Hid (((w.alloc (.cells C.toArray 43)).alloc (.cells Q.toArray 25)).rangeAt w.heap.size 0 P) := hide (by have h := HI0.out; rw [hC] at h; rw [hC, hP]; exact place_range h)
  have HB0 := hide (below_alloc2 w (.cells C.toArray 43) (.cells Q.toArray 25))
  have HCM : Hid (∀ W : World, Calls Tryd.prog 4 #[.agg P.toArray, .agg Q.toArray] W fun e w' => e = .returned (.int .i64 r) ∧ Below W.heap.size W w') := hide (fun W => by rw [hP, hQ, hr]; exact compare_any x.tx B x.at' y W hx.1 hB hx.2.1 hBb)
  rw [← hr, ← hC, ← hQ]
  clear hr hC hQ hP hPl hQl hx hB hBb
  go_enter Tryd.func37, Tryd.ntmps37
  go_wp2_with (first
    | (refine wpList_load_part 25 P w.heap.size 0 rfl (.tmp 5) rfl rfl HR0.out Tryd.underlying25 rfl size_placeC HPL.out ?_)
    | (refine wpList_load_part 25 Q (w.heap.size + 1) 0 rfl (.tmp 3) rfl rfl (is_range HQ0.out) Tryd.underlying25 rfl size_placeC HQL.out ?_)
    | (go_at_call 4; refine (HCM.out _).mono ?_; rintro e w1 ⟨rfl, hb1⟩))
  go_ret
  exact ⟨rfl, HB0.out.trans (hb1.mono HB0.out.size)⟩
/-- What a search keeps. -/
theorem at_keep {w W0 W W' : World} {b o g : Nat} {P C : List Value} (h : W.rangeAt b o C ∧ W.rangeAt g 0 P ∧ Hid (Below W0.heap.size W0 W ∧ b < W.heap.size ∧ g < W.heap.size)) (hb : Below W.heap.size W W') : W'.rangeAt b o C ∧ W'.rangeAt g 0 P ∧ Hid (Below W0.heap.size W0 W' ∧ b < W'.heap.size ∧ g < W'.heap.size) := by
  obtain ⟨h1, h2, h3⟩ := h
  obtain ⟨a, c, d⟩ := h3.out
  exact ⟨range_keep h1 hb c, range_keep h2 hb d, hide ⟨a.trans (hb.mono a.size), Nat.lt_of_lt_of_le c hb.size, Nat.lt_of_lt_of_le d hb.size⟩⟩
theorem half_of (lo hi : Nat) (h : lo < hi) : ∃ m : Nat, ((lo : Int) + (hi : Int)) / 2 = (m : Int) ∧ lo ≤ m ∧ m < hi := ⟨(lo + hi) / 2, by omega, by omega, by omega⟩
set_option maxRecDepth 100000 in
set_option maxHeartbeats 4000000 in
theorem bsf_some (R : List CoinV) (b off cap : Nat) (B : List Int) (y : Int) (w : World) (h0 : 0 < R.length) (h1 : R.length ≤ cap) (hs : Cn.setF (R.map CoinV.it) = 0) (h : ∀ x ∈ R, CoinOk w x) (hb : b < w.heap.size) (hc : w.rangeAt b off (coinCells R)) (hB : B.length = 32) (hBb : Sz.Byt B) :
    Calls Tryd.prog 36 #[.slice (some ⟨b, off, none⟩) R.length cap, .agg (vals B ++ [Value.int .i64 y]).toArray, .func (.func 37) #[] #[]] w fun e w' => (∃ (m : Nat) (f : Bool), e = .returned (.tuple #[.int .i64 (m : Int), .bool f]) ∧ (f = true → FoundAt R m (B, y)) ∧ (f = false → NoneAt R (B, y))) ∧ Below w.heap.size w w' := by
  have hm : R.length ≤ 1000 := by have := (Cn.setF_zero hs).1; rwa [List.length_map] at this
  have HDOWN : Hid (∀ m (hm : m < R.length), Cn.pl (Cn.place R[m].it) (B, y) < 0 → DownTo R (m + 1) (B, y)) := hide (fun m hm hp t ht htm' => by
    have htm : t ≤ m := by omega
    have := Cn.set_down hs (p := (B, y)) (m := m) (by rw [List.length_map]; exact hm) (by simpa using hp) t htm
    simpa using this)
  have HUPP : Hid (∀ m (hm : m < R.length), ¬ Cn.pl (Cn.place R[m].it) (B, y) < 0 → UpFrom R m (B, y)) := hide (fun m hm hp t ht htm => by
    have := Cn.set_up hs (p := (B, y)) (m := m) (by rw [List.length_map]; exact hm) (by simpa using hp) t htm (by rw [List.length_map]; exact ht)
    simpa using this)
  have HONE : Hid (∀ i j (hi : i < R.length) (hj : j < R.length), i < j → Cn.pl (Cn.place R[i].it) (Cn.place R[j].it) < 0) := hide (fun i j hi hj hij => by
    have := (Cn.setF_zero hs).2.2 i j hij (by rw [List.length_map]; exact hj)
    simpa using this)
  have HOKA : Hid (∀ k (hk : k < R.length) W, Below w.heap.size w W → CoinOk W R[k]) := hide (fun k hk W hW => (h _ (List.getElem_mem hk)).below hW)
  have HRNG : Hid (∀ k (hk : k < R.length) W, Below w.heap.size w W → W.rangeAt b (off + k * 36) (coinCell R[k])) := hide (fun k hk W hW => range_keep (range_at hc (fun x hx => coinCell_length x (h x hx).1) k hk) hW hb)
  have HL32 : Hid (∀ k (hk : k < R.length), R[k].tx.length = 32) := hide (fun k hk => (h _ (List.getElem_mem hk)).1)
  have HBLW := hide hb
  obtain ⟨P, hP⟩ : ∃ P, P = vals B ++ [Value.int .i64 y] := ⟨_, rfl⟩
  have hPl : P.length = 33 := by rw [hP]; simp [vals_length, hB]
  have hPp : ¬ P = [] := by intro h; rw [h] at hPl; cases hPl
  have hszp : (Tryd.prog.info? 25).map (·.size) = some P.length := by rw [hPl]; exact size_placeC
  obtain ⟨W0, hW0⟩ : ∃ W0, W0 = w.alloc (.cells P.toArray 25) := ⟨_, rfl⟩
  have HI0 : Hid (Is W0 w.heap.size P 25) := hide (by rw [hW0]; exact Is.new w P 25)
  have HB0 : Hid (Below w.heap.size w W0) := hide (by rw [hW0]; exact below_alloc w _)
  have HCMA : Hid (∀ k (hk : k < R.length) W, Below W0.heap.size W0 W → Calls Tryd.prog 37 #[.agg (coinCell R[k]).toArray, .agg P.toArray] W fun e w' => e = .returned (.int .i64 (Cn.pl (Cn.place R[k].it) (B, y))) ∧ Below W.heap.size W w') := hide (fun k hk W hW => by rw [hP]; exact catF_any R[k] B y W (HOKA.out k hk W (HB0.out.trans (hW.mono HB0.out.size))) hB hBb)
  obtain ⟨n, hn⟩ : ∃ n, n = R.length := ⟨_, rfl⟩
  have HN := hide hn
  rw [← hn, ← hP]
  rw [← hn] at hm h1 h0
  have heg := call_atF
  clear h hb hc hs hP hPl hn hB hBb
  go_enter Tryd.func36, Tryd.ntmps36
  go_wp2
  rw [← hW0]
  clear hW0
  go_loopw [9, 10] (fun i j wr => ∃ lo hi : Nat, lo ≤ hi ∧ hi ≤ n ∧ i = .int .i64 lo ∧ j = .int .i64 hi ∧ DownTo R lo (B, y) ∧ UpFrom R hi (B, y) ∧ Below W0.heap.size W0 wr) (fun i j _ => (intOf j - intOf i).toNat)
  case atStart => exact ⟨0, n, by omega, Nat.le_refl _, rfl, rfl, fun t h ht => absurd ht (by omega), fun t h ht => absurd h (by rw [← HN.out]; omega), Below.refl _ _⟩
  case round =>
    obtain ⟨lo, hi, hlh, hhi, rfl, rfl, hdn, hup, hbel⟩ := hrel
    have HDO := hide hdn
    have HUP := hide hup
    have HBEL := hide hbel
    clear hdn hup hbel
    by_cases hlt : lo < hi
    · have hki : (lo : Int) < (hi : Int) := by omega
      obtain ⟨m, hm2, hlm, hmh⟩ := half_of lo hi hlt
      have hmR : m < R.length := by rw [← HN.out]; omega
      obtain ⟨C, hC⟩ : ∃ C, C = coinCell R[m] := ⟨_, rfl⟩
      obtain ⟨q, hq⟩ : ∃ q, q = Cn.pl (Cn.place R[m].it) (B, y) := ⟨_, rfl⟩
      have HQE := hide hq
      have hszc : (Tryd.prog.info? 43).map (·.size) = some C.length := by rw [hC, coinCell_length _ (HL32.out m hmR)]; exact size_coin
      have HCM := hide (HCMA.out m hmR)
      rw [← hC, ← hq] at HCM
      have HRC : Hid (wr.drew.rangeAt b (off + m * 36) C) := hide (by rw [hC]; exact HRNG.out m hmR _ (HB0.out.trans (HBEL.out.drew.mono HB0.out.size)))
      have HRP : Hid (wr.drew.rangeAt w.heap.size 0 P) := hide (is_range (HI0.out.below HBEL.out.drew HI0.out.lt))
      have HBW : Hid (Hid (Below W0.heap.size W0 wr.drew ∧ b < wr.drew.heap.size ∧ w.heap.size < wr.drew.heap.size)) := hide (hide ⟨HBEL.out.drew, Nat.lt_of_lt_of_le HBLW.out (Nat.le_trans HB0.out.size HBEL.out.drew.size), Nat.lt_of_lt_of_le HI0.out.lt HBEL.out.drew.size⟩)
      have hmi : (m : Int) < (n : Int) := by omega
      have hm0 : (0 : Int) ≤ (m : Int) := by omega
      have hadd : (lo : Int) + (hi : Int) ≤ 2000 := by omega
      clear hC hq
      go_wp2_with fail
      refine wp_region_held_drew (S := fun W : World => W.rangeAt b (off + m * 36) C ∧ W.rangeAt w.heap.size 0 P ∧ Hid (Below W0.heap.size W0 W ∧ b < W.heap.size ∧ w.heap.size < W.heap.size)) (by kernel_rfl) ?_ (fun hHeld0 => ?_)
      · exact ⟨HRC.out, HRP.out, HBW.out⟩
      refine wpAnyH_take (i := 0) (v := ?_) rfl (by kernel_rfl) (by kernel_rfl) (by kernel_rfl) (fun _ _ _ h => h) (Or.inl ⟨by rfl, ?_⟩) hHeld0 ?_
      rotate_left
      · (intro w hSw; (try dsimp only at hSw); go_simp <;> (try with_reducible rfl))
      simp only [Act.put, List.getElem_toArray, List.getElem_cons_zero, List.getElem_cons_succ, List.setIfInBounds_toArray, List.set_cons_zero, List.set_cons_succ]
      refine wpAnyH_take (i := 1) (v := ?_) rfl (by kernel_rfl) (by kernel_rfl) (by kernel_rfl) (fun _ _ _ h => h) (Or.inl ⟨by rfl, ?_⟩) hHeld0 ?_
      rotate_left
      · (intro w hSw; (try dsimp only at hSw); go_simp <;> (try with_reducible rfl))
      simp only [Act.put, List.getElem_toArray, List.getElem_cons_zero, List.getElem_cons_succ, List.setIfInBounds_toArray, List.set_cons_zero, List.set_cons_succ]
      refine wpAnyH_take (i := 2) (v := ?_) rfl (by kernel_rfl) (by kernel_rfl) (by kernel_rfl) (fun _ _ _ h => h) (Or.inl ⟨by rfl, ?_⟩) hHeld0 ?_
      rotate_left
      · (intro w hSw; (try dsimp only at hSw); go_simp <;> (try with_reducible rfl))
      simp only [Act.put, List.getElem_toArray, List.getElem_cons_zero, List.getElem_cons_succ, List.setIfInBounds_toArray, List.set_cons_zero, List.set_cons_succ]
      refine wpAnyH_take (i := 3) (v := ?_) rfl (by kernel_rfl) (by kernel_rfl) (by kernel_rfl) (fun _ _ _ h => h) (Or.inl ⟨by rfl, ?_⟩) hHeld0 ?_
      rotate_left
      · (intro w hSw; (try dsimp only at hSw); go_simp <;> (try with_reducible rfl))
      simp only [Act.put, List.getElem_toArray, List.getElem_cons_zero, List.getElem_cons_succ, List.setIfInBounds_toArray, List.set_cons_zero, List.set_cons_succ]
      refine wpAnyH_take (i := 4) (v := .agg (C).toArray) rfl (by kernel_rfl) (by kernel_rfl) (by kernel_rfl) (fun _ _ _ h => h) (yieldsIf_load_mid (by rfl) _ _ rfl _ _ rfl (C) _ (fun w hSw => hSw.1) Tryd.underlying43 rfl hszc) hHeld0 ?_
      simp only [Act.put, List.getElem_toArray, List.getElem_cons_zero, List.getElem_cons_succ, List.setIfInBounds_toArray, List.set_cons_zero, List.set_cons_succ]
      refine wpAnyH_take (i := 5) (v := .agg (P).toArray) rfl (by kernel_rfl) (by kernel_rfl) (by kernel_rfl) (fun _ _ _ h => h) (yieldsIf_load_mid (by rfl) _ _ rfl _ _ rfl (P) _ (fun w hSw => hSw.2.1) Tryd.underlying25 rfl hszp) hHeld0 ?_
      simp only [Act.put, List.getElem_toArray, List.getElem_cons_zero, List.getElem_cons_succ, List.setIfInBounds_toArray, List.set_cons_zero, List.set_cons_succ]
      refine wpAnyH_ready (rs := [6]) (by kernel_rfl) (by simp) ?_
      refine AllReadyH.cons rfl (fun K hK => ?_) AllReadyH.nil
      go_simp
      go_wp2_with ((go_at_call 37; refine (HCM.out _ hHeld0.2.2.out.1).mono ?_; rintro e W1 ⟨rfl, hb1⟩))
      refine hK.out _ _ (by exact at_keep (w := w) hHeld0 hb1) (fun hHeld1 => ?_)
      clear hK K hHeld0
      try simp only [Act.put, List.getElem_toArray, List.getElem_cons_zero, List.getElem_cons_succ, List.setIfInBounds_toArray, List.set_cons_zero, List.set_cons_succ]
      refine wpAnyH_take (i := 7) (v := ?_) rfl (by kernel_rfl) (by kernel_rfl) (by kernel_rfl) (fun _ _ _ h => h) (Or.inl ⟨by rfl, ?_⟩) hHeld1 ?_
      rotate_left
      · (intro w hSw; (try dsimp only at hSw); go_simp <;> (try with_reducible rfl))
      simp only [Act.put, List.getElem_toArray, List.getElem_cons_zero, List.getElem_cons_succ, List.setIfInBounds_toArray, List.set_cons_zero, List.set_cons_succ]
      refine wpAnyH_done (by kernel_rfl) ?_ _
      have HBL := hide hHeld1.2.2.out.1
      clear hHeld1
      by_cases hq : q < 0
      · have hd : ¬ 0 ≤ q := by omega
        have HDN : Hid (DownTo R (m + 1) (B, y)) := hide (HDOWN.out m hmR (by rw [← HQE.out]; exact hq))
        have hhn : (m : Int) < (n : Int) := by omega
        clear hq
        go_wp2
        go_roundw
        case rel => exact ⟨m + 1, hi, by omega, hhi, by go_num, rfl, HDN.out, HUP.out, HBL.out⟩
        case measure => simp [intOf]; omega
      · have hd : 0 ≤ q := by omega
        have HUN : Hid (UpFrom R m (B, y)) := hide (HUPP.out m hmR (by rw [← HQE.out]; omega))
        go_wp2
        go_roundw
        case rel => exact ⟨lo, m, hlm, by omega, rfl, rfl, HDO.out, HUN.out, HBL.out⟩
        case measure => simp [intOf]; omega
    · have hki : ¬ (lo : Int) < (hi : Int) := by omega
      obtain rfl : lo = hi := by omega
      by_cases hln : lo < n
      · obtain ⟨m, hmd⟩ : ∃ m, m = lo := ⟨_, rfl⟩
        rw [← hmd] at HDO HUP hki hln hhi ⊢
        clear hmd hlh hlt
        have hmR : m < R.length := by rw [← HN.out]; omega
        obtain ⟨C, hC⟩ : ∃ C, C = coinCell R[m] := ⟨_, rfl⟩
        obtain ⟨q, hq⟩ : ∃ q, q = Cn.pl (Cn.place R[m].it) (B, y) := ⟨_, rfl⟩
        have HQE := hide hq
        have HQN : Hid (¬ q < 0) := hide (by rw [hq]; exact HUP.out m hmR (Nat.le_refl _))
        have HLT : Hid (∀ t (h : t < R.length), m < t → 0 < Cn.pl (Cn.place R[t].it) (B, y)) := hide (fun t h ht => by
          have h1 := HUP.out t h (by omega)
          rcases Cn.pl_range (Cn.place R[t].it) (B, y) with k | k | k
          · omega
          · exfalso
            have e := Cn.pl_zero.1 k
            have h2 := HONE.out m t hmR h ht
            rw [e] at h2
            exact HUP.out m hmR (Nat.le_refl _) h2
          · omega)
        have hszc : (Tryd.prog.info? 43).map (·.size) = some C.length := by rw [hC, coinCell_length _ (HL32.out m hmR)]; exact size_coin
        have HCM := hide (HCMA.out m hmR)
        rw [← hC, ← hq] at HCM
        have HRC : Hid (wr.drew.rangeAt b (off + m * 36) C) := hide (by rw [hC]; exact HRNG.out m hmR _ (HB0.out.trans (HBEL.out.drew.mono HB0.out.size)))
        have HRP : Hid (wr.drew.rangeAt w.heap.size 0 P) := hide (is_range (HI0.out.below HBEL.out.drew HI0.out.lt))
        have HBW : Hid (Hid (Below W0.heap.size W0 wr.drew ∧ b < wr.drew.heap.size ∧ w.heap.size < wr.drew.heap.size)) := hide (hide ⟨HBEL.out.drew, Nat.lt_of_lt_of_le HBLW.out (Nat.le_trans HB0.out.size HBEL.out.drew.size), Nat.lt_of_lt_of_le HI0.out.lt HBEL.out.drew.size⟩)
        have hmi : (m : Int) < (n : Int) := by omega
        have hm0 : (0 : Int) ≤ (m : Int) := by omega
        have hdm : decide ((m : Int) < (n : Int)) = true := decide_eq_true hmi
        have hdm2 : decide (m < n) = true := decide_eq_true hln
        clear hC hq
        go_wp2_with fail
        refine wp_region_held_drew (S := fun W : World => W.rangeAt b (off + m * 36) C ∧ W.rangeAt w.heap.size 0 P ∧ Hid (Below W0.heap.size W0 W ∧ b < W.heap.size ∧ w.heap.size < W.heap.size)) (by kernel_rfl) ?_ (fun hHeld0 => ?_)
        · exact ⟨HRC.out, HRP.out, HBW.out⟩
        refine wpAnyH_take (i := 0) (v := ?_) rfl (by kernel_rfl) (by kernel_rfl) (by kernel_rfl) (fun _ _ _ h => h) (Or.inl ⟨by rfl, ?_⟩) hHeld0 ?_
        rotate_left
        · (intro w hSw; (try dsimp only at hSw); go_simp <;> (try with_reducible rfl))
        simp only [Act.put, List.getElem_toArray, List.getElem_cons_zero, List.getElem_cons_succ, List.setIfInBounds_toArray, List.set_cons_zero, List.set_cons_succ]
        refine wpAnyH_take (i := 1) (v := ?_) rfl (by kernel_rfl) (by kernel_rfl) (by kernel_rfl) (fun _ _ _ h => h) (Or.inl ⟨by rfl, ?_⟩) hHeld0 ?_
        rotate_left
        · (intro w hSw; (try dsimp only at hSw); go_simp <;> (try with_reducible rfl))
        simp only [Act.put, List.getElem_toArray, List.getElem_cons_zero, List.getElem_cons_succ, List.setIfInBounds_toArray, List.set_cons_zero, List.set_cons_succ]
        refine wpAnyH_take (i := 2) (v := ?_) rfl (by kernel_rfl) (by kernel_rfl) (by kernel_rfl) (fun _ _ _ h => h) (Or.inl ⟨by rfl, ?_⟩) hHeld0 ?_
        rotate_left
        · (intro w hSw; (try dsimp only at hSw); go_simp <;> (try with_reducible rfl))
        simp only [Act.put, List.getElem_toArray, List.getElem_cons_zero, List.getElem_cons_succ, List.setIfInBounds_toArray, List.set_cons_zero, List.set_cons_succ]
        refine wpAnyH_take (i := 3) (v := ?_) rfl (by kernel_rfl) (by kernel_rfl) (by kernel_rfl) (fun _ _ _ h => h) (Or.inl ⟨by rfl, ?_⟩) hHeld0 ?_
        rotate_left
        · (intro w hSw; (try dsimp only at hSw); go_simp <;> (try with_reducible rfl))
        simp only [Act.put, List.getElem_toArray, List.getElem_cons_zero, List.getElem_cons_succ, List.setIfInBounds_toArray, List.set_cons_zero, List.set_cons_succ]
        refine wpAnyH_take (i := 4) (v := ?_) rfl (by kernel_rfl) (by kernel_rfl) (by kernel_rfl) (fun _ _ _ h => h) (Or.inl ⟨by rfl, ?_⟩) hHeld0 ?_
        rotate_left
        · (intro w hSw; (try dsimp only at hSw); go_simp <;> (try with_reducible rfl))
        simp only [Act.put, List.getElem_toArray, List.getElem_cons_zero, List.getElem_cons_succ, List.setIfInBounds_toArray, List.set_cons_zero, List.set_cons_succ]
        refine wpAnyH_take (i := 5) (v := ?_) rfl (by kernel_rfl) (by kernel_rfl) (by kernel_rfl) (fun _ _ _ h => h) (Or.inl ⟨by rfl, ?_⟩) hHeld0 ?_
        rotate_left
        · (intro w hSw; (try dsimp only at hSw); go_simp <;> (try with_reducible rfl))
        simp only [Act.put, List.getElem_toArray, List.getElem_cons_zero, List.getElem_cons_succ, List.setIfInBounds_toArray, List.set_cons_zero, List.set_cons_succ]
        refine wpAnyH_take (i := 6) (v := ?_) rfl (by kernel_rfl) (by kernel_rfl) (by kernel_rfl) (fun _ _ _ h => h) (Or.inl ⟨by rfl, ?_⟩) hHeld0 ?_
        rotate_left
        · (intro w hSw; (try dsimp only at hSw); go_simp <;> (try with_reducible rfl))
        simp only [Act.put, List.getElem_toArray, List.getElem_cons_zero, List.getElem_cons_succ, List.setIfInBounds_toArray, List.set_cons_zero, List.set_cons_succ]
        refine wpAnyH_take (i := 7) (v := ?_) rfl (by kernel_rfl) (by kernel_rfl) (by kernel_rfl) (fun _ _ _ h => h) (Or.inl ⟨by rfl, ?_⟩) hHeld0 ?_
        rotate_left
        · (intro w hSw; (try dsimp only at hSw); go_simp <;> (try with_reducible rfl))
        simp only [Act.put, List.getElem_toArray, List.getElem_cons_zero, List.getElem_cons_succ, List.setIfInBounds_toArray, List.set_cons_zero, List.set_cons_succ]
        refine wpAnyH_take (i := 8) (v := ?_) rfl (by kernel_rfl) (by kernel_rfl) (by kernel_rfl) (fun _ _ _ h => h) (Or.inl ⟨by rfl, ?_⟩) hHeld0 ?_
        rotate_left
        · (intro w hSw; (try dsimp only at hSw); go_simp <;> (try with_reducible rfl))
        simp only [Act.put, List.getElem_toArray, List.getElem_cons_zero, List.getElem_cons_succ, List.setIfInBounds_toArray, List.set_cons_zero, List.set_cons_succ]
        refine wpAnyH_take (i := 9) (v := .agg (C).toArray) rfl (by kernel_rfl) (by kernel_rfl) (by kernel_rfl) (fun _ _ _ h => h) (yieldsIf_load_mid (by rfl) _ _ rfl _ _ rfl (C) _ (fun w hSw => hSw.1) Tryd.underlying43 rfl hszc) hHeld0 ?_
        simp only [Act.put, List.getElem_toArray, List.getElem_cons_zero, List.getElem_cons_succ, List.setIfInBounds_toArray, List.set_cons_zero, List.set_cons_succ]
        refine wpAnyH_take (i := 10) (v := .agg (P).toArray) rfl (by kernel_rfl) (by kernel_rfl) (by kernel_rfl) (fun _ _ _ h => h) (yieldsIf_load_mid (by rfl) _ _ rfl _ _ rfl (P) _ (fun w hSw => hSw.2.1) Tryd.underlying25 rfl hszp) hHeld0 ?_
        simp only [Act.put, List.getElem_toArray, List.getElem_cons_zero, List.getElem_cons_succ, List.setIfInBounds_toArray, List.set_cons_zero, List.set_cons_succ]
        refine wpAnyH_ready (rs := [11]) (by kernel_rfl) (by simp) ?_
        refine AllReadyH.cons rfl (fun K hK => ?_) AllReadyH.nil
        go_simp
        go_wp2_with ((go_at_call 37; refine (HCM.out _ hHeld0.2.2.out.1).mono ?_; rintro e W1 ⟨rfl, hb1⟩))
        refine hK.out _ _ (by exact at_keep (w := w) hHeld0 hb1) (fun hHeld1 => ?_)
        clear hK K hHeld0
        try simp only [Act.put, List.getElem_toArray, List.getElem_cons_zero, List.getElem_cons_succ, List.setIfInBounds_toArray, List.set_cons_zero, List.set_cons_succ]
        refine wpAnyH_take (i := 12) (v := ?_) rfl (by kernel_rfl) (by kernel_rfl) (by kernel_rfl) (fun _ _ _ h => h) (Or.inl ⟨by rfl, ?_⟩) hHeld1 ?_
        rotate_left
        · (intro w hSw; (try dsimp only at hSw); go_simp <;> (try with_reducible rfl))
        simp only [Act.put, List.getElem_toArray, List.getElem_cons_zero, List.getElem_cons_succ, List.setIfInBounds_toArray, List.set_cons_zero, List.set_cons_succ]
        refine wpAnyH_take (i := 13) (v := ?_) rfl (by kernel_rfl) (by kernel_rfl) (by kernel_rfl) (fun _ _ _ h => h) (Or.inl ⟨by rfl, ?_⟩) hHeld1 ?_
        rotate_left
        · (intro w hSw; (try dsimp only at hSw); go_simp <;> (try with_reducible rfl))
        simp only [Act.put, List.getElem_toArray, List.getElem_cons_zero, List.getElem_cons_succ, List.setIfInBounds_toArray, List.set_cons_zero, List.set_cons_succ]
        refine wpAnyH_take (i := 14) (v := ?_) rfl (by kernel_rfl) (by kernel_rfl) (by kernel_rfl) (fun _ _ _ h => h) (Or.inl ⟨by rfl, ?_⟩) hHeld1 ?_
        rotate_left
        · (intro w hSw; (try dsimp only at hSw); go_simp <;> (try with_reducible rfl))
        simp only [Act.put, List.getElem_toArray, List.getElem_cons_zero, List.getElem_cons_succ, List.setIfInBounds_toArray, List.set_cons_zero, List.set_cons_succ]
        refine wpAnyH_take (i := 15) (v := ?_) rfl (by kernel_rfl) (by kernel_rfl) (by kernel_rfl) (fun _ _ _ h => h) (Or.inl ⟨by rfl, ?_⟩) hHeld1 ?_
        rotate_left
        · (intro w hSw; (try dsimp only at hSw); go_simp <;> (try with_reducible rfl))
        simp only [Act.put, List.getElem_toArray, List.getElem_cons_zero, List.getElem_cons_succ, List.setIfInBounds_toArray, List.set_cons_zero, List.set_cons_succ]
        refine wpAnyH_done (by kernel_rfl) ?_ _
        have HBL := hide hHeld1.2.2.out.1
        clear hHeld1
        by_cases hq : q = 0
        · have hd : (q == 0) = true := by rw [hq]; rfl
          have HFD : Hid (Cn.place R[m].it = (B, y)) := hide (Cn.pl_zero.1 (by rw [← HQE.out]; exact hq))
          go_wp2
          exact bodyPost_ret (v := .tuple #[.int .i64 (m : Int), .bool true]) (by simp [results, Tryd.results36, go_sem, hd]) rfl ⟨⟨m, true, rfl, fun _ => ⟨hmR, HFD.out⟩, fun h => (by cases h)⟩, HB0.out.trans (HBL.out.mono HB0.out.size)⟩
        · have hd : (q == 0) = false := by rw [beq_eq_false_iff_ne]; exact hq
          have HFD : Hid (∀ t (h : t < R.length), Cn.place R[t].it ≠ (B, y)) := hide (fun t h e => by
            have hz := Cn.pl_zero.2 e
            rcases Nat.lt_trichotomy t m with k | k | k
            · have := HDO.out t h k; omega
            · subst k; exact hq (by rw [HQE.out]; exact hz)
            · have hne := HQN.out
              have := HLT.out t h k
              omega)
          go_wp2
          exact bodyPost_ret (v := .tuple #[.int .i64 (m : Int), .bool false]) (by simp [results, Tryd.results36, go_sem, hd]) rfl ⟨⟨m, false, rfl, fun h => (by cases h), fun _ => HFD.out⟩, HB0.out.trans (HBL.out.mono HB0.out.size)⟩
      · have hni : ¬ (lo : Int) < (n : Int) := by omega
        have hdm : decide ((lo : Int) < (n : Int)) = false := decide_eq_false hni
        have hdm2 : decide (lo < n) = false := decide_eq_false hln
        go_wp2_with fail
        refine wp_region_held_drew (S := fun W : World => Hid (Below W0.heap.size W0 W)) (by kernel_rfl) ?_ (fun hHeld0 => ?_)
        · exact hide HBEL.out.drew
        refine wpAnyH_take (i := 0) (v := ?_) rfl (by kernel_rfl) (by kernel_rfl) (by kernel_rfl) (fun _ _ _ h => h) (Or.inl ⟨by rfl, ?_⟩) hHeld0 ?_
        rotate_left
        · (intro w hSw; (try dsimp only at hSw); go_simp <;> (try with_reducible rfl))
        simp only [Act.put, List.getElem_toArray, List.getElem_cons_zero, List.getElem_cons_succ, List.setIfInBounds_toArray, List.set_cons_zero, List.set_cons_succ]
        refine wpAnyH_take (i := 1) (v := ?_) rfl (by kernel_rfl) (by kernel_rfl) (by kernel_rfl) (fun _ _ _ h => h) (Or.inl ⟨by rfl, ?_⟩) hHeld0 ?_
        rotate_left
        · (intro w hSw; (try dsimp only at hSw); go_simp <;> (try with_reducible rfl))
        simp only [Act.put, List.getElem_toArray, List.getElem_cons_zero, List.getElem_cons_succ, List.setIfInBounds_toArray, List.set_cons_zero, List.set_cons_succ]
        refine wpAnyH_take (i := 2) (v := ?_) rfl (by kernel_rfl) (by kernel_rfl) (by kernel_rfl) (fun _ _ _ h => h) (Or.inl ⟨by rfl, ?_⟩) hHeld0 ?_
        rotate_left
        · (intro w hSw; (try dsimp only at hSw); go_simp <;> (try with_reducible rfl))
        simp only [Act.put, List.getElem_toArray, List.getElem_cons_zero, List.getElem_cons_succ, List.setIfInBounds_toArray, List.set_cons_zero, List.set_cons_succ]
        refine wpAnyH_take (i := 3) (v := ?_) rfl (by kernel_rfl) (by kernel_rfl) (by kernel_rfl) (fun _ _ _ h => h) (Or.inl ⟨by rfl, ?_⟩) hHeld0 ?_
        rotate_left
        · (intro w hSw; (try dsimp only at hSw); go_simp <;> (try with_reducible rfl))
        simp only [Act.put, List.getElem_toArray, List.getElem_cons_zero, List.getElem_cons_succ, List.setIfInBounds_toArray, List.set_cons_zero, List.set_cons_succ]
        refine wpAnyH_take (i := 4) (v := ?_) rfl (by kernel_rfl) (by kernel_rfl) (by kernel_rfl) (fun _ _ _ h => h) (Or.inl ⟨by rfl, ?_⟩) hHeld0 ?_
        rotate_left
        · (intro w hSw; (try dsimp only at hSw); go_simp <;> (try with_reducible rfl))
        simp only [Act.put, List.getElem_toArray, List.getElem_cons_zero, List.getElem_cons_succ, List.setIfInBounds_toArray, List.set_cons_zero, List.set_cons_succ]
        refine wpAnyH_take (i := 5) (v := undef) rfl (by kernel_rfl) (by kernel_rfl) (by kernel_rfl) (fun _ _ _ h => h) (Or.inr ⟨by rfl, rfl⟩) hHeld0 ?_
        simp only [Act.put, List.getElem_toArray, List.getElem_cons_zero, List.getElem_cons_succ, List.setIfInBounds_toArray, List.set_cons_zero, List.set_cons_succ]
        refine wpAnyH_take (i := 6) (v := undef) rfl (by kernel_rfl) (by kernel_rfl) (by kernel_rfl) (fun _ _ _ h => h) (Or.inr ⟨by rfl, rfl⟩) hHeld0 ?_
        simp only [Act.put, List.getElem_toArray, List.getElem_cons_zero, List.getElem_cons_succ, List.setIfInBounds_toArray, List.set_cons_zero, List.set_cons_succ]
        refine wpAnyH_take (i := 7) (v := undef) rfl (by kernel_rfl) (by kernel_rfl) (by kernel_rfl) (fun _ _ _ h => h) (Or.inr ⟨by rfl, rfl⟩) hHeld0 ?_
        simp only [Act.put, List.getElem_toArray, List.getElem_cons_zero, List.getElem_cons_succ, List.setIfInBounds_toArray, List.set_cons_zero, List.set_cons_succ]
        refine wpAnyH_take (i := 8) (v := undef) rfl (by kernel_rfl) (by kernel_rfl) (by kernel_rfl) (fun _ _ _ h => h) (Or.inr ⟨by rfl, rfl⟩) hHeld0 ?_
        simp only [Act.put, List.getElem_toArray, List.getElem_cons_zero, List.getElem_cons_succ, List.setIfInBounds_toArray, List.set_cons_zero, List.set_cons_succ]
        refine wpAnyH_take (i := 9) (v := undef) rfl (by kernel_rfl) (by kernel_rfl) (by kernel_rfl) (fun _ _ _ h => h) (Or.inr ⟨by rfl, rfl⟩) hHeld0 ?_
        simp only [Act.put, List.getElem_toArray, List.getElem_cons_zero, List.getElem_cons_succ, List.setIfInBounds_toArray, List.set_cons_zero, List.set_cons_succ]
        refine wpAnyH_take (i := 10) (v := undef) rfl (by kernel_rfl) (by kernel_rfl) (by kernel_rfl) (fun _ _ _ h => h) (Or.inr ⟨by rfl, rfl⟩) hHeld0 ?_
        simp only [Act.put, List.getElem_toArray, List.getElem_cons_zero, List.getElem_cons_succ, List.setIfInBounds_toArray, List.set_cons_zero, List.set_cons_succ]
        refine wpAnyH_take (i := 11) (v := undef) rfl (by kernel_rfl) (by kernel_rfl) (by kernel_rfl) (fun _ _ _ h => h) (Or.inr ⟨by rfl, rfl⟩) hHeld0 ?_
        simp only [Act.put, List.getElem_toArray, List.getElem_cons_zero, List.getElem_cons_succ, List.setIfInBounds_toArray, List.set_cons_zero, List.set_cons_succ]
        refine wpAnyH_take (i := 12) (v := undef) rfl (by kernel_rfl) (by kernel_rfl) (by kernel_rfl) (fun _ _ _ h => h) (Or.inr ⟨by rfl, rfl⟩) hHeld0 ?_
        simp only [Act.put, List.getElem_toArray, List.getElem_cons_zero, List.getElem_cons_succ, List.setIfInBounds_toArray, List.set_cons_zero, List.set_cons_succ]
        refine wpAnyH_take (i := 13) (v := ?_) rfl (by kernel_rfl) (by kernel_rfl) (by kernel_rfl) (fun _ _ _ h => h) (Or.inl ⟨by rfl, ?_⟩) hHeld0 ?_
        rotate_left
        · (intro w hSw; (try dsimp only at hSw); go_simp <;> (try with_reducible rfl))
        simp only [Act.put, List.getElem_toArray, List.getElem_cons_zero, List.getElem_cons_succ, List.setIfInBounds_toArray, List.set_cons_zero, List.set_cons_succ]
        refine wpAnyH_take (i := 14) (v := ?_) rfl (by kernel_rfl) (by kernel_rfl) (by kernel_rfl) (fun _ _ _ h => h) (Or.inl ⟨by rfl, ?_⟩) hHeld0 ?_
        rotate_left
        · (intro w hSw; (try dsimp only at hSw); go_simp <;> (try with_reducible rfl))
        simp only [Act.put, List.getElem_toArray, List.getElem_cons_zero, List.getElem_cons_succ, List.setIfInBounds_toArray, List.set_cons_zero, List.set_cons_succ]
        refine wpAnyH_take (i := 15) (v := ?_) rfl (by kernel_rfl) (by kernel_rfl) (by kernel_rfl) (fun _ _ _ h => h) (Or.inl ⟨by rfl, ?_⟩) hHeld0 ?_
        rotate_left
        · (intro w hSw; (try dsimp only at hSw); go_simp <;> (try with_reducible rfl))
        simp only [Act.put, List.getElem_toArray, List.getElem_cons_zero, List.getElem_cons_succ, List.setIfInBounds_toArray, List.set_cons_zero, List.set_cons_succ]
        refine wpAnyH_done (by kernel_rfl) ?_ _
        have HBL := hide hHeld0.out
        clear hHeld0
        have HFD : Hid (∀ t (h : t < R.length), Cn.place R[t].it ≠ (B, y)) := hide (fun t h e => by
          have hz := Cn.pl_zero.2 e
          have := HDO.out t h (by rw [← HN.out] at h; omega)
          omega)
        go_wp2
        exact bodyPost_ret (v := .tuple #[.int .i64 (lo : Int), .bool false]) (by simp [results, Tryd.results36, go_sem]) rfl ⟨⟨lo, false, rfl, fun h => (by cases h), fun _ => HFD.out⟩, HB0.out.trans (HBL.out.mono HB0.out.size)⟩
end Go.Proofs.YtifoldkbmpopnaaDoor
