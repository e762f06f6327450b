/- The texts SpA, SpB, SpC, SpD, one behind the other. -/
import Derived.Test.YtgkpbglllnmbeaaGreatDoorZCy
import Derived.Test.YtgkpbglllnmbeaaGreatDoorZDo
import Derived.Test.YtgkpbglllnmbeaaGreatDoorZCp
import Derived.Test.YtgkpbglllnmbeaaGreatDoorZKg
/- May it be paid, over lists; spend.openAll. -/
namespace Go.Proofs.YtgkpbglllnmbeaaGreatDoor
open Go.RowKit
set_option linter.unusedVariables false
set_option linter.unusedSimpArgs false

namespace Cn
/-- What is wrong with what opens the coins, the first one first. -/
def openF (m : List Int) (h : Int) : List Coin → List Tm.In → Int
  | c :: s, i :: r => if Lk.run m h c.lock i.keys = 0 then openF m h s r else Lk.run m h c.lock i.keys
  | _, _ => 0
/-- A payment that may be. -/
def paid (l : List Coin) (t : Tm.Tx) (h : Int) : Done :=
  if (Cn.apply l t h).e ≠ 0 then bad (Cn.apply l t h).e
  else if h < t.time then bad 8
  else if openF (Tm.id t) h (Cn.apply l t h).spent t.ins ≠ 0 then bad (openF (Tm.id t) h (Cn.apply l t h).spent t.ins)
  else Cn.apply l t h
theorem openF_drop {m : List Int} {h : Int} {s : List Coin} {r : List Tm.In} {k : Nat} (h1 : k < s.length) (h2 : k < r.length) : openF m h (s.drop k) (r.drop k) = if Lk.run m h s[k].lock r[k].keys = 0 then openF m h (s.drop (k + 1)) (r.drop (k + 1)) else Lk.run m h s[k].lock r[k].keys := by
  rw [List.drop_eq_getElem_cons h1, List.drop_eq_getElem_cons h2]
  rfl
theorem openF_end {m : List Int} {h : Int} {s : List Coin} {r : List Tm.In} {k : Nat} (h1 : s.length ≤ k) : openF m h (s.drop k) (r.drop k) = 0 := by
  rw [List.drop_eq_nil_of_le h1]
  unfold openF
  rfl
theorem openF_zero {m : List Int} {h : Int} : ∀ {s : List Coin} {r : List Tm.In}, openF m h s r = 0 → ∀ k (h1 : k < s.length) (h2 : k < r.length), Lk.run m h s[k].lock r[k].keys = 0
  | [], r, _, k, h1, _ => absurd h1 (by simp)
  | c :: s, [], _, k, _, h2 => absurd h2 (by simp)
  | c :: s, i :: r, e, k, h1, h2 => by
    unfold openF at e
    by_cases hz : Lk.run m h c.lock i.keys = 0
    · rw [if_pos hz] at e
      cases k with
      | zero => exact hz
      | succ k => exact openF_zero e k (by simpa using h1) (by simpa using h2)
    · rw [if_neg hz] at e; exact absurd e hz
theorem openF_of {m : List Int} {h : Int} : ∀ {s : List Coin} {r : List Tm.In}, (∀ k (h1 : k < s.length) (h2 : k < r.length), Lk.run m h s[k].lock r[k].keys = 0) → openF m h s r = 0
  | [], r, _ => by unfold openF; rfl
  | c :: s, [], _ => by unfold openF; rfl
  | c :: s, i :: r, e => by
    unfold openF
    have h0 : Lk.run m h c.lock i.keys = 0 := e 0 (by simp) (by simp)
    rw [if_pos h0]
    exact openF_of (fun k h1 h2 => e (k + 1) (by simpa using h1) (by simpa using h2))
end Cn
theorem tx_keys {t : TxV} {w : World} (h : HasTx w t) : ∀ k (hk : k < t.ins.length) W, Below w.heap.size w W → HasKeys W t.ins[k].kv t.ins[k].K := fun k hk W hW => ((h.below hW).1.2 _ (List.getElem_mem hk)).2.2
theorem cn_cellS {w W W' : World} {b o : Nat} {v : Value} (h : W.cell? ⟨b, o, none⟩ = some v) (hb : Below W.heap.size W W') (hw : Below w.heap.size w W) (hl : b < w.heap.size) : W'.cell? ⟨b, o, none⟩ = some v :=
  (hb.cell (p := ⟨b, o, none⟩) (Nat.lt_of_lt_of_le hl hw.size)).trans h
set_option maxRecDepth 100000 in
set_option maxHeartbeats 4000000 in
theorem openAll_any (sv : Value) (S : List CoinV) (t : TxV) (h : Int) (w : World) (hS : HasCoins w sv S) (ht : HasTx w t) (hT : Tab w) (hw : 0 < w.heap.size) (hk : Tm.check t.it = 0) (hl : S.length = t.ins.length) :
    Calls Tryz.prog 32 #[sv, t.val, .int .i64 h] w fun e w' => e = .returned (errV (Cn.openF (Tm.id t.it) h (S.map CoinV.it) t.it.ins)) ∧ Below w.heap.size w w' := by
  obtain ⟨sa, sc, rfl, hsm, hsr⟩ := coins_form hS
  obtain ⟨ia, ic, oa, oc, ft⟩ := tx_form ht
  have h40 := (tx_small hk).1
  have HSR := hide hsr
  have HSO := hide (fun x (hx : x ∈ S) W (hW : Below w.heap.size w W) => (hS.below hW).2 x hx)
  have HKY := hide (tx_keys ht)
  have HTG := hide (fun W (hW : Below w.heap.size w W) => tid_good t W (ht.below hW) hk (hT.below hW hw) (Nat.lt_of_lt_of_le hw hW.size))
  have HTB := hide (fun W (hW : Below w.heap.size w W) => hT.below hW hw)
  have HGL : Hid (∀ W, Below w.heap.size w W → 0 < W.heap.size) := hide (fun W (hW : Below w.heap.size w W) => Nat.lt_of_lt_of_le hw hW.size)
  have HVT := hide ft.val
  have HFT := hide ft
  have holm := ft.ol
  obtain ⟨m, hm⟩ : ∃ m, m = Tm.id t.it := ⟨_, rfl⟩
  have HML : Hid (m.length = 32) := hide (by rw [hm]; exact id_len _)
  have HMB : Hid (Sz.Byt m) := hide (by rw [hm]; exact id_byt _)
  obtain ⟨DV, hDV⟩ : ∃ d, d = vals m := ⟨_, rfl⟩
  have HDVE := hide hDV
  have HDL : Hid (DV.length = 32) := hide (by rw [hDV, vals_length, HML.out])
  have HD1 : Hid (∀ v ∈ DV, v.oneCell' = true) := hide (by rw [hDV]; exact vals_one _)
  have hDp : ¬ DV = [] := by intro h; have := HDL.out; rw [h] at this; cases this
  have hszd : (Tryz.prog.info? 34).map (·.size) = some DV.length := by rw [HDL.out]; exact size_dig
  obtain ⟨F, hF⟩ : ∃ F, F = Cn.openF m h (S.map CoinV.it) t.it.ins := ⟨_, rfl⟩
  have HF0 : Hid (Cn.openF m h ((S.map CoinV.it).drop 0) (t.it.ins.drop 0) = F) := hide (by rw [hF]; rfl)
  have HST : Hid (∀ k (h1 : k < S.length) (h2 : k < t.ins.length), Cn.openF m h ((S.map CoinV.it).drop k) (t.it.ins.drop k) = if Lk.run m h (opsOf S[k].L) (t.ins[k].K.map Prod.fst) = 0 then Cn.openF m h ((S.map CoinV.it).drop (k + 1)) (t.it.ins.drop (k + 1)) else Lk.run m h (opsOf S[k].L) (t.ins[k].K.map Prod.fst)) := hide (fun k h1 h2 => by
    rw [Cn.openF_drop (by simpa using h1) (by simpa [TxV.it] using h2)]
    simp [TxV.it, InV.it, CoinV.it])
  have HEN : Hid (∀ k, S.length ≤ k → Cn.openF m h ((S.map CoinV.it).drop k) (t.it.ins.drop k) = 0) := hide (fun k hk => Cn.openF_end (by simpa using hk))
  rw [← hm, ← hF]
  rw [← hm, ← hDV] at HTG
  obtain ⟨il, hil⟩ : ∃ n, t.ins.length = n := ⟨_, rfl⟩
  obtain ⟨ol, hol⟩ : ∃ n, t.outs.length = n := ⟨_, rfl⟩
  obtain ⟨tt, htt⟩ : ∃ n, t.time = n := ⟨_, rfl⟩
  rw [hil, hol, htt] at HVT
  rw [HVT.out] at HTG
  rw [hil] at hl h40
  rw [HVT.out, hl]
  rw [hl] at hsm
  have HSL := hide hl
  have HIL := hide hil
  have HB0 := hide (below_alloc w (.cells #[.slice ia il ic, .slice oa ol oc, .int .i64 tt] 26))
  have HI0 := hide (Is.new w [.slice ia il ic, .slice oa ol oc, .int .i64 tt] 26)
  have hzd := zero_dig
  obtain ⟨ZD, hZD⟩ : ∃ Z, Z = vals (List.replicate 32 0) := ⟨_, rfl⟩
  rw [← hZD] at hzd
  have HZDL : Hid (ZD.length = 32) := hide (by rw [hZD]; simp [vals])
  have hZDp : ¬ ZD = [] := by intro h; have := HZDL.out; rw [h] at this; cases this
  have hzc := zero_coin
  obtain ⟨Z, hZ⟩ : ∃ Z, Z = ZC := ⟨_, rfl⟩
  have hzc2 : ∀ w : World, (zeroValue 44).run Tryz.prog w = .ok (.agg Z.toArray) w := by rw [hZ]; exact hzc
  have hZl : Z.length = 36 := by rw [hZ]; simp [ZC, vals]
  have hZp : ¬ Z = [] := by intro h; rw [h] at hZl; cases hZl
  have HZL := hide hZl
  clear hS ht hT hw hk hsr ft hm hDV hF hil hol htt hl hZD hzc hZ hZl
  go_enter Tryz.func32, Tryz.ntmps32
  go_wp2_with (refine wpList_load_part 26 [.slice ia il ic, .slice oa ol oc, .int .i64 tt] w.heap.size 0 rfl (.tmp 4) rfl rfl (is_range HI0.out) Tryz.underlying26 rfl size_tx rfl ?_)
  refine (HTG.out _ HB0.out).mono ?_
  rintro e w1 ⟨rfl, hb1⟩
  have HI1 := hide (HI0.out.below hb1 HI0.out.lt)
  have HB1 := hide (HB0.out.trans (hb1.mono HB0.out.size))
  clear hb1 HTG
  go_wp2_with (refine wpList_store_any3 34 ZD DV w1.heap.size rfl (.tmp 7) (.tmp 15) rfl rfl rfl rfl (Is.new w1 _ _) size_dig HZDL.out HDL.out HD1.out ?_; intro w2 hi2 hw2; have hb2 : Below w1.heap.size w1 w2 := (by rw [hw2]; exact ck_new); have HD2 := hide hi2; have HI2 := hide (HI1.out.below hb2 HI1.out.lt); have HB2 := hide (HB1.out.trans (hb2.mono HB1.out.size)); clear hi2 hw2 hb2)
  go_loopw [22] (fun i wr => ∃ k : Nat, k ≤ il ∧ i = .int .i64 k ∧ Hid (Cn.openF m h ((S.map CoinV.it).drop k) (t.it.ins.drop k) = F) ∧ Below w2.heap.size w2 wr) (fun i _ => il - (intOf i).toNat)
  case atStart => exact ⟨0, by omega, rfl, HF0, Below.refl _ _⟩
  case round =>
    obtain ⟨k, hk, rfl, HFK, hbel⟩ := hrel
    have HBEL := hide hbel
    have HIr := hide (HI2.out.below hbel HI2.out.lt)
    have HDr := hide (HD2.out.below hbel HD2.out.lt)
    have HBr := hide (HB2.out.trans (hbel.mono HB2.out.size))
    clear hbel
    by_cases hltn : k < il
    · have hki : (k : Int) < (il : Int) := by omega
      have hlt : k < S.length := by rw [HSL.out]; exact hltn
      have hlt2 : k < t.ins.length := by rw [HIL.out]; exact hltn
      obtain ⟨sb, so, rfl, hc1, hc2, hbs, hri⟩ := HSR.out k hlt
      rw [HSL.out] at hc1
      obtain ⟨b, off, rfl, hd1, hd2, hbw, _⟩ := HFT.out.ins k hlt2 wr HBr.out
      rw [HIL.out] at hd1
      unfold maxLen at hc2 hd2
      obtain ⟨C, hC⟩ : ∃ C, C = coinCell S[k] := ⟨_, rfl⟩
      obtain ⟨LX, hLX⟩ : ∃ v, v = S[k].lv := ⟨_, rfl⟩
      obtain ⟨KX, hKX⟩ : ∃ v, v = t.ins[k].kv := ⟨_, rfl⟩
      have hxo := HSO.out _ (List.getElem_mem hlt) wr HBr.out
      have HCL : Hid (C.length = 36) := hide (by rw [hC]; exact coinCell_length _ hxo.1)
      have HC1 : Hid (∀ v ∈ C, v.oneCell' = true) := hide (by rw [hC]; exact coin_ones _ (hasOps_slice hxo.2.2))
      have hCp : ¬ C = [] := by intro h; have := HCL.out; rw [h] at this; cases this
      have HRC : Hid (wr.rangeAt sb (so + k * 36) C) := hide (by rw [hC]; exact range_keep hri HBr.out hbs)
      have HC34 : Hid (C[34]? = some LX) := hide (by rw [hC, hLX]; exact (coin_get hxo.1).2.2.1)
      have HKC : Hid (∀ W, Below w.heap.size w W → W.cell? ⟨b, off + k * 34 + 33, none⟩ = some KX) := hide (fun W hW => by
        obtain ⟨b', off', e, _, _, _, hr⟩ := HFT.out.ins k hlt2 W hW
        injection e with e; injection e with e1 e2; subst e1 e2
        rw [hKX]
        exact hr 33 _ (by rw [List.getElem?_append_right (by rw [vals_length, HFT.out.tx k hlt2]; omega), vals_length, HFT.out.tx k hlt2]; rfl))
      obtain ⟨f, hf⟩ : ∃ f, f = Lk.run m h (opsOf S[k].L) (t.ins[k].K.map Prod.fst) := ⟨_, rfl⟩
      have HRUW : Hid (∀ W, Below w.heap.size w W → Calls Tryz.prog 10 #[LX, KX, .agg DV.toArray, .int .i64 h] W fun e w' => e = .returned (errV f) ∧ Below W.heap.size W w') := hide (fun W hW => by
        rw [hLX, hKX, hf, HDVE.out]
        exact run_any S[k].L t.ins[k].K _ _ m h W (HSO.out _ (List.getElem_mem hlt) W hW).2.2 (HKY.out k hlt2 W hW) HML.out HMB.out (HTB.out W hW) (HGL.out W hW))
      have hst := HST.out k hlt hlt2
      rw [HFK.out, ← hf] at hst
      have HNX : Hid (f = 0 → Cn.openF m h ((S.map CoinV.it).drop (k + 1)) (t.it.ins.drop (k + 1)) = F) := hide (fun e => by rw [if_pos e] at hst; exact hst.symm)
      have HNB : Hid (f ≠ 0 → errV f = errV F) := hide (fun e => by rw [if_neg e] at hst; rw [hst])
      have hbw' := hbw
      clear hC hLX hKX hxo hri hf hst HFK
      go_wp2_with (first
        | (refine wpList_load_part 44 C sb (so + k * 36) rfl (.tmp 25) rfl rfl HRC.out Tryz.underlying44 rfl size_coin HCL.out ?_)
        | (refine wpList_store_any3 44 Z C wr.heap.size rfl (.tmp 10) (.tmp 26) rfl rfl rfl rfl (Is.new wr _ _) size_coin HZL.out HCL.out HC1.out ?_; intro w3 hi3 hw3; have hb3 : Below wr.heap.size wr w3 := (by rw [hw3]; exact ck_new); have HI3 := hide hi3; have HT3 := hide (HIr.out.below hb3 HIr.out.lt); have HD3 := hide (HDr.out.below hb3 HDr.out.lt); have HB3 := hide (HBr.out.trans (hb3.mono HBr.out.size)); have HC3 := hide (HBEL.out.trans (hb3.mono HBEL.out.size)); clear hi3 hw3 hb3))
      have hc34 : w3.drew.cell? ⟨wr.heap.size, 34, none⟩ = some LX := (HI3.out.cell 34).trans HC34.out
      have hcI : w3.drew.cell? ⟨w.heap.size, 0, none⟩ = some (.slice (some ⟨b, off, none⟩) il ic) := HT3.out.cell 0
      have hcK : w3.drew.cell? ⟨b, off + k * 34 + 33, none⟩ = some KX := HKC.out w3.drew HB3.out.drew
      have HRD : Hid (w3.drew.rangeAt w1.heap.size 0 DV) := hide (is_range HD3.out.drew)
      have hlt1 : wr.heap.size < w3.heap.size := HI3.out.lt
      have hlt2' : w.heap.size < w3.heap.size := HT3.out.lt
      have hlt3 : b < w3.heap.size := Nat.lt_of_lt_of_le hbw' HB3.out.size
      have hlt4 : w1.heap.size < w3.heap.size := HD3.out.lt
      have HRU := hide (fun W (hW : Below w3.heap.size w3 W) => HRUW.out W (HB3.out.trans (hW.mono HB3.out.size)))
      by_cases hf0 : f = 0
      · rw [hf0, show errV 0 = .nilIface from rfl] at HRU
        have HNY := hide (HNX.out hf0)
        clear hf0
        go_wp2_with fail
        refine wp_region_held_drew (S := fun W : World => W.cell? ⟨wr.heap.size, 34, none⟩ = some LX ∧ W.cell? ⟨w.heap.size, 0, none⟩ = some (.slice (some ⟨b, off, none⟩) il ic) ∧ W.cell? ⟨b, off + k * 34 + 33, none⟩ = some KX ∧ W.rangeAt w1.heap.size 0 DV ∧ Hid (Below w3.heap.size w3 W)) (by kernel_rfl) ?_ (fun hHeld0 => ?_)
        · exact ⟨hc34, hcI, hcK, HRD.out, hide (Below.refl _ _).drew⟩
        refine wpAnyH_take (i := 0) (v := ?_) rfl (by kernel_rfl) (by kernel_rfl) (by kernel_rfl) (fun _ _ _ h => h) (Or.inl ⟨by rfl, ?_⟩) hHeld0 ?_
        rotate_left
        · (intro w hSw; (try dsimp only at hSw); go_simp <;> (try with_reducible rfl))
        simp only [Act.put, List.getElem_toArray, List.getElem_cons_zero, List.getElem_cons_succ, List.setIfInBounds_toArray, List.set_cons_zero, List.set_cons_succ]
        refine wpAnyH_take (i := 1) (v := ?_) rfl (by kernel_rfl) (by kernel_rfl) (by kernel_rfl) (fun _ _ _ h => h) (Or.inl ⟨by rfl, ?_⟩) hHeld0 ?_
        rotate_left
        · (intro w hSw; (try dsimp only at hSw); go_simp <;> (try with_reducible rfl))
        simp only [Act.put, List.getElem_toArray, List.getElem_cons_zero, List.getElem_cons_succ, List.setIfInBounds_toArray, List.set_cons_zero, List.set_cons_succ]
        refine wpAnyH_take (i := 2) (v := ?_) rfl (by kernel_rfl) (by kernel_rfl) (by kernel_rfl) (fun _ _ _ h => h) (Or.inl ⟨by rfl, ?_⟩) hHeld0 ?_
        rotate_left
        · (intro w hSw; (try dsimp only at hSw); go_simp <;> (try with_reducible rfl))
        simp only [Act.put, List.getElem_toArray, List.getElem_cons_zero, List.getElem_cons_succ, List.setIfInBounds_toArray, List.set_cons_zero, List.set_cons_succ]
        refine wpAnyH_take (i := 3) (v := ?_) rfl (by kernel_rfl) (by kernel_rfl) (by kernel_rfl) (fun _ _ _ h => h) (Or.inl ⟨by rfl, ?_⟩) hHeld0 ?_
        rotate_left
        · (intro w hSw; (try dsimp only at hSw); go_simp <;> (try with_reducible rfl))
        simp only [Act.put, List.getElem_toArray, List.getElem_cons_zero, List.getElem_cons_succ, List.setIfInBounds_toArray, List.set_cons_zero, List.set_cons_succ]
        refine wpAnyH_take (i := 4) (v := ?_) rfl (by kernel_rfl) (by kernel_rfl) (by kernel_rfl) (fun _ _ _ h => h) (Or.inl ⟨by rfl, ?_⟩) hHeld0 ?_
        rotate_left
        · (intro w hSw; (try dsimp only at hSw); go_simp <;> (try with_reducible rfl))
        simp only [Act.put, List.getElem_toArray, List.getElem_cons_zero, List.getElem_cons_succ, List.setIfInBounds_toArray, List.set_cons_zero, List.set_cons_succ]
        refine wpAnyH_take (i := 5) (v := ?_) rfl (by kernel_rfl) (by kernel_rfl) (by kernel_rfl) (fun _ _ _ h => h) (Or.inl ⟨by rfl, ?_⟩) hHeld0 ?_
        rotate_left
        · (intro w hSw; (try dsimp only at hSw); go_simp <;> (try with_reducible rfl))
        simp only [Act.put, List.getElem_toArray, List.getElem_cons_zero, List.getElem_cons_succ, List.setIfInBounds_toArray, List.set_cons_zero, List.set_cons_succ]
        refine wpAnyH_take (i := 6) (v := ?_) rfl (by kernel_rfl) (by kernel_rfl) (by kernel_rfl) (fun _ _ _ h => h) (Or.inl ⟨by rfl, ?_⟩) hHeld0 ?_
        rotate_left
        · (intro w hSw; (try dsimp only at hSw); go_simp <;> (try with_reducible rfl))
        simp only [Act.put, List.getElem_toArray, List.getElem_cons_zero, List.getElem_cons_succ, List.setIfInBounds_toArray, List.set_cons_zero, List.set_cons_succ]
        refine wpAnyH_take (i := 7) (v := ?_) rfl (by kernel_rfl) (by kernel_rfl) (by kernel_rfl) (fun _ _ _ h => h) (Or.inl ⟨by rfl, ?_⟩) hHeld0 ?_
        rotate_left
        · (intro w hSw; (try dsimp only at hSw); go_simp <;> (try with_reducible rfl))
        simp only [Act.put, List.getElem_toArray, List.getElem_cons_zero, List.getElem_cons_succ, List.setIfInBounds_toArray, List.set_cons_zero, List.set_cons_succ]
        refine wpAnyH_take (i := 8) (v := ?_) rfl (by kernel_rfl) (by kernel_rfl) (by kernel_rfl) (fun _ _ _ h => h) (Or.inl ⟨by rfl, ?_⟩) hHeld0 ?_
        rotate_left
        · (intro w hSw; (try dsimp only at hSw); go_simp <;> (try with_reducible rfl))
        simp only [Act.put, List.getElem_toArray, List.getElem_cons_zero, List.getElem_cons_succ, List.setIfInBounds_toArray, List.set_cons_zero, List.set_cons_succ]
        refine wpAnyH_take (i := 9) (v := .agg (DV).toArray) rfl (by kernel_rfl) (by kernel_rfl) (by kernel_rfl) (fun _ _ _ h => h) (yieldsIf_load_mid (by rfl) _ _ rfl _ _ rfl (DV) _ (fun w hSw => hSw.2.2.2.1) Tryz.underlying34 rfl hszd) hHeld0 ?_
        simp only [Act.put, List.getElem_toArray, List.getElem_cons_zero, List.getElem_cons_succ, List.setIfInBounds_toArray, List.set_cons_zero, List.set_cons_succ]
        refine wpAnyH_take (i := 10) (v := ?_) rfl (by kernel_rfl) (by kernel_rfl) (by kernel_rfl) (fun _ _ _ h => h) (Or.inl ⟨by rfl, ?_⟩) hHeld0 ?_
        rotate_left
        · (intro w hSw; (try dsimp only at hSw); go_simp <;> (try with_reducible rfl))
        simp only [Act.put, List.getElem_toArray, List.getElem_cons_zero, List.getElem_cons_succ, List.setIfInBounds_toArray, List.set_cons_zero, List.set_cons_succ]
        refine wpAnyH_ready (rs := [11]) (by kernel_rfl) (by simp) ?_
        refine AllReadyH.cons rfl (fun K hK => ?_) AllReadyH.nil
        go_simp
        go_wp2_with ((go_at_call 10; refine (HRU.out _ hHeld0.2.2.2.2.out).mono ?_; rintro e W4 ⟨rfl, hb4⟩))
        refine hK.out _ _ (by exact ⟨cn_cellS hHeld0.1 hb4 hHeld0.2.2.2.2.out hlt1, cn_cellS hHeld0.2.1 hb4 hHeld0.2.2.2.2.out hlt2', cn_cellS hHeld0.2.2.1 hb4 hHeld0.2.2.2.2.out hlt3, range_keep hHeld0.2.2.2.1 hb4 (Nat.lt_of_lt_of_le hlt4 hHeld0.2.2.2.2.out.size), hide (hHeld0.2.2.2.2.out.trans (hb4.mono hHeld0.2.2.2.2.out.size))⟩) (fun hHeld1 => ?_)
        clear hK K hHeld0
        try simp only [Act.put, List.getElem_toArray, List.getElem_cons_zero, List.getElem_cons_succ, List.setIfInBounds_toArray, List.set_cons_zero, List.set_cons_succ]
        refine wpAnyH_take (i := 12) (v := ?_) rfl (by kernel_rfl) (by kernel_rfl) (by kernel_rfl) (fun _ _ _ h => h) (Or.inl ⟨by rfl, ?_⟩) hHeld1 ?_
        rotate_left
        · (intro w hSw; (try dsimp only at hSw); go_simp <;> (try with_reducible rfl))
        simp only [Act.put, List.getElem_toArray, List.getElem_cons_zero, List.getElem_cons_succ, List.setIfInBounds_toArray, List.set_cons_zero, List.set_cons_succ]
        refine wpAnyH_done (by kernel_rfl) ?_ _
        have HC4 := hide (hHeld1.2.2.2.2.out)
        clear hHeld1 hc34 hcI hcK
        go_wp2
        go_roundw
        case rel => exact ⟨k + 1, by omega, by go_num, HNY, HC3.out.trans (HC4.out.mono HC3.out.size)⟩
        case measure => simp [intOf]; omega
      · have hev := errV_ne hf0
        rw [hev] at HRU
        have HNC := hide (HNB.out hf0)
        rw [hev] at HNC
        clear hf0 hev
        go_wp2_with fail
        refine wp_region_held_drew (S := fun W : World => W.cell? ⟨wr.heap.size, 34, none⟩ = some LX ∧ W.cell? ⟨w.heap.size, 0, none⟩ = some (.slice (some ⟨b, off, none⟩) il ic) ∧ W.cell? ⟨b, off + k * 34 + 33, none⟩ = some KX ∧ W.rangeAt w1.heap.size 0 DV ∧ Hid (Below w3.heap.size w3 W)) (by kernel_rfl) ?_ (fun hHeld0 => ?_)
        · exact ⟨hc34, hcI, hcK, HRD.out, hide (Below.refl _ _).drew⟩
        refine wpAnyH_take (i := 0) (v := ?_) rfl (by kernel_rfl) (by kernel_rfl) (by kernel_rfl) (fun _ _ _ h => h) (Or.inl ⟨by rfl, ?_⟩) hHeld0 ?_
        rotate_left
        · (intro w hSw; (try dsimp only at hSw); go_simp <;> (try with_reducible rfl))
        simp only [Act.put, List.getElem_toArray, List.getElem_cons_zero, List.getElem_cons_succ, List.setIfInBounds_toArray, List.set_cons_zero, List.set_cons_succ]
        refine wpAnyH_take (i := 1) (v := ?_) rfl (by kernel_rfl) (by kernel_rfl) (by kernel_rfl) (fun _ _ _ h => h) (Or.inl ⟨by rfl, ?_⟩) hHeld0 ?_
        rotate_left
        · (intro w hSw; (try dsimp only at hSw); go_simp <;> (try with_reducible rfl))
        simp only [Act.put, List.getElem_toArray, List.getElem_cons_zero, List.getElem_cons_succ, List.setIfInBounds_toArray, List.set_cons_zero, List.set_cons_succ]
        refine wpAnyH_take (i := 2) (v := ?_) rfl (by kernel_rfl) (by kernel_rfl) (by kernel_rfl) (fun _ _ _ h => h) (Or.inl ⟨by rfl, ?_⟩) hHeld0 ?_
        rotate_left
        · (intro w hSw; (try dsimp only at hSw); go_simp <;> (try with_reducible rfl))
        simp only [Act.put, List.getElem_toArray, List.getElem_cons_zero, List.getElem_cons_succ, List.setIfInBounds_toArray, List.set_cons_zero, List.set_cons_succ]
        refine wpAnyH_take (i := 3) (v := ?_) rfl (by kernel_rfl) (by kernel_rfl) (by kernel_rfl) (fun _ _ _ h => h) (Or.inl ⟨by rfl, ?_⟩) hHeld0 ?_
        rotate_left
        · (intro w hSw; (try dsimp only at hSw); go_simp <;> (try with_reducible rfl))
        simp only [Act.put, List.getElem_toArray, List.getElem_cons_zero, List.getElem_cons_succ, List.setIfInBounds_toArray, List.set_cons_zero, List.set_cons_succ]
        refine wpAnyH_take (i := 4) (v := ?_) rfl (by kernel_rfl) (by kernel_rfl) (by kernel_rfl) (fun _ _ _ h => h) (Or.inl ⟨by rfl, ?_⟩) hHeld0 ?_
        rotate_left
        · (intro w hSw; (try dsimp only at hSw); go_simp <;> (try with_reducible rfl))
        simp only [Act.put, List.getElem_toArray, List.getElem_cons_zero, List.getElem_cons_succ, List.setIfInBounds_toArray, List.set_cons_zero, List.set_cons_succ]
        refine wpAnyH_take (i := 5) (v := ?_) rfl (by kernel_rfl) (by kernel_rfl) (by kernel_rfl) (fun _ _ _ h => h) (Or.inl ⟨by rfl, ?_⟩) hHeld0 ?_
        rotate_left
        · (intro w hSw; (try dsimp only at hSw); go_simp <;> (try with_reducible rfl))
        simp only [Act.put, List.getElem_toArray, List.getElem_cons_zero, List.getElem_cons_succ, List.setIfInBounds_toArray, List.set_cons_zero, List.set_cons_succ]
        refine wpAnyH_take (i := 6) (v := ?_) rfl (by kernel_rfl) (by kernel_rfl) (by kernel_rfl) (fun _ _ _ h => h) (Or.inl ⟨by rfl, ?_⟩) hHeld0 ?_
        rotate_left
        · (intro w hSw; (try dsimp only at hSw); go_simp <;> (try with_reducible rfl))
        simp only [Act.put, List.getElem_toArray, List.getElem_cons_zero, List.getElem_cons_succ, List.setIfInBounds_toArray, List.set_cons_zero, List.set_cons_succ]
        refine wpAnyH_take (i := 7) (v := ?_) rfl (by kernel_rfl) (by kernel_rfl) (by kernel_rfl) (fun _ _ _ h => h) (Or.inl ⟨by rfl, ?_⟩) hHeld0 ?_
        rotate_left
        · (intro w hSw; (try dsimp only at hSw); go_simp <;> (try with_reducible rfl))
        simp only [Act.put, List.getElem_toArray, List.getElem_cons_zero, List.getElem_cons_succ, List.setIfInBounds_toArray, List.set_cons_zero, List.set_cons_succ]
        refine wpAnyH_take (i := 8) (v := ?_) rfl (by kernel_rfl) (by kernel_rfl) (by kernel_rfl) (fun _ _ _ h => h) (Or.inl ⟨by rfl, ?_⟩) hHeld0 ?_
        rotate_left
        · (intro w hSw; (try dsimp only at hSw); go_simp <;> (try with_reducible rfl))
        simp only [Act.put, List.getElem_toArray, List.getElem_cons_zero, List.getElem_cons_succ, List.setIfInBounds_toArray, List.set_cons_zero, List.set_cons_succ]
        refine wpAnyH_take (i := 9) (v := .agg (DV).toArray) rfl (by kernel_rfl) (by kernel_rfl) (by kernel_rfl) (fun _ _ _ h => h) (yieldsIf_load_mid (by rfl) _ _ rfl _ _ rfl (DV) _ (fun w hSw => hSw.2.2.2.1) Tryz.underlying34 rfl hszd) hHeld0 ?_
        simp only [Act.put, List.getElem_toArray, List.getElem_cons_zero, List.getElem_cons_succ, List.setIfInBounds_toArray, List.set_cons_zero, List.set_cons_succ]
        refine wpAnyH_take (i := 10) (v := ?_) rfl (by kernel_rfl) (by kernel_rfl) (by kernel_rfl) (fun _ _ _ h => h) (Or.inl ⟨by rfl, ?_⟩) hHeld0 ?_
        rotate_left
        · (intro w hSw; (try dsimp only at hSw); go_simp <;> (try with_reducible rfl))
        simp only [Act.put, List.getElem_toArray, List.getElem_cons_zero, List.getElem_cons_succ, List.setIfInBounds_toArray, List.set_cons_zero, List.set_cons_succ]
        refine wpAnyH_ready (rs := [11]) (by kernel_rfl) (by simp) ?_
        refine AllReadyH.cons rfl (fun K hK => ?_) AllReadyH.nil
        go_simp
        go_wp2_with ((go_at_call 10; refine (HRU.out _ hHeld0.2.2.2.2.out).mono ?_; rintro e W4 ⟨rfl, hb4⟩))
        refine hK.out _ _ (by exact ⟨cn_cellS hHeld0.1 hb4 hHeld0.2.2.2.2.out hlt1, cn_cellS hHeld0.2.1 hb4 hHeld0.2.2.2.2.out hlt2', cn_cellS hHeld0.2.2.1 hb4 hHeld0.2.2.2.2.out hlt3, range_keep hHeld0.2.2.2.1 hb4 (Nat.lt_of_lt_of_le hlt4 hHeld0.2.2.2.2.out.size), hide (hHeld0.2.2.2.2.out.trans (hb4.mono hHeld0.2.2.2.2.out.size))⟩) (fun hHeld1 => ?_)
        clear hK K hHeld0
        try simp only [Act.put, List.getElem_toArray, List.getElem_cons_zero, List.getElem_cons_succ, List.setIfInBounds_toArray, List.set_cons_zero, List.set_cons_succ]
        refine wpAnyH_take (i := 12) (v := ?_) rfl (by kernel_rfl) (by kernel_rfl) (by kernel_rfl) (fun _ _ _ h => h) (Or.inl ⟨by rfl, ?_⟩) hHeld1 ?_
        rotate_left
        · (intro w hSw; (try dsimp only at hSw); go_simp <;> (try with_reducible rfl))
        simp only [Act.put, List.getElem_toArray, List.getElem_cons_zero, List.getElem_cons_succ, List.setIfInBounds_toArray, List.set_cons_zero, List.set_cons_succ]
        refine wpAnyH_done (by kernel_rfl) ?_ _
        have HC4 := hide (hHeld1.2.2.2.2.out)
        clear hHeld1 hc34 hcI hcK
        go_wp2
        go_ret
        exact ⟨by rw [← HNC.out]; rfl, HB3.out.trans (HC4.out.mono HB3.out.size)⟩
    · have hki : ¬ (k : Int) < (il : Int) := by omega
      have HFZ : Hid (F = 0) := hide (by rw [← HFK.out]; exact HEN.out k (by rw [HSL.out]; omega))
      go_wp2
      go_ret
      exact ⟨by rw [HFZ.out]; rfl, HBr.out⟩
end Go.Proofs.YtgkpbglllnmbeaaGreatDoor

/- spend.pay, Check, All. -/
namespace Go.Proofs.YtgkpbglllnmbeaaGreatDoor
open Go.RowKit
set_option linter.unusedVariables false
set_option linter.unusedSimpArgs false

/-- What a payment that may be tells: what is wrong, or the set and what is left over. -/
def PayTold (D : Cn.Done) (e : Ending) (w' : World) : Prop :=
  (D.e ≠ 0 ∧ e = .returned (.tuple #[.slice none 0 0, .int .i64 0, .iface 60 (.int .i64 D.e)])) ∨ (D.e = 0 ∧ ∃ v X, e = .returned (.tuple #[v, .int .i64 D.left, .nilIface]) ∧ HasCoins w' v X ∧ X.map CoinV.it = D.set)
theorem doneOf_spent (l : List Cn.Coin) (t : Tm.Tx) (h : Int) (s : List Cn.Coin) : (Cn.doneOf l t h s).spent = s := rfl
set_option maxRecDepth 100000 in
set_option maxHeartbeats 4000000 in
theorem pay_any (cv : Value) (R : List CoinV) (t : TxV) (h : Int) (w : World) (hR : HasCoins w cv R) (ht : HasTx w t) (hT : Tab w) (hw : 0 < w.heap.size) :
    Calls Tryz.prog 13 #[cv, t.val, .int .i64 h] w fun e w' => PayTold (Cn.paid (R.map CoinV.it) t.it h) e w' ∧ Below w.heap.size w w' := by
  obtain ⟨a, cap, rfl, hml, _⟩ := coins_form hR
  obtain ⟨ia, ic, oa, oc, ft⟩ := tx_form ht
  have HHT := hide (fun W (hW : Below w.heap.size w W) => ht.below hW)
  have HTB := hide (fun W (hW : Below w.heap.size w W) => hT.below hW hw)
  have HGL : Hid (∀ W, Below w.heap.size w W → 0 < W.heap.size) := hide (fun W (hW : Below w.heap.size w W) => Nat.lt_of_lt_of_le hw hW.size)
  have HAP := hide (fun W (hW : Below w.heap.size w W) => apply_any _ R t h W (hR.below hW) (ht.below hW) (HTB.out W hW) (HGL.out W hW))
  have HVT := hide ft.val
  have htm : t.it.time = t.time := rfl
  obtain ⟨il, hil⟩ : ∃ n, t.ins.length = n := ⟨_, rfl⟩
  obtain ⟨ol, hol⟩ : ∃ n, t.outs.length = n := ⟨_, rfl⟩
  obtain ⟨n, hn⟩ : ∃ n, R.length = n := ⟨_, rfl⟩
  obtain ⟨tt, htt⟩ : ∃ n, t.time = n := ⟨_, rfl⟩
  rw [htt] at htm
  have HTM := hide htm
  rw [hil, hol, htt] at HVT
  rw [HVT.out, hn] at HAP
  rw [HVT.out, hn]
  have HB0 := hide (below_alloc w (.cells #[.slice ia il ic, .slice oa ol oc, .int .i64 tt] 26))
  have HI0 := hide (Is.new w [.slice ia il ic, .slice oa ol oc, .int .i64 tt] 26)
  clear hR ht hT hw ft hil hol hn htt htm
  go_enter Tryz.func13, Tryz.ntmps13
  go_wp2_with (refine wpList_load_part 26 [.slice ia il ic, .slice oa ol oc, .int .i64 tt] w.heap.size 0 rfl (.tmp 4) rfl rfl (is_range HI0.out) Tryz.underlying26 rfl size_tx rfl ?_)
  refine (HAP.out _ HB0.out).mono ?_
  rintro e w1 ⟨hap, hb1⟩
  have HI1 := hide (HI0.out.below hb1 HI0.out.lt)
  have HB1 := hide (HB0.out.trans (hb1.mono HB0.out.size))
  clear hb1 HAP
  rcases hap with ⟨h0, rfl⟩ | ⟨h0, v1, v2, X, S, rfl, hX, hXi, hS, hSi⟩
  · have hD : Cn.paid (R.map CoinV.it) t.it h = Cn.bad (Cn.apply (R.map CoinV.it) t.it h).e := by unfold Cn.paid; rw [if_pos h0]
    have HD : Hid (∀ W', PayTold (Cn.paid (R.map CoinV.it) t.it h) (.returned (.tuple #[.slice none 0 0, .int .i64 0, .iface 60 (.int .i64 (Cn.apply (R.map CoinV.it) t.it h).e)])) W') := hide (fun W' => by rw [hD]; exact .inl ⟨h0, rfl⟩)
    unfold BadV
    obtain ⟨c, hc⟩ : ∃ c, (Cn.apply (R.map CoinV.it) t.it h).e = c := ⟨_, rfl⟩
    rw [hc] at HD ⊢
    clear h0 hD hc
    go_wp2
    exact bodyPost_ret (v := .tuple #[.slice none 0 0, .int .i64 0, .iface 60 (.int .i64 c)]) (by simp [results, Tryz.results13, go_sem]) rfl ⟨HD.out _, HB1.out⟩
  · obtain ⟨G, g, hG⟩ := Cn.apply_good h0
    have hp1 : Cn.paid (R.map CoinV.it) t.it h = if h < t.it.time then Cn.bad 8 else if Cn.openF (Tm.id t.it) h G t.it.ins ≠ 0 then Cn.bad (Cn.openF (Tm.id t.it) h G t.it.ins) else Cn.doneOf (R.map CoinV.it) t.it h G := by
      unfold Cn.paid
      rw [if_neg (fun e => e h0), hG]
      rfl
    rw [hG] at hXi hSi
    rw [hG]
    rw [show (Cn.doneOf (R.map CoinV.it) t.it h G).spent = G from rfl] at hSi
    have hsl : S.length = t.ins.length := by have := g.slen; rw [← hSi, List.length_map] at this; simpa [TxV.it] using this
    have HOP := hide (fun W (hW : Below w1.heap.size w1 W) => openAll_any v2 S t h W (hS.below hW) (HHT.out W (HB1.out.trans (hW.mono HB1.out.size))) (HTB.out W (HB1.out.trans (hW.mono HB1.out.size))) (HGL.out W (HB1.out.trans (hW.mono HB1.out.size))) g.hk hsl)
    rw [hSi, HVT.out] at HOP
    rw [HTM.out] at hp1
    obtain ⟨f, hf⟩ : ∃ f, f = Cn.openF (Tm.id t.it) h G t.it.ins := ⟨_, rfl⟩
    rw [← hf] at hp1 HOP
    rw [show (Cn.doneOf (R.map CoinV.it) t.it h G).left = Cn.leftOf t.it h G from rfl]
    obtain ⟨q, hq⟩ : ∃ q, q = Cn.leftOf t.it h G := ⟨_, rfl⟩
    have HQ := hide hq
    rw [← hq]
    have HP1 := hide hp1
    have HXX : Hid (∀ W, Below w1.heap.size w1 W → ∃ X : List CoinV, HasCoins W v1 X ∧ X.map CoinV.it = (Cn.doneOf (R.map CoinV.it) t.it h G).set) := hide (fun W hW => ⟨X, hX.below hW, hXi⟩)
    obtain ⟨xa, xc, rfl, _, _⟩ := coins_form hX
    obtain ⟨sa, sc, rfl, _, _⟩ := coins_form hS
    obtain ⟨xl, hxl⟩ : ∃ n, X.length = n := ⟨_, rfl⟩
    obtain ⟨sl, hsl2⟩ : ∃ n, S.length = n := ⟨_, rfl⟩
    rw [hxl] at HXX ⊢
    rw [hsl2] at HOP ⊢
    clear hxl hsl2
    have hct := HI1.out.cell 2
    simp only [List.getElem?_cons_zero, List.getElem?_cons_succ] at hct
    clear hX hXi hS hSi hsl h0 hG hp1 hf hq
    by_cases hlt : h < tt
    · have HD : Hid (∀ W', PayTold (Cn.paid (R.map CoinV.it) t.it h) (.returned (.tuple #[.slice none 0 0, .int .i64 0, .iface 60 (.int .i64 8)])) W') := hide (fun W' => by rw [HP1.out, if_pos hlt]; exact .inl ⟨by simp [Cn.bad], rfl⟩)
      go_wp2
      exact bodyPost_ret (v := .tuple #[.slice none 0 0, .int .i64 0, .iface 60 (.int .i64 8)]) (by simp [results, Tryz.results13, go_sem]) rfl ⟨HD.out _, HB1.out⟩
    · have HP2 := HP1
      rw [if_neg hlt] at HP2
      clear HP1
      go_wp2_with (refine wpList_load_part 26 [.slice ia il ic, .slice oa ol oc, .int .i64 tt] w.heap.size 0 rfl (.tmp 4) rfl rfl (is_range HI1.out) Tryz.underlying26 rfl size_tx rfl ?_)
      refine (HOP.out _ (Below.refl _ _)).mono ?_
      rintro e w2 ⟨rfl, hb2⟩
      have HB2 := hide (HB1.out.trans (hb2.mono HB1.out.size))
      have HX2 := hide (HXX.out w2 hb2)
      clear hb2 HOP hct
      by_cases hf0 : f = 0
      · rw [hf0, show errV 0 = .nilIface from rfl]
        rw [if_neg (fun e => e hf0)] at HP2
        have HD : Hid (PayTold (Cn.paid (R.map CoinV.it) t.it h) (.returned (.tuple #[.slice xa xl xc, .int .i64 q, .nilIface])) w2) := hide (by
          rw [HP2.out]
          obtain ⟨X2, h1, h2⟩ := HX2.out
          exact .inr ⟨rfl, _, X2, by rw [show (Cn.doneOf (R.map CoinV.it) t.it h G).left = q from HQ.out.symm], h1, h2⟩)
        clear hf0 HP2
        go_wp2
        exact bodyPost_ret (v := .tuple #[.slice xa xl xc, .int .i64 q, .nilIface]) (by simp [results, Tryz.results13, go_sem]) rfl ⟨HD.out, HB2.out⟩
      · rw [errV_ne hf0]
        rw [if_pos hf0] at HP2
        have HD : Hid (∀ W', PayTold (Cn.paid (R.map CoinV.it) t.it h) (.returned (.tuple #[.slice none 0 0, .int .i64 0, .iface 60 (.int .i64 f)])) W') := hide (fun W' => by rw [HP2.out]; exact .inl ⟨hf0, rfl⟩)
        clear hf0 HP2
        go_wp2
        exact bodyPost_ret (v := .tuple #[.slice none 0 0, .int .i64 0, .iface 60 (.int .i64 f)]) (by simp [results, Tryz.results13, go_sem]) rfl ⟨HD.out _, HB2.out⟩
set_option maxHeartbeats 2000000 in
theorem check_pay (cv : Value) (R : List CoinV) (t : TxV) (h : Int) (w : World) (hR : HasCoins w cv R) (ht : HasTx w t) (hT : Tab w) (hw : 0 < w.heap.size) :
    Calls Tryz.prog 7 #[cv, t.val, .int .i64 h] w fun e w' => e = .returned (errV (Cn.paid (R.map CoinV.it) t.it h).e) ∧ Below w.heap.size w w' := by
  obtain ⟨a, cap, rfl, hml, _⟩ := coins_form hR
  obtain ⟨ia, ic, oa, oc, ft⟩ := tx_form ht
  have HPA := hide (fun W (hW : Below w.heap.size w W) => pay_any _ R t h W (hR.below hW) (ht.below hW) (hT.below hW hw) (Nat.lt_of_lt_of_le hw hW.size))
  have HVT := hide ft.val
  obtain ⟨il, hil⟩ : ∃ n, t.ins.length = n := ⟨_, rfl⟩
  obtain ⟨ol, hol⟩ : ∃ n, t.outs.length = n := ⟨_, rfl⟩
  obtain ⟨n, hn⟩ : ∃ n, R.length = n := ⟨_, rfl⟩
  obtain ⟨tt, htt⟩ : ∃ n, t.time = n := ⟨_, rfl⟩
  rw [hil, hol, htt] at HVT
  rw [HVT.out, hn] at HPA
  rw [HVT.out, hn]
  obtain ⟨D, hD⟩ : ∃ D, D = Cn.paid (R.map CoinV.it) t.it h := ⟨_, rfl⟩
  rw [← hD] at HPA ⊢
  obtain ⟨de, hde⟩ : ∃ d, d = D.e := ⟨_, rfl⟩
  have HB0 := hide (below_alloc w (.cells #[.slice ia il ic, .slice oa ol oc, .int .i64 tt] 26))
  have HI0 := hide (Is.new w [.slice ia il ic, .slice oa ol oc, .int .i64 tt] 26)
  have HDE := hide hde
  rw [← hde]
  clear hR ht hT hw ft hil hol hn htt hD hde
  go_enter Tryz.func7, Tryz.ntmps7
  go_wp2_with (refine wpList_load_part 26 [.slice ia il ic, .slice oa ol oc, .int .i64 tt] w.heap.size 0 rfl (.tmp 4) rfl rfl (is_range HI0.out) Tryz.underlying26 rfl size_tx rfl ?_)
  refine (HPA.out _ HB0.out).mono ?_
  rintro e w1 ⟨hpa, hb1⟩
  have HB1 := hide (HB0.out.trans (hb1.mono HB0.out.size))
  clear hb1
  rcases hpa with ⟨h0, rfl⟩ | ⟨h0, v, X, rfl, _⟩
  · rw [← HDE.out] at h0 ⊢
    have HV := hide (errV_ne h0)
    clear h0
    go_wp2
    go_ret
    exact ⟨by rw [HV.out]; rfl, HB1.out⟩
  · have HV : Hid (errV de = .nilIface) := hide (by rw [HDE.out, h0]; rfl)
    clear h0
    go_wp2
    go_ret
    exact ⟨by rw [HV.out]; rfl, HB1.out⟩
end Go.Proofs.YtgkpbglllnmbeaaGreatDoor

/- Payments in a row: over lists, in memory; spend.All of some. -/
namespace Go.Proofs.YtgkpbglllnmbeaaGreatDoor
open Go.RowKit
set_option linter.unusedVariables false
set_option linter.unusedSimpArgs false

namespace Cn
theorem news_place {t : Tm.Tx} {h k : Int} {c : Coin} (hc : c ∈ news t h) : ∃ d ∈ news t k, place d = place c := by
  have key : ∀ (id : List Int) (j : Nat) (o : List Tm.Out), c ∈ newsFrom id h j o → ∃ d ∈ newsFrom id k j o, place d = place c := by
    intro id j o
    induction o generalizing j with
    | nil => intro hc; cases hc
    | cons x r ih =>
      intro hc
      rcases List.mem_cons.1 hc with rfl | hc
      · exact ⟨_, List.mem_cons_self, rfl⟩
      · obtain ⟨d, hd, e⟩ := ih (j + 1) hc
        exact ⟨d, List.mem_cons_of_mem _ hd, e⟩
  exact key _ _ _ hc
theorem news_amounts (t : Tm.Tx) (h k : Int) : amounts' (news t h) = amounts' (news t k) := by
  rw [show amounts' (news t h) = _ from newsFrom_amounts _ _ _ _, show amounts' (news t k) = _ from newsFrom_amounts _ _ _ _]
theorem leftOf_later (t : Tm.Tx) (h k : Int) (s : List Coin) : leftOf t h s = leftOf t k s := by unfold leftOf; rw [news_amounts t h k]
theorem Good.later {l : List Coin} {t : Tm.Tx} {h k : Int} {s : List Coin} (g : Good l t h s) (h0 : 0 ≤ k ∧ k ≤ 1073741824) : Good l t k s := by
  refine ⟨g.hs, g.hk, h0, g.sp, g.t1, by rw [news_amounts t k h]; exact g.t2, by rw [news_amounts t k h]; exact g.le, fun c hc d hd e => ?_, ?_⟩
  · obtain ⟨c2, hc2, e2⟩ := news_place (k := h) hc
    exact g.nw c2 hc2 d hd (e.trans e2.symm)
  · have h1 := (merged_perm (less l s) (news t k)).length_eq
    have h2 := (merged_perm (less l s) (news t h)).length_eq
    have h3 : (news t k).length = t.outs.length := newsFrom_length _ _ _ _
    have h4 : (news t h).length = t.outs.length := newsFrom_length _ _ _ _
    have := g.ln
    rw [List.length_append] at h1 h2
    omega
theorem paid_good {l : List Coin} {t : Tm.Tx} {h : Int} (he : (paid l t h).e = 0) : ∃ s, Good l t h s ∧ ¬ h < t.time ∧ openF (Tm.id t) h s t.ins = 0 ∧ paid l t h = doneOf l t h s := by
  unfold paid at he ⊢
  by_cases h1 : (Cn.apply l t h).e = 0
  · rw [if_neg (fun e => e h1)] at he ⊢
    obtain ⟨s, g, hG⟩ := apply_good h1
    by_cases h2 : h < t.time
    · rw [if_pos h2] at he; simp [bad] at he
    · rw [if_neg h2] at he ⊢
      rw [hG] at he ⊢
      by_cases h3 : openF (Tm.id t) h (doneOf l t h s).spent t.ins = 0
      · rw [if_neg (fun e => e h3)]
        exact ⟨s, g, h2, h3, rfl⟩
      · rw [if_pos h3] at he; exact absurd he h3
  · rw [if_pos h1] at he; exact absurd he h1
theorem paid_of {l : List Coin} {t : Tm.Tx} {h : Int} {s : List Coin} (g : Good l t h s) (h2 : ¬ h < t.time) (h3 : openF (Tm.id t) h s t.ins = 0) : paid l t h = doneOf l t h s := by
  unfold paid
  rw [g.apply, if_neg (fun e => e rfl), if_neg h2, if_neg (fun e => e h3)]
theorem openF_later {m : List Int} {h k : Int} (hh : h ≤ k) {s : List Coin} {r : List Tm.In} (e : openF m h s r = 0) : openF m k s r = 0 :=
  openF_of (fun j h1 h2 => Lk.law_later m h k _ _ hh (openF_zero e j h1 h2))
/-- Later is no worse. -/
theorem later_law {l : List Coin} {t : Tm.Tx} {h k : Int} (he : (paid l t h).e = 0) (hh : h ≤ k) (hk : k ≤ 1073741824) : (paid l t k).e = 0 ∧ (paid l t k).left = (paid l t h).left := by
  obtain ⟨s, g, h2, h3, hp⟩ := paid_good he
  have g2 : Good l t k s := g.later ⟨by have := g.hh; omega, hk⟩
  rw [paid_of g2 (by omega) (openF_later hh h3), hp]
  exact ⟨rfl, leftOf_later t k h s⟩
theorem Good.left_le {l : List Coin} {t : Tm.Tx} {h : Int} {s : List Coin} (g : Good l t h s) : 0 ≤ leftOf t h s ∧ leftOf t h s ≤ 1125899906842624 := by
  refine ⟨g.left.1, ?_⟩
  have e := tot_good g.t1
  have e2 := tot_good g.t2
  have n2 := Mo.sum_nonneg _ e2.2.1
  have b1 := e.2.2
  unfold leftOf
  split
  · omega
  · rw [e.1, e2.1]; omega
theorem paid_left {l : List Coin} {t : Tm.Tx} {h : Int} (he : (paid l t h).e = 0) : 0 ≤ (paid l t h).left ∧ (paid l t h).left ≤ 1125899906842624 := by
  obtain ⟨s, g, _, _, hp⟩ := paid_good he
  rw [hp]
  exact g.left_le
/-- Payments one behind the other: what is wrong, the set behind them, what is left over of all. -/
def alls (h : Int) : List Coin → Int → List Tm.Tx → Int × List Coin × Int
  | l, a, [] => (0, l, a)
  | l, a, t :: r => if (paid l t h).e ≠ 0 then ((paid l t h).e, [], 0) else alls h (paid l t h).set (a + (paid l t h).left) r
def all (l : List Coin) (ts : List Tm.Tx) (h : Int) : Int × List Coin × Int := if 100 < ts.length then (4, [], 0) else alls h l 0 ts
theorem alls_drop {h : Int} {l : List Coin} {a : Int} {ts : List Tm.Tx} {k : Nat} (hk : k < ts.length) : alls h l a (ts.drop k) = if (paid l ts[k] h).e ≠ 0 then ((paid l ts[k] h).e, [], 0) else alls h (paid l ts[k] h).set (a + (paid l ts[k] h).left) (ts.drop (k + 1)) := by
  rw [List.drop_eq_getElem_cons hk]; rfl
end Cn
def txCell (t : TxV) : List Value := [t.iv, t.ov, .int .i64 t.time]
theorem txCell_val (t : TxV) : t.val = .agg (txCell t).toArray := rfl
/-- Payments in a row. -/
def HasTxs (w : World) (v : Value) (T : List TxV) : Prop :=
  ((∃ a cap, v = .slice a 0 cap ∧ T = []) ∨ ∃ b off cap, v = .slice (some ⟨b, off, none⟩) T.length cap ∧ 0 < T.length ∧ T.length ≤ cap ∧ cap ≤ maxLen ∧ b < w.heap.size ∧ w.rangeAt b off ((T.map txCell).flatten)) ∧ ∀ t ∈ T, HasTx w t
theorem HasTxs.below {w w' : World} {v : Value} {T : List TxV} (h : HasTxs w v T) (hb : Below w.heap.size w w') : HasTxs w' v T := by
  refine ⟨?_, fun t ht => (h.2 t ht).below hb⟩
  rcases h.1 with h | ⟨b, off, cap, hv, h0, h1, h2, h3, hc⟩
  · exact .inl h
  · exact .inr ⟨b, off, cap, hv, h0, h1, h2, Nat.lt_of_lt_of_le h3 hb.size, range_keep hc hb h3⟩
theorem txs_form {w : World} {v : Value} {T : List TxV} (h : HasTxs w v T) : ∃ a cap, v = .slice a T.length cap ∧ T.length ≤ maxLen ∧ ∀ k (hk : k < T.length), ∃ b off, a = some ⟨b, off, none⟩ ∧ T.length ≤ cap ∧ cap ≤ maxLen ∧ b < w.heap.size ∧ w.rangeAt b (off + k * 3) (txCell T[k]) := by
  rcases h.1 with ⟨a, cap, rfl, rfl⟩ | ⟨b, off, cap, rfl, h0, h1, h2, h3, hc⟩
  · exact ⟨a, cap, rfl, by simp, fun k hk => absurd hk (by simp)⟩
  · exact ⟨_, cap, rfl, by omega, fun k hk => ⟨b, off, rfl, h1, h2, h3, range_at hc (fun x hx => rfl) k hk⟩⟩
theorem txs_one {w : World} {b : Nat} {t : TxV} (hi : Is w b (txCell t) 26) (ht : HasTx w t) : HasTxs w (.slice (some ⟨b, 0, none⟩) 1 1) [t] :=
  ⟨.inr ⟨b, 0, 1, rfl, by simp, by simp, by unfold maxLen; omega, hi.lt, by simpa using is_range hi⟩, fun x hx => by rw [List.mem_singleton.1 hx]; exact ht⟩
def AllTold (F : Int × List Cn.Coin × Int) (e : Ending) (w' : World) : Prop :=
  (F.1 ≠ 0 ∧ e = .returned (.tuple #[.slice none 0 0, .int .i64 0, .iface 60 (.int .i64 F.1)])) ∨ (F.1 = 0 ∧ ∃ v X, e = .returned (.tuple #[v, .int .i64 F.2.2, .nilIface]) ∧ HasCoins w' v X ∧ X.map CoinV.it = F.2.1)
set_option maxRecDepth 100000 in
set_option maxHeartbeats 8000000 in
theorem all_some (cv tv : Value) (R : List CoinV) (T : List TxV) (h : Int) (w : World) (hR : HasCoins w cv R) (ht : HasTxs w tv T) (hT : Tab w) (hw : 0 < w.heap.size) (h0 : 0 < T.length) (h1 : T.length ≤ 100) :
    Calls Tryz.prog 11 #[cv, tv, .int .i64 h] w fun e w' => AllTold (Cn.all (R.map CoinV.it) (T.map TxV.it) h) e w' ∧ Below w.heap.size w w' := by
  obtain ⟨a, cap, rfl, hml, _⟩ := coins_form hR
  obtain ⟨ta, tc, rfl, htm, htr⟩ := txs_form ht
  have HRW := hide hR
  have HTR := hide htr
  have HHT := hide (fun x (hx : x ∈ T) W (hW : Below w.heap.size w W) => (ht.2 x hx).below hW)
  have HTB := hide (fun W (hW : Below w.heap.size w W) => hT.below hW hw)
  have HGL : Hid (∀ W, Below w.heap.size w W → 0 < W.heap.size) := hide (fun W (hW : Below w.heap.size w W) => Nat.lt_of_lt_of_le hw hW.size)
  have HPA := hide (fun x (hx : x ∈ T) (v : Value) (X : List CoinV) W (hW : Below w.heap.size w W) (hv : HasCoins W v X) => pay_any v X x h W hv (HHT.out x hx W hW) (HTB.out W hW) (HGL.out W hW))
  obtain ⟨F, hF⟩ : ∃ F, F = Cn.all (R.map CoinV.it) (T.map TxV.it) h := ⟨_, rfl⟩
  have HF0 : Hid (Cn.alls h (R.map CoinV.it) 0 ((T.map TxV.it).drop 0) = F) := hide (by rw [hF]; unfold Cn.all; rw [if_neg (by rw [List.length_map]; omega)]; rfl)
  have HST : Hid (∀ (l : List Cn.Coin) (s : Int) k (hk : k < T.length), Cn.alls h l s ((T.map TxV.it).drop k) = if (Cn.paid l T[k].it h).e ≠ 0 then ((Cn.paid l T[k].it h).e, [], 0) else Cn.alls h (Cn.paid l T[k].it h).set (s + (Cn.paid l T[k].it h).left) ((T.map TxV.it).drop (k + 1))) := hide (fun l s k hk => by
    rw [Cn.alls_drop (by simpa using hk)]
    simp)
  have HEN : Hid (∀ (l : List Cn.Coin) (s : Int) k, T.length ≤ k → Cn.alls h l s ((T.map TxV.it).drop k) = (0, l, s)) := hide (fun l s k hk => by rw [List.drop_eq_nil_of_le (by simpa using hk)]; rfl)
  rw [← hF]
  obtain ⟨n, hn⟩ : ∃ n, R.length = n := ⟨_, rfl⟩
  obtain ⟨tl, htl⟩ : ∃ n, T.length = n := ⟨_, rfl⟩
  rw [hn] at HRW hml
  rw [htl] at h0 h1
  rw [hn, htl]
  have HTL := hide htl
  have hti : (0 : Int) < (tl : Int) := by omega
  have htz : ((tl : Int) == 0) = false := by rw [beq_eq_false_iff_ne]; omega
  have hth : ¬ (100 : Int) < (tl : Int) := by omega
  have hthd : decide ((100 : Int) < (tl : Int)) = false := decide_eq_false hth
  clear hR ht hT hw htr hF hn htl htm
  go_enter Tryz.func11, Tryz.ntmps11
  go_wp2
  go_loopw [9, 10, 28] (fun v z i wr => ∃ (k : Nat) (X : List CoinV) (s : Int), k ≤ tl ∧ i = .int .i64 k ∧ z = .int .i64 s ∧ HasCoins wr v X ∧ 0 ≤ s ∧ s ≤ k * 1125899906842624 ∧ Hid (Cn.alls h (X.map CoinV.it) s ((T.map TxV.it).drop k) = F) ∧ Below w.heap.size w wr) (fun _ _ i _ => tl - (intOf i).toNat)
  case atStart => exact ⟨0, R, 0, by omega, rfl, rfl, HRW.out, by omega, by omega, HF0, Below.refl _ _⟩
  case round =>
    obtain ⟨k, X, s, hk, rfl, rfl, hX, hs0, hs1, HFK, hbel⟩ := hrel
    have HBEL := hide hbel
    have HX := hide hX
    obtain ⟨xa, xc, hv, _, _⟩ := coins_form hX
    subst hv
    obtain ⟨xl, hxl⟩ : ∃ n, X.length = n := ⟨_, rfl⟩
    rw [hxl] at HX ⊢
    clear hbel hX hxl
    have hs2 : s ≤ 112589990684262400 := by omega
    by_cases hltn : k < tl
    · have hki : (k : Int) < (tl : Int) := by omega
      have hlt : k < T.length := by rw [HTL.out]; exact hltn
      obtain ⟨b, off, rfl, hc1, hc2, hb, hri⟩ := HTR.out k hlt
      rw [HTL.out] at hc1
      unfold maxLen at hc2
      obtain ⟨ia, ic, oa, oc, ft⟩ := tx_form (HHT.out _ (List.getElem_mem hlt) w (Below.refl _ _))
      have hcl : txCell T[k] = [.slice ia T[k].ins.length ic, .slice oa T[k].outs.length oc, .int .i64 T[k].time] := by
        have := ft.val
        rw [txCell_val] at this
        injection this with e
        exact Array.toList_inj.2 e |>.trans rfl |> (fun z => by simpa using z)
      obtain ⟨il, hil⟩ : ∃ n, T[k].ins.length = n := ⟨_, rfl⟩
      obtain ⟨ol, hol⟩ : ∃ n, T[k].outs.length = n := ⟨_, rfl⟩
      obtain ⟨tt, htt⟩ : ∃ n, T[k].time = n := ⟨_, rfl⟩
      rw [hil, hol, htt] at hcl
      have HRT : Hid (wr.rangeAt b (off + k * 3) [.slice ia il ic, .slice oa ol oc, .int .i64 tt]) := hide (by rw [← hcl]; exact range_keep hri HBEL.out hb)
      have HPK : Hid (∀ W, Below wr.heap.size wr W → Calls Tryz.prog 13 #[.slice xa xl xc, .agg #[.slice ia il ic, .slice oa ol oc, .int .i64 tt], .int .i64 h] W fun e w' => PayTold (Cn.paid (X.map CoinV.it) T[k].it h) e w' ∧ Below W.heap.size W w') := hide (fun W hW => by
        have := HPA.out _ (List.getElem_mem hlt) (.slice xa xl xc) X W (HBEL.out.trans (hW.mono HBEL.out.size)) (HX.out.below hW)
        rw [txCell_val, hcl] at this
        exact this)
      have hst := HST.out (X.map CoinV.it) s k hlt
      rw [HFK.out] at hst
      have HPL := hide (fun (e : (Cn.paid (X.map CoinV.it) T[k].it h).e = 0) => Cn.paid_left e)
      obtain ⟨D, hD⟩ : ∃ D, D = Cn.paid (X.map CoinV.it) T[k].it h := ⟨_, rfl⟩
      rw [← hD] at HPK hst HPL
      have HSTK := hide hst
      clear hri ft hcl hil hol htt hst hD HFK
      go_wp2_with (first
        | (refine wpList_load_part 26 [.slice ia il ic, .slice oa ol oc, .int .i64 tt] b (off + k * 3) rfl (.tmp 30) rfl rfl HRT.out Tryz.underlying26 rfl size_tx rfl ?_)
        | (refine wpList_store_any3 26 [.slice none 0 0, .slice none 0 0, .int .i64 0] [.slice ia il ic, .slice oa ol oc, .int .i64 tt] wr.heap.size rfl (.tmp 12) (.tmp 31) rfl rfl rfl rfl (Is.new wr _ _) size_tx rfl rfl (by intro v hv; simp only [List.mem_cons, List.not_mem_nil, or_false] at hv; rcases hv with rfl | rfl | rfl <;> rfl) ?_; intro w3 hi3 hw3; have hb3 : Below wr.heap.size wr w3 := (by rw [hw3]; exact ck_new); have HI3 := hide hi3; have HB3 := hide hb3; have HBW3 := hide (HBEL.out.trans (hb3.mono HBEL.out.size)); clear hi3 hw3 hb3)
        | (refine wpList_load_part 26 [.slice ia il ic, .slice oa ol oc, .int .i64 tt] wr.heap.size 0 rfl (.tmp 12) rfl rfl (is_range HI3.out) Tryz.underlying26 rfl size_tx rfl ?_))
      refine (HPK.out _ HB3.out).mono ?_
      rintro e w4 ⟨hpa, hb4⟩
      have HBW4 := hide (HBW3.out.trans (hb4.mono HBW3.out.size))
      clear hb4
      rcases hpa with ⟨hD0, rfl⟩ | ⟨hD0, v, Y, rfl, hY, hYi⟩
      · have HR4 : Hid (AllTold F (.returned (.tuple #[.slice none 0 0, .int .i64 0, .iface 60 (.int .i64 D.e)])) w4) := hide (by
          rw [HSTK.out, if_pos hD0]; exact .inl ⟨hD0, rfl⟩)
        obtain ⟨c, hc⟩ : ∃ c, D.e = c := ⟨_, rfl⟩
        rw [hc] at HR4 ⊢
        clear hD0 hc HPL HSTK
        go_wp2
        exact bodyPost_ret (v := .tuple #[.slice none 0 0, .int .i64 0, .iface 60 (.int .i64 c)]) (by simp [results, Tryz.results11, go_sem]) rfl ⟨HR4.out, HBW4.out⟩
      · obtain ⟨q1, q2⟩ := HPL.out hD0
        have HNX : Hid (Cn.alls h (Y.map CoinV.it) (s + D.left) ((T.map TxV.it).drop (k + 1)) = F) := hide (by rw [HSTK.out, if_neg (fun e => e hD0), hYi])
        obtain ⟨q, hq⟩ : ∃ q, D.left = q := ⟨_, rfl⟩
        rw [hq] at q1 q2 HNX ⊢
        have HYW := hide hY
        obtain ⟨ya, yc, hv, _, _⟩ := coins_form hY
        subst hv
        obtain ⟨yl, hyl⟩ : ∃ n, Y.length = n := ⟨_, rfl⟩
        rw [hyl] at HYW ⊢
        clear hD0 hq hY hYi HPL HSTK hyl
        go_wp2
        go_roundw
        case rel => exact ⟨k + 1, Y, s + q, by omega, by go_num, by go_num, HYW.out, by omega, by push_cast; omega, HNX, HBW4.out⟩
        case measure => simp [intOf]; omega
    · have hki : ¬ (k : Int) < (tl : Int) := by omega
      have HE : Hid (AllTold F (.returned (.tuple #[.slice xa xl xc, .int .i64 s, .nilIface])) wr) := hide (by
        have e := HEN.out (X.map CoinV.it) s k (by rw [HTL.out]; omega)
        rw [HFK.out] at e
        rw [e]
        exact .inr ⟨rfl, _, X, rfl, HX.out, rfl⟩)
      clear HFK
      go_wp2
      exact bodyPost_ret (v := .tuple #[.slice xa xl xc, .int .i64 s, .nilIface]) (by simp [results, Tryz.results11, go_sem]) rfl ⟨HE.out, HBEL.out⟩
end Go.Proofs.YtgkpbglllnmbeaaGreatDoor

/- moneyerlaw2's paid: a payment of 5 may be. -/
namespace Go.Proofs.YtgkpbglllnmbeaaGreatDoor
open Go.RowKit
set_option linter.unusedVariables false
set_option linter.unusedSimpArgs false

theorem wpList_load_partS (t : TypeId) (c : List Value) (b off : Nat) {m : Nat} {d : TypeDesc} {w : World} {ops : Array Oper} {rest : List Oper} {o : Oper} {a : Act} {Q : Exit → Act → World → Prop} (hgd : Region.wanted o (yielded ops a.tmps) = true) (s : Operand) (ho : o.op = .load t s) (hs : a.eval s = .pointer (some ⟨b, off, none⟩))
    (hr : w.rangeAt b off c) (hu : Tryz.prog.underlying t = some d) (hd : d.isRow = true) (hz : Sized t m) (hc : c.length = m)
    (h : wpList Tryz.prog ops Q rest (a.put o.dst (.agg c.toArray)) w) : wpList Tryz.prog ops Q (o :: rest) a w := by
  refine wpList_step fun K hK => ?_
  rw [if_pos hgd]
  have hl := run_loadVar_mid (P := Tryz.prog) w b off t c d hr hu hd (by rw [hc]; exact hz)
  unfold Oper.wp
  simp only [execOp, ho, hs, Instr.loadAt, Instr.sureAddr, Sem.run_bind, Sem.run_pure, Result.andThen_ok, hl]
  exact hK _ _ h
theorem paid_done (b : Nat) : ∃ id, Cn.all [] [(madeT b).it] 7 = (0, [⟨id, 0, 5, [], 7⟩], 0) := by
  obtain ⟨id, hd⟩ := made_done b
  have hp : Cn.paid [] (madeT b).it 7 = Cn.apply [] (madeT b).it 7 := by
    rw [(made_good' b).apply]
    exact Cn.paid_of (made_good' b) (by show ¬ (7 : Int) < 0; omega) (by unfold Cn.openF; rfl)
  refine ⟨id, ?_⟩
  show Cn.alls 7 [] 0 [(madeT b).it] = _
  unfold Cn.alls
  rw [hp, hd]
  rfl
set_option maxRecDepth 100000 in
set_option maxHeartbeats 2000000 in
theorem cpaid_any (w : World) (hT : Tab w) (hw : 0 < w.heap.size) : Calls Tryz.prog 6 #[] w fun e w' => e = .returned (.bool true) ∧ Below w.heap.size w w' := by
  have HI : Hid (Is ((w.alloc (.cells #[.int .i64 5, .slice none 0 0] 40)).alloc (.cells #[.slice none 0 0, .slice (some ⟨w.heap.size, 0, none⟩) 1 1, .int .i64 0] 26)) w.heap.size [.int .i64 5, .slice none 0 0] 40) := hide ((Is.new w [.int .i64 5, .slice none 0 0] 40).alloc _)
  have HJ : Hid (Is ((w.alloc (.cells #[.int .i64 5, .slice none 0 0] 40)).alloc (.cells #[.slice none 0 0, .slice (some ⟨w.heap.size, 0, none⟩) 1 1, .int .i64 0] 26)) (w.heap.size + 1) (txCell (madeT w.heap.size)) 26) := hide (Is.new' [.slice none 0 0, .slice (some ⟨w.heap.size, 0, none⟩) 1 1, .int .i64 0] 26 (by simp))
  have HBL := hide (below_alloc2 w (.cells #[.int .i64 5, .slice none 0 0] 40) (.cells #[.slice none 0 0, .slice (some ⟨w.heap.size, 0, none⟩) 1 1, .int .i64 0] 26))
  have HS := hide (fun W (hW : Below w.heap.size w W) (h : HasTxs W (.slice (some ⟨w.heap.size + 1, 0, none⟩) 1 1) [madeT w.heap.size]) => all_some (.slice none 0 0) _ [] [madeT w.heap.size] 7 W ⟨.inl ⟨none, 0, rfl, rfl⟩, fun x hx => by cases hx⟩ h (hT.below hW hw) (Nat.lt_of_lt_of_le hw hW.size) (by simp) (by simp))
  clear hT
  go_enter Tryz.func6, Tryz.ntmps6
  go_wp2_with fail
  refine (HS.out _ HBL.out (txs_one HJ.out (made_has HI.out))).mono ?_
  rintro e w1 ⟨hap, hb1⟩
  have HB1 := hide (HBL.out.trans (hb1.mono HBL.out.size))
  obtain ⟨id, hd⟩ := paid_done w.heap.size
  have hap' : AllTold (0, [⟨id, 0, 5, [], 7⟩], 0) e w1 := by
    have h2 := hap
    rw [show (List.map CoinV.it [] : List Cn.Coin) = [] from rfl, show List.map TxV.it [madeT w.heap.size] = [(madeT w.heap.size).it] from rfl, hd] at h2
    exact h2
  clear hap hb1 HS HI HJ hd
  rcases hap' with ⟨h, _⟩ | ⟨_, v1, X, rfl, hX, hXi⟩
  · exact absurd rfl h
  · obtain ⟨a1, c1, rfl, _, _⟩ := coins_form hX
    have hXl : X.length = 1 := by have := congrArg List.length hXi; simpa using this
    rw [hXl]
    clear hX hXi hXl
    go_wp2
    go_ret
    exact ⟨rfl, HB1.out⟩
theorem all_one (l : List Cn.Coin) (t : Tm.Tx) (h : Int) (he : (Cn.paid l t h).e = 0) : Cn.all l [t] h = (0, (Cn.paid l t h).set, (Cn.paid l t h).left) := by
  show Cn.alls h l 0 [t] = _
  unfold Cn.alls
  rw [if_neg (fun e => e he)]
  unfold Cn.alls
  rw [Int.zero_add]
end Go.Proofs.YtgkpbglllnmbeaaGreatDoor
