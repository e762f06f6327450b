/- SpendLater: later is no worse. -/
import Derived.Test.YtgkpbglllnmbeaaGreatDoorZSp
namespace Go.Proofs.YtgkpbglllnmbeaaGreatDoor
open Go.RowKit
set_option linter.unusedVariables false
set_option linter.unusedSimpArgs false

set_option maxRecDepth 100000 in
set_option maxHeartbeats 8000000 in
theorem spendLater_walk (cv : Value) (R : List CoinV) (t : TxV) (h k : Int) (w : World) (hR : HasCoins w cv R) (ht : HasTx w t) (hT : Tab w) (hw : 0 < w.heap.size) :
    Calls Tryz.prog 5 #[cv, t.val, .int .i64 h, .int .i64 k] w fun e w' => e = .returned (.bool true) ∧ Below w.heap.size w w' := by
  obtain ⟨a, cap, rfl, hml, _⟩ := coins_form hR
  obtain ⟨ia, ic, oa, oc, ft⟩ := tx_form ht
  have HTB := hide (fun W (hW : Below w.heap.size w W) => hT.below hW hw)
  have HGL : Hid (∀ W, Below w.heap.size w W → 0 < W.heap.size) := hide (fun W (hW : Below w.heap.size w W) => Nat.lt_of_lt_of_le hw hW.size)
  have HHT := hide (fun W (hW : Below w.heap.size w W) => ht.below hW)
  have HRW := hide (fun W (hW : Below w.heap.size w W) => hR.below hW)
  have HPD := hide (fun W (hW : Below w.heap.size w W) => cpaid_any W (HTB.out W hW) (HGL.out W hW))
  have HCP := hide (fun (z : Int) W (hW : Below w.heap.size w W) => check_pay _ R t z W (hR.below hW) (ht.below hW) (HTB.out W hW) (HGL.out W hW))
  have HVT := hide ft.val
  have hilm := ft.il
  have holm := ft.ol
  have HFT := hide ft
  obtain ⟨il, hil⟩ : ∃ n, t.ins.length = n := ⟨_, rfl⟩
  obtain ⟨ol, hol⟩ : ∃ n, t.outs.length = n := ⟨_, rfl⟩
  obtain ⟨n, hn⟩ : ∃ n, R.length = n := ⟨_, rfl⟩
  obtain ⟨tt, htt⟩ : ∃ n, t.time = n := ⟨_, rfl⟩
  rw [hil, hol, htt] at HVT
  have HCL : Hid (txCell t = [.slice ia il ic, .slice oa ol oc, .int .i64 tt]) := hide (by
    have e := HVT.out
    rw [txCell_val] at e
    injection e with e
    exact Array.toList_inj.2 e |>.trans rfl |> (fun z => by simpa using z))
  have HAL : Hid (∀ (z q : Int), (Cn.paid (R.map CoinV.it) t.it z).e = 0 → (Cn.paid (R.map CoinV.it) t.it z).left = q → ∀ W, Below w.heap.size w W → Calls Tryz.prog 11 #[.slice a n cap, .slice (some ⟨W.heap.size, 0, none⟩) 1 1, .int .i64 z] (W.alloc (.cells #[.slice ia il ic, .slice oa ol oc, .int .i64 tt] 26)) fun e w' => (∃ v, e = .returned (.tuple #[v, .int .i64 q, .nilIface])) ∧ Below W.heap.size W w') := hide (fun z q h0 hq W hW => by
    have hal := below_alloc W (.cells #[.slice ia il ic, .slice oa ol oc, .int .i64 tt] 26)
    have hW2 := hW.trans (hal.mono hW.size)
    have hx := Is.new W (txCell t) 26
    rw [HCL.out] at hx
    have hh := all_some (.slice a R.length cap) (.slice (some ⟨W.heap.size, 0, none⟩) 1 1) R [t] z _ (HRW.out _ hW2) (txs_one (by rw [HCL.out]; exact hx) (HHT.out _ hW2)) (HTB.out _ hW2) (HGL.out _ hW2) (by simp) (by simp)
    rw [hn] at hh
    refine hh.mono ?_
    rintro e w' ⟨ha, hb⟩
    refine ⟨?_, hal.trans (hb.mono hal.size)⟩
    rw [show List.map TxV.it [t] = [t.it] from rfl, all_one _ _ _ h0] at ha
    rcases ha with ⟨h1, _⟩ | ⟨_, v, X, rfl, _⟩
    · exact absurd rfl h1
    · exact ⟨v, by rw [← hq]⟩)
  have HLW := hide (fun (he : (Cn.paid (R.map CoinV.it) t.it h).e = 0) (h1 : h ≤ k) (h2 : k ≤ 1073741824) => Cn.later_law he h1 h2)
  rw [HVT.out, hn] at HCP
  rw [HVT.out, hn]
  obtain ⟨p, hp⟩ : ∃ p, (Cn.paid (R.map CoinV.it) t.it h).e = p := ⟨_, rfl⟩
  have HP := hide hp
  have HB0 := hide (below_alloc w (.cells #[.slice ia il ic, .slice oa ol oc, .int .i64 tt] 26))
  have HI0 := hide (Is.new w [.slice ia il ic, .slice oa ol oc, .int .i64 tt] 26)
  clear hR ht hT hw ft hil hol hn htt hp
  go_enter Tryz.func5, Tryz.ntmps5
  go_wp2_with fail
  refine (HPD.out _ HB0.out).mono ?_
  rintro e w1 ⟨rfl, hb1⟩
  have HI1 := hide (HI0.out.below hb1 HI0.out.lt)
  have HB1 := hide (HB0.out.trans (hb1.mono HB0.out.size))
  clear hb1 HPD
  by_cases h1 : k < h
  · go_wp2
    go_ret
    exact ⟨rfl, HB1.out⟩
  · by_cases h2 : (1073741824 : Int) < k
    · go_wp2
      go_ret
      exact ⟨rfl, HB1.out⟩
    · have HCH := hide (HCP.out h)
      rw [HP.out] at HCH
      have hd1 : decide (k < h) = false := decide_eq_false h1
      have hd2 : decide ((1073741824 : Int) < k) = false := decide_eq_false h2
      by_cases hp0 : p = 0
      · rw [hp0, show errV 0 = .nilIface from rfl] at HCH
        have HE := hide (HP.out.trans hp0)
        obtain ⟨k0, kq⟩ := HLW.out HE.out (by omega) (by omega)
        obtain ⟨q, hq⟩ : ∃ q, (Cn.paid (R.map CoinV.it) t.it h).left = q := ⟨_, rfl⟩
        have HA1 := hide (HAL.out h q HE.out hq)
        have HA2 := hide (HAL.out k q k0 (kq.trans hq))
        have HCK := hide (HCP.out k)
        rw [k0, show errV 0 = .nilIface from rfl] at HCK
        clear hp0 k0 kq hq HCP HAL HLW HE HP
        go_wp2_with (refine wpList_load_partS 26 [.slice ia il ic, .slice oa ol oc, .int .i64 tt] w.heap.size 0 (by rfl) (.tmp 5) rfl rfl (is_range HI1.out) Tryz.underlying26 rfl size_tx rfl ?_)
        refine (HCH.out _ HB1.out).mono ?_
        rintro e w2 ⟨rfl, hb2⟩
        have HI2 := hide (HI1.out.below hb2 HI1.out.lt)
        have HB2 := hide (HB1.out.trans (hb2.mono HB1.out.size))
        clear hb2 HCH
        go_wp2_with (refine wpList_load_part 26 [.slice ia il ic, .slice oa ol oc, .int .i64 tt] w.heap.size 0 rfl (.tmp 5) rfl rfl (is_range HI2.out) Tryz.underlying26 rfl size_tx rfl ?_)
        refine (HA1.out _ HB2.out).mono ?_
        rintro e w3 ⟨⟨v3, rfl⟩, hb3⟩
        have HI3 := hide (HI2.out.below hb3 HI2.out.lt)
        have HB3 := hide (HB2.out.trans (hb3.mono HB2.out.size))
        clear hb3 HA1
        go_wp2_with (refine wpList_load_part 26 [.slice ia il ic, .slice oa ol oc, .int .i64 tt] w.heap.size 0 rfl (.tmp 5) rfl rfl (is_range HI3.out) Tryz.underlying26 rfl size_tx rfl ?_)
        refine (HA2.out _ HB3.out).mono ?_
        rintro e w4 ⟨⟨v4, rfl⟩, hb4⟩
        have HI4 := hide (HI3.out.below hb4 HI3.out.lt)
        have HB4 := hide (HB3.out.trans (hb4.mono HB3.out.size))
        clear hb4 HA2
        go_wp2_with (refine wpList_load_partS 26 [.slice ia il ic, .slice oa ol oc, .int .i64 tt] w.heap.size 0 (by rfl) (.tmp 5) rfl rfl (is_range HI4.out) Tryz.underlying26 rfl size_tx rfl ?_)
        refine (HCK.out _ HB4.out).mono ?_
        rintro e w5 ⟨rfl, hb5⟩
        have HI5 := hide (HI4.out.below hb5 HI4.out.lt)
        have HB5 := hide (HB4.out.trans (hb5.mono HB4.out.size))
        clear hb5 HCK
        go_wp2
        go_ret
        exact ⟨rfl, HB5.out⟩
      · rw [errV_ne hp0] at HCH
        clear hp0 HP
        go_wp2_with (refine wpList_load_partS 26 [.slice ia il ic, .slice oa ol oc, .int .i64 tt] w.heap.size 0 (by rfl) (.tmp 5) rfl rfl (is_range HI1.out) Tryz.underlying26 rfl size_tx rfl ?_)
        refine (HCH.out _ HB1.out).mono ?_
        rintro e w2 ⟨rfl, hb2⟩
        have HI2 := hide (HI1.out.below hb2 HI1.out.lt)
        have HB2 := hide (HB1.out.trans (hb2.mono HB1.out.size))
        clear hb2 HCH
        go_wp2
        go_ret
        exact ⟨rfl, HB2.out⟩
end Go.Proofs.YtgkpbglllnmbeaaGreatDoor
