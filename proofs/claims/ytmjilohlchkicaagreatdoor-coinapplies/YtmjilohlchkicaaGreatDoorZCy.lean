/- The texts CnAy, CnAz, CnBa, CnBb, CnMd, CnFm, one behind the other. -/
import Derived.Test.YtmjilohlchkicaaGreatDoorZCp
import Derived.Test.YtmjilohlchkicaaGreatDoorZCl
/- coin.Apply: its first ways. -/
namespace Go.Proofs.YtmjilohlchkicaaGreatDoor
open Go.RowKit
set_option linter.unusedVariables false
set_option linter.unusedSimpArgs false

/-- What Apply tells where something is wrong. -/
def BadV (c : Int) : Value := .tuple #[.slice none 0 0, .slice none 0 0, .int .i64 0, .iface 27 (.int .i64 c)]
set_option maxHeartbeats 1000000 in
theorem apply_set (cv : Value) (R : List CoinV) (t : TxV) (h : Int) (w : World) (hR : HasCoins w cv R) (ht : HasTx w t) (hs : Cn.setF (R.map CoinV.it) ≠ 0) :
    Calls Tryz.prog 5 #[cv, t.val, .int .i64 h] w fun e w' => e = .returned (BadV (Cn.setF (R.map CoinV.it))) ∧ Below w.heap.size w w' := by
  obtain ⟨a, cap, rfl, _, _⟩ := coins_form hR
  have HCK := hide (fun W (hW : Below w.heap.size w W) => ccheck_any _ R W (hR.below hW))
  obtain ⟨c, hc⟩ : ∃ c, c = Cn.setF (R.map CoinV.it) := ⟨_, rfl⟩
  rw [← hc] at HCK hs ⊢
  rw [errV_ne hs] at HCK
  unfold BadV
  obtain ⟨n, hn⟩ : ∃ n, n = R.length := ⟨_, rfl⟩
  rw [← hn] at HCK ⊢
  obtain ⟨iv, ins, ov, outs, time⟩ := t
  obtain ⟨ia, ic, hie, _, _⟩ := ht.1.form
  obtain ⟨oa, oc, hoe, _, _⟩ := ht.2.form
  simp only at hie hoe
  subst hie hoe
  show Calls Tryz.prog 5 #[.slice a n cap, .agg #[.slice ia ins.length ic, .slice oa outs.length oc, .int .i64 time], .int .i64 h] w _
  generalize ins.length = il at *
  generalize outs.length = ol at *
  have HB0 := hide (below_alloc w (.cells #[.slice ia il ic, .slice oa ol oc, .int .i64 time] 26))
  clear hs hc hR ht hn
  go_enter Tryz.func5, Tryz.ntmps5
  go_wp2_with fail
  refine (HCK.out _ HB0.out).mono ?_
  rintro e w1 ⟨rfl, hb1⟩
  go_wp2
  exact bodyPost_ret (v := .tuple #[.slice none 0 0, .slice none 0 0, .int .i64 0, .iface 27 (.int .i64 c)]) (by simp [results, Tryz.results5, go_sem]) rfl ⟨rfl, HB0.out.trans (hb1.mono HB0.out.size)⟩
set_option maxHeartbeats 1000000 in
theorem apply_tx (cv : Value) (R : List CoinV) (t : TxV) (h : Int) (w : World) (hR : HasCoins w cv R) (ht : HasTx w t) (hT : Tab w) (hw : 2 < w.heap.size) (hs : Cn.setF (R.map CoinV.it) = 0) (hk : Tm.check t.it ≠ 0) :
    Calls Tryz.prog 5 #[cv, t.val, .int .i64 h] w fun e w' => e = .returned (BadV (Tm.check t.it)) ∧ Below w.heap.size w w' := by
  obtain ⟨a, cap, rfl, _, _⟩ := coins_form hR
  have HCK := hide (fun W (hW : Below w.heap.size w W) => ccheck_any _ R W (hR.below hW))
  rw [hs, show errV 0 = .nilIface from rfl] at HCK
  have HOC := hide (fun W (hW : Below w.heap.size w W) => ownCoins_any t h W (ht.below hW) (hT.below hW hw) (Nat.lt_of_lt_of_le hw hW.size))
  simp only [OwTold, if_neg hk] at HOC
  obtain ⟨c, hc⟩ : ∃ c, c = Tm.check t.it := ⟨_, rfl⟩
  rw [← hc] at hk ⊢
  simp only [← hc] at HOC
  rw [errV_ne hk] at HOC
  unfold BadV
  obtain ⟨n, hn⟩ : ∃ n, n = R.length := ⟨_, rfl⟩
  rw [← hn] at HCK ⊢
  obtain ⟨iv, ins, ov, outs, time⟩ := t
  obtain ⟨ia, ic, hie, _, _⟩ := ht.1.form
  obtain ⟨oa, oc, hoe, _, _⟩ := ht.2.form
  simp only at hie hoe
  subst hie hoe
  simp only [TxV.val] at HOC
  show Calls Tryz.prog 5 #[.slice a n cap, .agg #[.slice ia ins.length ic, .slice oa outs.length oc, .int .i64 time], .int .i64 h] w _
  have HB0 := hide (below_alloc w (.cells #[.slice ia ins.length ic, .slice oa outs.length oc, .int .i64 time] 26))
  have HI0 := hide (Is.new w [.slice ia ins.length ic, .slice oa outs.length oc, .int .i64 time] 26)
  generalize ins.length = il at *
  generalize outs.length = ol at *
  clear hs hc hR ht hn hk
  go_enter Tryz.func5, Tryz.ntmps5
  go_wp2_with fail
  refine (HCK.out _ HB0.out).mono ?_
  rintro e w1 ⟨rfl, hb1⟩
  have HI1 := hide (HI0.out.below hb1 HI0.out.lt)
  have HB1 := hide (HB0.out.trans (hb1.mono HB0.out.size))
  clear hb1
  go_wp2_with (refine wpList_load_part 26 [.slice ia il ic, .slice oa ol oc, .int .i64 time] w.heap.size 0 rfl (.tmp 4) rfl rfl (is_range HI1.out) Tryz.underlying26 rfl size_tx rfl ?_)
  refine (HOC.out _ HB1.out).mono ?_
  rintro e w2 ⟨rfl, hb2⟩
  go_wp2
  exact bodyPost_ret (v := .tuple #[.slice none 0 0, .slice none 0 0, .int .i64 0, .iface 27 (.int .i64 c)]) (by simp [results, Tryz.results5, go_sem]) rfl ⟨rfl, HB1.out.trans (hb2.mono HB1.out.size)⟩
end Go.Proofs.YtmjilohlchkicaaGreatDoor

/- coin.Apply: a height that is none; a coin that isn't there. -/
namespace Go.Proofs.YtmjilohlchkicaaGreatDoor
open Go.RowKit
set_option linter.unusedVariables false
set_option linter.unusedSimpArgs false

set_option maxRecDepth 100000 in
set_option maxHeartbeats 2000000 in
theorem apply_early (cv : Value) (R : List CoinV) (t : TxV) (h : Int) (w : World) (hR : HasCoins w cv R) (ht : HasTx w t) (hT : Tab w) (hw : 2 < w.heap.size) (hs : Cn.setF (R.map CoinV.it) = 0) (hk : Tm.check t.it = 0)
    (hbad : ¬ (0 ≤ h ∧ h ≤ 1073741824) ∨ ∃ k, ∃ hk : k < t.ins.length, NoneAt R (t.ins[k].tx, t.ins[k].at')) :
    Calls Tryz.prog 5 #[cv, t.val, .int .i64 h] w fun e w' => e = .returned (BadV (if 0 ≤ h ∧ h ≤ 1073741824 then 5 else 2)) ∧ Below w.heap.size w w' := by
  obtain ⟨a, cap, rfl, _, _⟩ := coins_form hR
  have h40 : t.ins.length ≤ 40 := by have := (Tm.check_zero _ hk).1; simpa [TxV.it] using this
  have HCK := hide (fun W (hW : Below w.heap.size w W) => ccheck_any _ R W (hR.below hW))
  rw [hs, show errV 0 = .nilIface from rfl] at HCK
  have HOC := hide (fun W (hW : Below w.heap.size w W) => ownCoins_any t h W (ht.below hW) (hT.below hW hw) (Nat.lt_of_lt_of_le hw hW.size))
  have HSP := hide (fun W (hW : Below w.heap.size w W) => spentBy_any t _ R W (ht.below hW) (hR.below hW) hs h40)
  have HNS : Hid ((0 ≤ h ∧ h ≤ 1073741824) → ∀ W W' e, SpTold R (t.ins.map fun i => (i.tx, i.at')) W W' e → e = .returned (.tuple #[.slice none 0 0, .iface 27 (.int .i64 5)])) := hide (fun hh W W' e hsp => by
    rcases hbad with hb | ⟨k, hk, hna⟩
    · exact absurd hh hb
    · rcases hsp with ⟨v, S, he, hS⟩ | ⟨k2, hk2, hna2, he⟩
      · exfalso
        have hp := hS.pls
        rw [List.take_length] at hp
        have hkS : k < S.length := by have := congrArg List.length hp; simp at this; omega
        have e1 : (S.map fun x => Cn.place x.it)[k]? = some (t.ins[k].tx, t.ins[k].at') := by rw [hp]; simp [List.getElem?_map, hk]
        rw [List.getElem?_map, List.getElem?_eq_getElem hkS] at e1
        simp only [Option.map_some, Option.some.injEq] at e1
        obtain ⟨j, hj, he2⟩ := List.getElem_of_mem (hS.mem _ (List.getElem_mem hkS))
        have hn2 := hna j hj
        rw [he2] at hn2
        exact hn2 e1
      · exact he)
  simp only [OwTold, if_pos hk] at HOC
  unfold BadV
  obtain ⟨n, hn⟩ : ∃ n, n = R.length := ⟨_, rfl⟩
  rw [← hn] at HCK HSP ⊢
  obtain ⟨iv, ins, ov, outs, time⟩ := t
  obtain ⟨ia, ic, hie, _, _⟩ := ht.1.form
  obtain ⟨oa, oc, hoe, _, _⟩ := ht.2.form
  simp only at hie hoe
  subst hie hoe
  simp only [TxV.val] at HOC HSP
  show Calls Tryz.prog 5 #[.slice a n cap, .agg #[.slice ia ins.length ic, .slice oa outs.length oc, .int .i64 time], .int .i64 h] w _
  have HB0 := hide (below_alloc w (.cells #[.slice ia ins.length ic, .slice oa outs.length oc, .int .i64 time] 26))
  have HI0 := hide (Is.new w [.slice ia ins.length ic, .slice oa outs.length oc, .int .i64 time] 26)
  have HIH := hide (fun W => isHeight_any h W)
  obtain ⟨il, hil⟩ : ∃ n, n = ins.length := ⟨_, rfl⟩
  obtain ⟨ol, hol⟩ : ∃ n, n = outs.length := ⟨_, rfl⟩
  rw [← hil, ← hol] at HB0 HI0 HOC HSP ⊢
  clear hs hR ht hn hk hbad hil hol h40
  by_cases hh : 0 ≤ h ∧ h ≤ 1073741824
  · rw [if_pos hh]
    rw [decide_eq_true hh] at HIH
    have HNS2 := hide (HNS.out hh)
    clear HNS hh
    go_enter Tryz.func5, Tryz.ntmps5
    go_wp2_with fail
    refine (HCK.out _ HB0.out).mono ?_
    rintro e w1 ⟨rfl, hb1⟩
    have HI1 := hide (HI0.out.below hb1 HI0.out.lt)
    have HB1 := hide (HB0.out.trans (hb1.mono HB0.out.size))
    clear hb1
    go_wp2_with (refine wpList_load_part 26 [.slice ia il ic, .slice oa ol oc, .int .i64 time] w.heap.size 0 rfl (.tmp 4) rfl rfl (is_range HI1.out) Tryz.underlying26 rfl size_tx rfl ?_)
    refine (HOC.out _ HB1.out).mono ?_
    rintro e w2 ⟨⟨ov, rfl, hov⟩, hb2⟩
    have HI2 := hide (HI1.out.below hb2 HI1.out.lt)
    have HB2 := hide (HB1.out.trans (hb2.mono HB1.out.size))
    clear hb2 hov
    go_wp2_with fail
    refine (HIH.out _).mono ?_
    rintro e w3 ⟨rfl, rfl⟩
    go_wp2_with (refine wpList_load_part 26 [.slice ia il ic, .slice oa ol oc, .int .i64 time] w.heap.size 0 rfl (.tmp 4) rfl rfl (is_range HI2.out) Tryz.underlying26 rfl size_tx rfl ?_)
    refine (HSP.out _ HB2.out).mono ?_
    rintro e w4 ⟨hsp, hb4⟩
    obtain rfl := HNS2.out _ _ _ hsp
    clear hsp
    go_wp2
    exact bodyPost_ret (v := .tuple #[.slice none 0 0, .slice none 0 0, .int .i64 0, .iface 27 (.int .i64 5)]) (by simp [results, Tryz.results5, go_sem]) rfl ⟨rfl, HB2.out.trans (hb4.mono HB2.out.size)⟩
  · rw [if_neg hh]
    rw [decide_eq_false hh] at HIH
    clear HNS hh HSP
    go_enter Tryz.func5, Tryz.ntmps5
    go_wp2_with fail
    refine (HCK.out _ HB0.out).mono ?_
    rintro e w1 ⟨rfl, hb1⟩
    have HI1 := hide (HI0.out.below hb1 HI0.out.lt)
    have HB1 := hide (HB0.out.trans (hb1.mono HB0.out.size))
    clear hb1
    go_wp2_with (refine wpList_load_part 26 [.slice ia il ic, .slice oa ol oc, .int .i64 time] w.heap.size 0 rfl (.tmp 4) rfl rfl (is_range HI1.out) Tryz.underlying26 rfl size_tx rfl ?_)
    refine (HOC.out _ HB1.out).mono ?_
    rintro e w2 ⟨⟨ov, rfl, hov⟩, hb2⟩
    have HB2 := hide (HB1.out.trans (hb2.mono HB1.out.size))
    clear hb2 hov
    go_wp2_with fail
    refine (HIH.out _).mono ?_
    rintro e w3 ⟨rfl, rfl⟩
    go_wp2
    exact bodyPost_ret (v := .tuple #[.slice none 0 0, .slice none 0 0, .int .i64 0, .iface 27 (.int .i64 2)]) (by simp [results, Tryz.results5, go_sem]) rfl ⟨rfl, HB2.out⟩
end Go.Proofs.YtmjilohlchkicaaGreatDoor

/- coin.Apply: what is spent is there. -/
namespace Go.Proofs.YtmjilohlchkicaaGreatDoor
open Go.RowKit
set_option linter.unusedVariables false
set_option linter.unusedSimpArgs false

theorem news_coinF {t : TxV} {h : Int} (hk : Tm.check t.it = 0) (hh : 0 ≤ h ∧ h ≤ 1073741824) : ∀ x ∈ newsV (Tm.id t.it) h 0 t.outs, Cn.coinF x.it = 0 ∧ 0 ≤ x.at' ∧ x.at' < 40 := by
  obtain ⟨_, h40, _, _, _, _, ho⟩ := Tm.check_zero _ hk
  intro x hx
  have hit : x.it ∈ Cn.newsFrom (Tm.id t.it) h 0 (t.outs.map OutV.it) := by
    rw [← newsV_it]; exact List.mem_map.2 ⟨x, hx, rfl⟩
  obtain ⟨_, h1, h2⟩ := Cn.newsFrom_mem hit
  have h3 : (t.outs.map OutV.it).length ≤ 40 := h40
  have ha : x.it.at' = x.at' := rfl
  rw [ha] at h1 h2
  obtain ⟨o, ho2, j, rfl⟩ := newsV_mem hx
  obtain ⟨m1, m2⟩ := Tm.outsF_zero _ ho o.it (List.mem_map.2 ⟨o, ho2, rfl⟩)
  have hb : 0 ≤ (newV (Tm.id t.it) h j o).at' ∧ (newV (Tm.id t.it) h j o).at' < 40 := ⟨by omega, by omega⟩
  refine ⟨?_, hb⟩
  unfold Cn.coinF
  rw [if_neg (by rw [ha]; rintro (e | e | e); · omega
                 · omega
                 · exact e hh)]
  rw [show (newV (Tm.id t.it) h j o).it.amount = o.it.amount from rfl, Mo.chk_good _ m1, if_pos rfl]
  exact m2
theorem coinF_at {x : CoinV} (h : Cn.coinF x.it = 0) : 0 ≤ x.at' ∧ x.at' < 40 := by
  unfold Cn.coinF at h
  split at h
  · cases h
  · rename_i hn
    have ha : x.it.at' = x.at' := rfl
    rw [ha] at hn
    exact ⟨by apply Classical.byContradiction; intro e; exact hn (.inl (by omega)), by apply Classical.byContradiction; intro e; exact hn (.inr (.inl (by omega)))⟩
/-- What Apply tells of a payment whose coins are there. -/
def ApTold (R : List CoinV) (t : TxV) (h : Int) (e : Ending) (w' : World) : Prop :=
  ∃ S : List CoinV, (∀ x ∈ S, x ∈ R) ∧ (S.map fun x => Cn.place x.it) = (t.ins.map fun i => (i.tx, i.at')) ∧
    ((leftF (amounts S) (amounts (newsV (Tm.id t.it) h 0 t.outs)) S.length).2 ≠ 0 ∧ e = .returned (BadV (leftF (amounts S) (amounts (newsV (Tm.id t.it) h 0 t.outs)) S.length).2) ∨
     (leftF (amounts S) (amounts (newsV (Tm.id t.it) h 0 t.outs)) S.length).2 = 0 ∧
      ((∃ x ∈ newsV (Tm.id t.it) h 0 t.outs, ∃ y ∈ R, Cn.place y.it = Cn.place x.it) ∧ e = .returned (BadV 6) ∨
       (∀ x ∈ newsV (Tm.id t.it) h 0 t.outs, NoneAt R (Cn.place x.it)) ∧ ∃ X : List CoinV, X.Perm (keep (placesOf S) R ++ newsV (Tm.id t.it) h 0 t.outs) ∧ Rising X ∧
        (1000 < X.length ∧ e = .returned (BadV 4) ∨
         X.length ≤ 1000 ∧ ∃ v1 v2 X1 S1, e = .returned (.tuple #[v1, v2, .int .i64 (leftF (amounts S) (amounts (newsV (Tm.id t.it) h 0 t.outs)) S.length).1, .nilIface]) ∧ HasCoins w' v1 X1 ∧ X1.map CoinV.it = X.map CoinV.it ∧ HasCoins w' v2 S1 ∧ S1.map CoinV.it = S.map CoinV.it)))
set_option maxRecDepth 100000 in
set_option maxHeartbeats 4000000 in
theorem apply_late (cv : Value) (R : List CoinV) (t : TxV) (h : Int) (w : World) (hR : HasCoins w cv R) (ht : HasTx w t) (hT : Tab w) (hw : 2 < w.heap.size) (hs : Cn.setF (R.map CoinV.it) = 0) (hk : Tm.check t.it = 0)
    (hh : 0 ≤ h ∧ h ≤ 1073741824) (hall : ∀ k (hk : k < t.ins.length), ¬ NoneAt R (t.ins[k].tx, t.ins[k].at')) :
    Calls Tryz.prog 5 #[cv, t.val, .int .i64 h] w fun e w' => ApTold R t h e w' ∧ Below w.heap.size w w' := by
  obtain ⟨a, cap, rfl, _, _⟩ := coins_form hR
  have h40 : t.ins.length ≤ 40 := by have := (Tm.check_zero _ hk).1; simpa [TxV.it] using this
  have hO40 : t.outs.length ≤ 40 := by have := (Tm.check_zero _ hk).2.1; simpa [TxV.it] using this
  have hO0 : 0 < t.outs.length := by have := (Tm.check_zero _ hk).2.2.1; simpa [TxV.it] using this
  have hR1000 : R.length ≤ 1000 := by have := (Cn.setF_zero hs).1; rwa [List.length_map] at this
  have HRF : Hid (∀ x ∈ R, Cn.coinF x.it = 0) := hide (fun x hx => (Cn.setF_zero hs).2.1 _ (List.mem_map.2 ⟨x, hx, rfl⟩))
  have HNF := hide (news_coinF hk hh)
  have HNK := hide (fun W (hW : Below w.heap.size w W) => news_ok (ht.below hW) h)
  have HRW := hide (fun W (hW : Below w.heap.size w W) => hR.below hW)
  have HCK := hide (fun W (hW : Below w.heap.size w W) => ccheck_any _ R W (hR.below hW))
  rw [hs, show errV 0 = .nilIface from rfl] at HCK
  have HOC := hide (fun W (hW : Below w.heap.size w W) => ownCoins_any t h W (ht.below hW) (hT.below hW hw) (Nat.lt_of_lt_of_le hw hW.size))
  have HSP := hide (fun W (hW : Below w.heap.size w W) => spentBy_any t _ R W (ht.below hW) (hR.below hW) hs h40)
  have HAT := hide (fun x (hx : x ∈ newsV (Tm.id t.it) h 0 t.outs) W (hW : Below w.heap.size w W) => at_any _ R x.tx x.at' W (hR.below hW) hs ((news_ok ht h) x hx).1 ((news_ok ht h) x hx).2.1)
  simp only [OwTold, if_pos hk] at HOC
  unfold ApTold
  have hNl := newsV_length (Tm.id t.it) h 0 t.outs
  obtain ⟨N, hN⟩ : ∃ N, N = newsV (Tm.id t.it) h 0 t.outs := ⟨_, rfl⟩
  simp only [← hN] at HNF HNK HOC HAT hNl ⊢
  obtain ⟨PS, hPS⟩ : ∃ PS, PS = t.ins.map fun i => (i.tx, i.at') := ⟨_, rfl⟩
  have hPl : PS.length = t.ins.length := by rw [hPS]; simp
  have hPN : ∀ k (hk : k < PS.length), ¬ NoneAt R PS[k] := fun k hk hn => by
    subst hPS
    have hk2 : k < t.ins.length := by simpa using hk
    exact hall k hk2 (by simpa using hn)
  have HPN := hide hPN
  simp only [← hPS] at HSP ⊢
  obtain ⟨n, hn⟩ : ∃ n, n = R.length := ⟨_, rfl⟩
  have HRN := hide hn
  rw [← hn] at HCK HSP HAT HRW ⊢
  rw [← hn] at hR1000
  obtain ⟨iv, ins, ov, outs, time⟩ := t
  obtain ⟨ia, ic, hie, _, _⟩ := ht.1.form
  obtain ⟨oa, oc, hoe, _, _⟩ := ht.2.form
  simp only at hie hoe hNl hPl h40 hO40 hO0
  subst hie hoe
  simp only [TxV.val] at HOC HSP
  show Calls Tryz.prog 5 #[.slice a n cap, .agg #[.slice ia ins.length ic, .slice oa outs.length oc, .int .i64 time], .int .i64 h] w _
  have HB0 := hide (below_alloc w (.cells #[.slice ia ins.length ic, .slice oa outs.length oc, .int .i64 time] 26))
  have HI0 := hide (Is.new w [.slice ia ins.length ic, .slice oa outs.length oc, .int .i64 time] 26)
  have HIH := hide (fun W => isHeight_any h W)
  rw [decide_eq_true hh] at HIH
  obtain ⟨il, hil⟩ : ∃ n, n = ins.length := ⟨_, rfl⟩
  obtain ⟨ol, hol⟩ : ∃ n, n = outs.length := ⟨_, rfl⟩
  rw [← hil, ← hol] at HB0 HI0 HSP
  simp only [← hil, ← hol] at HOC
  rw [← hil, ← hol]
  have HNL : Hid (N.length = ol) := hide (by rw [hNl, hol])
  rw [← hol] at hO40 hO0
  rw [← hil] at hPl h40
  have HPL := hide hPl
  have hzc := zero_coin
  obtain ⟨Z, hZ⟩ : ∃ Z, Z = ZC := ⟨_, rfl⟩
  have hzc2 : ∀ w : World, (zeroValue 54).run Tryz.prog w = .ok (.agg Z.toArray) w := by rw [hZ]; exact hzc
  have hZl : Z.length = 36 := by rw [hZ]; simp [ZC, vals]
  have hZ1 : ∀ v ∈ Z, v.oneCell' = true := by rw [hZ]; exact coin_ones ⟨List.replicate 32 0, 0, 0, .slice none 0 0, [], 0⟩ ⟨_, _, _, rfl⟩
  have hZp : ¬ Z = [] := by intro h; rw [h] at hZl; cases hZl
  have HZL := hide hZl
  have HZ1 := hide hZ1
  have HZE := hide hZ
  clear hs hR ht hn hk hil hol hall hh hN hPS hNl hPl hPN hZ hZl hZ1 hzc
  go_enter Tryz.func5, Tryz.ntmps5
  go_wp2_with fail
  refine (HCK.out _ HB0.out).mono ?_
  rintro e w1 ⟨rfl, hb1⟩
  have HI1 := hide (HI0.out.below hb1 HI0.out.lt)
  have HB1 := hide (HB0.out.trans (hb1.mono HB0.out.size))
  clear hb1
  go_wp2_with (refine wpList_load_part 26 [.slice ia il ic, .slice oa ol oc, .int .i64 time] w.heap.size 0 rfl (.tmp 4) rfl rfl (is_range HI1.out) Tryz.underlying26 rfl size_tx rfl ?_)
  refine (HOC.out _ HB1.out).mono ?_
  rintro e w2 ⟨⟨ov, rfl, hov⟩, hb2⟩
  have HI2 := hide (HI1.out.below hb2 HI1.out.lt)
  have HB2 := hide (HB1.out.trans (hb2.mono HB1.out.size))
  obtain ⟨va, vc, hv⟩ := owns_form hov
  subst hv
  have HN2 : Hid (HasCoins w2 (.slice va ol vc) N) := hide (coins_of_row hov HNL.out (fun x hx => HNK.out w2 HB2.out x hx))
  clear hb2 hov
  go_wp2_with fail
  refine (HIH.out _).mono ?_
  rintro e w3 ⟨rfl, rfl⟩
  go_wp2_with (refine wpList_load_part 26 [.slice ia il ic, .slice oa ol oc, .int .i64 time] w.heap.size 0 rfl (.tmp 4) rfl rfl (is_range HI2.out) Tryz.underlying26 rfl size_tx rfl ?_)
  refine (HSP.out _ HB2.out).mono ?_
  rintro e w4 ⟨hsp, hb4⟩
  have HB4 := hide (HB2.out.trans (hb4.mono HB2.out.size))
  have HN4 := hide (HN2.out.below hb4)
  clear hb4 HN2
  rcases hsp with ⟨v, S, rfl, hS⟩ | ⟨k2, hk2, hna2, rfl⟩
  · obtain ⟨sa, sc, hv⟩ := owns_form hS.own
    subst hv
    have HSM := hide hS.mem
    have HSPL : Hid ((S.map fun x => Cn.place x.it) = PS) := hide (by have h := hS.pls; rwa [List.take_length] at h)
    have HSL : Hid (S.length = il) := hide (by rw [hS.len, HPL.out])
    have HS4 : Hid (HasCoins w4 (.slice sa S.length sc) S) := hide (coins_of_row hS.own rfl (fun x hx => (HRW.out w4 HB4.out).2 x (hS.mem x hx)))
    have HLO := hide (fun W (hW : Below w4.heap.size w4 W) => leftOver_any _ _ S N W (HS4.out.below hW) (HN4.out.below hW) (by rw [HSL.out]; omega) (by rw [HNL.out]; omega))
    clear hS
    obtain ⟨p, hp⟩ : ∃ p, p = (leftF (amounts S) (amounts N) S.length).1 := ⟨_, rfl⟩
    obtain ⟨q, hq⟩ : ∃ q, q = (leftF (amounts S) (amounts N) S.length).2 := ⟨_, rfl⟩
    rw [← hp, ← hq] at HLO
    have HPE := hide hp
    have HQE := hide hq
    clear hp hq
    by_cases hq0 : q = 0
    · rw [hq0, show errV 0 = .nilIface from rfl] at HLO
      have HQ0 := hide hq0
      clear hq0
      go_wp2_with fail
      refine (HLO.out _ (Below.refl _ _)).mono ?_
      rintro e w5 ⟨rfl, hb5⟩
      have HB5 := hide (HB4.out.trans (hb5.mono HB4.out.size))
      have HN5 := hide (HN4.out.below hb5)
      have HS5 := hide (HS4.out.below hb5)
      clear hb5 HLO HN4 HS4 HSP HOC HCK HNK
      have HNR : Hid (∀ k (hk : k < N.length), ∃ b off, va = some ⟨b, off, none⟩ ∧ N.length ≤ vc ∧ vc ≤ maxLen ∧ b < w5.heap.size ∧ w5.rangeAt b (off + k * 36) (coinCell N[k])) := hide (by
        obtain ⟨a', c', he, _, hrr⟩ := coins_form HN5.out
        injection he with e1 e2 e3
        subst e1 e3
        exact hrr)
      go_wp2
      go_loopw [58] (fun i wr => ∃ k : Nat, k ≤ ol ∧ i = .int .i64 k ∧ Below w5.heap.size w5 wr ∧ ∀ j (hj : j < N.length), j < k → NoneAt R (Cn.place N[j].it)) (fun i _ => ol - (intOf i).toNat)
      case atStart => exact ⟨0, by omega, rfl, Below.refl _ _, fun j hj h => absurd h (by omega)⟩
      case round =>
        obtain ⟨k, hk, rfl, hbel, hno⟩ := hrel
        have HBEL := hide hbel
        have HNO := hide hno
        have HBW := hide (HB5.out.trans (hbel.mono HB5.out.size))
        clear hbel hno
        by_cases hltn : k < ol
        · have hki : (k : Int) < (ol : Int) := by omega
          have hlt : k < N.length := by rw [HNL.out]; exact hltn
          obtain ⟨b, off, rfl, hc1, hc2, hb, hri⟩ := HNR.out k hlt
          rw [HNL.out] at hc1
          obtain ⟨C, hC⟩ : ∃ C, C = coinCell N[k] := ⟨_, rfl⟩
          obtain ⟨PK, hPK⟩ : ∃ C, C = vals N[k].tx ++ [Value.int .i64 N[k].at'] := ⟨_, rfl⟩
          have hxo := HN5.out.2 _ (List.getElem_mem hlt)
          have HCLN : Hid (C.length = 36) := hide (by rw [hC]; exact coinCell_length _ hxo.1)
          have HC1 : Hid (∀ v ∈ C, v.oneCell' = true) := hide (by rw [hC]; exact coin_ones _ (hasOps_slice hxo.2.2))
          have HPKL : Hid (PK.length = 33) := hide (by rw [hPK]; simp [vals_length, hxo.1])
          have hCp : ¬ C = [] := by intro h; have := HCLN.out; rw [h] at this; cases this
          have hPKp : ¬ PK = [] := by intro h; have := HPKL.out; rw [h] at this; cases this
          have HRC : Hid (wr.rangeAt b (off + k * 36) C) := hide (by rw [hC]; exact range_keep hri HBEL.out hb)
          have HPR : Hid (∀ W, Is W wr.heap.size C 54 → W.rangeAt wr.heap.size 0 PK) := hide (fun W hW => by rw [hC] at hW; rw [hPK]; exact place_rangeS hW)
          have HATK := hide (fun W hW => HAT.out N[k] (List.getElem_mem hlt) W hW)
          rw [← hPK] at HATK
          have HLT := hide hlt
          clear hC hPK hxo hri
          go_wp2_with (first
            | (refine wpList_load_part 54 C b (off + k * 36) rfl (.tmp 60) rfl rfl HRC.out Tryz.underlying54 rfl size_coin HCLN.out ?_)
            | (refine wpList_store_any3 54 Z C wr.heap.size rfl (.tmp 16) (.tmp 61) rfl rfl rfl rfl (Is.new wr _ _) size_coin HZL.out HCLN.out HC1.out ?_; intro w6 hi6 hw6; have hb6 : Below wr.heap.size wr w6 := (by rw [hw6]; exact ck_new); have HI6 := hide hi6; have HB6 := hide hb6; have HBW6 := hide (HBW.out.trans (hb6.mono HBW.out.size)); clear hi6 hw6 hb6)
            | (refine wpList_load_part 46 PK wr.heap.size 0 rfl (.tmp 64) rfl rfl (HPR.out _ HI6.out) Tryz.underlying46 rfl size_placeC HPKL.out ?_))
          refine (HATK.out _ HBW6.out).mono ?_
          rintro e w7 ⟨hat, hb7⟩
          have HB7 := hide (HB6.out.trans (hb7.mono HB6.out.size))
          have HBW7 := hide (HBW6.out.trans (hb7.mono HBW6.out.size))
          clear hb7
          rcases hat with ⟨x, hxR, hxp, rfl⟩ | ⟨hna, rfl⟩
          · obtain ⟨D, hD⟩ : ∃ D, D = coinCell x := ⟨_, rfl⟩
            have hxo := (HRW.out w7 HBW7.out).2 x hxR
            have HDLN : Hid (D.length = 36) := hide (by rw [hD]; exact coinCell_length _ hxo.1)
            have HD1 : Hid (∀ v ∈ D, v.oneCell' = true) := hide (by rw [hD]; exact coin_ones _ (hasOps_slice hxo.2.2))
            have hDp : ¬ D = [] := by intro h; have := HDLN.out; rw [h] at this; cases this
            have HTW := hide (show ∃ x ∈ N, ∃ y ∈ R, Cn.place y.it = Cn.place x.it from ⟨N[k], List.getElem_mem HLT.out, x, hxR, hxp⟩)
            rw [← hD]
            clear hD hxo hxR hxp
            go_wp2_with (refine wpList_store_any3 54 Z D w7.heap.size rfl (.tmp 17) (.tmp 67) rfl rfl rfl rfl (Is.new w7 _ _) size_coin HZL.out HDLN.out HD1.out ?_; intro w8 hi8 hw8; have hb8 : Below w7.heap.size w7 w8 := (by rw [hw8]; exact ck_new); have HBW8 := hide (HBW7.out.trans (hb8.mono HBW7.out.size)); clear hi8 hw8 hb8)
            exact bodyPost_ret (v := .tuple #[.slice none 0 0, .slice none 0 0, .int .i64 0, .iface 27 (.int .i64 6)]) (by simp [results, Tryz.results5, go_sem]) rfl ⟨⟨S, HSM.out, HSPL.out, .inr ⟨by rw [← HQE.out]; exact HQ0.out, .inl ⟨HTW.out, rfl⟩⟩⟩, HBW8.out⟩
          · have HNA := hide hna
            rw [← HZE.out]
            clear hna
            go_wp2_with (refine wpList_store_any3 54 Z Z w7.heap.size rfl (.tmp 17) (.tmp 67) rfl rfl rfl rfl (Is.new w7 _ _) size_coin HZL.out HZL.out HZ1.out ?_; intro w8 hi8 hw8; have hb8 : Below w7.heap.size w7 w8 := (by rw [hw8]; exact ck_new); have HB8 := hide (HB7.out.trans (hb8.mono HB7.out.size)); clear hi8 hw8 hb8)
            go_roundw
            case rel =>
              refine ⟨k + 1, by omega, by go_num, HBEL.out.trans (HB8.out.mono HBEL.out.size), fun j hj hjk => ?_⟩
              by_cases e : j = k
              · subst e; exact HNA.out
              · exact HNO.out j hj (by omega)
            case measure => simp [intOf]; omega
        · have hki : ¬ (k : Int) < (ol : Int) := by omega
          have HNONE : Hid (∀ x ∈ N, NoneAt R (Cn.place x.it)) := hide (fun x hx => by
            obtain ⟨j, hj, rfl⟩ := List.getElem_of_mem hx
            exact HNO.out j hj (by have := HNL.out; omega))
          have HNW := hide (HN5.out.below HBEL.out)
          have HSW := hide (HS5.out.below HBEL.out)
          have HEX := hide (exchange_any _ _ _ R S N wr (HRW.out wr HBW.out) HSW.out HNW.out (by rw [← HRN.out]; exact hR1000) (by rw [HSL.out]; omega) (by rw [HNL.out]; omega) (by rw [HNL.out]; exact hO0) (fun x hx => coinF_at (HRF.out x hx)) (fun x hx => coinF_at (HRF.out x (HSM.out x hx))))
          clear HNO
          go_wp2_with fail
          refine HEX.out.mono ?_
          rintro e w7 ⟨⟨xv, X, rfl, hX, hXp, hXr⟩, hb7⟩
          have HBW7 := hide (HBW.out.trans (hb7.mono HBW.out.size))
          obtain ⟨xa, xc, hxv, _, _⟩ := coins_form hX
          subst hxv
          have HXW := hide hX
          have HXP := hide hXp
          have HXR := hide hXr
          have HS7 := hide (HSW.out.below hb7)
          have HXS : Hid (∀ x ∈ X, x.L.length ≤ 1000 ∧ ∀ p ∈ x.L, p.1.data.length ≤ 180000000000000) := hide (fun x hx => by
            rcases List.mem_append.1 (hXp.mem_iff.1 hx) with h1 | h1
            · exact coin_small (HRF.out x (keep_mem h1))
            · exact coin_small (HNF.out x h1).1)
          have HXL : Hid (X.length ≤ 100000) := hide (by
            have h1 := hXp.length_eq
            rw [List.length_append] at h1
            have h2 := keep_le (placesOf S) R
            have h3 := HNL.out
            have h4 := HRN.out
            omega)
          clear hX hXp hXr hb7 HEX
          obtain ⟨xl, hxl⟩ : ∃ n, n = X.length := ⟨_, rfl⟩
          have HXE := hide hxl
          rw [← hxl] at HXW ⊢
          clear hxl
          by_cases hbig : 1000 < xl
          · have hbi : (1000 : Int) < (xl : Int) := by omega
            have HBG : Hid (1000 < X.length) := hide (by rw [← HXE.out]; exact hbig)
            clear hbig
            go_wp2
            exact bodyPost_ret (v := .tuple #[.slice none 0 0, .slice none 0 0, .int .i64 0, .iface 27 (.int .i64 4)]) (by simp [results, Tryz.results5, go_sem]) rfl ⟨⟨S, HSM.out, HSPL.out, .inr ⟨by rw [← HQE.out]; exact HQ0.out, .inr ⟨HNONE.out, X, HXP.out, HXR.out, .inl ⟨HBG.out, rfl⟩⟩⟩⟩, HBW7.out⟩
          · have hbi : ¬ (1000 : Int) < (xl : Int) := by omega
            have HBG : Hid (X.length ≤ 1000) := hide (by rw [← HXE.out]; omega)
            have HC1 := hide (cloneAll_any _ X w7 HXW.out HXL.out HXS.out)
            clear hbig
            go_wp2_with fail
            refine HC1.out.mono ?_
            rintro e w8 ⟨⟨v1, X1, rfl, hx1, hX1⟩, hb8⟩
            obtain ⟨a1, c1, hv1, _, _⟩ := coins_form hX1
            subst hv1
            have HBW8 := hide (HBW7.out.trans (hb8.mono HBW7.out.size))
            have HS8 := hide (HS7.out.below hb8)
            have HX8 := hide hX1
            have HX8E := hide hx1
            have HC2 := hide (cloneAll_any _ S w8 HS8.out (by rw [HSL.out]; omega) (fun x hx => coin_small (HRF.out x (HSM.out x hx))))
            clear hb8 hX1 hx1 HC1
            go_wp2_with fail
            refine HC2.out.mono ?_
            rintro e w9 ⟨⟨v2, S1, rfl, hs1, hS1⟩, hb9⟩
            obtain ⟨a2, c2, hv2, _, _⟩ := coins_form hS1
            subst hv2
            have HBW9 := hide (HBW8.out.trans (hb9.mono HBW8.out.size))
            have HX9 := hide (HX8.out.below hb9)
            have HS9 := hide hS1
            have HS9E := hide hs1
            clear hb9 hS1 hs1 HC2
            go_wp2
            exact bodyPost_ret (v := .tuple #[.slice a1 X1.length c1, .slice a2 S1.length c2, .int .i64 p, .nilIface]) (by simp [results, Tryz.results5, go_sem]) rfl ⟨⟨S, HSM.out, HSPL.out, .inr ⟨by rw [← HQE.out]; exact HQ0.out, .inr ⟨HNONE.out, X, HXP.out, HXR.out, .inr ⟨HBG.out, _, _, X1, S1, by rw [HPE.out], HX9.out, HX8E.out, HS9.out, HS9E.out⟩⟩⟩⟩, HBW9.out⟩
    · rw [errV_ne hq0] at HLO
      have HQ0 := hide hq0
      clear hq0
      go_wp2_with fail
      refine (HLO.out _ (Below.refl _ _)).mono ?_
      rintro e w5 ⟨rfl, hb5⟩
      have HB5 := hide (HB4.out.trans (hb5.mono HB4.out.size))
      clear hb5 HLO
      go_wp2
      exact bodyPost_ret (v := .tuple #[.slice none 0 0, .slice none 0 0, .int .i64 0, .iface 27 (.int .i64 q)]) (by simp [results, Tryz.results5, go_sem]) rfl ⟨⟨S, HSM.out, HSPL.out, .inl ⟨by rw [← HQE.out]; exact HQ0.out, by rw [← HQE.out]; rfl⟩⟩, HB5.out⟩
  · exact absurd hna2 (HPN.out k2 hk2)
end Go.Proofs.YtmjilohlchkicaaGreatDoor

/- coin.Apply, told by its model over lists. -/
namespace Go.Proofs.YtmjilohlchkicaaGreatDoor
open Go.RowKit
set_option linter.unusedVariables false

def ApGood (D : Cn.Done) (e : Ending) (w' : World) : Prop :=
  (D.e ≠ 0 ∧ e = .returned (BadV D.e)) ∨ (D.e = 0 ∧ ∃ v1 v2 X1 S1, e = .returned (.tuple #[v1, v2, .int .i64 D.left, .nilIface]) ∧ HasCoins w' v1 X1 ∧ X1.map CoinV.it = D.set ∧ HasCoins w' v2 S1 ∧ S1.map CoinV.it = D.spent)
theorem places_it (t : TxV) : Tm.places t.it.ins = t.ins.map fun i => (i.tx, i.at') := by simp [Tm.places, TxV.it, InV.it, Function.comp_def]
theorem apply_any (cv : Value) (R : List CoinV) (t : TxV) (h : Int) (w : World) (hR : HasCoins w cv R) (ht : HasTx w t) (hT : Tab w) (hw : 2 < w.heap.size) :
    Calls Tryz.prog 5 #[cv, t.val, .int .i64 h] w fun e w' => ApGood (Cn.apply (R.map CoinV.it) t.it h) e w' ∧ Below w.heap.size w w' := by
  by_cases hs : Cn.setF (R.map CoinV.it) = 0
  · by_cases hk : Tm.check t.it = 0
    · by_cases hh : 0 ≤ h ∧ h ≤ 1073741824
      · by_cases hall : ∃ k, ∃ hk : k < t.ins.length, NoneAt R (t.ins[k].tx, t.ins[k].at')
        · refine (apply_early cv R t h w hR ht hT hw hs hk (.inr hall)).mono ?_
          rintro e w' ⟨he, hb⟩
          rw [if_pos hh] at he
          have hsp : Cn.spentOf (R.map CoinV.it) (Tm.places t.it.ins) = none := by
            obtain ⟨k, hk, hn⟩ := hall
            rw [places_it]
            exact spent_none (k := k) (by simpa using hk) (by simpa using none_at hn)
          have hd : Cn.apply (R.map CoinV.it) t.it h = Cn.bad 5 := by
            unfold Cn.apply
            rw [if_neg (by simp [hs]), if_neg (by simp [hk]), if_neg (by simp [hh]), hsp]
          rw [hd]
          exact ⟨.inl ⟨by simp [Cn.bad], he⟩, hb⟩
        · refine (apply_late cv R t h w hR ht hT hw hs hk hh (fun k hk hn => hall ⟨k, hk, hn⟩)).mono ?_
          rintro e w' ⟨⟨S, hm, hp, hcase⟩, hb⟩
          refine ⟨?_, hb⟩
          have hsp : Cn.spentOf (R.map CoinV.it) (Tm.places t.it.ins) = some (S.map CoinV.it) := by
            rw [places_it, ← hp]; exact spent_of hs S hm
          have hni : (newsV (Tm.id t.it) h 0 t.outs).map CoinV.it = Cn.news t.it h := news_it t h
          have hSl : S.length = t.ins.length := by have := congrArg List.length hp; simpa using this
          have hSz : (S.length = 0) ↔ t.it.ins = [] := by rw [hSl]; simp [TxV.it]
          have hd : Cn.apply (R.map CoinV.it) t.it h =
              if (Mo.tot 0 (amounts S)).2 ≠ 0 then Cn.bad (Mo.tot 0 (amounts S)).2
              else if (Mo.tot 0 (amounts (newsV (Tm.id t.it) h 0 t.outs))).2 ≠ 0 then Cn.bad (Mo.tot 0 (amounts (newsV (Tm.id t.it) h 0 t.outs))).2
              else if t.it.ins ≠ [] ∧ (Mo.tot 0 (amounts S)).1 < (Mo.tot 0 (amounts (newsV (Tm.id t.it) h 0 t.outs))).1 then Cn.bad 9
              else if ∃ c ∈ Cn.news t.it h, ∃ d ∈ R.map CoinV.it, Cn.place d = Cn.place c then Cn.bad 6
              else if 1000 < (Cn.merged (Cn.less (R.map CoinV.it) (S.map CoinV.it)) (Cn.news t.it h)).length then Cn.bad 4
              else ⟨0, Cn.merged (Cn.less (R.map CoinV.it) (S.map CoinV.it)) (Cn.news t.it h), S.map CoinV.it, if t.it.ins = [] then 0 else (Mo.tot 0 (amounts S)).1 - (Mo.tot 0 (amounts (newsV (Tm.id t.it) h 0 t.outs))).1⟩ := by
            unfold Cn.apply
            rw [if_neg (by simp [hs]), if_neg (by simp [hk]), if_neg (by simp [hh]), hsp]
            simp only [amounts_it, ← hni]
          rw [hd]
          clear hd
          rcases hcase with ⟨hq, he⟩ | ⟨hq, hcase⟩
          · unfold leftF at hq he
            split at he
            · rename_i h1; rw [if_pos h1]; exact .inl ⟨h1, he⟩
            · rename_i h1
              rw [if_neg h1]
              split at he
              · rename_i h2; rw [if_pos h2]; exact .inl ⟨h2, he⟩
              · rename_i h2
                rw [if_neg h2]
                split at he
                · rename_i h3; rw [if_neg h1, if_neg h2, if_pos h3] at hq; exact absurd rfl hq
                · rename_i h3
                  split at he
                  · rename_i h4
                    rw [if_pos ⟨fun e => h3 (hSz.2 e), h4⟩]; exact .inl ⟨by simp [Cn.bad], he⟩
                  · rename_i h4; rw [if_neg h1, if_neg h2, if_neg h3, if_neg h4] at hq; exact absurd rfl hq
          · have hL : (leftF (amounts S) (amounts (newsV (Tm.id t.it) h 0 t.outs)) S.length).1 = if t.it.ins = [] then 0 else (Mo.tot 0 (amounts S)).1 - (Mo.tot 0 (amounts (newsV (Tm.id t.it) h 0 t.outs))).1 := by
              unfold leftF at hq ⊢
              by_cases h1 : (Mo.tot 0 (amounts S)).2 ≠ 0
              · rw [if_pos h1] at hq; exact absurd hq h1
              · by_cases h2 : (Mo.tot 0 (amounts (newsV (Tm.id t.it) h 0 t.outs))).2 ≠ 0
                · rw [if_neg h1, if_pos h2] at hq; exact absurd hq h2
                · rw [if_neg h1, if_neg h2]
                  by_cases h3 : S.length = 0
                  · rw [if_pos h3, if_pos (hSz.1 h3)]
                  · rw [if_neg h3, if_neg (fun e => h3 (hSz.2 e))]
                    rw [if_neg h1, if_neg h2, if_neg h3] at hq
                    by_cases h4 : (Mo.tot 0 (amounts S)).1 < (Mo.tot 0 (amounts (newsV (Tm.id t.it) h 0 t.outs))).1
                    · rw [if_pos h4] at hq; simp at hq
                    · rw [if_neg h4]
            have h1 : ¬ (Mo.tot 0 (amounts S)).2 ≠ 0 := fun e => by unfold leftF at hq; rw [if_pos e] at hq; exact e hq
            have h2 : ¬ (Mo.tot 0 (amounts (newsV (Tm.id t.it) h 0 t.outs))).2 ≠ 0 := fun e => by unfold leftF at hq; rw [if_neg h1, if_pos e] at hq; exact e hq
            have h3 : ¬ (t.it.ins ≠ [] ∧ (Mo.tot 0 (amounts S)).1 < (Mo.tot 0 (amounts (newsV (Tm.id t.it) h 0 t.outs))).1) := fun e => by
              unfold leftF at hq
              rw [if_neg h1, if_neg h2, if_neg (fun k => e.1 (hSz.1 k)), if_pos e.2] at hq
              simp at hq
            rw [if_neg h1, if_neg h2, if_neg h3]
            rcases hcase with ⟨⟨x, hx, y, hy, hxy⟩, he⟩ | ⟨hnone, X, hX, hr, hcase⟩
            · rw [if_pos ⟨x.it, by rw [← hni]; exact List.mem_map.2 ⟨x, hx, rfl⟩, y.it, List.mem_map.2 ⟨y, hy, rfl⟩, hxy⟩]
              exact .inl ⟨by simp [Cn.bad], he⟩
            · have hnn : ¬ ∃ c ∈ Cn.news t.it h, ∃ d ∈ R.map CoinV.it, Cn.place d = Cn.place c := by
                rintro ⟨c, hc, d, hd, e⟩
                rw [← hni] at hc
                obtain ⟨x, hx, rfl⟩ := List.mem_map.1 hc
                exact Cn.at?_none.1 (none_at (hnone x hx)) d hd e
              rw [if_neg hnn]
              have hmg := xg_merged (G := S) (Cn.set_ord hs) (by rw [hni]; exact Cn.news_ord t.it h) (fun a ha b hb' e => hnn ⟨b, by rw [← hni]; exact hb', a, (Cn.less_mem.1 ha).1, e⟩) hX hr
              rw [hni] at hmg
              rw [← hmg, List.length_map]
              rcases hcase with ⟨hbig, he⟩ | ⟨hsm, v1, v2, X1, S1, he, a1, a2, a3, a4⟩
              · rw [if_pos hbig]; exact .inl ⟨by simp [Cn.bad], he⟩
              · rw [if_neg (by omega)]
                exact .inr ⟨rfl, v1, v2, X1, S1, by rw [he, hL], a1, a2, a3, a4⟩
      · refine (apply_early cv R t h w hR ht hT hw hs hk (.inl hh)).mono ?_
        rintro e w' ⟨he, hb⟩
        rw [if_neg hh] at he
        have hd : Cn.apply (R.map CoinV.it) t.it h = Cn.bad 2 := by
          unfold Cn.apply
          rw [if_neg (by simp [hs]), if_neg (by simp [hk]), if_pos hh]
        rw [hd]
        exact ⟨.inl ⟨by simp [Cn.bad], he⟩, hb⟩
    · refine (apply_tx cv R t h w hR ht hT hw hs hk).mono ?_
      rintro e w' ⟨he, hb⟩
      have hd : Cn.apply (R.map CoinV.it) t.it h = Cn.bad (Tm.check t.it) := by
        unfold Cn.apply
        rw [if_neg (by simp [hs]), if_pos hk]
      rw [hd]
      exact ⟨.inl ⟨hk, he⟩, hb⟩
  · refine (apply_set cv R t h w hR ht hs).mono ?_
    rintro e w' ⟨he, hb⟩
    have hd : Cn.apply (R.map CoinV.it) t.it h = Cn.bad (Cn.setF (R.map CoinV.it)) := by
      unfold Cn.apply
      rw [if_pos hs]
    rw [hd]
    exact ⟨.inl ⟨hs, he⟩, hb⟩
end Go.Proofs.YtmjilohlchkicaaGreatDoor

/- moneyerlaw2's made: a payment of 5 is a coin of 5. -/
namespace Go.Proofs.YtmjilohlchkicaaGreatDoor
open Go.RowKit
set_option linter.unusedVariables false
set_option linter.unusedSimpArgs false

/-- The payment that made does. -/
def madeT (b : Nat) : TxV := ⟨.slice none 0 0, [], .slice (some ⟨b, 0, none⟩) 1 1, [⟨5, .slice none 0 0, []⟩], 0⟩
theorem made_has {w : World} {b : Nat} (h : Is w b [.int .i64 5, .slice none 0 0] 52) : HasTx w (madeT b) := by
  refine ⟨⟨.inl ⟨none, 0, rfl, rfl⟩, fun x hx => by cases hx⟩, ⟨.inr ⟨b, 0, 1, rfl, by simp [madeT], by simp [madeT], by unfold maxLen; omega, h.lt, is_range h⟩, fun x hx => ?_⟩⟩
  obtain rfl : x = ⟨5, .slice none 0 0, []⟩ := by simpa [madeT] using hx
  exact ⟨.inl ⟨none, 0, rfl, rfl⟩, fun p hp => by cases hp⟩
theorem made_good' (b : Nat) : Cn.Good [] (madeT b).it 7 [] := by
  have hn : Cn.amounts' (Cn.news (madeT b).it 7) = [5] := Cn.newsFrom_amounts _ _ _ _
  refine ⟨by decide, ?_, by omega, rfl, rfl, by rw [hn]; decide, fun h => absurd rfl h, (fun c hc d hd => by cases hd), ?_⟩
  · show Tm.check ⟨[], [⟨5, []⟩], 0⟩ = 0
    decide
  · show (Cn.merged [] (Cn.news (madeT b).it 7)).length ≤ 1000
    rw [Cn.merged]
    show (Cn.newsFrom _ _ _ _).length ≤ 1000
    rw [Cn.newsFrom_length]
    show 1 ≤ 1000
    omega
theorem made_done (b : Nat) : ∃ id, Cn.apply [] (madeT b).it 7 = ⟨0, [⟨id, 0, 5, [], 7⟩], [], 0⟩ := by
  refine ⟨Tm.id (madeT b).it, ?_⟩
  rw [(made_good' b).apply]
  show Cn.Done.mk 0 (Cn.merged [] (Cn.news (madeT b).it 7)) [] 0 = _
  rw [Cn.merged]
  rfl
set_option maxRecDepth 100000 in
set_option maxHeartbeats 1000000 in
theorem cmade_any (w : World) (hT : Tab w) (hw : 2 < w.heap.size) : Calls Tryz.prog 8 #[] w fun e w' => e = .returned (.bool true) ∧ Below w.heap.size w w' := by
  have HS := hide (fun W (hW : Below w.heap.size w W) (h : HasTx W (madeT w.heap.size)) => apply_any (.slice none 0 0) [] _ 7 W ⟨.inl ⟨none, 0, rfl, rfl⟩, fun x hx => by cases hx⟩ h (hT.below hW hw) (Nat.lt_of_lt_of_le hw hW.size))
  have HI := hide (Is.new w [.int .i64 5, .slice none 0 0] 52)
  have HBL := hide (below_alloc w (.cells #[.int .i64 5, .slice none 0 0] 52))
  clear hT
  go_enter Tryz.func8, Tryz.ntmps8
  go_wp2_with fail
  refine (HS.out _ HBL.out (made_has HI.out)).mono ?_
  rintro e w1 ⟨hap, hb1⟩
  have HB1 := hide (HBL.out.trans (hb1.mono (by simp)))
  obtain ⟨id, hd⟩ := made_done w.heap.size
  have hap' : ApGood ⟨0, [⟨id, 0, 5, [], 7⟩], [], 0⟩ e w1 := by
    have := hap
    simp only [List.map_nil] at this
    rw [hd] at this
    exact this
  clear hap hb1 HS HI hd
  rcases hap' with ⟨h, _⟩ | ⟨_, v1, v2, X, S, rfl, hX, hXi, hS, hSi⟩
  · exact absurd rfl h
  · obtain ⟨a1, c1, rfl, _, hx⟩ := coins_form hX
    obtain ⟨a2, c2, rfl, _, _⟩ := coins_form hS
    have hXl : X.length = 1 := by have := congrArg List.length hXi; simpa using this
    have hSl : S.length = 0 := by have := congrArg List.length hSi; simpa using this
    obtain ⟨b, off, rfl, hc1, hc2, hb, hr⟩ := hx 0 (by omega)
    have hxi : X[0].it = ⟨id, 0, 5, [], 7⟩ := by
      have := congrArg (fun l => l[0]?) hXi
      simpa [List.getElem?_map, List.getElem?_eq_getElem (show 0 < X.length by omega)] using this
    have h32 := (hX.2 _ (List.getElem_mem (show 0 < X.length by omega))).1
    obtain ⟨_, _, k3, _, k5⟩ := coin_range hr h32
    rw [show X[0].amount = 5 from congrArg Cn.Coin.amount hxi] at k3
    rw [show X[0].height = 7 from congrArg Cn.Coin.height hxi] at k5
    simp only [Nat.zero_mul, Nat.add_zero] at k3 k5
    rw [hXl] at hc1 ⊢
    rw [hSl]
    unfold maxLen at hc2
    clear hX hS hXi hSi hxi h32 hr hx
    go_wp2
    go_ret
    exact ⟨rfl, HB1.out⟩
end Go.Proofs.YtmjilohlchkicaaGreatDoor

/- Payments in memory: their form; where what is spent lies. -/
namespace Go.Proofs.YtmjilohlchkicaaGreatDoor
open Go.RowKit
set_option linter.unusedVariables false

/-- A payment, its slices shown. -/
structure TxF (t : TxV) (w : World) (ia oa : Option Addr) (ic oc : Nat) : Prop where
  val : t.val = .agg #[.slice ia t.ins.length ic, .slice oa t.outs.length oc, .int .i64 t.time]
  il : t.ins.length ≤ maxLen
  ol : t.outs.length ≤ maxLen
  ins : ∀ k (hk : k < t.ins.length) W, Below w.heap.size w W → ∃ b off, ia = some ⟨b, off, none⟩ ∧ t.ins.length ≤ ic ∧ ic ≤ maxLen ∧ b < w.heap.size ∧ W.rangeAt b (off + k * 34) (vals t.ins[k].tx ++ [.int .i64 t.ins[k].at', t.ins[k].kv])
  outs : ∀ k (hk : k < t.outs.length) W, Below w.heap.size w W → ∃ b off, oa = some ⟨b, off, none⟩ ∧ t.outs.length ≤ oc ∧ oc ≤ maxLen ∧ b < w.heap.size ∧ W.rangeAt b (off + k * 2) [.int .i64 t.outs[k].amount, t.outs[k].lv]
  tx : ∀ k (hk : k < t.ins.length), t.ins[k].tx.length = 32
  byt : ∀ k (hk : k < t.ins.length), Sz.Byt t.ins[k].tx
  lv : ∀ k (hk : k < t.outs.length) W, Below w.heap.size w W → HasOps W t.outs[k].lv t.outs[k].L
theorem tx_form {t : TxV} {w : World} (h : HasTx w t) : ∃ ia ic oa oc, TxF t w ia oa ic oc := by
  obtain ⟨ia, ic, hie, him, hir⟩ := h.1.form
  obtain ⟨oa, oc, hoe, hom, hor⟩ := h.2.form
  refine ⟨ia, ic, oa, oc, ⟨?_, him, hom, fun k hk W hW => ?_, fun k hk W hW => ?_, fun k hk => (h.1.2 _ (List.getElem_mem hk)).1, fun k hk => (h.1.2 _ (List.getElem_mem hk)).2.1, fun k hk W hW => (h.2.2 _ (List.getElem_mem hk)).below hW⟩⟩
  · unfold TxV.val; rw [hie, hoe]
  · obtain ⟨b, off, e, h1, h2, h3, h4⟩ := hir k hk
    exact ⟨b, off, e, h1, h2, h3, range_keep (range_at h4 (fun x hx => inCell_length x (h.1.2 x hx).1) k hk) hW h3⟩
  · obtain ⟨b, off, e, h1, h2, h3, h4⟩ := hor k hk
    exact ⟨b, off, e, h1, h2, h3, range_keep (range_at (f := outCell) (s := 2) h4 (fun x hx => rfl) k hk) hW h3⟩
/-- A payment without a fault. -/
theorem tx_small {t : TxV} (hk : Tm.check t.it = 0) : t.ins.length ≤ 40 ∧ t.outs.length ≤ 40 := by
  obtain ⟨h1, h2, _⟩ := Tm.check_zero _ hk
  exact ⟨by simpa [TxV.it] using h1, by simpa [TxV.it] using h2⟩
theorem id_byt (t : Tm.Tx) : Sz.Byt (Tm.id t) := Mc.sum_byt _
theorem id_len (t : Tm.Tx) : (Tm.id t).length = 32 := by simp [Tm.id, Sh.sum, Sh.digest]
/-- No In of a payment is of another one. -/
def NotOf (t : TxV) (D : List Int) (k : Nat) : Prop := ∀ j (hj : j < t.ins.length), j < k → t.ins[j].tx ≠ D
theorem notOf_places {t : TxV} {D : List Int} (h : NotOf t D t.ins.length) : ∀ p ∈ Tm.places t.it.ins, p.1 ≠ D := by
  rw [places_it]
  intro p hp
  obtain ⟨x, hx, rfl⟩ := List.mem_map.1 hp
  obtain ⟨j, hj, rfl⟩ := List.getElem_of_mem hx
  exact h j hj hj
theorem notOf_next {t : TxV} {D : List Int} {k : Nat} (h : NotOf t D k) (hk : k < t.ins.length) (hn : t.ins[k].tx ≠ D) : NotOf t D (k + 1) := fun j hj hjk => by
  by_cases e : j = k
  · subst e; exact hn
  · exact h j hj (by omega)
/-- What Apply tells, in the walk of a law. -/
def ApBad (c : Int) (e : Ending) : Prop := e = .returned (BadV c)
theorem ap_cases {R : List CoinV} {t : TxV} {h : Int} {e : Ending} {w' : World} (ha : ApGood (Cn.apply (R.map CoinV.it) t.it h) e w') :
    ((Cn.apply (R.map CoinV.it) t.it h).e ≠ 0 ∧ ∃ c, e = .returned (BadV c)) ∨ (∃ v1 v2 X S G, Cn.Good (R.map CoinV.it) t.it h G ∧ e = .returned (.tuple #[v1, v2, .int .i64 (Cn.leftOf t.it h G), .nilIface]) ∧ HasCoins w' v1 X ∧ X.map CoinV.it = Cn.merged (Cn.less (R.map CoinV.it) G) (Cn.news t.it h) ∧ HasCoins w' v2 S ∧ S.map CoinV.it = G) := by
  rcases ha with ⟨h0, rfl⟩ | ⟨h0, v1, v2, X, S, rfl, h1, h2, h3, h4⟩
  · exact .inl ⟨h0, _, rfl⟩
  · obtain ⟨G, g, hG⟩ := Cn.apply_good h0
    rw [hG] at h2 h4 ⊢
    exact .inr ⟨v1, v2, X, S, G, g, rfl, h1, h2, h3, h4⟩
theorem ap_good {R : List CoinV} {t : TxV} {h : Int} {e : Ending} {w' : World} {G : List Cn.Coin} (g : Cn.Good (R.map CoinV.it) t.it h G) (ha : ApGood (Cn.apply (R.map CoinV.it) t.it h) e w') :
    ∃ v1 v2 X S, e = .returned (.tuple #[v1, v2, .int .i64 (Cn.leftOf t.it h G), .nilIface]) ∧ HasCoins w' v1 X ∧ X.map CoinV.it = Cn.merged (Cn.less (R.map CoinV.it) G) (Cn.news t.it h) ∧ HasCoins w' v2 S ∧ S.map CoinV.it = G := by
  rw [g.apply] at ha
  rcases ha with ⟨h0, _⟩ | ⟨_, v1, v2, X, S, rfl, h1, h2, h3, h4⟩
  · exact absurd rfl h0
  · exact ⟨v1, v2, X, S, rfl, h1, h2, h3, h4⟩
end Go.Proofs.YtmjilohlchkicaaGreatDoor
