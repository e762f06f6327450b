/- tx.Bytes; size.Unpack, its bytes in blocks of their own. -/
import Derived.Test.YtbdnbjemocjlaaaGreatDoorZTc
import Derived.Test.YtbdnbjemocjlaaaGreatDoorZTw
import Derived.Test.YtbdnbjemocjlaaaGreatDoorZRd
namespace Go.Proofs.YtbdnbjemocjlaaaGreatDoor
open Go.RowKit
set_option linter.unusedVariables false
set_option linter.unusedSimpArgs false

set_option maxHeartbeats 1000000 in
theorem tbytes_good (t : TxV) (w : World) (h : HasTx w t) (hc : Tm.check t.it = 0) :
    Calls Tryz.prog 10 #[t.val] w fun e w' => ∃ v, e = .returned (.tuple #[v, .nilIface]) ∧ Own w' w.heap.size v (Tm.bytes t.it) ∧ Below w.heap.size w w' := by
  have HCK := hide (fun W (hW : Below w.heap.size w W) => tcheck_any t W (h.below hW))
  have HWR := hide (fun W (hW : Below w.heap.size w W) => written_any t W (h.below hW) hc)
  rw [hc, show errV 0 = .nilIface from rfl] at HCK
  obtain ⟨n, hn⟩ : ∃ n, n = Tm.bytes t.it := ⟨_, rfl⟩
  rw [← hn] at HWR ⊢
  obtain ⟨iv, ins, ov, outs, time⟩ := t
  obtain ⟨hi, ho⟩ := h
  obtain ⟨ia, ic, hie, him, _⟩ := hi.form
  obtain ⟨oa, oc, hoe, hom, _⟩ := ho.form
  simp only at hi ho hie hoe
  subst hie hoe
  show Calls Tryz.prog 10 #[.agg #[.slice ia ins.length ic, .slice oa outs.length oc, .int .i64 time]] w fun e w' => ∃ v, e = .returned (.tuple #[v, .nilIface]) ∧ Own w' w.heap.size v n ∧ Below w.heap.size w w'
  have HCK2 : Hid (∀ W, Below w.heap.size w W → Calls Tryz.prog 6 #[.agg #[.slice ia ins.length ic, .slice oa outs.length oc, .int .i64 time]] W fun e w' => e = .returned .nilIface ∧ Below W.heap.size W w') := HCK
  have HWR2 : Hid (∀ W, Below w.heap.size w W → Calls Tryz.prog 27 #[.agg #[.slice ia ins.length ic, .slice oa outs.length oc, .int .i64 time]] W fun e w' => ∃ v, e = .returned v ∧ Own w' W.heap.size v n ∧ Below W.heap.size W w') := HWR
  clear HCK HWR hi ho him hom hc hn
  generalize ins.length = il at *
  generalize outs.length = ol at *
  go_enter Tryz.func10, Tryz.ntmps10
  go_wp2_with fail
  refine (HCK2.out _ (below_alloc w _)).mono ?_
  rintro e w1 ⟨rfl, hb1⟩
  have HB1 := hide ((below_alloc w (.cells #[.slice ia il ic, .slice oa ol oc, .int .i64 time] 25)).trans (hb1.mono (by simp)))
  have HC1 := hide (((Is.new w [.slice ia il ic, .slice oa ol oc, .int .i64 time] 25).below hb1 (by simp)))
  clear hb1
  have hc0 := HC1.out.cell 0
  have hc1 := HC1.out.cell 1
  have hc2 := HC1.out.cell 2
  simp only [List.getElem?_cons_zero, List.getElem?_cons_succ] at hc0 hc1 hc2
  go_wp2_with (refine (HWR2.out w1 HB1.out).mono ?_)
  rintro e w2 ⟨v, rfl, ho2, hb2⟩
  go_wp2
  go_ret2
  exact ⟨v, rfl, ho2.mono HB1.out.size, HB1.out.trans (hb2.mono HB1.out.size)⟩

set_option maxHeartbeats 1000000 in
theorem tbytes_bad (t : TxV) (w : World) (h : HasTx w t) (hc : Tm.check t.it ≠ 0) :
    Calls Tryz.prog 10 #[t.val] w fun e w' => e = .returned (.tuple #[.slice none 0 0, errV (Tm.check t.it)]) ∧ Below w.heap.size w w' := by
  have HCK := hide (fun W (hW : Below w.heap.size w W) => tcheck_any t W (h.below hW))
  have hV : errV (Tm.check t.it) = .iface 27 (.int .i64 (Tm.check t.it)) := by unfold errV; rw [if_neg hc]
  rw [hV] at HCK ⊢
  generalize Tm.check t.it = c at *
  obtain ⟨iv, ins, ov, outs, time⟩ := t
  obtain ⟨hi, ho⟩ := h
  obtain ⟨ia, ic, hie, him, _⟩ := hi.form
  obtain ⟨oa, oc, hoe, hom, _⟩ := ho.form
  simp only at hi ho hie hoe
  subst hie hoe
  show Calls Tryz.prog 10 #[.agg #[.slice ia ins.length ic, .slice oa outs.length oc, .int .i64 time]] w fun e w' => e = .returned (.tuple #[.slice none 0 0, .iface 27 (.int .i64 c)]) ∧ Below w.heap.size w w'
  have HCK2 : Hid (∀ W, Below w.heap.size w W → Calls Tryz.prog 6 #[.agg #[.slice ia ins.length ic, .slice oa outs.length oc, .int .i64 time]] W fun e w' => e = .returned (.iface 27 (.int .i64 c)) ∧ Below W.heap.size W w') := HCK
  clear HCK hi ho him hom hc hV
  generalize ins.length = il at *
  generalize outs.length = ol at *
  go_enter Tryz.func10, Tryz.ntmps10
  go_wp2_with fail
  refine (HCK2.out _ (below_alloc w _)).mono ?_
  rintro e w1 ⟨rfl, hb1⟩
  have HB1 := hide ((below_alloc w (.cells #[.slice ia il ic, .slice oa ol oc, .int .i64 time] 25)).trans (hb1.mono (by simp)))
  clear hb1
  go_wp2
  go_ret2
  exact ⟨rfl, HB1.out⟩

theorem tbytes_any (t : TxV) (w : World) (h : HasTx w t) :
    Calls Tryz.prog 10 #[t.val] w fun e w' => ∃ v, e = .returned (.tuple #[v, errV (Tm.check t.it)]) ∧ Own w' w.heap.size v (if Tm.check t.it = 0 then Tm.bytes t.it else []) ∧ Below w.heap.size w w' := by
  by_cases hc : Tm.check t.it = 0
  · refine (tbytes_good t w h hc).mono ?_
    rintro e w' ⟨v, rfl, ho, hb⟩
    exact ⟨v, by rw [hc]; rfl, by rw [if_pos hc]; exact ho, hb⟩
  · refine (tbytes_bad t w h hc).mono ?_
    rintro e w' ⟨rfl, hb⟩
    exact ⟨_, rfl, by rw [if_neg hc]; exact Own.nil _ _, hb⟩
end Go.Proofs.YtbdnbjemocjlaaaGreatDoor
