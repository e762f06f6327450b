/- tx.Read: what breaks a reading off is told as an error. -/
import Derived.Test.YtbdnbjemocjlaaaGreatDoorTxY
import Derived.Defers
import Derived.Recover
namespace Go.Proofs.YtbdnbjemocjlaaaGreatDoor
open Go.RowKit
set_option linter.unusedVariables false
set_option linter.unusedSimpArgs false

theorem read_idle (p : Addr) (w : World) :
    CallsD Tryz.prog 54 #[.pointer (some p)] .returning w fun e u' w' => e = .returned (.tuple #[]) ∧ u' = .returning ∧ w' = w := by
  refine callsD_of_wpS Tryz.func54 rfl fun c₀ cs hu => ?_
  apply wpS_seq
  apply wpS_region
  simp [wpOpsS, go_sem, recoverD, hu, Tryz.ntmps54, Exit.thenS]
  refine wpS_of_wp ?_
  change Code.wp Tryz.prog _ _ { tmps := #[.pointer (some p), .nilIface, undef, undef, undef, undef, undef, undef], defers := [] } w
  go_wp2
  cases c₀
  simp_all [bodyPostS, results, Tryz.results54]
theorem ta_no (W : World) : (Instr.typeAssert (.iface 119 (.agg #[])) 20 119 true).run Tryz.prog W = .ok (.tuple #[.agg #[], .bool true]) W := by kernel_rfl
set_option maxRecDepth 100000 in
theorem read_pan (b : Nat) (x : Value) (w : World) (hx : w.cell? ⟨b, 0, none⟩ = some x) (hz : w.frozen? ⟨b, 0, none⟩ = false) :
    CallsD Tryz.prog 54 #[.pointer (some ⟨b, 0, none⟩)] (.panicking panNo) w fun e u' w' => e = .returned (.tuple #[]) ∧ settle u' = .returning ∧ w' = w.setCell ⟨b, 0, none⟩ (errV 1) := by
  refine callsD_of_wpS Tryz.func54 rfl fun c₀ cs hu => ?_
  have a1 := ta_no
  simp only [panNo] at hu
  apply wpS_seq
  apply wpS_region
  simp [wpOpsS, go_sem, recoverD, hu, Tryz.ntmps54, Exit.thenS]
  refine wpS_of_wp ?_
  change Code.wp Tryz.prog _ _ { tmps := #[.pointer (some ⟨b, 0, none⟩), .iface 119 (.agg #[]), undef, undef, undef, undef, undef, undef], defers := [] } w
  go_wp2
  simp_all [bodyPostS, results, Tryz.results54, settle, errV]

/-- What reading tells. -/
def ReadTold (w : World) (r : Option Tm.Tx) (e : Ending) (w' : World) : Prop :=
  Below w.heap.size w w' ∧ match r with
  | none => e = .returned (.tuple #[.agg #[.slice none 0 0, .slice none 0 0, .int .i64 0], errV 1])
  | some t => ∃ T : TxV, T.it = t ∧ e = .returned (.tuple #[T.val, .nilIface]) ∧ Itm w.heap.size w' (fun W => HasTx W T)
theorem hasIns_form {w : World} {v : Value} {L : List InV} (h : HasIns w v L) : ∃ a n c, v = .slice a n c := by
  rcases h.1 with ⟨a, c, e, _⟩ | ⟨b, off, c, e, _⟩
  · exact ⟨a, 0, c, e⟩
  · exact ⟨_, _, c, e⟩
theorem hasOuts_form {w : World} {v : Value} {L : List OutV} (h : HasOuts w v L) : ∃ a n c, v = .slice a n c := by
  rcases h.1 with ⟨a, c, e, _⟩ | ⟨b, off, c, e, _⟩
  · exact ⟨a, 0, c, e⟩
  · exact ⟨_, _, c, e⟩

/-- What lies in the two cells of results. -/
structure ResS (w : World) (W : World) : Prop where
  below : Below w.heap.size w W
  tx : Is W w.heap.size [.slice none 0 0, .slice none 0 0, .int .i64 0] 25
  err : Is W (w.heap.size + 1) [.nilIface] 31
theorem ResS.call {w W W' : World} (h : ResS w W) (hb : Below (w.heap.size + 2) W W') : ResS w W' :=
  ⟨h.below.trans (hb.mono (by omega)), h.tx.below hb (by omega), h.err.below hb (by omega)⟩
theorem ResS.but {w W W' : World} {R : Nat} (h : ResS w W) (hb : But R W W') (hR : w.heap.size + 2 ≤ R) : ResS w W' :=
  h.call (hb.under (by have := h.err.lt; omega) hR)

theorem read_leaves (w W : World) (tmps : Array Value) (x0 x1 x2 : Value) (ev : Value) (Post : Ending → World → Prop) (h2 : tmps.getD 2 undef = .pointer (some ⟨w.heap.size, 0, none⟩)) (h3 : tmps.getD 3 undef = .pointer (some ⟨w.heap.size + 1, 0, none⟩))
    (hi : Is W w.heap.size [x0, x1, x2] 25) (he : Is W (w.heap.size + 1) [ev] 31) (h : Post (.returned (.tuple #[.agg #[x0, x1, x2], ev])) W) : Leaves Tryz.prog Tryz.f36 tmps Post [] .returning W := by
  have b0 := hi.cell 0
  have b1 := hi.cell 1
  have b2 := hi.cell 2
  have a2 := he.cell 0
  simp only [List.getElem?_cons_zero, List.getElem?_cons_succ] at a2 b0 b1 b2
  refine ⟨.tuple #[.agg #[x0, x1, x2], ev], ?_, h⟩
  have g2 : tmps[2]?.getD undef = .pointer (some ⟨w.heap.size, 0, none⟩) := by simpa using h2
  have g3 : tmps[3]?.getD undef = .pointer (some ⟨w.heap.size + 1, 0, none⟩) := by simpa using h3
  simp [results, Tryz.results36, go_sem, g2, g3, b0, b1, b2, a2]

theorem read_gone (w W : World) (tmps : Array Value) (l : List Int) (hr : ResS w W) (h2 : tmps.getD 2 undef = .pointer (some ⟨w.heap.size, 0, none⟩)) (h3 : tmps.getD 3 undef = .pointer (some ⟨w.heap.size + 1, 0, none⟩)) (hn : Tm.read l = none) :
    Leaves Tryz.prog Tryz.f36 tmps (fun e w' => ReadTold w (Tm.read l) e w') [] .returning (W.setCell ⟨w.heap.size + 1, 0, none⟩ (errV 1)) :=
  read_leaves w _ tmps _ _ _ _ _ h2 h3 (hr.tx.other ⟨w.heap.size + 1, 0, none⟩ (errV 1) (by show w.heap.size + 1 ≠ w.heap.size; omega)) (hr.err.set 0 (errV 1)) ⟨hr.below.setCell (by show w.heap.size ≤ w.heap.size + 1; omega) _, by rw [hn]⟩

set_option maxRecDepth 100000 in
set_option maxHeartbeats 4000000 in
theorem readWhole_any (bv : Value) (l : List Int) (w : World) (hl : Has w bv l) (hbt : Sz.Byt l) (hbig : l.length ≤ 180000000000000) :
    Calls Tryz.prog 36 #[bv] w fun e w' => ReadTold w (Tm.read l) e w' := by
  obtain ⟨ba, bc, rfl, _, _⟩ := hl.shape
  have hmf : ∀ (fn : Fn) (first cap : Array Value) (w : World), (Instr.makeFunc fn first cap).run Tryz.prog w = .ok (.func fn first cap) w := fun _ _ _ _ => rfl
  obtain ⟨W3, hW3⟩ : ∃ W, W = ((w.alloc (.cells #[.slice none 0 0, .slice none 0 0, .int .i64 0] 25)).alloc (.cells #[.nilIface] 31)).alloc (.cells #[.slice ba l.length bc, .int .i64 0] 122) := ⟨_, rfl⟩
  have hrs : RdS w (w.heap.size + 2) (.slice ba l.length bc) l 0 W3 := by
    rw [hW3]
    exact ⟨by omega, below_alloc3 w _ _ _, Is.new' _ 122 (by simp)⟩
  have hr3 : ResS w W3 := by
    rw [hW3]
    exact ⟨below_alloc3 w _ _ _, ((Is.new w [.slice none 0 0, .slice none 0 0, .int .i64 0] 25).alloc _).alloc _, (Is.new' (w := w.alloc (.cells #[.slice none 0 0, .slice none 0 0, .int .i64 0] 25)) [.nilIface] 31 (by simp)).alloc _⟩
  have HP := hide (ppayment_any w (w.heap.size + 2) _ l W3 hrs hl hbt hbig)
  have HR3 := hide hr3
  have hsz3 : W3.heap.size = w.heap.size + 3 := by rw [hW3]; simp
  have hW3' := hsz3
  rw [hW3] at hW3'
  have HSZ3 := hide hW3'
  clear hW3'
  have HSZ := hide hsz3
  rw [hW3] at HP HR3
  have HCK := hide (fun (T : TxV) (W : World) (h : HasTx W T) => tcheck_any T W h)
  clear hrs hr3 hsz3 hl hbt hbig hW3
  go_enter_defers Tryz.func36, Tryz.ntmps36
  go_wp2_with fail
  refine HP.out.mono ?_
  rintro e w1 ⟨hb1, hm1⟩
  have HR1 := hide (HR3.out.but hb1 (Nat.le_refl _))
  have hz1 : w.heap.size + 3 ≤ w1.heap.size := by have := hb1.size; rw [HSZ3.out] at this; exact this
  have HZ1 := hide hz1
  clear hz1
  cases hp : Tm.payR l with
  | none =>
    rw [hp] at hm1
    subst hm1
    refine leaves_cons (f := 54) (args := #[.pointer (some ⟨w.heap.size + 1, 0, none⟩)]) (by simp) (by simp [go_sem]) ?_
    refine (read_pan (w.heap.size + 1) .nilIface _ (HR1.out.err.cell 0) (HR1.out.err.frozen 0)).mono ?_
    rintro e u' w'' ⟨rfl, hu, rfl⟩
    show Leaves _ _ _ _ _ (settle u') _
    rw [hu]
    exact read_gone w _ _ l HR1.out rfl rfl (by unfold Tm.read; rw [hp]; rfl)
  | some x1 =>
    rw [hp] at hm1
    obtain ⟨v1, rfl, ⟨T, rfl, hTi, hTt⟩, hs1⟩ := hm1
    obtain ⟨t, q⟩ := x1
    obtain ⟨iv, ins, ov, outs, time⟩ := T
    obtain ⟨ia, im, ic, hiv⟩ := hasIns_form hTt.out.1
    obtain ⟨oa, om, oc, hov⟩ := hasOuts_form hTt.out.2
    simp only at hiv hov
    subst hiv hov
    have HTI := hide hTi
    have HPY := hide hp
    have HIT := hide (hTt.mono (by rw [HSZ3.out]; exact Nat.le_refl _) : Itm (w.heap.size + 3) w1 (fun W => HasTx W ⟨.slice ia im ic, ins, .slice oa om oc, outs, time⟩))
    have hcR : w1.cell? ⟨w.heap.size + 1 + 1, 1, none⟩ = some (.int .i64 (q : Int)) := hs1.is.cell 1
    clear hp hTi hTt hs1 hb1 HP HR3
    have HB2 := hide (below_alloc w1 (.cells #[.slice ia im ic, .slice oa om oc, .int .i64 time] 25))
    have HR2 := hide (HR1.out.call (HB2.out.mono (by have := HZ1.out; omega)))
    have HI2 := hide (HIT.out.but (But.call (g := 0) HB2.out) (by omega))
    have HX2 := hide (Is.new w1 [.slice ia im ic, .slice oa om oc, .int .i64 time] 25)
    have hcR2 : (w1.alloc (.cells #[.slice ia im ic, .slice oa om oc, .int .i64 time] 25)).cell? ⟨w.heap.size + 1 + 1, 1, none⟩ = some (.int .i64 (q : Int)) := rd_cell hcR HB2.out
    simp only [TxV.val]
    by_cases hq : q = l.length
    · have hqe : ((q : Int) == (l.length : Int)) = true := by rw [beq_iff_eq]; omega
      have HCK := hide (HCK.out ⟨.slice ia im ic, ins, .slice oa om oc, outs, time⟩)
      have hce : Tm.check (TxV.it ⟨.slice ia im ic, ins, .slice oa om oc, outs, time⟩) = Tm.check t := by rw [HTI.out]
      rw [hce] at HCK
      have HHT := hide HI2.out.out
      by_cases hck : Tm.check t = 0
      · have HYE : Hid (Tm.read l = some t) := hide (by unfold Tm.read; rw [HPY.out, Option.bind_some, if_pos ⟨hq, hck⟩])
        rw [hck, show errV 0 = .nilIface from rfl] at HCK
        clear hck hce hq
        generalize l.length = ll at *
        go_wp2_with (refine wpList_store_new 25 [.slice none 0 0, .slice none 0 0, .int .i64 0] [.slice ia im ic, .slice oa om oc, .int .i64 time] w1 size_tx rfl rfl (by intro v hv; simp only [List.mem_cons, List.not_mem_nil, or_false] at hv; rcases hv with rfl | rfl | rfl <;> rfl) rfl (.tmp 5) (.tmp 11) rfl rfl rfl rfl ?_)
        refine (pmust_true _).mono ?_
        rintro e w2 ⟨rfl, rfl⟩
        go_wp2_with fail
        refine (HCK.out _ HHT.out).mono ?_
        rintro e w3 ⟨rfl, hb3⟩
        have HR4 := hide (HR2.out.call (hb3.mono (by have := HZ1.out; have := HB2.out.size; omega)))
        have HI4 := hide (HI2.out.but (But.call (g := 0) hb3) (by omega))
        have HX4 := hide (HX2.out.below hb3 (by simp))
        have HB3 := hide hb3
        clear hb3
        go_wp2_with fail
        refine (pmust_true _).mono ?_
        rintro e w4 ⟨rfl, rfl⟩
        go_wp2_with (first
          | (refine wpList_load_part 25 [.slice ia im ic, .slice oa om oc, .int .i64 time] w1.heap.size 0 rfl (.tmp 5) rfl rfl (is_range HX4.out) Tryz.underlying25 rfl size_tx rfl ?_)
          | (refine wpList_store_any3 25 [.slice none 0 0, .slice none 0 0, .int .i64 0] [.slice ia im ic, .slice oa om oc, .int .i64 time] w.heap.size rfl (.tmp 2) (.tmp 24) rfl rfl rfl rfl HR4.out.tx size_tx rfl rfl (by intro v hv; simp only [List.mem_cons, List.not_mem_nil, or_false] at hv; rcases hv with rfl | rfl | rfl <;> rfl) ?_; intro w5 hi5 hw5; have hbr : But w.heap.size w3 w5 := (by rw [hw5]; exact But.row _ w.heap.size _); clear hw5; have HI5 := hide hi5; have HE5 := hide (hbr.kept HR4.out.err (by omega)); have HBR := hide hbr; have hce5 := HE5.out.cell 0; have hfe5 := HE5.out.frozen; simp only [List.getElem?_cons_zero] at hce5; clear hi5 hbr))
        refine leaves_cons (f := 54) (args := #[.pointer (some ⟨w.heap.size + 1, 0, none⟩)]) (by simp) (by simp [go_sem]) ?_
        refine (read_idle ⟨w.heap.size + 1, 0, none⟩ _).mono ?_
        rintro e u' w'' ⟨rfl, rfl, rfl⟩
        show Leaves _ _ _ _ _ FrameMode.returning _
        have hbw : Below w.heap.size w w5 := HR4.out.below.trans (HBR.out.under (by have := HR4.out.tx.lt; omega) (Nat.le_refl _))
        exact read_leaves w _ _ _ _ _ _ _ rfl rfl (HI5.out.other ⟨w.heap.size + 1, 0, none⟩ .nilIface (by show w.heap.size + 1 ≠ w.heap.size; omega)) (HE5.out.set 0 .nilIface) ⟨hbw.setCell (by show w.heap.size ≤ w.heap.size + 1; omega) _, by rw [HYE.out]; exact ⟨⟨.slice ia im ic, ins, .slice oa om oc, outs, time⟩, HTI.out, rfl, ((HI4.out.but HBR.out (by omega)).but (But.cell w5 (w.heap.size + 1) 0 .nilIface) (by omega)).mono (by omega)⟩⟩
      · have HNO : Hid (Tm.read l = none) := hide (by unfold Tm.read; rw [HPY.out, Option.bind_some, if_neg (fun h => hck h.2)])
        have hV : errV (Tm.check t) = .iface 27 (.int .i64 (Tm.check t)) := by unfold errV; rw [if_neg hck]
        rw [hV] at HCK
        clear hck hV hce hq
        generalize Tm.check t = c at *
        generalize l.length = ll at *
        go_wp2_with (refine wpList_store_new 25 [.slice none 0 0, .slice none 0 0, .int .i64 0] [.slice ia im ic, .slice oa om oc, .int .i64 time] w1 size_tx rfl rfl (by intro v hv; simp only [List.mem_cons, List.not_mem_nil, or_false] at hv; rcases hv with rfl | rfl | rfl <;> rfl) rfl (.tmp 5) (.tmp 11) rfl rfl rfl rfl ?_)
        refine (pmust_true _).mono ?_
        rintro e w2 ⟨rfl, rfl⟩
        go_wp2_with fail
        refine (HCK.out _ HHT.out).mono ?_
        rintro e w3 ⟨rfl, hb3⟩
        have HR4 := hide (HR2.out.call (hb3.mono (by have := HZ1.out; have := HB2.out.size; omega)))
        clear hb3
        go_wp2_with fail
        refine (pmust_false _).mono ?_
        rintro e w4 ⟨rfl, rfl⟩
        refine leaves_cons (f := 54) (args := #[.pointer (some ⟨w.heap.size + 1, 0, none⟩)]) (by simp) (by simp [go_sem]) ?_
        refine (read_pan (w.heap.size + 1) .nilIface _ (HR4.out.err.cell 0) (HR4.out.err.frozen 0)).mono ?_
        rintro e u' w'' ⟨rfl, hu, rfl⟩
        show Leaves _ _ _ _ _ (settle u') _
        rw [hu]
        exact read_gone w _ _ l HR4.out rfl rfl HNO.out
    · have hqe : ((q : Int) == (l.length : Int)) = false := by rw [beq_eq_false_iff_ne]; omega
      have HNO : Hid (Tm.read l = none) := hide (by unfold Tm.read; rw [HPY.out, Option.bind_some, if_neg (fun h => hq h.1)])
      clear hq
      generalize l.length = ll at *
      go_wp2_with (refine wpList_store_new 25 [.slice none 0 0, .slice none 0 0, .int .i64 0] [.slice ia im ic, .slice oa om oc, .int .i64 time] w1 size_tx rfl rfl (by intro v hv; simp only [List.mem_cons, List.not_mem_nil, or_false] at hv; rcases hv with rfl | rfl | rfl <;> rfl) rfl (.tmp 5) (.tmp 11) rfl rfl rfl rfl ?_)
      refine (pmust_false _).mono ?_
      rintro e w2 ⟨rfl, rfl⟩
      refine leaves_cons (f := 54) (args := #[.pointer (some ⟨w.heap.size + 1, 0, none⟩)]) (by simp) (by simp [go_sem]) ?_
      refine (read_pan (w.heap.size + 1) .nilIface _ (HR2.out.err.cell 0) (HR2.out.err.frozen 0)).mono ?_
      rintro e u' w'' ⟨rfl, hu, rfl⟩
      show Leaves _ _ _ _ _ (settle u') _
      rw [hu]
      exact read_gone w _ _ l HR2.out rfl rfl HNO.out

set_option maxRecDepth 100000 in
set_option maxHeartbeats 4000000 in
theorem read_pass (w : World) (ba : Option Addr) (bn bc : Nat) (Q : Value → Value → Value → Value → World → Prop)
    (hc : Calls Tryz.prog 36 #[.slice ba bn bc] (w.alloc (.cells #[.slice none 0 0, .slice none 0 0, .int .i64 0] 25)) fun e w' => ∃ x0 x1 x2 ev, (x0.oneCell' = true ∧ x1.oneCell' = true ∧ x2.oneCell' = true) ∧ e = .returned (.tuple #[.agg #[x0, x1, x2], ev]) ∧ Below (w.heap.size + 1) (w.alloc (.cells #[.slice none 0 0, .slice none 0 0, .int .i64 0] 25)) w' ∧ Q x0 x1 x2 ev w') :
    Calls Tryz.prog 14 #[.slice ba bn bc] w fun e w' => ∃ x0 x1 x2 ev W, e = .returned (.tuple #[.agg #[x0, x1, x2], ev]) ∧ Below w.heap.size w w' ∧ Q x0 x1 x2 ev W ∧ But w.heap.size W w' := by
  have HC := hide hc
  have HX := hide (Is.new w [.slice none 0 0, .slice none 0 0, .int .i64 0] 25)
  have HB := hide (below_alloc w (.cells #[.slice none 0 0, .slice none 0 0, .int .i64 0] 25))
  clear hc
  go_enter Tryz.func14, Tryz.ntmps14
  go_wp2_with fail
  refine HC.out.mono ?_
  rintro e w1 ⟨x0, x1, x2, ev, ⟨n0, n1, n2⟩, rfl, hb1, hq⟩
  have HQ := hide hq
  have HX1 := hide (HX.out.below hb1 (by omega))
  have HB1 := hide (HB.out.trans (hb1.mono (by omega)))
  have H1 : Hid (∀ v ∈ [x0, x1, x2], v.oneCell' = true) := hide (by intro v hv; simp only [List.mem_cons, List.not_mem_nil, or_false] at hv; rcases hv with rfl | rfl | rfl <;> assumption)
  clear hb1 hq n0 n1 n2
  go_wp2_with (first
    | (refine wpList_store_any3 25 [.slice none 0 0, .slice none 0 0, .int .i64 0] [x0, x1, x2] w.heap.size rfl (.tmp 2) (.tmp 6) rfl rfl rfl rfl HX1.out size_tx rfl rfl H1.out ?_; intro w5 hi5 hw5; have hbr : But w.heap.size w1 w5 := (by rw [hw5]; exact But.row _ w.heap.size _); clear hw5))
  have b0 := hi5.cell 0
  have b1 := hi5.cell 1
  have b2 := hi5.cell 2
  simp only [List.getElem?_cons_zero, List.getElem?_cons_succ] at b0 b1 b2
  exact bodyPost_ret (v := .tuple #[.agg #[x0, x1, x2], ev]) (by simp [results, Tryz.results14, go_sem, b0, b1, b2]) rfl ⟨x0, x1, x2, ev, w1, rfl, HB1.out.trans (hbr.under (by have := HX1.out.lt; omega) (Nat.le_refl _)), HQ.out, hbr⟩
theorem tread_any (bv : Value) (l : List Int) (w : World) (hl : Has w bv l) (hbt : Sz.Byt l) (hbig : l.length ≤ 180000000000000) :
    Calls Tryz.prog 14 #[bv] w fun e w' => ReadTold w (Tm.read l) e w' := by
  obtain ⟨ba, bc, rfl, _, _⟩ := hl.shape
  have hb := below_alloc w (.cells #[.slice none 0 0, .slice none 0 0, .int .i64 0] 25)
  have hc := readWhole_any _ l _ (hl.below hb) hbt hbig
  cases hr : Tm.read l with
  | none =>
    refine (read_pass w ba l.length bc (fun x0 x1 x2 ev _ => x0 = .slice none 0 0 ∧ x1 = .slice none 0 0 ∧ x2 = .int .i64 0 ∧ ev = errV 1) (hc.mono ?_)).mono ?_
    · rintro e w' ⟨h1, h2⟩
      rw [hr] at h2
      exact ⟨_, _, _, _, ⟨rfl, rfl, rfl⟩, h2, h1.mono (by simp), rfl, rfl, rfl, rfl⟩
    · rintro e w' ⟨_, _, _, _, W, rfl, h1, ⟨rfl, rfl, rfl, rfl⟩, _⟩
      exact ⟨h1, rfl⟩
  | some t =>
    refine (read_pass w ba l.length bc (fun x0 x1 x2 ev W => ∃ T : TxV, T.it = t ∧ ev = .nilIface ∧ x0 = T.iv ∧ x1 = T.ov ∧ x2 = .int .i64 T.time ∧ Itm (w.heap.size + 1) W (fun W => HasTx W T)) (hc.mono ?_)).mono ?_
    · rintro e w' ⟨h1, h2⟩
      rw [hr] at h2
      obtain ⟨T, hT, he, hi⟩ := h2
      obtain ⟨ia, im, ic, hiv⟩ := hasIns_form hi.out.1
      obtain ⟨oa, om, oc, hov⟩ := hasOuts_form hi.out.2
      exact ⟨_, _, _, _, ⟨by rw [hiv]; rfl, by rw [hov]; rfl, rfl⟩, he, h1.mono (by simp), T, hT, rfl, rfl, rfl, rfl, hi.mono (by simp)⟩
    · rintro e w' ⟨_, _, _, _, W, rfl, h1, ⟨T, hT, rfl, rfl, rfl, rfl, hi⟩, hbr⟩
      exact ⟨h1, T, hT, rfl, (hi.but hbr (by omega)).mono (by omega)⟩
end Go.Proofs.YtbdnbjemocjlaaaGreatDoor
