/- moneyerlaw2.TxID. -/
import Derived.Test.YtmoijbdpbpfljaaDoorTxTo
import Derived.Test.YtmoijbdpbpfljaaDoorZTk
import Derived.Test.YtmoijbdpbpfljaaDoorZTb
import Derived.Test.YtmoijbdpbpfljaaDoorGRf
import Derived.Test.YtmoijbdpbpfljaaDoorShEq
namespace Go.Proofs.YtmoijbdpbpfljaaDoor
open Go.RowKit
set_option linter.unusedVariables false
set_option linter.unusedSimpArgs false

theorem own_form {W : World} {base : Nat} {v : Value} {l : List Int} (h : Own W base v l) : ∃ a n c, v = .slice a n c := by
  obtain ⟨a, c, e, _⟩ := Own.form h
  exact ⟨a, _, c, e⟩
theorem BoxT.cells {w W : World} {x0 x1 x2 y0 y1 y2 : Value} (h : BoxT w [x0, x1, x2] [y0, y1, y2] W) : (W.cell? ⟨w.heap.size, 0, none⟩ = some x0 ∧ W.cell? ⟨w.heap.size, 1, none⟩ = some x1 ∧ W.cell? ⟨w.heap.size, 2, none⟩ = some x2) ∧ (W.cell? ⟨w.heap.size + 1, 0, none⟩ = some y0 ∧ W.cell? ⟨w.heap.size + 1, 1, none⟩ = some y1 ∧ W.cell? ⟨w.heap.size + 1, 2, none⟩ = some y2) :=
  ⟨⟨h.b1.cell 0, h.b1.cell 1, h.b1.cell 2⟩, h.b2.cell 0, h.b2.cell 1, h.b2.cell 2⟩
theorem BoxT.setCell {w W : World} {c1 c2 : List Value} (h : BoxT w c1 c2 W) (g i : Nat) (v : Value) (hg : w.heap.size + 2 ≤ g) : BoxT w c1 c2 (W.setCell ⟨g, i, none⟩ v) :=
  ⟨h.below.setCell (by show w.heap.size ≤ g; omega) _, h.b1.other _ _ (by show g ≠ _; omega), h.b2.other _ _ (by show g ≠ _; omega)⟩
theorem BoxT.room {w W : World} {c1 c2 : List Value} (h : BoxT w c1 c2 W) : w.heap.size + 2 ≤ W.heap.size := h.b2.lt
theorem InsRow.other {lo : Nat} {W : World} {a : Option Addr} {n cap : Nat} {L : List InV} (h : InsRow lo W a n cap L) (b i : Nat) (v : Value) (hb : b < lo) : InsRow lo (W.setCell ⟨b, i, none⟩ v) a n cap L := by
  refine ⟨h.1, fun h0 => ?_⟩
  obtain ⟨h1, h2, g, tl, h3, h4, h5⟩ := h.2 h0
  exact ⟨h1, h2, g, tl, h3, h4, h5.other _ _ (by show b ≠ g; omega)⟩
theorem app_insB (W : World) (b : Nat) (hb : b = W.heap.size) (v : Value) (R : List InV) (h : HasIns W v R) (h40 : R.length ≤ 40) (ty : TypeId) :
    ∃ v' W', (Builtin.append_ #[22, 22] ty #[.slice (some ⟨b, 0, none⟩) 0 0, v]).run Tryd.prog (W.alloc (.cells #[] 45)) = .ok v' W' ∧ AppI W R v' W' := by
  subst hb; exact app_ins W v R h h40 ty
theorem wpList_load_arrG (t : TypeId) (c : List Value) (b : Nat) {n m : Nat} {e : TypeId} {w : World} {ops : Array Oper} {rest : List Oper} {o : Oper} {a : Act} {Q : Exit → Act → World → Prop} (hgd : Region.wanted o (yielded ops a.tmps) = true) (s : Operand) (ho : o.op = .load t s) (hs : a.eval s = .pointer (some ⟨b, 0, none⟩))
    (hi : Is w b c t) (hu : Tryd.prog.underlying t = some (.array n e)) (hz : Sized t m) (hc : c.length = m)
    (h : wpList Tryd.prog ops Q rest (a.put o.dst (.agg c.toArray)) w) : wpList Tryd.prog ops Q (o :: rest) a w := by
  refine wpList_step fun K hK => ?_
  rw [if_pos hgd]
  have hl := hi.load hu (by rw [hc]; exact hz)
  unfold Oper.wp
  simp only [execOp, ho, hs, hl, Sem.run_bind, Sem.run_pure, Result.andThen_ok]
  exact hK _ _ h
theorem cell_other {W : World} {g i : Nat} {v x : Value} {a : Addr} (h : W.cell? a = some x) (hne : a.block ≠ g) : (W.setCell ⟨g, i, none⟩ v).cell? a = some x := by
  rw [World.cell?_setCell_other _ _ _ _ (by intro c; exact hne (by rw [← c]))]; exact h
/-- Its keys laid anew, a payment has the ID that it had. -/
theorem id_of_bare (t u : Tm.Tx) (h : Tm.bare t = Tm.bare u) : Tm.id t = Tm.id u := by unfold Tm.id Tm.idText; rw [h]
theorem bare_withK (R : List InV) (kv : Value) (K : List (List Int × Value)) (a b : Value) (O : List OutV) (x y : Value) (tm : Int) : Tm.bare (TxV.it ⟨a, R.map (withK kv K), x, O, tm⟩) = Tm.bare (TxV.it ⟨b, R, y, O, tm⟩) := by
  simp [Tm.bare, TxV.it, Tm.bareI, InV.it, withK, Function.comp_def]
/-- The first k of these have the keys of those. -/
def keyed : List InV → List InV → Nat → List InV
  | U, _, 0 => U
  | x :: U, y :: I, k + 1 => withK y.kv y.K x :: keyed U I k
  | U, _, _ => U
theorem keyed_length : ∀ (U I : List InV) (k : Nat), (keyed U I k).length = U.length
  | _, _, 0 => by unfold keyed; rfl
  | [], _, k + 1 => by unfold keyed; rfl
  | _ :: _, [], k + 1 => by unfold keyed; rfl
  | x :: U, y :: I, k + 1 => by
    have := keyed_length U I k
    unfold keyed; simp [this]
theorem keyed_32 : ∀ (U I : List InV) (k : Nat), (∀ x ∈ U, x.tx.length = 32) → ∀ x ∈ keyed U I k, x.tx.length = 32
  | _, _, 0, h => by unfold keyed; exact h
  | [], _, k + 1, h => by unfold keyed; exact h
  | _ :: _, [], k + 1, h => by unfold keyed; exact h
  | x :: U, y :: I, k + 1, h => by
    unfold keyed
    intro z hz
    rcases List.mem_cons.1 hz with rfl | hz
    · exact h x (by simp)
    · exact keyed_32 U I k (fun z hz => h z (by simp [hz])) z hz
theorem keyed_step : ∀ (U I : List InV) (k : Nat) (hk : k < U.length) (hi : k < I.length), (keyed U I k).set k (withK I[k].kv I[k].K ((keyed U I k)[k]'(by rw [keyed_length]; exact hk))) = keyed U I (k + 1)
  | x :: U, y :: I, 0, _, _ => by simp [keyed]
  | x :: U, y :: I, k + 1, hk, hi => by
    have := keyed_step U I k (by simpa using hk) (by simpa using hi)
    simp only [keyed, List.set_cons_succ, List.getElem_cons_succ, List.cons.injEq, true_and]
    exact this
  | [], _, _, hk, _ => by simp at hk
  | _, [], _, _, hi => by simp at hi
theorem keyed_facts {w : World} : ∀ (U I : List InV) (k : Nat), (∀ x ∈ U, x.tx.length = 32 ∧ Sz.Byt x.tx ∧ HasKeys w x.kv x.K) → (∀ x ∈ I, HasKeys w x.kv x.K) → ∀ x ∈ keyed U I k, x.tx.length = 32 ∧ Sz.Byt x.tx ∧ HasKeys w x.kv x.K
  | _, _, 0, h, _ => by unfold keyed; exact h
  | [], _, k + 1, h, _ => by unfold keyed; exact h
  | _ :: _, [], k + 1, h, _ => by unfold keyed; exact h
  | x :: U, y :: I, k + 1, h, hi => by
    unfold keyed
    intro z hz
    rcases List.mem_cons.1 hz with rfl | hz
    · exact ⟨(h x (by simp)).1, (h x (by simp)).2.1, hi y (by simp)⟩
    · exact keyed_facts U I k (fun z hz => h z (by simp [hz])) (fun z hz => hi z (by simp [hz])) z hz
theorem keyed_it : ∀ (U I : List InV), U.length = I.length → (keyed U I U.length).map InV.it = Tm.rekey (U.map InV.it) (I.map InV.it)
  | [], [], _ => by simp [keyed, Tm.rekey]
  | [], _ :: _, h => by simp at h
  | _ :: _, [], h => by simp at h
  | x :: U, y :: I, h => by
    have := keyed_it U I (by simpa using h)
    simp only [List.length_cons, keyed, List.map_cons, Tm.rekey, this]
    rfl

set_option maxRecDepth 100000 in
set_option maxHeartbeats 16000000 in
theorem txID_walk (t : TxV) (kv : Value) (K : List (List Int × Value)) (u : TxV) (w : World) (ht : HasTx w t) (hK : HasKeys w kv K) (hKn : K.length * 24 ≤ 140737488351232) (hu : HasTx w u) (hT : Tab w) (hw : 1 < w.heap.size) :
    Calls Tryd.prog 4 #[t.val, kv, u.val] w fun e w' => e = .returned (.bool true) ∧ Below w.heap.size w w' := by
  obtain ⟨ka, kc, rfl, _, hkl, _⟩ := keys_form hK
  obtain ⟨iv, ins, ov, outs, time⟩ := t
  obtain ⟨ia, ic, hie, him, hif⟩ := ins_form ht.1
  obtain ⟨oa, oc, hoe, hom, _⟩ := ht.2.form
  simp only at hie hoe hif
  subst hie hoe
  obtain ⟨jv, uins, pv, uouts, utime⟩ := u
  obtain ⟨ja, jc, hje, hjm, hjf⟩ := ins_form hu.1
  obtain ⟨pa, pc, hpe, hpm, _⟩ := hu.2.form
  simp only at hje hpe hjf
  subst hje hpe
  have HCT := hide (fun W (hW : Below w.heap.size w W) => ht.below hW)
  have HCU := hide (fun W (hW : Below w.heap.size w W) => hu.below hW)
  have HCK := hide (fun W (hW : Below w.heap.size w W) => hK.below hW)
  have HTB := hide (fun W (hW : Below w.heap.size w W) => hT.below hW hw)
  have HIF := hide hif
  unfold maxLen at him hom hjm hpm hkl
  have HX0 := hide (BoxT.start w (.slice ia ins.length ic) (.slice oa outs.length oc) (.int .i64 time) (.slice ja uins.length jc) (.slice pa uouts.length pc) (.int .i64 utime))
  obtain ⟨T, hTV⟩ : ∃ T : TxV, T = ⟨.slice ia ins.length ic, ins, .slice oa outs.length oc, outs, time⟩ := ⟨_, rfl⟩
  obtain ⟨U, hUV⟩ : ∃ U : TxV, U = ⟨.slice ja uins.length jc, uins, .slice pa uouts.length pc, uouts, utime⟩ := ⟨_, rfl⟩
  have HV : Hid (T.val = .agg #[.slice ia ins.length ic, .slice oa outs.length oc, .int .i64 time]) := hide (by rw [hTV]; rfl)
  have HVU : Hid (U.val = .agg #[.slice ja uins.length jc, .slice pa uouts.length pc, .int .i64 utime]) := hide (by rw [hUV]; rfl)
  have HTT := hide hTV
  have HUU := hide hUV
  rw [← hTV] at HCT ⊢
  rw [← hUV] at HCU ⊢
  rw [HV.out, HVU.out]
  obtain ⟨kn, hkn⟩ : ∃ n, n = K.length := ⟨_, rfl⟩
  rw [← hkn] at HCK hkl ⊢
  have hzd := zero_dig
  obtain ⟨Zd, hZ⟩ : ∃ Z, Z = vals (List.replicate 32 0) := ⟨_, rfl⟩
  rw [← hZ] at hzd
  have hZl : Zd.length = 32 := by rw [hZ]; simp [vals]
  have hZp : ¬ Zd = [] := by intro h; rw [h] at hZl; cases hZl
  have hZ1 : ∀ v ∈ Zd, v.oneCell' = true := by rw [hZ]; exact vals_one _
  have HZL := hide hZl
  have HZ1 := hide hZ1
  have HZE := hide hZ
  obtain ⟨il, hil⟩ : ∃ n, n = ins.length := ⟨_, rfl⟩
  obtain ⟨ol, hol⟩ : ∃ n, n = outs.length := ⟨_, rfl⟩
  obtain ⟨jl, hjl⟩ : ∃ n, n = uins.length := ⟨_, rfl⟩
  obtain ⟨pl, hpl⟩ : ∃ n, n = uouts.length := ⟨_, rfl⟩
  have HIL := hide hil.symm
  have HJL := hide hjl.symm
  rw [← hil] at him HX0 HV HTT ⊢
  rw [← hol] at hom HX0 HV HTT ⊢
  rw [← hjl] at hjm HX0 HVU HUU ⊢
  rw [← hpl] at hpm HX0 HVU HUU ⊢
  have HKN := hide hkn.symm
  clear hTV hUV ht hu hK hT hif hjf hZ hZl hZ1 hil hol hjl hpl hkn hKn
  go_enter Tryd.func4, Tryd.ntmps4
  go_wp2_with fail
  refine (sent_any _).mono ?_
  rintro e w1 ⟨rfl, hb1⟩
  have HX1 := hide (HX0.out.call hb1)
  have hc0 := HX1.out.b1.cell 0
  have hc1 := HX1.out.b1.cell 1
  have hc2 := HX1.out.b1.cell 2
  simp only [List.getElem?_cons_zero, List.getElem?_cons_succ] at hc0 hc1 hc2
  clear hb1 HX0
  by_cases hck : Tm.check T.it = 0
  · have HID := hide (tid_good T w1 (HCT.out w1 HX1.out.below) hck (HTB.out w1 HX1.out.below) (by have := HX1.out.below.size; omega))
    rw [HV.out] at HID
    have HCKT := hide hck
    have h40 : ins.length ≤ 40 := by have := (Tm.check_zero _ hck).1; rw [HTT.out] at this; simpa [TxV.it] using this
    have H40 := hide h40
    obtain ⟨D, hD⟩ : ∃ D, D = Tm.id T.it := ⟨_, rfl⟩
    have hDl : D.length = 32 := by rw [hD]; simp [Tm.id, Sh.sum, Sh.digest]
    have HDE := hide hD
    have HDL : Hid ((vals D).length = 32) := hide (by rw [vals_length]; exact hDl)
    have HD32 := hide hDl
    rw [← hD] at HID
    clear hck hD hDl h40
    go_wp2_with fail
    refine HID.out.mono ?_
    rintro e w2 ⟨rfl, hb2⟩
    have HX2 := hide (HX1.out.call hb2)
    clear hb2 HID hc0 hc1 hc2
    have HIW := hide (fun W (hW : Below w.heap.size w W) => by have h := HCT.out W hW; rw [HTT.out] at h; exact (h.1 : HasIns W (.slice ia il ic) ins))
    go_wp2_with (first
      | (refine wpList_store_any3 39 Zd (vals D) w2.heap.size rfl (.tmp 8) (.tmp 25) rfl rfl rfl rfl (Is.new w2 _ _) size_dig HZL.out HDL.out (vals_one _) ?_; intro w3 hi3 hw3; have hb3 : Below w2.heap.size w2 w3 := (by rw [hw3]; exact below_row); have HX3 := hide (HX2.out.call hb3); have HD3 := hide hi3; have hc0 := HX3.out.b1.cell 0; have hc1 := HX3.out.b1.cell 1; have hc2 := HX3.out.b1.cell 2; simp only [List.getElem?_cons_zero, List.getElem?_cons_succ] at hc0 hc1 hc2; clear hw3 hb3 hi3)
      | (refine wpList_store_new 25 [.slice none 0 0, .slice none 0 0, .int .i64 0] [.slice ia il ic, .slice oa ol oc, .int .i64 time] w3 size_tx rfl rfl (by intro v hv; simp only [List.mem_cons, List.not_mem_nil, or_false] at hv; rcases hv with rfl | rfl | rfl <;> rfl) rfl (.tmp 10) (.tmp 29) rfl rfl rfl rfl ?_; have HB4 := hide (below_alloc w3 (.cells #[.slice ia il ic, .slice oa ol oc, .int .i64 time] 25)); have HX4 := hide (HX3.out.call HB4.out); have HI4 := hide (Is.new w3 [.slice ia il ic, .slice oa ol oc, .int .i64 time] 25); have HD4 := hide (HD3.out.below HB4.out HD3.out.lt); have hcn := (HX4.out.call (below_alloc _ (.cells #[] 45))).b1.cell 0; simp only [List.getElem?_cons_zero] at hcn)
      | (at_builtin; go_loud (refine wpList_append_by (AppI (w3.alloc (.cells #[.slice ia il ic, .slice oa ol oc, .int .i64 time] 25)) ins) rfl (.tmp 30) (.tmp 32) rfl (.slice (some ⟨w3.heap.size + 1, 0, none⟩) 0 0) (.slice ia il ic) rfl rfl (fun ty => app_insB _ _ (by simp) _ ins (HIW.out _ HX4.out.below) H40.out ty) ?_); intro v5 w5 h5; obtain ⟨ga, gc, e5, hrow5, hb5⟩ := h5; rw [HIL.out] at e5 hrow5; subst e5; have HX5 := hide (HX4.out.call hb5); have HI5 := hide (HI4.out.below hb5 HI4.out.lt); have HD5 := hide (HD4.out.below hb5 HD4.out.lt); have HR5 := hide hrow5; have hcb := HI5.out.cell 0; have hfb := HI5.out.frozen; simp only [List.getElem?_cons_zero, List.getElem?_cons_succ] at hcb; clear hrow5 hb5 hcn))
    obtain ⟨b8, hb8⟩ : ∃ b, b = w2.heap.size := ⟨_, rfl⟩
    obtain ⟨b10, hb10⟩ : ∃ b, b = w3.heap.size := ⟨_, rfl⟩
    have h810 : b8 < b10 := by rw [hb8, hb10]; exact HD3.out.lt
    have hr10 : w.heap.size + 2 ≤ b10 := by rw [hb10]; exact HX3.out.room
    have hlo : (w3.alloc (.cells #[.slice ia il ic, .slice oa ol oc, .int .i64 time] 25)).heap.size = b10 + 1 := by rw [hb10]; simp
    rw [hlo] at HR5
    rw [← hb8] at HD5
    rw [← hb10] at HI5
    have HX6 := hide (HX5.out.setCell b10 0 (.slice ga il gc) hr10)
    have HD6 := hide (HD5.out.other ⟨b10, 0, none⟩ (.slice ga il gc) (by show b10 ≠ b8; omega))
    have HI6 : Hid (Is (w5.setCell ⟨b10, 0, none⟩ (.slice ga il gc)) b10 [.slice ga il gc, .slice oa ol oc, .int .i64 time] 25) := hide (HI5.out.set 0 _)
    have HR6 := hide (HR5.out.other b10 0 (.slice ga il gc) (by omega))
    have H810 := hide h810
    have HR10 := hide hr10
    rw [← hb8, ← hb10]
    clear hc0 hc1 hc2 hcb hfb hlo hb8 hb10 h810 hr10 HX5 HD5 HI5 HR5 HX4 HD4 HI4 HB4 HX3 HD3 HX2
    go_loopw [11] (fun i wr => ∃ k : Nat, k ≤ il ∧ i = .int .i64 k ∧ BoxT w [.slice ia il ic, .slice oa ol oc, .int .i64 time] [.slice ja jl jc, .slice pa pl pc, .int .i64 utime] wr ∧ Is wr b8 (vals D) 39 ∧ Is wr b10 [.slice ga il gc, .slice oa ol oc, .int .i64 time] 25 ∧ InsRow (b10 + 1) wr ga il gc ((ins.take k).map (withK (.slice ka kn kc) K) ++ ins.drop k)) (fun i _ => il - (intOf i).toNat)
    case atStart => exact ⟨0, by omega, rfl, HX6.out, HD6.out, HI6.out, by simpa using HR6.out⟩
    case round =>
      obtain ⟨k, hk, rfl, hx, hd, hi, hr⟩ := hrel
      have hcb := hi.cell 0
      simp only [List.getElem?_cons_zero, List.getElem?_cons_succ] at hcb
      by_cases hlt : k < il
      · obtain ⟨g, rfl⟩ := hr.form (by omega)
        have hkI : k < ins.length := by rw [HIL.out]; exact hlt
        have h32 : ∀ x ∈ (ins.take k).map (withK (.slice ka kn kc) K) ++ ins.drop k, x.tx.length = 32 := fun x hx => by
          rcases List.mem_append.1 hx with hx | hx
          · obtain ⟨y, hy, rfl⟩ := List.mem_map.1 hx
            exact ((HIW.out _ HX6.out.below).2 y (List.mem_of_mem_take hy)).1
          · exact ((HIW.out _ HX6.out.below).2 x (List.mem_of_mem_drop hx)).1
        have hL : k < ((ins.take k).map (withK (.slice ka kn kc) K) ++ ins.drop k).length := by rw [List.length_append, List.length_map, List.length_take, List.length_drop]; omega
        obtain ⟨c1, c2, c3, c4, c5, c6⟩ := hr.cell h32 k hlt hL
        have hnew := hr.set h32 k hlt hL (.slice ka kn kc) K
        have hgk : ((ins.take k).map (withK (.slice ka kn kc) K) ++ ins.drop k)[k] = ins[k] := by
          have := get_map (withK (.slice ka kn kc) K) ins k hkI
          rw [List.getElem?_eq_getElem hL] at this
          injection this
        rw [hgk, set_map _ _ k hkI] at hnew
        rw [hgk] at c1
        have HX7 := hide (hx.setCell g (k * 34 + 33) (.slice ka kn kc) (by have := HR10.out; omega))
        have HD7 := hide (hd.other ⟨g, k * 34 + 33, none⟩ (.slice ka kn kc) (by show g ≠ b8; have := H810.out; omega))
        have HI7 := hide (hi.other ⟨g, k * 34 + 33, none⟩ (.slice ka kn kc) (by show g ≠ b10; omega))
        have HR7 := hide hnew
        have hki : (k : Int) < (il : Int) := by omega
        have hlen : k * 34 + 33 < il * 34 := by omega
        obtain ⟨oldv, hov⟩ : ∃ v, v = ins[k].kv := ⟨_, rfl⟩
        rw [← hov] at c1
        unfold maxLen at c4
        clear hov hgk hL h32 hx hd hi hr hnew HX6 HD6 HI6 HR6
        go_wp2
        go_roundw
        case rel => exact ⟨k + 1, by omega, by go_num, HX7.out, HD7.out, HI7.out, HR7.out⟩
        case measure => simp [intOf]; omega
      · have hke : k = il := by omega
        have hall : (ins.take k).map (withK (.slice ka kn kc) K) ++ ins.drop k = ins.map (withK (.slice ka kn kc) K) := by
          rw [List.take_of_length_le (by rw [HIL.out]; omega), List.drop_eq_nil_of_le (by rw [HIL.out]; omega), List.append_nil]
        rw [hall] at hr
        have HX7 := hide hx
        have HD7 := hide hd
        have hcb1 := hi.cell 1
        have hcb2 := hi.cell 2
        simp only [List.getElem?_cons_zero, List.getElem?_cons_succ] at hcb1 hcb2
        have hins : HasIns wr (.slice ga il gc) (ins.map (withK (.slice ka kn kc) K)) := hr.has (fun x hx2 => by
          obtain ⟨y, hy, rfl⟩ := List.mem_map.1 hx2
          obtain ⟨e1, e2, e3⟩ := (HIW.out _ hx.below).2 y hy
          exact ⟨e1, e2, HCK.out _ hx.below⟩)
        have hot : HasOuts wr (.slice oa ol oc) outs := (by have h := HCT.out wr hx.below; rw [HTT.out] at h; exact h.2)
        obtain ⟨O, hO⟩ : ∃ O : TxV, O = ⟨.slice ga il gc, ins.map (withK (.slice ka kn kc) K), .slice oa ol oc, outs, time⟩ := ⟨_, rfl⟩
        have HOV : Hid (O.val = .agg #[.slice ga il gc, .slice oa ol oc, .int .i64 time]) := hide (by rw [hO]; rfl)
        have hot2 : HasTx wr O := by rw [hO]; exact ⟨hins, hot⟩
        have HDI : Hid (Tm.id O.it = D) := hide (by rw [HDE.out]; exact id_of_bare _ _ (by rw [hO, HTT.out]; exact bare_withK _ _ _ _ _ _ _ _ _))
        have HTW := hide (HTB.out wr hx.below)
        have hww : 1 < wr.heap.size := by have := hx.below.size; omega
        by_cases hco : Tm.check O.it = 0
        · have HID := hide (tid_good O wr hot2 hco HTW.out hww)
          rw [HOV.out] at HID
          obtain ⟨D2, hD2⟩ : ∃ D2, D2 = Tm.id O.it := ⟨_, rfl⟩
          rw [← hD2] at HID HDI
          have HD2L : Hid ((vals D2).length = 32) := hide (by rw [vals_length, HDI.out]; exact HD32.out)
          clear hD2 hall hr hx hd hi hins hot hot2 hO hco HOV hww HTW hke HX6 HD6 HI6 HR6
          go_wp2_with fail
          refine HID.out.mono ?_
          rintro e w6 ⟨rfl, hb6⟩
          have HX8 := hide (HX7.out.call hb6)
          have HD8 := hide (HD7.out.below hb6 HD7.out.lt)
          clear hb6 HID hcb hcb1 hcb2
          have hgd := guard_dig
          have hq : ∀ w', (Op.equalIn 10000 39 (.agg (vals D2).toArray) (.agg (vals D).toArray)).run Tryd.prog w' = .ok true w' := fun w' => by rw [dig_eq _ _ (by have := HD2L.out; rwa [vals_length] at this) HD32.out w', decide_eq_true HDI.out]
          go_wp2_with (first
            | (refine wpList_store_any3 39 Zd (vals D2) w6.heap.size rfl (.tmp 12) (.tmp 51) rfl rfl rfl rfl (Is.new w6 _ _) size_dig HZL.out HD2L.out (vals_one _) ?_; intro w7 hi7 hw7; have hb7 : Below w6.heap.size w6 w7 := (by rw [hw7]; exact below_row); have HX := hide (HX8.out.call hb7); have HD8 := hide (HD8.out.below hb7 HD8.out.lt); have hu0 := HX.out.b2.cell 0; have hu1 := HX.out.b2.cell 1; have hu2 := HX.out.b2.cell 2; simp only [List.getElem?_cons_zero, List.getElem?_cons_succ] at hu0 hu1 hu2; have HJ7 := hide hi7; clear hw7 hb7 hi7)
            | (refine wpList_load_arrG 39 (vals D2) w6.heap.size (by rfl) (.tmp 12) rfl rfl HJ7.out Tryd.underlying39 size_dig HD2L.out ?_)
            | (refine wpList_load_arrG 39 (vals D) b8 (by rfl) (.tmp 8) rfl rfl HD8.out Tryd.underlying39 size_dig HDL.out ?_))
          clear hq hgd HX8 HJ7 HD2L HDI HX7 HD7
          by_cases hcu : Tm.check U.it = 0
          · have HIDU := hide (tid_good U w7 (HCU.out w7 HX.out.below) hcu (HTB.out w7 HX.out.below) (by have := HX.out.below.size; omega))
            rw [HVU.out] at HIDU
            have HCKU := hide hcu
            have H40U : Hid (uins.length ≤ 40) := hide (by have := (Tm.check_zero _ hcu).1; rw [HUU.out] at this; simpa [TxV.it] using this)
            obtain ⟨D3, hD3⟩ : ∃ D3, D3 = Tm.id U.it := ⟨_, rfl⟩
            have hD3l : D3.length = 32 := by rw [hD3]; simp [Tm.id, Sh.sum, Sh.digest]
            have HD3E := hide hD3
            have HD3L : Hid ((vals D3).length = 32) := hide (by rw [vals_length]; exact hD3l)
            have hgd := guard_dig
            rw [← hD3] at HIDU
            clear hcu hD3
            by_cases hdd : D3 = D
            · have hq : ∀ w', (Op.equalIn 10000 39 (.agg (vals D3).toArray) (.agg (vals D).toArray)).run Tryd.prog w' = .ok true w' := fun w' => by rw [dig_eq _ _ hD3l HD32.out w', decide_eq_true hdd]
              have HDD := hide hdd
              clear hdd hD3l
              refine HIDU.out.mono ?_
              rintro e w8 ⟨rfl, hb8⟩
              have HX8 := hide (HX.out.call hb8)
              have HD9 := hide (HD8.out.below hb8 HD8.out.lt)
              clear hb8 HIDU hu0 hu1 hu2
              go_wp2_with (first
                | (refine wpList_store_any3 39 Zd (vals D3) w8.heap.size rfl (.tmp 14) (.tmp 63) rfl rfl rfl rfl (Is.new w8 _ _) size_dig HZL.out HD3L.out (vals_one _) ?_; intro w9 hi9 hw9; have hb9 : Below w8.heap.size w8 w9 := (by rw [hw9]; exact below_row); have HX9 := hide (HX8.out.call hb9); have HD9 := hide (HD9.out.below hb9 HD9.out.lt); have HJ9 := hide hi9; clear hw9 hb9 hi9)
                | (refine wpList_load_arrG 39 (vals D3) w8.heap.size (by rfl) (.tmp 14) rfl rfl HJ9.out Tryd.underlying39 size_dig HD3L.out ?_)
                | (refine wpList_load_arrG 39 (vals D) b8 (by rfl) (.tmp 8) rfl rfl HD9.out Tryd.underlying39 size_dig HDL.out ?_))
              obtain ⟨X, hX⟩ : ∃ X, X = Tm.idText T.it := ⟨_, rfl⟩
              obtain ⟨Y, hY⟩ : ∃ Y, Y = Tm.idText U.it := ⟨_, rfl⟩
              have HRT : Hid (∀ W, Below w.heap.size w W → Calls Tryd.prog 11 #[.agg #[.slice ia il ic, .slice oa ol oc, .int .i64 time]] W fun e w' => ∃ v, e = .returned v ∧ Own w' W.heap.size v X ∧ Below W.heap.size W w') := hide (fun W hW => by have := ridtext_any T W (HCT.out W hW) HCKT.out; rw [HV.out, ← hX] at this; exact this)
              have HRU : Hid (∀ W, Below w.heap.size w W → Calls Tryd.prog 11 #[.agg #[.slice ja jl jc, .slice pa pl pc, .int .i64 utime]] W fun e w' => ∃ v, e = .returned v ∧ Own w' W.heap.size v Y ∧ Below W.heap.size W w') := hide (fun W hW => by have := ridtext_any U W (HCU.out W hW) HCKU.out; rw [HVU.out, ← hY] at this; exact this)
              have HX := HX9
              by_cases hxy : X = Y
              · have HBC : Hid (∀ v1 v2 W, Has W v1 X → Has W v2 Y → Calls Tryd.prog 10 #[v1, v2] W fun e w' => e = .returned (.bool true) ∧ Below W.heap.size W w') := hide (fun v1 v2 W h1 h2 => by have := bytes_any v1 v2 X Y W h1 h2; rw [show sameB X Y = true from by unfold sameB; exact decide_eq_true hxy] at this; exact this)
                have HBR : Hid (Tm.bare U.it = Tm.bare T.it) := hide (Tm.bare_of_text _ _ HCKU.out HCKT.out (HCU.out w (Below.refl _ _)).byt (HCT.out w (Below.refl _ _)).byt (by rw [← hX, ← hY, hxy]))
                clear hX hY hxy hq hgd HX9 HJ9 HD9 HX8 HDD HD3L HD3E
                refine wp_region_held_drew (S := fun W : World => (W.cell? ⟨w.heap.size, 0, none⟩ = some (.slice ia il ic) ∧ W.cell? ⟨w.heap.size, 1, none⟩ = some (.slice oa ol oc) ∧ W.cell? ⟨w.heap.size, 2, none⟩ = some (.int .i64 time)) ∧ (W.cell? ⟨w.heap.size + 1, 0, none⟩ = some (.slice ja jl jc) ∧ W.cell? ⟨w.heap.size + 1, 1, none⟩ = some (.slice pa pl pc) ∧ W.cell? ⟨w.heap.size + 1, 2, none⟩ = some (.int .i64 utime)) ∧ BoxT w [.slice ia il ic, .slice oa ol oc, .int .i64 time] [.slice ja jl jc, .slice pa pl pc, .int .i64 utime] W) (by kernel_rfl) ?_ (fun hHeld0 => ?_)
                · exact ⟨HX.out.drew.cells.1, HX.out.drew.cells.2, HX.out.drew⟩
                refine wpAnyH_take (i := 0) (v := ?_) rfl (by kernel_rfl) (by kernel_rfl) (by kernel_rfl) (fun _ _ _ h => h) (Or.inl ⟨by rfl, ?_⟩) hHeld0 ?_
                rotate_left
                · (intro w hSw; (try dsimp only at hSw); go_simp <;> (try with_reducible rfl))
                simp only [Act.put, List.getElem_toArray, List.getElem_cons_zero, List.getElem_cons_succ, List.setIfInBounds_toArray, List.set_cons_zero, List.set_cons_succ]
                refine wpAnyH_take (i := 2) (v := ?_) rfl (by kernel_rfl) (by kernel_rfl) (by kernel_rfl) (fun _ _ _ h => h) (Or.inl ⟨by rfl, ?_⟩) hHeld0 ?_
                rotate_left
                · (intro w hSw; (try dsimp only at hSw); go_simp <;> (try with_reducible rfl))
                simp only [Act.put, List.getElem_toArray, List.getElem_cons_zero, List.getElem_cons_succ, List.setIfInBounds_toArray, List.set_cons_zero, List.set_cons_succ]
                refine wpAnyH_ready (rs := [1]) (by kernel_rfl) (by simp) ?_
                refine AllReadyH.cons rfl (fun K hK => ?_) AllReadyH.nil
                go_simp
                go_wp2_with ((go_at_call 11; refine (HRT.out _ hHeld0.2.2.below).mono ?_; rintro e Wa ⟨vx, rfl, hox, hbx⟩; obtain ⟨xa, xn, xc, ex⟩ := own_form hox; subst ex))
                refine hK.out _ _ (by exact ⟨((hHeld0.2.2).call hbx).cells.1, ((hHeld0.2.2).call hbx).cells.2, (hHeld0.2.2).call hbx⟩) (fun hHeld1 => ?_)
                clear hK K hHeld0
                try simp only [Act.put, List.getElem_toArray, List.getElem_cons_zero, List.getElem_cons_succ, List.setIfInBounds_toArray, List.set_cons_zero, List.set_cons_succ]
                refine wpAnyH_ready (rs := [3]) (by kernel_rfl) (by simp) ?_
                refine AllReadyH.cons rfl (fun K hK => ?_) AllReadyH.nil
                go_simp
                go_wp2_with ((go_at_call 11; refine (HRU.out _ hHeld1.2.2.below).mono ?_; rintro e Wb ⟨vy, rfl, hoy, hby⟩; obtain ⟨ya, yn, yc, ey⟩ := own_form hoy; subst ey))
                refine hK.out _ _ (by exact ⟨((hHeld1.2.2).call hby).cells.1, ((hHeld1.2.2).call hby).cells.2, (hHeld1.2.2).call hby⟩) (fun hHeld2 => ?_)
                clear hK K hHeld1
                try simp only [Act.put, List.getElem_toArray, List.getElem_cons_zero, List.getElem_cons_succ, List.setIfInBounds_toArray, List.set_cons_zero, List.set_cons_succ]
                refine wpAnyH_ready (rs := [4]) (by kernel_rfl) (by simp) ?_
                refine AllReadyH.cons rfl (fun K hK => ?_) AllReadyH.nil
                go_simp
                go_wp2_with ((go_at_call 10; refine (HBC.out _ _ _ (Own.has (hox.below hby)) (Own.has hoy)).mono ?_; rintro e Wc ⟨rfl, hbz⟩))
                refine hK.out _ _ (by exact ⟨((hHeld2.2.2).call hbz).cells.1, ((hHeld2.2.2).call hbz).cells.2, (hHeld2.2.2).call hbz⟩) (fun hHeld3 => ?_)
                clear hK K hHeld2
                try simp only [Act.put, List.getElem_toArray, List.getElem_cons_zero, List.getElem_cons_succ, List.setIfInBounds_toArray, List.set_cons_zero, List.set_cons_succ]
                refine wpAnyH_take (i := 5) (v := ?_) rfl (by kernel_rfl) (by kernel_rfl) (by kernel_rfl) (fun _ _ _ h => h) (Or.inl ⟨by rfl, ?_⟩) hHeld3 ?_
                rotate_left
                · (intro w hSw; (try dsimp only at hSw); go_simp <;> (try with_reducible rfl))
                simp only [Act.put, List.getElem_toArray, List.getElem_cons_zero, List.getElem_cons_succ, List.setIfInBounds_toArray, List.set_cons_zero, List.set_cons_succ]
                refine wpAnyH_done (by kernel_rfl) ?_ _
                have HXS := hide hHeld3.2.2
                have hc0 := HXS.out.b1.cell 0
                have hc1 := HXS.out.b1.cell 1
                have hc2 := HXS.out.b1.cell 2
                have hu0 := HXS.out.b2.cell 0
                have hu1 := HXS.out.b2.cell 1
                have hu2 := HXS.out.b2.cell 2
                simp only [List.getElem?_cons_zero, List.getElem?_cons_succ] at hc0 hc1 hc2 hu0 hu1 hu2
                clear hHeld3 HX HRT HRU HBC hox hbx hoy hby hbz
                have HIU := hide (fun W (hW : Below w.heap.size w W) => by have h := HCU.out W hW; rw [HUU.out] at h; exact (h.1 : HasIns W (.slice ja jl jc) uins))
                go_wp2_with (first
                  | (refine wpList_store_new 25 [.slice none 0 0, .slice none 0 0, .int .i64 0] [.slice ja jl jc, .slice pa pl pc, .int .i64 utime] Wc size_tx rfl rfl (by intro v hv; simp only [List.mem_cons, List.not_mem_nil, or_false] at hv; rcases hv with rfl | rfl | rfl <;> rfl) rfl (.tmp 16) (.tmp 86) rfl rfl rfl rfl ?_; have HB4 := hide (below_alloc Wc (.cells #[.slice ja jl jc, .slice pa pl pc, .int .i64 utime] 25)); have HX4 := hide (HXS.out.call HB4.out); have HI4 := hide (Is.new Wc [.slice ja jl jc, .slice pa pl pc, .int .i64 utime] 25); have hcn := (HX4.out.call (below_alloc _ (.cells #[] 45))).b2.cell 0; simp only [List.getElem?_cons_zero] at hcn)
                  | (at_builtin; refine wpList_append_by (AppI (Wc.alloc (.cells #[.slice ja jl jc, .slice pa pl pc, .int .i64 utime] 25)) uins) rfl (.tmp 87) (.tmp 89) rfl (.slice (some ⟨Wc.heap.size + 1, 0, none⟩) 0 0) (.slice ja jl jc) rfl rfl (fun ty => app_insB _ _ (by simp) _ uins (HIU.out _ HX4.out.below) H40U.out ty) ?_; intro v5 w5 h5; obtain ⟨gu, gv, e5, hrow5, hb5⟩ := h5; rw [HJL.out] at e5 hrow5; subst e5; have HX5 := hide (HX4.out.call hb5); have HI5 := hide (HI4.out.below hb5 HI4.out.lt); have HR5 := hide hrow5; have hcb := HI5.out.cell 0; have hfb := HI5.out.frozen; simp only [List.getElem?_cons_zero, List.getElem?_cons_succ] at hcb; clear hrow5 hb5 hcn))
                obtain ⟨b16, hb16⟩ : ∃ b, b = Wc.heap.size := ⟨_, rfl⟩
                have hr16 : w.heap.size + 2 ≤ b16 := by rw [hb16]; exact HXS.out.room
                have hlo : (Wc.alloc (.cells #[.slice ja jl jc, .slice pa pl pc, .int .i64 utime] 25)).heap.size = b16 + 1 := by rw [hb16]; simp
                rw [hlo] at HR5
                rw [← hb16] at HI5
                have HX6 := hide (HX5.out.setCell b16 0 (.slice gu jl gv) hr16)
                have HI6 : Hid (Is (w5.setCell ⟨b16, 0, none⟩ (.slice gu jl gv)) b16 [.slice gu jl gv, .slice pa pl pc, .int .i64 utime] 25) := hide (HI5.out.set 0 _)
                have HR6 := hide (HR5.out.other b16 0 (.slice gu jl gv) (by omega))
                have HR16 := hide hr16
                have HJI : Hid (jl = il) := hide (by
                  have := congrArg (fun x : Tm.Tx => x.ins.length) HBR.out
                  rw [HTT.out, HUU.out] at this
                  have h2 : uins.length = ins.length := by simpa [Tm.bare, TxV.it] using this
                  rw [← HIL.out, ← HJL.out]; exact h2)
                rw [← hb16]
                clear hc0 hc1 hc2 hu0 hu1 hu2 hcb hfb hlo hb16 hr16 HX5 HI5 HR5 HX4 HI4 HB4 HXS
                go_loopw [17] (fun i wr => ∃ k : Nat, k ≤ jl ∧ i = .int .i64 k ∧ BoxT w [.slice ia il ic, .slice oa ol oc, .int .i64 time] [.slice ja jl jc, .slice pa pl pc, .int .i64 utime] wr ∧ Is wr b16 [.slice gu jl gv, .slice pa pl pc, .int .i64 utime] 25 ∧ InsRow (b16 + 1) wr gu jl gv (keyed uins ins k)) (fun i _ => jl - (intOf i).toNat)
                case atStart => exact ⟨0, by omega, rfl, HX6.out, HI6.out, by simpa [keyed] using HR6.out⟩
                case round =>
                  obtain ⟨k, hk, rfl, hx, hi, hr⟩ := hrel
                  have hcb := hi.cell 0
                  have hct := hx.b1.cell 0
                  simp only [List.getElem?_cons_zero, List.getElem?_cons_succ] at hcb hct
                  by_cases hlt : k < jl
                  · obtain ⟨g, rfl⟩ := hr.form (by omega)
                    have hkU : k < uins.length := by rw [HJL.out]; exact hlt
                    have hkT : k < ins.length := by rw [HIL.out, ← HJI.out]; exact hlt
                    have hU := HIU.out w (Below.refl _ _)
                    have h32 := keyed_32 uins ins k (fun x hx => (hU.2 x hx).1)
                    have hL : k < (keyed uins ins k).length := by rw [keyed_length]; exact hkU
                    obtain ⟨c1, c2, c3, c4, c5, c6⟩ := hr.cell h32 k hlt hL
                    obtain ⟨tb, to, rfl, t1, t2, t3, _, t4⟩ := HIF.out k hkT
                    obtain ⟨sa, sn, sc, hse⟩ := hasKeys_form ((HIW.out w (Below.refl _ _)).2 ins[k] (List.getElem_mem hkT)).2.2
                    have hnew := hr.set h32 k hlt hL ins[k].kv ins[k].K
                    rw [keyed_step uins ins k hkU hkT, hse] at hnew
                    rw [hse] at t4
                    have hcB : wr.drew.cell? ⟨b16, 0, none⟩ = some (.slice (some ⟨g, 0, none⟩) jl gv) := hcb
                    have hcT : wr.drew.cell? ⟨w.heap.size, 0, none⟩ = some (.slice (some ⟨tb, to, none⟩) il ic) := hct
                    have hcS : wr.drew.cell? ⟨tb, to + k * 34 + 33, none⟩ = some (.slice sa sn sc) := sm_cell t4 hx.below.drew
                    have HX7 := hide (hx.drew.setCell g (k * 34 + 33) (.slice sa sn sc) (by have := HR16.out; omega))
                    have HI7 := hide ((hi.drew).other ⟨g, k * 34 + 33, none⟩ (.slice sa sn sc) (by show g ≠ b16; omega))
                    have HR7 : Hid (InsRow (b16 + 1) (wr.drew.setCell ⟨g, k * 34 + 33, none⟩ (.slice sa sn sc)) (some ⟨g, 0, none⟩) jl gv (keyed uins ins (k + 1))) := hide hnew
                    have hki : (k : Int) < (jl : Int) := by omega
                    have hki2 : (k : Int) < (il : Int) := by have := HJI.out; omega
                    have hdk1 : decide ((k : Int) < (jl : Int)) = true := decide_eq_true hki
                    have hdk2 : decide ((k : Int) < (il : Int)) = true := decide_eq_true hki2
                    have hg1 : b16 ≠ g := by omega
                    have hg2 : w.heap.size ≠ g := by have := HR16.out; omega
                    have hg3 : tb ≠ g := by have := HR16.out; omega
                    obtain ⟨oldv, hov⟩ : ∃ v, v = ((keyed uins ins k)[k]).kv := ⟨_, rfl⟩
                    rw [← hov] at c1
                    have c1d : wr.drew.cell? ⟨g, k * 34 + 33, none⟩ = some oldv := c1
                    have c2d : wr.drew.frozen? ⟨g, k * 34 + 33, none⟩ = false := c2
                    have htl : il ≤ ic := by rw [← HIL.out]; exact t1
                    unfold maxLen at c4 t2
                    clear hov hL h32 hi hr hnew hse t1 t4 hU HX6 HI6 HR6
                    go_wp2
                    refine wp_region_held_drew (S := fun W : World => W.cell? ⟨b16, 0, none⟩ = some (.slice (some ⟨g, 0, none⟩) jl gv) ∧ W.cell? ⟨w.heap.size, 0, none⟩ = some (.slice (some ⟨tb, to, none⟩) il ic) ∧ W.cell? ⟨tb, to + k * 34 + 33, none⟩ = some (.slice sa sn sc)) (by kernel_rfl) ?_ (fun hHeld0 => ?_)
                    · exact ⟨hcB, hcT, hcS⟩
                    refine wpAnyH_take (i := 0) (v := ?_) rfl (by kernel_rfl) (by kernel_rfl) (by kernel_rfl) (fun _ _ _ h => h) (Or.inl ⟨by rfl, ?_⟩) hHeld0 ?_
                    rotate_left
                    · (intro w hSw; (try dsimp only at hSw); go_simp <;> (try with_reducible rfl))
                    simp only [Act.put, List.getElem_toArray, List.getElem_cons_zero, List.getElem_cons_succ, List.setIfInBounds_toArray, List.set_cons_zero, List.set_cons_succ]
                    refine wpAnyH_take (i := 1) (v := ?_) rfl (by kernel_rfl) (by kernel_rfl) (by kernel_rfl) (fun _ _ _ h => h) (Or.inl ⟨by rfl, ?_⟩) hHeld0 ?_
                    rotate_left
                    · (intro w hSw; (try dsimp only at hSw); go_simp <;> (try with_reducible rfl))
                    simp only [Act.put, List.getElem_toArray, List.getElem_cons_zero, List.getElem_cons_succ, List.setIfInBounds_toArray, List.set_cons_zero, List.set_cons_succ]
                    refine wpAnyH_take (i := 2) (v := ?_) rfl (by kernel_rfl) (by kernel_rfl) (by kernel_rfl) (fun _ _ _ h => h) (Or.inl ⟨by rfl, ?_⟩) hHeld0 ?_
                    rotate_left
                    · (intro w hSw; (try dsimp only at hSw); go_simp <;> (try with_reducible rfl))
                    simp only [Act.put, List.getElem_toArray, List.getElem_cons_zero, List.getElem_cons_succ, List.setIfInBounds_toArray, List.set_cons_zero, List.set_cons_succ]
                    refine wpAnyH_take (i := 3) (v := ?_) rfl (by kernel_rfl) (by kernel_rfl) (by kernel_rfl) (fun _ _ _ h => h) (Or.inl ⟨by rfl, ?_⟩) hHeld0 ?_
                    rotate_left
                    · (intro w hSw; (try dsimp only at hSw); go_simp <;> (try with_reducible rfl))
                    simp only [Act.put, List.getElem_toArray, List.getElem_cons_zero, List.getElem_cons_succ, List.setIfInBounds_toArray, List.set_cons_zero, List.set_cons_succ]
                    refine wpAnyH_take (i := 4) (v := ?_) rfl (by kernel_rfl) (by kernel_rfl) (by kernel_rfl) (fun _ _ _ h => h) (Or.inl ⟨by rfl, ?_⟩) hHeld0 ?_
                    rotate_left
                    · (intro w hSw; (try dsimp only at hSw); go_simp <;> (try with_reducible rfl))
                    simp only [Act.put, List.getElem_toArray, List.getElem_cons_zero, List.getElem_cons_succ, List.setIfInBounds_toArray, List.set_cons_zero, List.set_cons_succ]
                    refine wpAnyH_take (i := 5) (v := ?_) rfl (by kernel_rfl) (by kernel_rfl) (by kernel_rfl) (fun _ _ _ h => h) (Or.inl ⟨by rfl, ?_⟩) hHeld0 ?_
                    rotate_left
                    · (intro w hSw; (try dsimp only at hSw); go_simp <;> (try with_reducible rfl))
                    simp only [Act.put, List.getElem_toArray, List.getElem_cons_zero, List.getElem_cons_succ, List.setIfInBounds_toArray, List.set_cons_zero, List.set_cons_succ]
                    refine wpAnyH_take (i := 6) (v := ?_) rfl (by kernel_rfl) (by kernel_rfl) (by kernel_rfl) (fun _ _ _ h => h) (Or.inl ⟨by rfl, ?_⟩) hHeld0 ?_
                    rotate_left
                    · (intro w hSw; (try dsimp only at hSw); go_simp <;> (try with_reducible rfl))
                    simp only [Act.put, List.getElem_toArray, List.getElem_cons_zero, List.getElem_cons_succ, List.setIfInBounds_toArray, List.set_cons_zero, List.set_cons_succ]
                    refine wpAnyH_take (i := 7) (v := ?_) rfl (by kernel_rfl) (by kernel_rfl) (by kernel_rfl) (fun _ _ _ h => h) (Or.inl ⟨by rfl, ?_⟩) hHeld0 ?_
                    rotate_left
                    · (intro w hSw; (try dsimp only at hSw); go_simp <;> (try with_reducible rfl))
                    simp only [Act.put, List.getElem_toArray, List.getElem_cons_zero, List.getElem_cons_succ, List.setIfInBounds_toArray, List.set_cons_zero, List.set_cons_succ]
                    refine wpAnyH_take (i := 8) (v := ?_) rfl (by kernel_rfl) (by kernel_rfl) (by kernel_rfl) (fun _ _ _ h => h) (Or.inl ⟨by rfl, ?_⟩) hHeld0 ?_
                    rotate_left
                    · (intro w hSw; (try dsimp only at hSw); go_simp <;> (try with_reducible rfl))
                    simp only [Act.put, List.getElem_toArray, List.getElem_cons_zero, List.getElem_cons_succ, List.setIfInBounds_toArray, List.set_cons_zero, List.set_cons_succ]
                    refine wpAnyH_take (i := 9) (v := ?_) rfl (by kernel_rfl) (by kernel_rfl) (by kernel_rfl) (fun _ _ _ h => h) (Or.inl ⟨by rfl, ?_⟩) hHeld0 ?_
                    rotate_left
                    · (intro w hSw; (try dsimp only at hSw); go_simp <;> (try with_reducible rfl))
                    simp only [Act.put, List.getElem_toArray, List.getElem_cons_zero, List.getElem_cons_succ, List.setIfInBounds_toArray, List.set_cons_zero, List.set_cons_succ]
                    refine wpAnyH_take (i := 10) (v := ?_) rfl (by kernel_rfl) (by kernel_rfl) (by kernel_rfl) (fun _ _ _ h => h) (Or.inl ⟨by rfl, ?_⟩) hHeld0 ?_
                    rotate_left
                    · (intro w hSw; (try dsimp only at hSw); go_simp <;> (try with_reducible rfl))
                    simp only [Act.put, List.getElem_toArray, List.getElem_cons_zero, List.getElem_cons_succ, List.setIfInBounds_toArray, List.set_cons_zero, List.set_cons_succ]
                    refine wpAnyH_ready (rs := [11]) (by kernel_rfl) (by simp) ?_
                    refine AllReadyH.cons rfl (fun K hK => ?_) AllReadyH.nil
                    go_simp
                    refine hK.out _ _ (by exact ⟨cell_other hcB hg1, cell_other hcT hg2, cell_other hcS hg3⟩) (fun hHeld1 => ?_)
                    clear hK K hHeld0
                    try simp only [Act.put, List.getElem_toArray, List.getElem_cons_zero, List.getElem_cons_succ, List.setIfInBounds_toArray, List.set_cons_zero, List.set_cons_succ]
                    refine wpAnyH_done (by kernel_rfl) ?_ _
                    go_wp2
                    go_roundw
                    case rel => exact ⟨k + 1, by omega, by go_num, HX7.out, HI7.out, HR7.out⟩
                    case measure => simp [intOf]; omega
                  · have hke : k = jl := by omega
                    have hdk1 : decide ((k : Int) < (jl : Int)) = false := decide_eq_false (by omega)
                    have HXE := hide hx
                    have hcb1 := hi.cell 1
                    have hcb2 := hi.cell 2
                    have hct1 := hx.b1.cell 1
                    have hct2 := hx.b1.cell 2
                    simp only [List.getElem?_cons_zero, List.getElem?_cons_succ] at hcb1 hcb2 hct1 hct2
                    rw [hke] at hr
                    have hU := HIU.out wr hx.below
                    have hTI := (HIW.out wr hx.below).2
                    have hins : HasIns wr (.slice gu jl gv) (keyed uins ins jl) := hr.has (keyed_facts uins ins jl hU.2 (fun x hx => (hTI x hx).2.2))
                    have hot : HasOuts wr (.slice pa pl pc) uouts := (by have h := HCU.out wr hx.below; rw [HUU.out] at h; exact h.2)
                    have HST := hide (txSame_any ⟨.slice gu jl gv, keyed uins ins jl, .slice pa pl pc, uouts, utime⟩ T wr ⟨hins, hot⟩ (HCT.out wr hx.below))
                    have HEQ : Hid ((TxV.it ⟨.slice gu jl gv, keyed uins ins jl, .slice pa pl pc, uouts, utime⟩) = T.it) := hide (by
                      have h := Tm.rekey_tx T.it U.it HBR.out
                      rw [HTT.out, HUU.out] at h
                      rw [HTT.out, ← h]
                      simp only [TxV.it]
                      rw [← HJL.out, keyed_it uins ins (by rw [HJL.out, HIL.out, HJI.out])])
                    rw [HV.out] at HST
                    simp only [TxV.val] at HST
                    clear hx hi hr hU hTI hins hot hke HX6 HI6 HR6
                    go_wp2_with fail
                    refine HST.out.mono ?_
                    rintro e w8 ⟨hte, hb8⟩
                    obtain rfl := hte.true HEQ.out
                    have HXF := hide (HXE.out.call hb8)
                    clear hte hb8 HST
                    go_wp2
                    go_ret
                    exact ⟨rfl, HXF.out.below⟩
              · have HBC : Hid (∀ v1 v2 W, Has W v1 X → Has W v2 Y → Calls Tryd.prog 10 #[v1, v2] W fun e w' => e = .returned (.bool false) ∧ Below W.heap.size W w') := hide (fun v1 v2 W h1 h2 => by have := bytes_any v1 v2 X Y W h1 h2; rw [show sameB X Y = false from by unfold sameB; exact decide_eq_false hxy] at this; exact this)
                have hbX : Sz.Byt X := by rw [hX]; exact Tm.idText_byt _ HCKT.out (HCT.out w (Below.refl _ _)).byt
                have hbY : Sz.Byt Y := by rw [hY]; exact Tm.idText_byt _ HCKU.out (HCU.out w (Below.refl _ _)).byt
                have hlX : X.length ≤ 149000000000000 := by
                  have := bytes_le _ (Tm.check_bare _ HCKT.out) (Tm.bare_byt _ (HCT.out w (Below.refl _ _)).byt)
                  rw [hX]; show (21 :: _).length ≤ _; rw [List.length_cons]; omega
                have hlY : Y.length ≤ 149000000000000 := by
                  have := bytes_le _ (Tm.check_bare _ HCKU.out) (Tm.bare_byt _ (HCU.out w (Below.refl _ _)).byt)
                  rw [hY]; show (21 :: _).length ≤ _; rw [List.length_cons]; omega
                obtain ⟨DA, hDA⟩ : ∃ DA, DA = Sh.sum X := ⟨_, rfl⟩
                obtain ⟨DB, hDB⟩ : ∃ DB, DB = Sh.sum Y := ⟨_, rfl⟩
                have HSX : Hid (∀ v W, Has W v X → Calls Tryd.prog 12 #[v] W fun e w' => e = .returned (.agg (vals DA).toArray) ∧ Below W.heap.size W w') := hide (fun v W h => by rw [hDA]; exact rsum_any v X W h hbX hlX)
                have HSY : Hid (∀ v W, Has W v Y → Calls Tryd.prog 12 #[v] W fun e w' => e = .returned (.agg (vals DB).toArray) ∧ Below W.heap.size W w') := hide (fun v W h => by rw [hDB]; exact rsum_any v Y W h hbY hlY)
                have hab : DA = DB := by
                  have e1 : DA = D := by rw [hDA, hX, HDE.out]; rfl
                  have e2 : DB = D3 := by rw [hDB, hY, HD3E.out]; rfl
                  rw [e1, e2, HDD.out]
                have hq2 : ∀ w', (Op.equalIn 10000 39 (.agg (vals DA).toArray) (.agg (vals DB).toArray)).run Tryd.prog w' = .ok true w' := fun w' => by rw [dig_eq _ _ (by rw [hDA]; simp [Sh.sum, Sh.digest]) (by rw [hDB]; simp [Sh.sum, Sh.digest]) w', decide_eq_true hab]
                clear hX hY hxy hq hDA hDB hab hbX hbY hlX hlY HX9 HJ9 HD9 HX8 HDD HD3L HD3E
                refine wp_region_held_drew (S := fun W : World => (W.cell? ⟨w.heap.size, 0, none⟩ = some (.slice ia il ic) ∧ W.cell? ⟨w.heap.size, 1, none⟩ = some (.slice oa ol oc) ∧ W.cell? ⟨w.heap.size, 2, none⟩ = some (.int .i64 time)) ∧ (W.cell? ⟨w.heap.size + 1, 0, none⟩ = some (.slice ja jl jc) ∧ W.cell? ⟨w.heap.size + 1, 1, none⟩ = some (.slice pa pl pc) ∧ W.cell? ⟨w.heap.size + 1, 2, none⟩ = some (.int .i64 utime)) ∧ BoxT w [.slice ia il ic, .slice oa ol oc, .int .i64 time] [.slice ja jl jc, .slice pa pl pc, .int .i64 utime] W) (by kernel_rfl) ?_ (fun hHeld0 => ?_)
                · exact ⟨HX.out.drew.cells.1, HX.out.drew.cells.2, HX.out.drew⟩
                refine wpAnyH_take (i := 0) (v := ?_) rfl (by kernel_rfl) (by kernel_rfl) (by kernel_rfl) (fun _ _ _ h => h) (Or.inl ⟨by rfl, ?_⟩) hHeld0 ?_
                rotate_left
                · (intro w hSw; (try dsimp only at hSw); go_simp <;> (try with_reducible rfl))
                simp only [Act.put, List.getElem_toArray, List.getElem_cons_zero, List.getElem_cons_succ, List.setIfInBounds_toArray, List.set_cons_zero, List.set_cons_succ]
                refine wpAnyH_take (i := 2) (v := ?_) rfl (by kernel_rfl) (by kernel_rfl) (by kernel_rfl) (fun _ _ _ h => h) (Or.inl ⟨by rfl, ?_⟩) hHeld0 ?_
                rotate_left
                · (intro w hSw; (try dsimp only at hSw); go_simp <;> (try with_reducible rfl))
                simp only [Act.put, List.getElem_toArray, List.getElem_cons_zero, List.getElem_cons_succ, List.setIfInBounds_toArray, List.set_cons_zero, List.set_cons_succ]
                refine wpAnyH_ready (rs := [1]) (by kernel_rfl) (by simp) ?_
                refine AllReadyH.cons rfl (fun K hK => ?_) AllReadyH.nil
                go_simp
                go_wp2_with ((go_at_call 11; refine (HRT.out _ hHeld0.2.2.below).mono ?_; rintro e Wa ⟨vx, rfl, hox, hbx⟩; obtain ⟨xa, xn, xc, ex⟩ := own_form hox; subst ex))
                refine hK.out _ _ (by exact ⟨((hHeld0.2.2).call hbx).cells.1, ((hHeld0.2.2).call hbx).cells.2, (hHeld0.2.2).call hbx⟩) (fun hHeld1 => ?_)
                clear hK K hHeld0
                try simp only [Act.put, List.getElem_toArray, List.getElem_cons_zero, List.getElem_cons_succ, List.setIfInBounds_toArray, List.set_cons_zero, List.set_cons_succ]
                refine wpAnyH_ready (rs := [3]) (by kernel_rfl) (by simp) ?_
                refine AllReadyH.cons rfl (fun K hK => ?_) AllReadyH.nil
                go_simp
                go_wp2_with ((go_at_call 11; refine (HRU.out _ hHeld1.2.2.below).mono ?_; rintro e Wb ⟨vy, rfl, hoy, hby⟩; obtain ⟨ya, yn, yc, ey⟩ := own_form hoy; subst ey))
                refine hK.out _ _ (by exact ⟨((hHeld1.2.2).call hby).cells.1, ((hHeld1.2.2).call hby).cells.2, (hHeld1.2.2).call hby⟩) (fun hHeld2 => ?_)
                clear hK K hHeld1
                try simp only [Act.put, List.getElem_toArray, List.getElem_cons_zero, List.getElem_cons_succ, List.setIfInBounds_toArray, List.set_cons_zero, List.set_cons_succ]
                refine wpAnyH_ready (rs := [4]) (by kernel_rfl) (by simp) ?_
                refine AllReadyH.cons rfl (fun K hK => ?_) AllReadyH.nil
                go_simp
                go_wp2_with ((go_at_call 10; refine (HBC.out _ _ _ (Own.has (hox.below hby)) (Own.has hoy)).mono ?_; rintro e Wc ⟨rfl, hbz⟩))
                refine hK.out _ _ (by exact ⟨((hHeld2.2.2).call hbz).cells.1, ((hHeld2.2.2).call hbz).cells.2, (hHeld2.2.2).call hbz⟩) (fun hHeld3 => ?_)
                clear hK K hHeld2
                try simp only [Act.put, List.getElem_toArray, List.getElem_cons_zero, List.getElem_cons_succ, List.setIfInBounds_toArray, List.set_cons_zero, List.set_cons_succ]
                refine wpAnyH_take (i := 5) (v := ?_) rfl (by kernel_rfl) (by kernel_rfl) (by kernel_rfl) (fun _ _ _ h => h) (Or.inl ⟨by rfl, ?_⟩) hHeld3 ?_
                rotate_left
                · (intro w hSw; (try dsimp only at hSw); go_simp <;> (try with_reducible rfl))
                simp only [Act.put, List.getElem_toArray, List.getElem_cons_zero, List.getElem_cons_succ, List.setIfInBounds_toArray, List.set_cons_zero, List.set_cons_succ]
                refine wpAnyH_done (by kernel_rfl) ?_ _
                have HX := hide hHeld3.2.2
                clear hHeld3 hox hbx hoy hby hbz
                go_wp2
                refine wp_region_held_drew (S := fun W : World => (W.cell? ⟨w.heap.size, 0, none⟩ = some (.slice ia il ic) ∧ W.cell? ⟨w.heap.size, 1, none⟩ = some (.slice oa ol oc) ∧ W.cell? ⟨w.heap.size, 2, none⟩ = some (.int .i64 time)) ∧ (W.cell? ⟨w.heap.size + 1, 0, none⟩ = some (.slice ja jl jc) ∧ W.cell? ⟨w.heap.size + 1, 1, none⟩ = some (.slice pa pl pc) ∧ W.cell? ⟨w.heap.size + 1, 2, none⟩ = some (.int .i64 utime)) ∧ BoxT w [.slice ia il ic, .slice oa ol oc, .int .i64 time] [.slice ja jl jc, .slice pa pl pc, .int .i64 utime] W) (by kernel_rfl) ?_ (fun hHeld0 => ?_)
                · exact ⟨HX.out.drew.cells.1, HX.out.drew.cells.2, HX.out.drew⟩
                refine wpAnyH_take (i := 0) (v := ?_) rfl (by kernel_rfl) (by kernel_rfl) (by kernel_rfl) (fun _ _ _ h => h) (Or.inl ⟨by rfl, ?_⟩) hHeld0 ?_
                rotate_left
                · (intro w hSw; (try dsimp only at hSw); go_simp <;> (try with_reducible rfl))
                simp only [Act.put, List.getElem_toArray, List.getElem_cons_zero, List.getElem_cons_succ, List.setIfInBounds_toArray, List.set_cons_zero, List.set_cons_succ]
                refine wpAnyH_take (i := 3) (v := ?_) rfl (by kernel_rfl) (by kernel_rfl) (by kernel_rfl) (fun _ _ _ h => h) (Or.inl ⟨by rfl, ?_⟩) hHeld0 ?_
                rotate_left
                · (intro w hSw; (try dsimp only at hSw); go_simp <;> (try with_reducible rfl))
                simp only [Act.put, List.getElem_toArray, List.getElem_cons_zero, List.getElem_cons_succ, List.setIfInBounds_toArray, List.set_cons_zero, List.set_cons_succ]
                refine wpAnyH_ready (rs := [1]) (by kernel_rfl) (by simp) ?_
                refine AllReadyH.cons rfl (fun K hK => ?_) AllReadyH.nil
                go_simp
                go_wp2_with ((go_at_call 11; refine (HRT.out _ hHeld0.2.2.below).mono ?_; rintro e Wa ⟨vx, rfl, hox, hbx⟩; obtain ⟨xa, xn, xc, ex⟩ := own_form hox; subst ex))
                refine hK.out _ _ (by exact ⟨((hHeld0.2.2).call hbx).cells.1, ((hHeld0.2.2).call hbx).cells.2, (hHeld0.2.2).call hbx⟩) (fun hHeld1 => ?_)
                clear hK K hHeld0
                try simp only [Act.put, List.getElem_toArray, List.getElem_cons_zero, List.getElem_cons_succ, List.setIfInBounds_toArray, List.set_cons_zero, List.set_cons_succ]
                refine wpAnyH_ready (rs := [2]) (by kernel_rfl) (by simp) ?_
                refine AllReadyH.cons rfl (fun K hK => ?_) AllReadyH.nil
                go_simp
                go_wp2_with ((go_at_call 12; refine (HSX.out _ _ (Own.has hox)).mono ?_; rintro e Wb ⟨rfl, hbp⟩))
                refine hK.out _ _ (by exact ⟨((hHeld1.2.2).call hbp).cells.1, ((hHeld1.2.2).call hbp).cells.2, (hHeld1.2.2).call hbp⟩) (fun hHeld2 => ?_)
                clear hK K hHeld1
                try simp only [Act.put, List.getElem_toArray, List.getElem_cons_zero, List.getElem_cons_succ, List.setIfInBounds_toArray, List.set_cons_zero, List.set_cons_succ]
                refine wpAnyH_ready (rs := [4]) (by kernel_rfl) (by simp) ?_
                refine AllReadyH.cons rfl (fun K hK => ?_) AllReadyH.nil
                go_simp
                go_wp2_with ((go_at_call 11; refine (HRU.out _ hHeld2.2.2.below).mono ?_; rintro e Wc ⟨vy, rfl, hoy, hby⟩; obtain ⟨ya, yn, yc, ey⟩ := own_form hoy; subst ey))
                refine hK.out _ _ (by exact ⟨((hHeld2.2.2).call hby).cells.1, ((hHeld2.2.2).call hby).cells.2, (hHeld2.2.2).call hby⟩) (fun hHeld3 => ?_)
                clear hK K hHeld2
                try simp only [Act.put, List.getElem_toArray, List.getElem_cons_zero, List.getElem_cons_succ, List.setIfInBounds_toArray, List.set_cons_zero, List.set_cons_succ]
                refine wpAnyH_ready (rs := [5]) (by kernel_rfl) (by simp) ?_
                refine AllReadyH.cons rfl (fun K hK => ?_) AllReadyH.nil
                go_simp
                go_wp2_with ((go_at_call 12; refine (HSY.out _ _ (Own.has hoy)).mono ?_; rintro e Wd ⟨rfl, hbq⟩))
                refine hK.out _ _ (by exact ⟨((hHeld3.2.2).call hbq).cells.1, ((hHeld3.2.2).call hbq).cells.2, (hHeld3.2.2).call hbq⟩) (fun hHeld4 => ?_)
                clear hK K hHeld3
                try simp only [Act.put, List.getElem_toArray, List.getElem_cons_zero, List.getElem_cons_succ, List.setIfInBounds_toArray, List.set_cons_zero, List.set_cons_succ]
                refine wpAnyH_take (i := 6) (v := ?_) rfl (by kernel_rfl) (by kernel_rfl) (by kernel_rfl) (fun _ _ _ h => h) (Or.inl ⟨by rfl, ?_⟩) hHeld4 ?_
                rotate_left
                · (intro w hSw; (try dsimp only at hSw); go_simp <;> (try with_reducible rfl))
                simp only [Act.put, List.getElem_toArray, List.getElem_cons_zero, List.getElem_cons_succ, List.setIfInBounds_toArray, List.set_cons_zero, List.set_cons_succ]
                refine wpAnyH_take (i := 7) (v := ?_) rfl (by kernel_rfl) (by kernel_rfl) (by kernel_rfl) (fun _ _ _ h => h) (Or.inl ⟨by rfl, ?_⟩) hHeld4 ?_
                rotate_left
                · (intro w hSw; (try dsimp only at hSw); go_simp <;> (try with_reducible rfl))
                simp only [Act.put, List.getElem_toArray, List.getElem_cons_zero, List.getElem_cons_succ, List.setIfInBounds_toArray, List.set_cons_zero, List.set_cons_succ]
                refine wpAnyH_done (by kernel_rfl) ?_ _
                go_wp2
                go_ret
                exact ⟨rfl, hHeld4.2.2.below⟩
            · have hq : ∀ w', (Op.equalIn 10000 39 (.agg (vals D3).toArray) (.agg (vals D).toArray)).run Tryd.prog w' = .ok false w' := fun w' => by rw [dig_eq _ _ hD3l HD32.out w', decide_eq_false hdd]
              clear hdd hD3l
              refine HIDU.out.mono ?_
              rintro e w8 ⟨rfl, hb8⟩
              have HX8 := hide (HX.out.call hb8)
              have HD9 := hide (HD8.out.below hb8 HD8.out.lt)
              clear hb8 HIDU hu0 hu1 hu2
              go_wp2_with (first
                | (refine wpList_store_any3 39 Zd (vals D3) w8.heap.size rfl (.tmp 14) (.tmp 63) rfl rfl rfl rfl (Is.new w8 _ _) size_dig HZL.out HD3L.out (vals_one _) ?_; intro w9 hi9 hw9; have hb9 : Below w8.heap.size w8 w9 := (by rw [hw9]; exact below_row); have HX9 := hide (HX8.out.call hb9); have HD9 := hide (HD9.out.below hb9 HD9.out.lt); have HJ9 := hide hi9; clear hw9 hb9 hi9)
                | (refine wpList_load_arrG 39 (vals D3) w8.heap.size (by rfl) (.tmp 14) rfl rfl HJ9.out Tryd.underlying39 size_dig HD3L.out ?_)
                | (refine wpList_load_arrG 39 (vals D) b8 (by rfl) (.tmp 8) rfl rfl HD9.out Tryd.underlying39 size_dig HDL.out ?_))
              go_ret
              exact ⟨rfl, HX9.out.below⟩
          · have HIDU := hide (tid_bad U w7 (HCU.out w7 HX.out.below) hcu)
            have hce : errV (Tm.check U.it) = .iface 35 (.int .i64 (Tm.check U.it)) := by unfold errV; rw [if_neg hcu]
            rw [HVU.out, hce, ← HZE.out] at HIDU
            clear hcu hce
            generalize Tm.check U.it = cu at *
            refine HIDU.out.mono ?_
            rintro e w8 ⟨rfl, hb8⟩
            have HX8 := hide (HX.out.call hb8)
            clear hb8 HIDU hu0 hu1 hu2
            go_wp2_with (first
              | (refine wpList_store_any3 39 Zd Zd w8.heap.size rfl (.tmp 14) (.tmp 63) rfl rfl rfl rfl (Is.new w8 _ _) size_dig HZL.out HZL.out HZ1.out ?_; intro w9 hi9 hw9; have hb9 : Below w8.heap.size w8 w9 := (by rw [hw9]; exact below_row); have HX9 := hide (HX8.out.call hb9); clear hw9 hb9 hi9))
            go_ret
            exact ⟨rfl, HX9.out.below⟩
        · have HID := hide (tid_bad O wr hot2 hco)
          have hce : errV (Tm.check O.it) = .iface 35 (.int .i64 (Tm.check O.it)) := by unfold errV; rw [if_neg hco]
          rw [HOV.out, hce, ← HZE.out] at HID
          clear hce hall hr hx hd hi hins hot hot2 hO hco HOV hww HTW hke HX6 HD6 HI6 HR6 HDI
          generalize Tm.check O.it = ck at *
          go_wp2_with fail
          refine HID.out.mono ?_
          rintro e w6 ⟨rfl, hb6⟩
          have HX8 := hide (HX7.out.call hb6)
          have HD8 := hide (HD7.out.below hb6 HD7.out.lt)
          clear hb6 HID hcb hcb1 hcb2
          go_wp2_with (first
            | (refine wpList_store_any3 39 Zd Zd w6.heap.size rfl (.tmp 12) (.tmp 51) rfl rfl rfl rfl (Is.new w6 _ _) size_dig HZL.out HZL.out HZ1.out ?_; intro w7 hi7 hw7; have hb7 : Below w6.heap.size w6 w7 := (by rw [hw7]; exact below_row); have HX := hide (HX8.out.call hb7); have HD8 := hide (HD8.out.below hb7 HD8.out.lt); have hu0 := HX.out.b2.cell 0; have hu1 := HX.out.b2.cell 1; have hu2 := HX.out.b2.cell 2; simp only [List.getElem?_cons_zero, List.getElem?_cons_succ] at hu0 hu1 hu2; clear hw7 hb7 hi7))
          clear HX8 HX7 HD7
          by_cases hcu : Tm.check U.it = 0
          · have HIDU := hide (tid_good U w7 (HCU.out w7 HX.out.below) hcu (HTB.out w7 HX.out.below) (by have := HX.out.below.size; omega))
            rw [HVU.out] at HIDU
            have HCKU := hide hcu
            have H40U : Hid (uins.length ≤ 40) := hide (by have := (Tm.check_zero _ hcu).1; rw [HUU.out] at this; simpa [TxV.it] using this)
            obtain ⟨D3, hD3⟩ : ∃ D3, D3 = Tm.id U.it := ⟨_, rfl⟩
            have hD3l : D3.length = 32 := by rw [hD3]; simp [Tm.id, Sh.sum, Sh.digest]
            have HD3E := hide hD3
            have HD3L : Hid ((vals D3).length = 32) := hide (by rw [vals_length]; exact hD3l)
            have hgd := guard_dig
            rw [← hD3] at HIDU
            clear hcu hD3
            by_cases hdd : D3 = D
            · have hq : ∀ w', (Op.equalIn 10000 39 (.agg (vals D3).toArray) (.agg (vals D).toArray)).run Tryd.prog w' = .ok true w' := fun w' => by rw [dig_eq _ _ hD3l HD32.out w', decide_eq_true hdd]
              have HDD := hide hdd
              clear hdd hD3l
              refine HIDU.out.mono ?_
              rintro e w8 ⟨rfl, hb8⟩
              have HX8 := hide (HX.out.call hb8)
              have HD9 := hide (HD8.out.below hb8 HD8.out.lt)
              clear hb8 HIDU hu0 hu1 hu2
              go_wp2_with (first
                | (refine wpList_store_any3 39 Zd (vals D3) w8.heap.size rfl (.tmp 14) (.tmp 63) rfl rfl rfl rfl (Is.new w8 _ _) size_dig HZL.out HD3L.out (vals_one _) ?_; intro w9 hi9 hw9; have hb9 : Below w8.heap.size w8 w9 := (by rw [hw9]; exact below_row); have HX9 := hide (HX8.out.call hb9); have HD9 := hide (HD9.out.below hb9 HD9.out.lt); have HJ9 := hide hi9; clear hw9 hb9 hi9)
                | (refine wpList_load_arrG 39 (vals D3) w8.heap.size (by rfl) (.tmp 14) rfl rfl HJ9.out Tryd.underlying39 size_dig HD3L.out ?_)
                | (refine wpList_load_arrG 39 (vals D) b8 (by rfl) (.tmp 8) rfl rfl HD9.out Tryd.underlying39 size_dig HDL.out ?_))
              obtain ⟨X, hX⟩ : ∃ X, X = Tm.idText T.it := ⟨_, rfl⟩
              obtain ⟨Y, hY⟩ : ∃ Y, Y = Tm.idText U.it := ⟨_, rfl⟩
              have HRT : Hid (∀ W, Below w.heap.size w W → Calls Tryd.prog 11 #[.agg #[.slice ia il ic, .slice oa ol oc, .int .i64 time]] W fun e w' => ∃ v, e = .returned v ∧ Own w' W.heap.size v X ∧ Below W.heap.size W w') := hide (fun W hW => by have := ridtext_any T W (HCT.out W hW) HCKT.out; rw [HV.out, ← hX] at this; exact this)
              have HRU : Hid (∀ W, Below w.heap.size w W → Calls Tryd.prog 11 #[.agg #[.slice ja jl jc, .slice pa pl pc, .int .i64 utime]] W fun e w' => ∃ v, e = .returned v ∧ Own w' W.heap.size v Y ∧ Below W.heap.size W w') := hide (fun W hW => by have := ridtext_any U W (HCU.out W hW) HCKU.out; rw [HVU.out, ← hY] at this; exact this)
              have HX := HX9
              by_cases hxy : X = Y
              · have HBC : Hid (∀ v1 v2 W, Has W v1 X → Has W v2 Y → Calls Tryd.prog 10 #[v1, v2] W fun e w' => e = .returned (.bool true) ∧ Below W.heap.size W w') := hide (fun v1 v2 W h1 h2 => by have := bytes_any v1 v2 X Y W h1 h2; rw [show sameB X Y = true from by unfold sameB; exact decide_eq_true hxy] at this; exact this)
                have HBR : Hid (Tm.bare U.it = Tm.bare T.it) := hide (Tm.bare_of_text _ _ HCKU.out HCKT.out (HCU.out w (Below.refl _ _)).byt (HCT.out w (Below.refl _ _)).byt (by rw [← hX, ← hY, hxy]))
                clear hX hY hxy hq hgd HX9 HJ9 HD9 HX8 HDD HD3L HD3E
                refine wp_region_held_drew (S := fun W : World => (W.cell? ⟨w.heap.size, 0, none⟩ = some (.slice ia il ic) ∧ W.cell? ⟨w.heap.size, 1, none⟩ = some (.slice oa ol oc) ∧ W.cell? ⟨w.heap.size, 2, none⟩ = some (.int .i64 time)) ∧ (W.cell? ⟨w.heap.size + 1, 0, none⟩ = some (.slice ja jl jc) ∧ W.cell? ⟨w.heap.size + 1, 1, none⟩ = some (.slice pa pl pc) ∧ W.cell? ⟨w.heap.size + 1, 2, none⟩ = some (.int .i64 utime)) ∧ BoxT w [.slice ia il ic, .slice oa ol oc, .int .i64 time] [.slice ja jl jc, .slice pa pl pc, .int .i64 utime] W) (by kernel_rfl) ?_ (fun hHeld0 => ?_)
                · exact ⟨HX.out.drew.cells.1, HX.out.drew.cells.2, HX.out.drew⟩
                refine wpAnyH_take (i := 0) (v := ?_) rfl (by kernel_rfl) (by kernel_rfl) (by kernel_rfl) (fun _ _ _ h => h) (Or.inl ⟨by rfl, ?_⟩) hHeld0 ?_
                rotate_left
                · (intro w hSw; (try dsimp only at hSw); go_simp <;> (try with_reducible rfl))
                simp only [Act.put, List.getElem_toArray, List.getElem_cons_zero, List.getElem_cons_succ, List.setIfInBounds_toArray, List.set_cons_zero, List.set_cons_succ]
                refine wpAnyH_take (i := 2) (v := ?_) rfl (by kernel_rfl) (by kernel_rfl) (by kernel_rfl) (fun _ _ _ h => h) (Or.inl ⟨by rfl, ?_⟩) hHeld0 ?_
                rotate_left
                · (intro w hSw; (try dsimp only at hSw); go_simp <;> (try with_reducible rfl))
                simp only [Act.put, List.getElem_toArray, List.getElem_cons_zero, List.getElem_cons_succ, List.setIfInBounds_toArray, List.set_cons_zero, List.set_cons_succ]
                refine wpAnyH_ready (rs := [1]) (by kernel_rfl) (by simp) ?_
                refine AllReadyH.cons rfl (fun K hK => ?_) AllReadyH.nil
                go_simp
                go_wp2_with ((go_at_call 11; refine (HRT.out _ hHeld0.2.2.below).mono ?_; rintro e Wa ⟨vx, rfl, hox, hbx⟩; obtain ⟨xa, xn, xc, ex⟩ := own_form hox; subst ex))
                refine hK.out _ _ (by exact ⟨((hHeld0.2.2).call hbx).cells.1, ((hHeld0.2.2).call hbx).cells.2, (hHeld0.2.2).call hbx⟩) (fun hHeld1 => ?_)
                clear hK K hHeld0
                try simp only [Act.put, List.getElem_toArray, List.getElem_cons_zero, List.getElem_cons_succ, List.setIfInBounds_toArray, List.set_cons_zero, List.set_cons_succ]
                refine wpAnyH_ready (rs := [3]) (by kernel_rfl) (by simp) ?_
                refine AllReadyH.cons rfl (fun K hK => ?_) AllReadyH.nil
                go_simp
                go_wp2_with ((go_at_call 11; refine (HRU.out _ hHeld1.2.2.below).mono ?_; rintro e Wb ⟨vy, rfl, hoy, hby⟩; obtain ⟨ya, yn, yc, ey⟩ := own_form hoy; subst ey))
                refine hK.out _ _ (by exact ⟨((hHeld1.2.2).call hby).cells.1, ((hHeld1.2.2).call hby).cells.2, (hHeld1.2.2).call hby⟩) (fun hHeld2 => ?_)
                clear hK K hHeld1
                try simp only [Act.put, List.getElem_toArray, List.getElem_cons_zero, List.getElem_cons_succ, List.setIfInBounds_toArray, List.set_cons_zero, List.set_cons_succ]
                refine wpAnyH_ready (rs := [4]) (by kernel_rfl) (by simp) ?_
                refine AllReadyH.cons rfl (fun K hK => ?_) AllReadyH.nil
                go_simp
                go_wp2_with ((go_at_call 10; refine (HBC.out _ _ _ (Own.has (hox.below hby)) (Own.has hoy)).mono ?_; rintro e Wc ⟨rfl, hbz⟩))
                refine hK.out _ _ (by exact ⟨((hHeld2.2.2).call hbz).cells.1, ((hHeld2.2.2).call hbz).cells.2, (hHeld2.2.2).call hbz⟩) (fun hHeld3 => ?_)
                clear hK K hHeld2
                try simp only [Act.put, List.getElem_toArray, List.getElem_cons_zero, List.getElem_cons_succ, List.setIfInBounds_toArray, List.set_cons_zero, List.set_cons_succ]
                refine wpAnyH_take (i := 5) (v := ?_) rfl (by kernel_rfl) (by kernel_rfl) (by kernel_rfl) (fun _ _ _ h => h) (Or.inl ⟨by rfl, ?_⟩) hHeld3 ?_
                rotate_left
                · (intro w hSw; (try dsimp only at hSw); go_simp <;> (try with_reducible rfl))
                simp only [Act.put, List.getElem_toArray, List.getElem_cons_zero, List.getElem_cons_succ, List.setIfInBounds_toArray, List.set_cons_zero, List.set_cons_succ]
                refine wpAnyH_done (by kernel_rfl) ?_ _
                have HXS := hide hHeld3.2.2
                have hc0 := HXS.out.b1.cell 0
                have hc1 := HXS.out.b1.cell 1
                have hc2 := HXS.out.b1.cell 2
                have hu0 := HXS.out.b2.cell 0
                have hu1 := HXS.out.b2.cell 1
                have hu2 := HXS.out.b2.cell 2
                simp only [List.getElem?_cons_zero, List.getElem?_cons_succ] at hc0 hc1 hc2 hu0 hu1 hu2
                clear hHeld3 HX HRT HRU HBC hox hbx hoy hby hbz
                have HIU := hide (fun W (hW : Below w.heap.size w W) => by have h := HCU.out W hW; rw [HUU.out] at h; exact (h.1 : HasIns W (.slice ja jl jc) uins))
                go_wp2_with (first
                  | (refine wpList_store_new 25 [.slice none 0 0, .slice none 0 0, .int .i64 0] [.slice ja jl jc, .slice pa pl pc, .int .i64 utime] Wc size_tx rfl rfl (by intro v hv; simp only [List.mem_cons, List.not_mem_nil, or_false] at hv; rcases hv with rfl | rfl | rfl <;> rfl) rfl (.tmp 16) (.tmp 86) rfl rfl rfl rfl ?_; have HB4 := hide (below_alloc Wc (.cells #[.slice ja jl jc, .slice pa pl pc, .int .i64 utime] 25)); have HX4 := hide (HXS.out.call HB4.out); have HI4 := hide (Is.new Wc [.slice ja jl jc, .slice pa pl pc, .int .i64 utime] 25); have hcn := (HX4.out.call (below_alloc _ (.cells #[] 45))).b2.cell 0; simp only [List.getElem?_cons_zero] at hcn)
                  | (at_builtin; refine wpList_append_by (AppI (Wc.alloc (.cells #[.slice ja jl jc, .slice pa pl pc, .int .i64 utime] 25)) uins) rfl (.tmp 87) (.tmp 89) rfl (.slice (some ⟨Wc.heap.size + 1, 0, none⟩) 0 0) (.slice ja jl jc) rfl rfl (fun ty => app_insB _ _ (by simp) _ uins (HIU.out _ HX4.out.below) H40U.out ty) ?_; intro v5 w5 h5; obtain ⟨gu, gv, e5, hrow5, hb5⟩ := h5; rw [HJL.out] at e5 hrow5; subst e5; have HX5 := hide (HX4.out.call hb5); have HI5 := hide (HI4.out.below hb5 HI4.out.lt); have HR5 := hide hrow5; have hcb := HI5.out.cell 0; have hfb := HI5.out.frozen; simp only [List.getElem?_cons_zero, List.getElem?_cons_succ] at hcb; clear hrow5 hb5 hcn))
                obtain ⟨b16, hb16⟩ : ∃ b, b = Wc.heap.size := ⟨_, rfl⟩
                have hr16 : w.heap.size + 2 ≤ b16 := by rw [hb16]; exact HXS.out.room
                have hlo : (Wc.alloc (.cells #[.slice ja jl jc, .slice pa pl pc, .int .i64 utime] 25)).heap.size = b16 + 1 := by rw [hb16]; simp
                rw [hlo] at HR5
                rw [← hb16] at HI5
                have HX6 := hide (HX5.out.setCell b16 0 (.slice gu jl gv) hr16)
                have HI6 : Hid (Is (w5.setCell ⟨b16, 0, none⟩ (.slice gu jl gv)) b16 [.slice gu jl gv, .slice pa pl pc, .int .i64 utime] 25) := hide (HI5.out.set 0 _)
                have HR6 := hide (HR5.out.other b16 0 (.slice gu jl gv) (by omega))
                have HR16 := hide hr16
                have HJI : Hid (jl = il) := hide (by
                  have := congrArg (fun x : Tm.Tx => x.ins.length) HBR.out
                  rw [HTT.out, HUU.out] at this
                  have h2 : uins.length = ins.length := by simpa [Tm.bare, TxV.it] using this
                  rw [← HIL.out, ← HJL.out]; exact h2)
                rw [← hb16]
                clear hc0 hc1 hc2 hu0 hu1 hu2 hcb hfb hlo hb16 hr16 HX5 HI5 HR5 HX4 HI4 HB4 HXS
                go_loopw [17] (fun i wr => ∃ k : Nat, k ≤ jl ∧ i = .int .i64 k ∧ BoxT w [.slice ia il ic, .slice oa ol oc, .int .i64 time] [.slice ja jl jc, .slice pa pl pc, .int .i64 utime] wr ∧ Is wr b16 [.slice gu jl gv, .slice pa pl pc, .int .i64 utime] 25 ∧ InsRow (b16 + 1) wr gu jl gv (keyed uins ins k)) (fun i _ => jl - (intOf i).toNat)
                case atStart => exact ⟨0, by omega, rfl, HX6.out, HI6.out, by simpa [keyed] using HR6.out⟩
                case round =>
                  obtain ⟨k, hk, rfl, hx, hi, hr⟩ := hrel
                  have hcb := hi.cell 0
                  have hct := hx.b1.cell 0
                  simp only [List.getElem?_cons_zero, List.getElem?_cons_succ] at hcb hct
                  by_cases hlt : k < jl
                  · obtain ⟨g, rfl⟩ := hr.form (by omega)
                    have hkU : k < uins.length := by rw [HJL.out]; exact hlt
                    have hkT : k < ins.length := by rw [HIL.out, ← HJI.out]; exact hlt
                    have hU := HIU.out w (Below.refl _ _)
                    have h32 := keyed_32 uins ins k (fun x hx => (hU.2 x hx).1)
                    have hL : k < (keyed uins ins k).length := by rw [keyed_length]; exact hkU
                    obtain ⟨c1, c2, c3, c4, c5, c6⟩ := hr.cell h32 k hlt hL
                    obtain ⟨tb, to, rfl, t1, t2, t3, _, t4⟩ := HIF.out k hkT
                    obtain ⟨sa, sn, sc, hse⟩ := hasKeys_form ((HIW.out w (Below.refl _ _)).2 ins[k] (List.getElem_mem hkT)).2.2
                    have hnew := hr.set h32 k hlt hL ins[k].kv ins[k].K
                    rw [keyed_step uins ins k hkU hkT, hse] at hnew
                    rw [hse] at t4
                    have hcB : wr.drew.cell? ⟨b16, 0, none⟩ = some (.slice (some ⟨g, 0, none⟩) jl gv) := hcb
                    have hcT : wr.drew.cell? ⟨w.heap.size, 0, none⟩ = some (.slice (some ⟨tb, to, none⟩) il ic) := hct
                    have hcS : wr.drew.cell? ⟨tb, to + k * 34 + 33, none⟩ = some (.slice sa sn sc) := sm_cell t4 hx.below.drew
                    have HX7 := hide (hx.drew.setCell g (k * 34 + 33) (.slice sa sn sc) (by have := HR16.out; omega))
                    have HI7 := hide ((hi.drew).other ⟨g, k * 34 + 33, none⟩ (.slice sa sn sc) (by show g ≠ b16; omega))
                    have HR7 : Hid (InsRow (b16 + 1) (wr.drew.setCell ⟨g, k * 34 + 33, none⟩ (.slice sa sn sc)) (some ⟨g, 0, none⟩) jl gv (keyed uins ins (k + 1))) := hide hnew
                    have hki : (k : Int) < (jl : Int) := by omega
                    have hki2 : (k : Int) < (il : Int) := by have := HJI.out; omega
                    have hdk1 : decide ((k : Int) < (jl : Int)) = true := decide_eq_true hki
                    have hdk2 : decide ((k : Int) < (il : Int)) = true := decide_eq_true hki2
                    have hg1 : b16 ≠ g := by omega
                    have hg2 : w.heap.size ≠ g := by have := HR16.out; omega
                    have hg3 : tb ≠ g := by have := HR16.out; omega
                    obtain ⟨oldv, hov⟩ : ∃ v, v = ((keyed uins ins k)[k]).kv := ⟨_, rfl⟩
                    rw [← hov] at c1
                    have c1d : wr.drew.cell? ⟨g, k * 34 + 33, none⟩ = some oldv := c1
                    have c2d : wr.drew.frozen? ⟨g, k * 34 + 33, none⟩ = false := c2
                    have htl : il ≤ ic := by rw [← HIL.out]; exact t1
                    unfold maxLen at c4 t2
                    clear hov hL h32 hi hr hnew hse t1 t4 hU HX6 HI6 HR6
                    go_wp2
                    refine wp_region_held_drew (S := fun W : World => W.cell? ⟨b16, 0, none⟩ = some (.slice (some ⟨g, 0, none⟩) jl gv) ∧ W.cell? ⟨w.heap.size, 0, none⟩ = some (.slice (some ⟨tb, to, none⟩) il ic) ∧ W.cell? ⟨tb, to + k * 34 + 33, none⟩ = some (.slice sa sn sc)) (by kernel_rfl) ?_ (fun hHeld0 => ?_)
                    · exact ⟨hcB, hcT, hcS⟩
                    refine wpAnyH_take (i := 0) (v := ?_) rfl (by kernel_rfl) (by kernel_rfl) (by kernel_rfl) (fun _ _ _ h => h) (Or.inl ⟨by rfl, ?_⟩) hHeld0 ?_
                    rotate_left
                    · (intro w hSw; (try dsimp only at hSw); go_simp <;> (try with_reducible rfl))
                    simp only [Act.put, List.getElem_toArray, List.getElem_cons_zero, List.getElem_cons_succ, List.setIfInBounds_toArray, List.set_cons_zero, List.set_cons_succ]
                    refine wpAnyH_take (i := 1) (v := ?_) rfl (by kernel_rfl) (by kernel_rfl) (by kernel_rfl) (fun _ _ _ h => h) (Or.inl ⟨by rfl, ?_⟩) hHeld0 ?_
                    rotate_left
                    · (intro w hSw; (try dsimp only at hSw); go_simp <;> (try with_reducible rfl))
                    simp only [Act.put, List.getElem_toArray, List.getElem_cons_zero, List.getElem_cons_succ, List.setIfInBounds_toArray, List.set_cons_zero, List.set_cons_succ]
                    refine wpAnyH_take (i := 2) (v := ?_) rfl (by kernel_rfl) (by kernel_rfl) (by kernel_rfl) (fun _ _ _ h => h) (Or.inl ⟨by rfl, ?_⟩) hHeld0 ?_
                    rotate_left
                    · (intro w hSw; (try dsimp only at hSw); go_simp <;> (try with_reducible rfl))
                    simp only [Act.put, List.getElem_toArray, List.getElem_cons_zero, List.getElem_cons_succ, List.setIfInBounds_toArray, List.set_cons_zero, List.set_cons_succ]
                    refine wpAnyH_take (i := 3) (v := ?_) rfl (by kernel_rfl) (by kernel_rfl) (by kernel_rfl) (fun _ _ _ h => h) (Or.inl ⟨by rfl, ?_⟩) hHeld0 ?_
                    rotate_left
                    · (intro w hSw; (try dsimp only at hSw); go_simp <;> (try with_reducible rfl))
                    simp only [Act.put, List.getElem_toArray, List.getElem_cons_zero, List.getElem_cons_succ, List.setIfInBounds_toArray, List.set_cons_zero, List.set_cons_succ]
                    refine wpAnyH_take (i := 4) (v := ?_) rfl (by kernel_rfl) (by kernel_rfl) (by kernel_rfl) (fun _ _ _ h => h) (Or.inl ⟨by rfl, ?_⟩) hHeld0 ?_
                    rotate_left
                    · (intro w hSw; (try dsimp only at hSw); go_simp <;> (try with_reducible rfl))
                    simp only [Act.put, List.getElem_toArray, List.getElem_cons_zero, List.getElem_cons_succ, List.setIfInBounds_toArray, List.set_cons_zero, List.set_cons_succ]
                    refine wpAnyH_take (i := 5) (v := ?_) rfl (by kernel_rfl) (by kernel_rfl) (by kernel_rfl) (fun _ _ _ h => h) (Or.inl ⟨by rfl, ?_⟩) hHeld0 ?_
                    rotate_left
                    · (intro w hSw; (try dsimp only at hSw); go_simp <;> (try with_reducible rfl))
                    simp only [Act.put, List.getElem_toArray, List.getElem_cons_zero, List.getElem_cons_succ, List.setIfInBounds_toArray, List.set_cons_zero, List.set_cons_succ]
                    refine wpAnyH_take (i := 6) (v := ?_) rfl (by kernel_rfl) (by kernel_rfl) (by kernel_rfl) (fun _ _ _ h => h) (Or.inl ⟨by rfl, ?_⟩) hHeld0 ?_
                    rotate_left
                    · (intro w hSw; (try dsimp only at hSw); go_simp <;> (try with_reducible rfl))
                    simp only [Act.put, List.getElem_toArray, List.getElem_cons_zero, List.getElem_cons_succ, List.setIfInBounds_toArray, List.set_cons_zero, List.set_cons_succ]
                    refine wpAnyH_take (i := 7) (v := ?_) rfl (by kernel_rfl) (by kernel_rfl) (by kernel_rfl) (fun _ _ _ h => h) (Or.inl ⟨by rfl, ?_⟩) hHeld0 ?_
                    rotate_left
                    · (intro w hSw; (try dsimp only at hSw); go_simp <;> (try with_reducible rfl))
                    simp only [Act.put, List.getElem_toArray, List.getElem_cons_zero, List.getElem_cons_succ, List.setIfInBounds_toArray, List.set_cons_zero, List.set_cons_succ]
                    refine wpAnyH_take (i := 8) (v := ?_) rfl (by kernel_rfl) (by kernel_rfl) (by kernel_rfl) (fun _ _ _ h => h) (Or.inl ⟨by rfl, ?_⟩) hHeld0 ?_
                    rotate_left
                    · (intro w hSw; (try dsimp only at hSw); go_simp <;> (try with_reducible rfl))
                    simp only [Act.put, List.getElem_toArray, List.getElem_cons_zero, List.getElem_cons_succ, List.setIfInBounds_toArray, List.set_cons_zero, List.set_cons_succ]
                    refine wpAnyH_take (i := 9) (v := ?_) rfl (by kernel_rfl) (by kernel_rfl) (by kernel_rfl) (fun _ _ _ h => h) (Or.inl ⟨by rfl, ?_⟩) hHeld0 ?_
                    rotate_left
                    · (intro w hSw; (try dsimp only at hSw); go_simp <;> (try with_reducible rfl))
                    simp only [Act.put, List.getElem_toArray, List.getElem_cons_zero, List.getElem_cons_succ, List.setIfInBounds_toArray, List.set_cons_zero, List.set_cons_succ]
                    refine wpAnyH_take (i := 10) (v := ?_) rfl (by kernel_rfl) (by kernel_rfl) (by kernel_rfl) (fun _ _ _ h => h) (Or.inl ⟨by rfl, ?_⟩) hHeld0 ?_
                    rotate_left
                    · (intro w hSw; (try dsimp only at hSw); go_simp <;> (try with_reducible rfl))
                    simp only [Act.put, List.getElem_toArray, List.getElem_cons_zero, List.getElem_cons_succ, List.setIfInBounds_toArray, List.set_cons_zero, List.set_cons_succ]
                    refine wpAnyH_ready (rs := [11]) (by kernel_rfl) (by simp) ?_
                    refine AllReadyH.cons rfl (fun K hK => ?_) AllReadyH.nil
                    go_simp
                    refine hK.out _ _ (by exact ⟨cell_other hcB hg1, cell_other hcT hg2, cell_other hcS hg3⟩) (fun hHeld1 => ?_)
                    clear hK K hHeld0
                    try simp only [Act.put, List.getElem_toArray, List.getElem_cons_zero, List.getElem_cons_succ, List.setIfInBounds_toArray, List.set_cons_zero, List.set_cons_succ]
                    refine wpAnyH_done (by kernel_rfl) ?_ _
                    go_wp2
                    go_roundw
                    case rel => exact ⟨k + 1, by omega, by go_num, HX7.out, HI7.out, HR7.out⟩
                    case measure => simp [intOf]; omega
                  · have hke : k = jl := by omega
                    have hdk1 : decide ((k : Int) < (jl : Int)) = false := decide_eq_false (by omega)
                    have HXE := hide hx
                    have hcb1 := hi.cell 1
                    have hcb2 := hi.cell 2
                    have hct1 := hx.b1.cell 1
                    have hct2 := hx.b1.cell 2
                    simp only [List.getElem?_cons_zero, List.getElem?_cons_succ] at hcb1 hcb2 hct1 hct2
                    rw [hke] at hr
                    have hU := HIU.out wr hx.below
                    have hTI := (HIW.out wr hx.below).2
                    have hins : HasIns wr (.slice gu jl gv) (keyed uins ins jl) := hr.has (keyed_facts uins ins jl hU.2 (fun x hx => (hTI x hx).2.2))
                    have hot : HasOuts wr (.slice pa pl pc) uouts := (by have h := HCU.out wr hx.below; rw [HUU.out] at h; exact h.2)
                    have HST := hide (txSame_any ⟨.slice gu jl gv, keyed uins ins jl, .slice pa pl pc, uouts, utime⟩ T wr ⟨hins, hot⟩ (HCT.out wr hx.below))
                    have HEQ : Hid ((TxV.it ⟨.slice gu jl gv, keyed uins ins jl, .slice pa pl pc, uouts, utime⟩) = T.it) := hide (by
                      have h := Tm.rekey_tx T.it U.it HBR.out
                      rw [HTT.out, HUU.out] at h
                      rw [HTT.out, ← h]
                      simp only [TxV.it]
                      rw [← HJL.out, keyed_it uins ins (by rw [HJL.out, HIL.out, HJI.out])])
                    rw [HV.out] at HST
                    simp only [TxV.val] at HST
                    clear hx hi hr hU hTI hins hot hke HX6 HI6 HR6
                    go_wp2_with fail
                    refine HST.out.mono ?_
                    rintro e w8 ⟨hte, hb8⟩
                    obtain rfl := hte.true HEQ.out
                    have HXF := hide (HXE.out.call hb8)
                    clear hte hb8 HST
                    go_wp2
                    go_ret
                    exact ⟨rfl, HXF.out.below⟩
              · have HBC : Hid (∀ v1 v2 W, Has W v1 X → Has W v2 Y → Calls Tryd.prog 10 #[v1, v2] W fun e w' => e = .returned (.bool false) ∧ Below W.heap.size W w') := hide (fun v1 v2 W h1 h2 => by have := bytes_any v1 v2 X Y W h1 h2; rw [show sameB X Y = false from by unfold sameB; exact decide_eq_false hxy] at this; exact this)
                have hbX : Sz.Byt X := by rw [hX]; exact Tm.idText_byt _ HCKT.out (HCT.out w (Below.refl _ _)).byt
                have hbY : Sz.Byt Y := by rw [hY]; exact Tm.idText_byt _ HCKU.out (HCU.out w (Below.refl _ _)).byt
                have hlX : X.length ≤ 149000000000000 := by
                  have := bytes_le _ (Tm.check_bare _ HCKT.out) (Tm.bare_byt _ (HCT.out w (Below.refl _ _)).byt)
                  rw [hX]; show (21 :: _).length ≤ _; rw [List.length_cons]; omega
                have hlY : Y.length ≤ 149000000000000 := by
                  have := bytes_le _ (Tm.check_bare _ HCKU.out) (Tm.bare_byt _ (HCU.out w (Below.refl _ _)).byt)
                  rw [hY]; show (21 :: _).length ≤ _; rw [List.length_cons]; omega
                obtain ⟨DA, hDA⟩ : ∃ DA, DA = Sh.sum X := ⟨_, rfl⟩
                obtain ⟨DB, hDB⟩ : ∃ DB, DB = Sh.sum Y := ⟨_, rfl⟩
                have HSX : Hid (∀ v W, Has W v X → Calls Tryd.prog 12 #[v] W fun e w' => e = .returned (.agg (vals DA).toArray) ∧ Below W.heap.size W w') := hide (fun v W h => by rw [hDA]; exact rsum_any v X W h hbX hlX)
                have HSY : Hid (∀ v W, Has W v Y → Calls Tryd.prog 12 #[v] W fun e w' => e = .returned (.agg (vals DB).toArray) ∧ Below W.heap.size W w') := hide (fun v W h => by rw [hDB]; exact rsum_any v Y W h hbY hlY)
                have hab : DA = DB := by
                  have e1 : DA = D := by rw [hDA, hX, HDE.out]; rfl
                  have e2 : DB = D3 := by rw [hDB, hY, HD3E.out]; rfl
                  rw [e1, e2, HDD.out]
                have hq2 : ∀ w', (Op.equalIn 10000 39 (.agg (vals DA).toArray) (.agg (vals DB).toArray)).run Tryd.prog w' = .ok true w' := fun w' => by rw [dig_eq _ _ (by rw [hDA]; simp [Sh.sum, Sh.digest]) (by rw [hDB]; simp [Sh.sum, Sh.digest]) w', decide_eq_true hab]
                clear hX hY hxy hq hDA hDB hab hbX hbY hlX hlY HX9 HJ9 HD9 HX8 HDD HD3L HD3E
                refine wp_region_held_drew (S := fun W : World => (W.cell? ⟨w.heap.size, 0, none⟩ = some (.slice ia il ic) ∧ W.cell? ⟨w.heap.size, 1, none⟩ = some (.slice oa ol oc) ∧ W.cell? ⟨w.heap.size, 2, none⟩ = some (.int .i64 time)) ∧ (W.cell? ⟨w.heap.size + 1, 0, none⟩ = some (.slice ja jl jc) ∧ W.cell? ⟨w.heap.size + 1, 1, none⟩ = some (.slice pa pl pc) ∧ W.cell? ⟨w.heap.size + 1, 2, none⟩ = some (.int .i64 utime)) ∧ BoxT w [.slice ia il ic, .slice oa ol oc, .int .i64 time] [.slice ja jl jc, .slice pa pl pc, .int .i64 utime] W) (by kernel_rfl) ?_ (fun hHeld0 => ?_)
                · exact ⟨HX.out.drew.cells.1, HX.out.drew.cells.2, HX.out.drew⟩
                refine wpAnyH_take (i := 0) (v := ?_) rfl (by kernel_rfl) (by kernel_rfl) (by kernel_rfl) (fun _ _ _ h => h) (Or.inl ⟨by rfl, ?_⟩) hHeld0 ?_
                rotate_left
                · (intro w hSw; (try dsimp only at hSw); go_simp <;> (try with_reducible rfl))
                simp only [Act.put, List.getElem_toArray, List.getElem_cons_zero, List.getElem_cons_succ, List.setIfInBounds_toArray, List.set_cons_zero, List.set_cons_succ]
                refine wpAnyH_take (i := 2) (v := ?_) rfl (by kernel_rfl) (by kernel_rfl) (by kernel_rfl) (fun _ _ _ h => h) (Or.inl ⟨by rfl, ?_⟩) hHeld0 ?_
                rotate_left
                · (intro w hSw; (try dsimp only at hSw); go_simp <;> (try with_reducible rfl))
                simp only [Act.put, List.getElem_toArray, List.getElem_cons_zero, List.getElem_cons_succ, List.setIfInBounds_toArray, List.set_cons_zero, List.set_cons_succ]
                refine wpAnyH_ready (rs := [1]) (by kernel_rfl) (by simp) ?_
                refine AllReadyH.cons rfl (fun K hK => ?_) AllReadyH.nil
                go_simp
                go_wp2_with ((go_at_call 11; refine (HRT.out _ hHeld0.2.2.below).mono ?_; rintro e Wa ⟨vx, rfl, hox, hbx⟩; obtain ⟨xa, xn, xc, ex⟩ := own_form hox; subst ex))
                refine hK.out _ _ (by exact ⟨((hHeld0.2.2).call hbx).cells.1, ((hHeld0.2.2).call hbx).cells.2, (hHeld0.2.2).call hbx⟩) (fun hHeld1 => ?_)
                clear hK K hHeld0
                try simp only [Act.put, List.getElem_toArray, List.getElem_cons_zero, List.getElem_cons_succ, List.setIfInBounds_toArray, List.set_cons_zero, List.set_cons_succ]
                refine wpAnyH_ready (rs := [3]) (by kernel_rfl) (by simp) ?_
                refine AllReadyH.cons rfl (fun K hK => ?_) AllReadyH.nil
                go_simp
                go_wp2_with ((go_at_call 11; refine (HRU.out _ hHeld1.2.2.below).mono ?_; rintro e Wb ⟨vy, rfl, hoy, hby⟩; obtain ⟨ya, yn, yc, ey⟩ := own_form hoy; subst ey))
                refine hK.out _ _ (by exact ⟨((hHeld1.2.2).call hby).cells.1, ((hHeld1.2.2).call hby).cells.2, (hHeld1.2.2).call hby⟩) (fun hHeld2 => ?_)
                clear hK K hHeld1
                try simp only [Act.put, List.getElem_toArray, List.getElem_cons_zero, List.getElem_cons_succ, List.setIfInBounds_toArray, List.set_cons_zero, List.set_cons_succ]
                refine wpAnyH_ready (rs := [4]) (by kernel_rfl) (by simp) ?_
                refine AllReadyH.cons rfl (fun K hK => ?_) AllReadyH.nil
                go_simp
                go_wp2_with ((go_at_call 10; refine (HBC.out _ _ _ (Own.has (hox.below hby)) (Own.has hoy)).mono ?_; rintro e Wc ⟨rfl, hbz⟩))
                refine hK.out _ _ (by exact ⟨((hHeld2.2.2).call hbz).cells.1, ((hHeld2.2.2).call hbz).cells.2, (hHeld2.2.2).call hbz⟩) (fun hHeld3 => ?_)
                clear hK K hHeld2
                try simp only [Act.put, List.getElem_toArray, List.getElem_cons_zero, List.getElem_cons_succ, List.setIfInBounds_toArray, List.set_cons_zero, List.set_cons_succ]
                refine wpAnyH_take (i := 5) (v := ?_) rfl (by kernel_rfl) (by kernel_rfl) (by kernel_rfl) (fun _ _ _ h => h) (Or.inl ⟨by rfl, ?_⟩) hHeld3 ?_
                rotate_left
                · (intro w hSw; (try dsimp only at hSw); go_simp <;> (try with_reducible rfl))
                simp only [Act.put, List.getElem_toArray, List.getElem_cons_zero, List.getElem_cons_succ, List.setIfInBounds_toArray, List.set_cons_zero, List.set_cons_succ]
                refine wpAnyH_done (by kernel_rfl) ?_ _
                have HX := hide hHeld3.2.2
                clear hHeld3 hox hbx hoy hby hbz
                go_wp2
                refine wp_region_held_drew (S := fun W : World => (W.cell? ⟨w.heap.size, 0, none⟩ = some (.slice ia il ic) ∧ W.cell? ⟨w.heap.size, 1, none⟩ = some (.slice oa ol oc) ∧ W.cell? ⟨w.heap.size, 2, none⟩ = some (.int .i64 time)) ∧ (W.cell? ⟨w.heap.size + 1, 0, none⟩ = some (.slice ja jl jc) ∧ W.cell? ⟨w.heap.size + 1, 1, none⟩ = some (.slice pa pl pc) ∧ W.cell? ⟨w.heap.size + 1, 2, none⟩ = some (.int .i64 utime)) ∧ BoxT w [.slice ia il ic, .slice oa ol oc, .int .i64 time] [.slice ja jl jc, .slice pa pl pc, .int .i64 utime] W) (by kernel_rfl) ?_ (fun hHeld0 => ?_)
                · exact ⟨HX.out.drew.cells.1, HX.out.drew.cells.2, HX.out.drew⟩
                refine wpAnyH_take (i := 0) (v := ?_) rfl (by kernel_rfl) (by kernel_rfl) (by kernel_rfl) (fun _ _ _ h => h) (Or.inl ⟨by rfl, ?_⟩) hHeld0 ?_
                rotate_left
                · (intro w hSw; (try dsimp only at hSw); go_simp <;> (try with_reducible rfl))
                simp only [Act.put, List.getElem_toArray, List.getElem_cons_zero, List.getElem_cons_succ, List.setIfInBounds_toArray, List.set_cons_zero, List.set_cons_succ]
                refine wpAnyH_take (i := 3) (v := ?_) rfl (by kernel_rfl) (by kernel_rfl) (by kernel_rfl) (fun _ _ _ h => h) (Or.inl ⟨by rfl, ?_⟩) hHeld0 ?_
                rotate_left
                · (intro w hSw; (try dsimp only at hSw); go_simp <;> (try with_reducible rfl))
                simp only [Act.put, List.getElem_toArray, List.getElem_cons_zero, List.getElem_cons_succ, List.setIfInBounds_toArray, List.set_cons_zero, List.set_cons_succ]
                refine wpAnyH_ready (rs := [1]) (by kernel_rfl) (by simp) ?_
                refine AllReadyH.cons rfl (fun K hK => ?_) AllReadyH.nil
                go_simp
                go_wp2_with ((go_at_call 11; refine (HRT.out _ hHeld0.2.2.below).mono ?_; rintro e Wa ⟨vx, rfl, hox, hbx⟩; obtain ⟨xa, xn, xc, ex⟩ := own_form hox; subst ex))
                refine hK.out _ _ (by exact ⟨((hHeld0.2.2).call hbx).cells.1, ((hHeld0.2.2).call hbx).cells.2, (hHeld0.2.2).call hbx⟩) (fun hHeld1 => ?_)
                clear hK K hHeld0
                try simp only [Act.put, List.getElem_toArray, List.getElem_cons_zero, List.getElem_cons_succ, List.setIfInBounds_toArray, List.set_cons_zero, List.set_cons_succ]
                refine wpAnyH_ready (rs := [2]) (by kernel_rfl) (by simp) ?_
                refine AllReadyH.cons rfl (fun K hK => ?_) AllReadyH.nil
                go_simp
                go_wp2_with ((go_at_call 12; refine (HSX.out _ _ (Own.has hox)).mono ?_; rintro e Wb ⟨rfl, hbp⟩))
                refine hK.out _ _ (by exact ⟨((hHeld1.2.2).call hbp).cells.1, ((hHeld1.2.2).call hbp).cells.2, (hHeld1.2.2).call hbp⟩) (fun hHeld2 => ?_)
                clear hK K hHeld1
                try simp only [Act.put, List.getElem_toArray, List.getElem_cons_zero, List.getElem_cons_succ, List.setIfInBounds_toArray, List.set_cons_zero, List.set_cons_succ]
                refine wpAnyH_ready (rs := [4]) (by kernel_rfl) (by simp) ?_
                refine AllReadyH.cons rfl (fun K hK => ?_) AllReadyH.nil
                go_simp
                go_wp2_with ((go_at_call 11; refine (HRU.out _ hHeld2.2.2.below).mono ?_; rintro e Wc ⟨vy, rfl, hoy, hby⟩; obtain ⟨ya, yn, yc, ey⟩ := own_form hoy; subst ey))
                refine hK.out _ _ (by exact ⟨((hHeld2.2.2).call hby).cells.1, ((hHeld2.2.2).call hby).cells.2, (hHeld2.2.2).call hby⟩) (fun hHeld3 => ?_)
                clear hK K hHeld2
                try simp only [Act.put, List.getElem_toArray, List.getElem_cons_zero, List.getElem_cons_succ, List.setIfInBounds_toArray, List.set_cons_zero, List.set_cons_succ]
                refine wpAnyH_ready (rs := [5]) (by kernel_rfl) (by simp) ?_
                refine AllReadyH.cons rfl (fun K hK => ?_) AllReadyH.nil
                go_simp
                go_wp2_with ((go_at_call 12; refine (HSY.out _ _ (Own.has hoy)).mono ?_; rintro e Wd ⟨rfl, hbq⟩))
                refine hK.out _ _ (by exact ⟨((hHeld3.2.2).call hbq).cells.1, ((hHeld3.2.2).call hbq).cells.2, (hHeld3.2.2).call hbq⟩) (fun hHeld4 => ?_)
                clear hK K hHeld3
                try simp only [Act.put, List.getElem_toArray, List.getElem_cons_zero, List.getElem_cons_succ, List.setIfInBounds_toArray, List.set_cons_zero, List.set_cons_succ]
                refine wpAnyH_take (i := 6) (v := ?_) rfl (by kernel_rfl) (by kernel_rfl) (by kernel_rfl) (fun _ _ _ h => h) (Or.inl ⟨by rfl, ?_⟩) hHeld4 ?_
                rotate_left
                · (intro w hSw; (try dsimp only at hSw); go_simp <;> (try with_reducible rfl))
                simp only [Act.put, List.getElem_toArray, List.getElem_cons_zero, List.getElem_cons_succ, List.setIfInBounds_toArray, List.set_cons_zero, List.set_cons_succ]
                refine wpAnyH_take (i := 7) (v := ?_) rfl (by kernel_rfl) (by kernel_rfl) (by kernel_rfl) (fun _ _ _ h => h) (Or.inl ⟨by rfl, ?_⟩) hHeld4 ?_
                rotate_left
                · (intro w hSw; (try dsimp only at hSw); go_simp <;> (try with_reducible rfl))
                simp only [Act.put, List.getElem_toArray, List.getElem_cons_zero, List.getElem_cons_succ, List.setIfInBounds_toArray, List.set_cons_zero, List.set_cons_succ]
                refine wpAnyH_done (by kernel_rfl) ?_ _
                go_wp2
                go_ret
                exact ⟨rfl, hHeld4.2.2.below⟩
            · have hq : ∀ w', (Op.equalIn 10000 39 (.agg (vals D3).toArray) (.agg (vals D).toArray)).run Tryd.prog w' = .ok false w' := fun w' => by rw [dig_eq _ _ hD3l HD32.out w', decide_eq_false hdd]
              clear hdd hD3l
              refine HIDU.out.mono ?_
              rintro e w8 ⟨rfl, hb8⟩
              have HX8 := hide (HX.out.call hb8)
              have HD9 := hide (HD8.out.below hb8 HD8.out.lt)
              clear hb8 HIDU hu0 hu1 hu2
              go_wp2_with (first
                | (refine wpList_store_any3 39 Zd (vals D3) w8.heap.size rfl (.tmp 14) (.tmp 63) rfl rfl rfl rfl (Is.new w8 _ _) size_dig HZL.out HD3L.out (vals_one _) ?_; intro w9 hi9 hw9; have hb9 : Below w8.heap.size w8 w9 := (by rw [hw9]; exact below_row); have HX9 := hide (HX8.out.call hb9); have HD9 := hide (HD9.out.below hb9 HD9.out.lt); have HJ9 := hide hi9; clear hw9 hb9 hi9)
                | (refine wpList_load_arrG 39 (vals D3) w8.heap.size (by rfl) (.tmp 14) rfl rfl HJ9.out Tryd.underlying39 size_dig HD3L.out ?_)
                | (refine wpList_load_arrG 39 (vals D) b8 (by rfl) (.tmp 8) rfl rfl HD9.out Tryd.underlying39 size_dig HDL.out ?_))
              go_ret
              exact ⟨rfl, HX9.out.below⟩
          · have HIDU := hide (tid_bad U w7 (HCU.out w7 HX.out.below) hcu)
            have hce : errV (Tm.check U.it) = .iface 35 (.int .i64 (Tm.check U.it)) := by unfold errV; rw [if_neg hcu]
            rw [HVU.out, hce, ← HZE.out] at HIDU
            clear hcu hce
            generalize Tm.check U.it = cu at *
            refine HIDU.out.mono ?_
            rintro e w8 ⟨rfl, hb8⟩
            have HX8 := hide (HX.out.call hb8)
            clear hb8 HIDU hu0 hu1 hu2
            go_wp2_with (first
              | (refine wpList_store_any3 39 Zd Zd w8.heap.size rfl (.tmp 14) (.tmp 63) rfl rfl rfl rfl (Is.new w8 _ _) size_dig HZL.out HZL.out HZ1.out ?_; intro w9 hi9 hw9; have hb9 : Below w8.heap.size w8 w9 := (by rw [hw9]; exact below_row); have HX9 := hide (HX8.out.call hb9); clear hw9 hb9 hi9))
            go_ret
            exact ⟨rfl, HX9.out.below⟩
  · have HID := hide (tid_bad T w1 (HCT.out w1 HX1.out.below) hck)
    have hce : errV (Tm.check T.it) = .iface 35 (.int .i64 (Tm.check T.it)) := by unfold errV; rw [if_neg hck]
    rw [HV.out, hce, ← HZE.out] at HID
    clear hck hce
    generalize Tm.check T.it = ck at *
    go_wp2_with fail
    refine HID.out.mono ?_
    rintro e w2 ⟨rfl, hb2⟩
    have HX2 := hide (HX1.out.call hb2)
    clear hb2 HID hc0 hc1 hc2
    go_wp2_with (first
      | (refine wpList_store_any3 39 Zd Zd w2.heap.size rfl (.tmp 8) (.tmp 25) rfl rfl rfl rfl (Is.new w2 _ _) size_dig HZL.out HZL.out HZ1.out ?_; intro w3 hi3 hw3; have hb3 : Below w2.heap.size w2 w3 := (by rw [hw3]; exact below_row); have HX3 := hide (HX2.out.call hb3); clear hw3 hb3 hi3))
    go_ret
    exact ⟨rfl, HX3.out.below⟩
end Go.Proofs.YtmoijbdpbpfljaaDoor
