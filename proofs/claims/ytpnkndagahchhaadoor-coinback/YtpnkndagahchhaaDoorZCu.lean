/- The texts CnUn, CnUo, CnBk, one behind the other. -/
import Derived.Test.YtpnkndagahchhaaDoorZCy
import Derived.Test.YtpnkndagahchhaaDoorZCl
import Derived.Test.YtpnkndagahchhaaDoorLkB
import Derived.Test.YtpnkndagahchhaaDoorZTs
import Derived.Test.YtpnkndagahchhaaDoorZCp
import Derived.Test.YtpnkndagahchhaaDoorCnSm
/- coin.Undo: two outs that are the same. -/
namespace Go.Proofs.YtpnkndagahchhaaDoor
open Go.RowKit
set_option linter.unusedVariables false
set_option linter.unusedSimpArgs false

set_option maxHeartbeats 1000000 in
theorem sameF_any (o : Lk.Op) (v1 v2 : Value) (w : World) (h1 : Has w v1 o.data) (h2 : Has w v2 o.data) (hb : Sz.Byt o.data) :
    Calls Tryd.prog 48 #[.agg #[.int .i64 o.op, .int .i64 o.n, v1], .agg #[.int .i64 o.op, .int .i64 o.n, v2]] w fun e w' => e = .returned (.bool true) ∧ Below w.heap.size w w' := by
  have HBE := hide (fun W (hW : Below w.heap.size w W) => bequal_any v1 v2 o.data o.data W (h1.below hW) (h2.below hW) hb hb)
  rw [decide_eq_true rfl] at HBE
  obtain ⟨a1, c1, rfl, _, _⟩ := h1.shape
  obtain ⟨a2, c2, rfl, _, _⟩ := h2.shape
  generalize o.data.length = dl at *
  obtain ⟨oo, hoo⟩ : ∃ x, x = o.op := ⟨_, rfl⟩
  obtain ⟨on, hon⟩ : ∃ x, x = o.n := ⟨_, rfl⟩
  rw [← hoo, ← hon]
  clear h1 h2 hb hoo hon
  have HB0 := hide (below_alloc2 w (.cells #[.int .i64 oo, .int .i64 on, .slice a1 dl c1] 108) (.cells #[.int .i64 oo, .int .i64 on, .slice a2 dl c2] 108))
  go_enter Tryd.func48, Tryd.ntmps48
  go_wp2_with fail
  refine (HBE.out _ HB0.out).mono ?_
  rintro e w1 ⟨rfl, rfl⟩
  go_wp2
  go_ret
  exact ⟨rfl, HB0.out⟩
theorem call_sameF (xs : Array Value) (W : World) : (callFunc 48 xs).run Tryd.prog W = .ok (.enter 48 xs) W := by
  simp [callFunc, Tryd.func48, Tryd.f48]
theorem cell_belowU {w W : World} {b o : Nat} {v : Value} (h : w.cell? ⟨b, o, none⟩ = some v) (hW : Below w.heap.size w W) (hb : b < w.heap.size) : W.cell? ⟨b, o, none⟩ = some v := (hW.cell (p := ⟨b, o, none⟩) hb).trans h
theorem op_range {W : World} {b o : Nat} {x y z : Value} (h1 : W.cell? ⟨b, o, none⟩ = some x) (h2 : W.cell? ⟨b, o + 1, none⟩ = some y) (h3 : W.cell? ⟨b, o + 2, none⟩ = some z) : W.rangeAt b o [x, y, z] := fun j v hv => by
  match j with
  | 0 => simp at hv; subst hv; exact h1
  | 1 => simp at hv; subst hv; exact h2
  | 2 => simp at hv; subst hv; exact h3
  | j + 3 => simp at hv
theorem opsOf_get {K : List (Lk.Op × Value)} {k : Nat} (hk : k < K.length) : (opsOf K)[k]? = some K[k].1 := by simp [opsOf, hk]
set_option maxRecDepth 100000 in
set_option maxHeartbeats 4000000 in
theorem eqOps_any (v1 v2 : Value) (K1 K2 : List (Lk.Op × Value)) (w : World) (h1 : HasOps w v1 K1) (h2 : HasOps w v2 K2) (he : opsOf K1 = opsOf K2) :
    Calls Tryd.prog 47 #[v1, v2, .func (.func 48) #[] #[]] w fun e w' => e = .returned (.bool true) ∧ Below w.heap.size w w' := by
  have hl : K1.length = K2.length := by have := congrArg List.length he; rwa [opsOf_length, opsOf_length] at this
  obtain ⟨a1, d1, rfl, l1, f1⟩ := ops_form h1
  obtain ⟨a2, d2, rfl, l2, f2⟩ := ops_form h2
  have HF1 := hide f1
  have HF2 := hide f2
  have HSF : Hid (∀ k (k1 : k < K1.length) (k2 : k < K2.length) W, Below w.heap.size w W → Calls Tryd.prog 48 #[.agg #[.int .i64 K1[k].1.op, .int .i64 K1[k].1.n, K1[k].2], .agg #[.int .i64 K2[k].1.op, .int .i64 K2[k].1.n, K2[k].2]] W fun e w' => e = .returned (.bool true) ∧ Below W.heap.size W w') := hide (fun k k1 k2 W hW => by
    have e : K1[k].1 = K2[k].1 := by
      have e1 := opsOf_get k1
      have e2 := opsOf_get k2
      rw [he, e2] at e1
      exact (Option.some.inj e1).symm
    have y1 := (h1.2 K1[k] (List.getElem_mem k1))
    have y2 := (h2.2 K2[k] (List.getElem_mem k2))
    rw [e] at y1 ⊢
    exact sameF_any K2[k].1 _ _ W (y1.1.below hW) (y2.1.below hW) y2.2)
  have HSH : Hid (∀ k (k1 : k < K1.length), ∃ a n c, K1[k].2 = .slice a n c) := hide (fun k k1 => by obtain ⟨a, c, e, _, _⟩ := (h1.2 K1[k] (List.getElem_mem k1)).1.shape; exact ⟨_, _, _, e⟩)
  have HSH2 : Hid (∀ k (k1 : k < K2.length), ∃ a n c, K2[k].2 = .slice a n c) := hide (fun k k1 => by obtain ⟨a, c, e, _, _⟩ := (h2.2 K2[k] (List.getElem_mem k1)).1.shape; exact ⟨_, _, _, e⟩)
  have heg := call_sameF
  unfold maxLen at l1 l2
  rw [← hl] at l2 ⊢
  obtain ⟨n, hn⟩ : ∃ n, K1.length = n := ⟨_, rfl⟩
  have HN := hide hn
  have HN2 : Hid (K2.length = n) := hide (by rw [← hl, hn])
  rw [hn] at l1 l2 ⊢
  have hne : ((n : Int) != (n : Int)) = false := by simp
  clear f1 f2 h1 h2 he hl hn
  go_enter Tryd.func47, Tryd.ntmps47
  go_wp2
  go_loopw [17] (fun i wr => ∃ k : Nat, k ≤ n ∧ i = .int .i64 k ∧ Below w.heap.size w wr) (fun i _ => n - (intOf i).toNat)
  case atStart => exact ⟨0, Nat.zero_le _, rfl, Below.refl _ _⟩
  case round =>
    obtain ⟨k, hk, rfl, hbel⟩ := hrel
    have HBEL := hide hbel
    clear hbel
    by_cases hlt : k < n
    · have k1 : k < K1.length := by rw [HN.out]; exact hlt
      have k2 : k < K2.length := by rw [HN2.out]; exact hlt
      have hki : (k : Int) < (n : Int) := by omega
      obtain ⟨b1, o1, rfl, hc1, hm1, hb1, hq1, hr1, hx1⟩ := HF1.out k k1
      obtain ⟨b2, o2, rfl, hc2, hm2, hb2, hq2, hr2, hx2⟩ := HF2.out k k2
      rw [HN.out] at hc1
      rw [HN2.out] at hc2
      unfold maxLen at hm1 hm2
      have HCF := hide (HSF.out k k1 k2)
      obtain ⟨s1, n1, c1, e1⟩ := HSH.out k k1
      obtain ⟨s2, n2, c2, e2⟩ := HSH2.out k k2
      rw [e1, e2] at HCF
      rw [e1] at hx1
      rw [e2] at hx2
      obtain ⟨p1, hp1⟩ : ∃ x, x = K1[k].1.op := ⟨_, rfl⟩
      obtain ⟨q1, hq1'⟩ : ∃ x, x = K1[k].1.n := ⟨_, rfl⟩
      obtain ⟨p2, hp2⟩ : ∃ x, x = K2[k].1.op := ⟨_, rfl⟩
      obtain ⟨q2, hq2'⟩ : ∃ x, x = K2[k].1.n := ⟨_, rfl⟩
      rw [← hp1, ← hq1', ← hp2, ← hq2'] at HCF
      rw [← hp1] at hq1
      rw [← hq1'] at hr1
      rw [← hp2] at hq2
      rw [← hq2'] at hr2
      have HR1 : Hid (∀ W, Below w.heap.size w W → W.rangeAt b1 (o1 + k * 3) [.int .i64 p1, .int .i64 q1, .slice s1 n1 c1]) := hide (fun W hW => op_range (cell_belowU hq1 hW hb1) (cell_belowU hr1 hW hb1) (cell_belowU hx1 hW hb1))
      have HR2 : Hid (∀ W, Below w.heap.size w W → W.rangeAt b2 (o2 + k * 3) [.int .i64 p2, .int .i64 q2, .slice s2 n2 c2]) := hide (fun W hW => op_range (cell_belowU hq2 hW hb2) (cell_belowU hr2 hW hb2) (cell_belowU hx2 hW hb2))
      clear hq1 hr1 hx1 hq2 hr2 hx2 e1 e2 hp1 hq1' hp2 hq2'
      have HBC := hide (HBEL.out.trans ((below_alloc2 wr (.cells #[.int .i64 p1, .int .i64 q1, .slice s1 n1 c1] 108) (.cells #[.int .i64 p2, .int .i64 q2, .slice s2 n2 c2] 108)).mono HBEL.out.size))
      go_wp2_with (first
        | (refine wpList_load_part 108 [.int .i64 p1, .int .i64 q1, .slice s1 n1 c1] b1 (o1 + k * 3) rfl (.tmp 20) rfl rfl (HR1.out _ HBEL.out) Tryd.underlying108 rfl size_op rfl ?_)
        | (refine wpList_store_new 108 [.int .i64 0, .int .i64 0, .slice none 0 0] [.int .i64 p1, .int .i64 q1, .slice s1 n1 c1] wr size_op rfl rfl (by intro v hv; simp only [List.mem_cons, List.not_mem_nil, or_false] at hv; rcases hv with rfl | rfl | rfl <;> rfl) rfl (.tmp 8) (.tmp 21) rfl rfl rfl rfl ?_; have HBA := hide (below_alloc wr (.cells #[.int .i64 p1, .int .i64 q1, .slice s1 n1 c1] 108)); have HBB := hide (HBEL.out.trans (HBA.out.mono HBEL.out.size)))
        | (refine wpList_load_part 108 [.int .i64 p2, .int .i64 q2, .slice s2 n2 c2] b2 (o2 + k * 3) rfl (.tmp 24) rfl rfl (HR2.out _ HBB.out) Tryd.underlying108 rfl size_op rfl ?_)
        | (refine wpList_store_new 108 [.int .i64 0, .int .i64 0, .slice none 0 0] [.int .i64 p2, .int .i64 q2, .slice s2 n2 c2] (wr.alloc (.cells #[.int .i64 p1, .int .i64 q1, .slice s1 n1 c1] 108)) size_op rfl rfl (by intro v hv; simp only [List.mem_cons, List.not_mem_nil, or_false] at hv; rcases hv with rfl | rfl | rfl <;> rfl) rfl (.tmp 9) (.tmp 25) rfl rfl rfl rfl ?_))
      refine (HCF.out _ HBC.out).mono ?_
      rintro e w3 ⟨rfl, hb3⟩
      have HB3 := hide (HBC.out.trans (hb3.mono HBC.out.size))
      clear hb3
      go_wp2
      go_roundw
      case rel => exact ⟨k + 1, by omega, by go_num, HB3.out⟩
      case measure => simp [intOf]; omega
    · have hki : ¬ (k : Int) < (n : Int) := by omega
      go_wp2
      go_ret
      exact ⟨rfl, HBEL.out⟩
set_option maxHeartbeats 1000000 in
theorem sameOut_any (am : Int) (v1 v2 : Value) (K1 K2 : List (Lk.Op × Value)) (w : World) (h1 : HasOps w v1 K1) (h2 : HasOps w v2 K2) (he : opsOf K1 = opsOf K2) :
    Calls Tryd.prog 28 #[.agg #[.int .i64 am, v1], .agg #[.int .i64 am, v2]] w fun e w' => e = .returned (.bool true) ∧ Below w.heap.size w w' := by
  have HEQ := hide (fun W (hW : Below w.heap.size w W) => eqOps_any v1 v2 K1 K2 W (h1.below hW) (h2.below hW) he)
  obtain ⟨a1, n1, c1, rfl⟩ := hasOps_slice h1
  obtain ⟨a2, n2, c2, rfl⟩ := hasOps_slice h2
  clear h1 h2 he
  have HB0 := hide (below_alloc2 w (.cells #[.int .i64 am, .slice a1 n1 c1] 36) (.cells #[.int .i64 am, .slice a2 n2 c2] 36))
  go_enter Tryd.func28, Tryd.ntmps28
  go_wp2_with fail
  refine (HEQ.out _ HB0.out).mono ?_
  rintro e w1 ⟨rfl, hb1⟩
  have HB1 := hide (HB0.out.trans (hb1.mono HB0.out.size))
  clear hb1
  go_wp2
  go_ret
  exact ⟨rfl, HB1.out⟩
end Go.Proofs.YtpnkndagahchhaaDoor

/- coin.Undo, where all is right. -/
namespace Go.Proofs.YtpnkndagahchhaaDoor
open Go.RowKit
set_option linter.unusedVariables false
set_option linter.unusedSimpArgs false

theorem wpList_load_partU (t : TypeId) (c : List Value) (b off : Nat) {m : Nat} {d : TypeDesc} {w : World} {ops : Array Oper} {rest : List Oper} {o : Oper} {a : Act} {Q : Exit → Act → World → Prop} (hgd : Region.wanted o (yielded ops a.tmps) = true) (s : Operand) (ho : o.op = .load t s) (hs : a.eval s = .pointer (some ⟨b, off, none⟩))
    (hr : w.rangeAt b off c) (hu : Tryd.prog.underlying t = some d) (hd : d.isRow = true) (hz : Sized t m) (hc : c.length = m)
    (h : wpList Tryd.prog ops Q rest (a.put o.dst (.agg c.toArray)) w) : wpList Tryd.prog ops Q (o :: rest) a w := by
  refine wpList_step fun K hK => ?_
  rw [if_pos hgd]
  have hl := run_loadVar_mid (P := Tryd.prog) w b off t c d hr hu hd (by rw [hc]; exact hz)
  unfold Oper.wp
  simp only [execOp, ho, hs, Instr.loadAt, Instr.sureAddr, Sem.run_bind, Sem.run_pure, Result.andThen_ok, hl]
  exact hK _ _ h
theorem at_none (v : Value) (R : List CoinV) (x : CoinV) (W : World) (hR : HasCoins W v R) (hs : Cn.setF (R.map CoinV.it) = 0) {w0 : World} (hx : CoinOk w0 x) (hn : NoneAt R (Cn.place x.it)) :
    Calls Tryd.prog 17 #[v, .agg (vals x.tx ++ [Value.int .i64 x.at']).toArray] W fun e w' => e = .returned (.tuple #[.agg ZC.toArray, .bool false]) ∧ Below W.heap.size W w' := by
  refine (at_any v R x.tx x.at' W hR hs hx.1 hx.2.1).mono ?_
  rintro e w' ⟨h, hb⟩
  refine ⟨?_, hb⟩
  rcases h with ⟨y, hy, hp, _⟩ | ⟨_, rfl⟩
  · obtain ⟨j, hj, rfl⟩ := List.getElem_of_mem hy
    exact absurd hp (hn j hj)
  · rfl
theorem out_range {W : World} {g : Nat} {x : CoinV} (h : Is W g (coinCell x) 53) (h32 : x.tx.length = 32) : W.rangeAt g 33 [.int .i64 x.amount, x.lv] := by
  have h2 := is_range h
  rw [coin_parts, show ([.int .i64 x.amount, x.lv, .int .i64 x.height] : List Value) = [.int .i64 x.amount, x.lv] ++ [.int .i64 x.height] from rfl] at h2
  have h3 := (tx_range_part h2).2
  have h4 := (tx_range_part h3).1
  rw [show 0 + (vals x.tx ++ [Value.int .i64 x.at']).length = 33 from by simp [vals_length, h32]] at h4
  exact h4
set_option maxRecDepth 100000 in
set_option maxHeartbeats 4000000 in
theorem checkSpent_good (sv cv : Value) (S R : List CoinV) (t : TxV) (ia : Option Addr) (ic : Nat) (w : World) (hS : HasCoins w sv S) (hR : HasCoins w cv R) (hs : Cn.setF (R.map CoinV.it) = 0) (h40 : t.ins.length ≤ 40) (hl : S.length = t.ins.length)
    (hin : ∀ k (hk : k < t.ins.length) W, Below w.heap.size w W → ∃ b off, ia = some ⟨b, off, none⟩ ∧ t.ins.length ≤ ic ∧ ic ≤ maxLen ∧ b < w.heap.size ∧ W.rangeAt b (off + k * 34) (vals t.ins[k].tx ++ [.int .i64 t.ins[k].at', t.ins[k].kv]))
    (h32 : ∀ k (hk : k < t.ins.length), t.ins[k].tx.length = 32)
    (hp : ∀ k (hk : k < S.length) (hk2 : k < t.ins.length), Cn.place S[k].it = (t.ins[k].tx, t.ins[k].at')) (hno : ∀ x ∈ S, NoneAt R (Cn.place x.it)) :
    Calls Tryd.prog 29 #[sv, .slice ia t.ins.length ic, cv] w fun e w' => e = .returned .nilIface ∧ Below w.heap.size w w' := by
  obtain ⟨sa, sc, rfl, hsm, hsr⟩ := coins_form hS
  obtain ⟨ra, rc, rfl, _, _⟩ := coins_form hR
  have HSR := hide hsr
  have HIN := hide hin
  have HSO := hide hS.2
  have H32 := hide h32
  have HP := hide hp
  have HATS := hide (fun x (hx : x ∈ S) W (hW : Below w.heap.size w W) => at_none _ R x W (hR.below hW) hs (hS.2 x hx) (hno x hx))
  have hzc := zero_coin
  obtain ⟨Z, hZ⟩ : ∃ Z, Z = ZC := ⟨_, rfl⟩
  have hzc2 : ∀ w : World, (zeroValue 53).run Tryd.prog w = .ok (.agg Z.toArray) w := by rw [hZ]; exact hzc
  have hZl : Z.length = 36 := by rw [hZ]; simp [ZC, vals]
  have hZ1 : ∀ v ∈ Z, v.oneCell' = true := by rw [hZ]; exact coin_ones ⟨List.replicate 32 0, 0, 0, .slice none 0 0, [], 0⟩ ⟨_, _, _, rfl⟩
  have hZp : ¬ Z = [] := by intro h; rw [h] at hZl; cases hZl
  rw [← hZ] at HATS
  have HZL := hide hZl
  have HZ1 := hide hZ1
  have hgp := guard_place
  obtain ⟨il, hil⟩ : ∃ n, t.ins.length = n := ⟨_, rfl⟩
  have HIL := hide hil
  have HSL : Hid (S.length = il) := hide (by rw [hl, hil])
  rw [hl, hil] at hsm
  rw [hil] at h40
  obtain ⟨rl, hrl⟩ : ∃ n, R.length = n := ⟨_, rfl⟩
  rw [hrl] at HATS
  rw [hl, hil, hrl]
  clear hS hR hs hin h32 hp hno hsr hzc hZ hZl hZ1 hil hl hrl
  go_enter Tryd.func29, Tryd.ntmps29
  have hne : ((il : Int) != (il : Int)) = false := by simp
  go_wp2
  go_loopw [19] (fun i wr => ∃ k : Nat, k ≤ il ∧ i = .int .i64 k ∧ Below w.heap.size w wr) (fun i _ => il - (intOf i).toNat)
  case atStart => exact ⟨0, by omega, rfl, Below.refl _ _⟩
  case round =>
    obtain ⟨k, hk, rfl, hbel⟩ := hrel
    have HBEL := hide hbel
    clear hbel
    by_cases hltn : k < il
    · have hki : (k : Int) < (il : Int) := by omega
      have hlt : k < S.length := by rw [HSL.out]; exact hltn
      have hlt2 : k < t.ins.length := by rw [HIL.out]; exact hltn
      obtain ⟨sb, so, rfl, hc1, hc2, hbs, hri⟩ := HSR.out k hlt
      rw [HSL.out] at hc1
      obtain ⟨b, off, rfl, hd1, hd2, hbw, _⟩ := HIN.out k hlt2 wr HBEL.out
      rw [HIL.out] at hd1
      unfold maxLen at hc2 hd2
      obtain ⟨C, hC⟩ : ∃ C, C = coinCell S[k] := ⟨_, rfl⟩
      have hxo := HSO.out _ (List.getElem_mem hlt)
      have HCL : Hid (C.length = 36) := hide (by rw [hC]; exact coinCell_length _ hxo.1)
      have HC1 : Hid (∀ v ∈ C, v.oneCell' = true) := hide (by rw [hC]; exact coin_ones _ (hasOps_slice hxo.2.2))
      have hCp : ¬ C = [] := by intro h; have := HCL.out; rw [h] at this; cases this
      have HRC : Hid (wr.rangeAt sb (so + k * 36) C) := hide (by rw [hC]; exact range_keep hri HBEL.out hbs)
      obtain ⟨PK, hPK⟩ : ∃ P, P = vals S[k].tx ++ [Value.int .i64 S[k].at'] := ⟨_, rfl⟩
      obtain ⟨PT, hPT⟩ : ∃ P, P = vals t.ins[k].tx ++ [Value.int .i64 t.ins[k].at'] := ⟨_, rfl⟩
      have HPKL : Hid (PK.length = 33) := hide (by rw [hPK]; simp [vals_length, hxo.1])
      have hPKp : ¬ PK = [] := by intro h; have := HPKL.out; rw [h] at this; cases this
      have ht32 := H32.out k hlt2
      have hszk : (Tryd.prog.info? 43).map (·.size) = some PK.length := by rw [HPKL.out]; exact size_placeC
      have hszt : (Tryd.prog.info? 43).map (·.size) = some PT.length := by rw [hPT, List.length_append, vals_length, ht32]; exact size_placeC
      have hq : ∀ w', (Op.equalIn 10000 43 (.agg PK.toArray) (.agg PT.toArray)).run Tryd.prog w' = .ok true w' := fun w' => by
        have e := HP.out k hlt hlt2
        have e1 : S[k].tx = t.ins[k].tx := congrArg Prod.fst e
        have e2 : S[k].at' = t.ins[k].at' := congrArg Prod.snd e
        rw [hPK, hPT]
        exact (place_eq _ _ _ _ hxo.1 ht32 w').trans (congrArg (fun b => Result.ok b w') (decide_eq_true ⟨e1, e2⟩))
      have HAT := hide (HATS.out S[k] (List.getElem_mem hlt))
      rw [← hPK] at HAT
      have HPRK : Hid (∀ W, Is W wr.heap.size C 53 → W.rangeAt wr.heap.size 0 PK) := hide (fun W hW => by rw [hC] at hW; rw [hPK]; exact place_rangeS hW)
      have HPRT : Hid (∀ W, Below w.heap.size w W → W.rangeAt b (off + k * 34) PT) := hide (fun W hW => by
        obtain ⟨b', off', e, _, _, _, hr⟩ := HIN.out k hlt2 W hW
        injection e with e; injection e with e1 e2; subst e1 e2
        rw [hPT]
        exact (tx_range_part (c := [t.ins[k].kv]) (by rw [List.append_assoc]; exact hr)).1)
      clear hC hPK hPT hxo hri ht32
      go_wp2_with (first
        | (refine wpList_load_part 53 C sb (so + k * 36) rfl (.tmp 22) rfl rfl HRC.out Tryd.underlying53 rfl size_coin HCL.out ?_)
        | (refine wpList_store_any3 53 Z C wr.heap.size rfl (.tmp 8) (.tmp 23) rfl rfl rfl rfl (Is.new wr _ _) size_coin HZL.out HCL.out HC1.out ?_; intro w3 hi3 hw3; have hb3 : Below wr.heap.size wr w3 := (by rw [hw3]; exact ck_new); have HI3 := hide hi3; have HBW3 := hide (HBEL.out.trans (hb3.mono HBEL.out.size)); clear hi3 hw3 hb3))
      have HRK : Hid (w3.drew.rangeAt wr.heap.size 0 PK) := hide (HPRK.out _ HI3.out.drew)
      have HRT : Hid (w3.drew.rangeAt b (off + k * 34) PT) := hide (HPRT.out _ HBW3.out.drew)
      refine wp_region_held_drew (S := fun W : World => W.rangeAt wr.heap.size 0 PK ∧ W.rangeAt b (off + k * 34) PT ∧ Hid (Below w3.heap.size w3 W)) (by kernel_rfl) ?_ (fun hHeld0 => ?_)
      · exact ⟨HRK.out, HRT.out, hide (Below.refl _ _).drew⟩
      refine wpAnyH_take (i := 0) (v := ?_) rfl (by kernel_rfl) (by kernel_rfl) (by kernel_rfl) (fun _ _ _ h => h) (Or.inl ⟨by rfl, ?_⟩) hHeld0 ?_
      rotate_left
      · (intro w hSw; (try dsimp only at hSw); go_simp <;> (try with_reducible rfl))
      simp only [Act.put, List.getElem_toArray, List.getElem_cons_zero, List.getElem_cons_succ, List.setIfInBounds_toArray, List.set_cons_zero, List.set_cons_succ]
      refine wpAnyH_take (i := 1) (v := .agg (PK).toArray) rfl (by kernel_rfl) (by kernel_rfl) (by kernel_rfl) (fun _ _ _ h => h) (yieldsIf_load_mid (by rfl) _ _ rfl _ _ rfl (PK) _ (fun w hSw => hSw.1) Tryd.underlying43 rfl hszk) hHeld0 ?_
      simp only [Act.put, List.getElem_toArray, List.getElem_cons_zero, List.getElem_cons_succ, List.setIfInBounds_toArray, List.set_cons_zero, List.set_cons_succ]
      refine wpAnyH_take (i := 2) (v := ?_) rfl (by kernel_rfl) (by kernel_rfl) (by kernel_rfl) (fun _ _ _ h => h) (Or.inl ⟨by rfl, ?_⟩) hHeld0 ?_
      rotate_left
      · (intro w hSw; (try dsimp only at hSw); go_simp <;> (try with_reducible rfl))
      simp only [Act.put, List.getElem_toArray, List.getElem_cons_zero, List.getElem_cons_succ, List.setIfInBounds_toArray, List.set_cons_zero, List.set_cons_succ]
      refine wpAnyH_take (i := 3) (v := ?_) rfl (by kernel_rfl) (by kernel_rfl) (by kernel_rfl) (fun _ _ _ h => h) (Or.inl ⟨by rfl, ?_⟩) hHeld0 ?_
      rotate_left
      · (intro w hSw; (try dsimp only at hSw); go_simp <;> (try with_reducible rfl))
      simp only [Act.put, List.getElem_toArray, List.getElem_cons_zero, List.getElem_cons_succ, List.setIfInBounds_toArray, List.set_cons_zero, List.set_cons_succ]
      refine wpAnyH_take (i := 4) (v := ?_) rfl (by kernel_rfl) (by kernel_rfl) (by kernel_rfl) (fun _ _ _ h => h) (Or.inl ⟨by rfl, ?_⟩) hHeld0 ?_
      rotate_left
      · (intro w hSw; (try dsimp only at hSw); go_simp <;> (try with_reducible rfl))
      simp only [Act.put, List.getElem_toArray, List.getElem_cons_zero, List.getElem_cons_succ, List.setIfInBounds_toArray, List.set_cons_zero, List.set_cons_succ]
      refine wpAnyH_take (i := 5) (v := ?_) rfl (by kernel_rfl) (by kernel_rfl) (by kernel_rfl) (fun _ _ _ h => h) (Or.inl ⟨by rfl, ?_⟩) hHeld0 ?_
      rotate_left
      · (intro w hSw; (try dsimp only at hSw); go_simp <;> (try with_reducible rfl))
      simp only [Act.put, List.getElem_toArray, List.getElem_cons_zero, List.getElem_cons_succ, List.setIfInBounds_toArray, List.set_cons_zero, List.set_cons_succ]
      refine wpAnyH_take (i := 6) (v := .agg (PT).toArray) rfl (by kernel_rfl) (by kernel_rfl) (by kernel_rfl) (fun _ _ _ h => h) (yieldsIf_load_mid (by rfl) _ _ rfl _ _ rfl (PT) _ (fun w hSw => hSw.2.1) Tryd.underlying43 rfl hszt) hHeld0 ?_
      simp only [Act.put, List.getElem_toArray, List.getElem_cons_zero, List.getElem_cons_succ, List.setIfInBounds_toArray, List.set_cons_zero, List.set_cons_succ]
      refine wpAnyH_take (i := 7) (v := ?_) rfl (by kernel_rfl) (by kernel_rfl) (by kernel_rfl) (fun _ _ _ h => h) (Or.inl ⟨by rfl, ?_⟩) hHeld0 ?_
      rotate_left
      · (intro w hSw; (try dsimp only at hSw); go_simp <;> (try with_reducible rfl))
      simp only [Act.put, List.getElem_toArray, List.getElem_cons_zero, List.getElem_cons_succ, List.setIfInBounds_toArray, List.set_cons_zero, List.set_cons_succ]
      refine wpAnyH_done (by kernel_rfl) ?_ _
      have HB4 := hide (hHeld0.2.2.out)
      have HRK4 : Hid (w3.drew.rangeAt wr.heap.size 0 PK) := hide hHeld0.1
      clear hHeld0
      go_wp2_with (refine wpList_load_part 43 PK wr.heap.size 0 rfl (.tmp 35) rfl rfl HRK4.out Tryd.underlying43 rfl size_placeC HPKL.out ?_)
      refine (HAT.out _ HBW3.out.drew).mono ?_
      rintro e w5 ⟨rfl, hb5⟩
      have HBW5 := hide (HBW3.out.drew.trans (hb5.mono HBW3.out.drew.size))
      clear hb5 hq
      go_wp2_with (refine wpList_store_any3 53 Z Z w5.heap.size rfl (.tmp 9) (.tmp 38) rfl rfl rfl rfl (Is.new w5 _ _) size_coin HZL.out HZL.out HZ1.out ?_; intro w6 hi6 hw6; have hb6 : Below w5.heap.size w5 w6 := (by rw [hw6]; exact ck_new); have HBW6 := hide (HBW5.out.trans (hb6.mono HBW5.out.size)); clear hi6 hw6 hb6)
      go_roundw
      case rel => exact ⟨k + 1, by omega, by go_num, HBW6.out⟩
      case measure => simp [intOf]; omega
    · have hki : ¬ (k : Int) < (il : Int) := by omega
      go_wp2
      go_ret
      exact ⟨rfl, HBEL.out⟩
theorem newsV_get (id : List Int) (h : Int) : ∀ (j : Nat) (l : List OutV) (k : Nat) (hk : k < l.length), (newsV id h j l)[k]? = some (newV id h (j + k) l[k])
  | j, [], k, hk => absurd hk (by simp)
  | j, o :: r, 0, hk => rfl
  | j, o :: r, k + 1, hk => by
    have := newsV_get id h (j + 1) r k (by simpa using hk)
    rw [show j + 1 + k = j + (k + 1) from by omega] at this
    simpa [newsV] using this
theorem undo_perm {R S X : List CoinV} {N : List CoinV} {t : Tm.Tx} {L : List Cn.Coin} (hN : N.map CoinV.it = Cn.news t 0) (hX : X.Perm (keep (placesOf N) R ++ S)) (hr : Rising X) (hL : Cn.setF L = 0) (hp : (Cn.less (R.map CoinV.it) (Cn.news t 0) ++ S.map CoinV.it).Perm L) : X.map CoinV.it = L := by
  have h1 : (X.map CoinV.it).Perm L := by
    refine (hX.map CoinV.it).trans ?_
    rw [List.map_append, keep_less, hN]
    exact hp
  refine Cn.ord_unique (Cn.ord_strict (fun i j hi hj => ?_) ?_) (Cn.set_ord hL) h1
  · have := hr i j hi (by simpa using hj)
    simpa using this
  · exact ((h1.map Cn.place).nodup_iff).2 (Cn.ord_nodup (Cn.set_ord hL))
set_option maxRecDepth 100000 in
set_option maxHeartbeats 8000000 in
theorem undo_good (cv sv : Value) (R S : List CoinV) (t : TxV) (L : List Cn.Coin) (w : World) (hR : HasCoins w cv R) (hS : HasCoins w sv S) (ht : HasTx w t) (hT : Tab w) (hw : 0 < w.heap.size) (hs : Cn.setF (R.map CoinV.it) = 0) (hk : Tm.check t.it = 0)
    (hnw : ∀ k (hk : k < t.outs.length), ∃ x ∈ R, Cn.place x.it = (Tm.id t.it, (k : Int)) ∧ x.amount = t.outs[k].amount ∧ opsOf x.L = opsOf t.outs[k].L)
    (hl : S.length = t.ins.length) (hp : ∀ k (hk : k < S.length) (hk2 : k < t.ins.length), Cn.place S[k].it = (t.ins[k].tx, t.ins[k].at')) (hno : ∀ x ∈ S, NoneAt R (Cn.place x.it))
    (hL : Cn.setF L = 0) (hperm : (Cn.less (R.map CoinV.it) (Cn.news t.it 0) ++ S.map CoinV.it).Perm L) :
    Calls Tryd.prog 11 #[cv, t.val, sv] w fun e w' => (∃ v X, e = .returned (.tuple #[v, .nilIface]) ∧ HasCoins w' v X ∧ X.map CoinV.it = L) ∧ Below w.heap.size w w' := by
  obtain ⟨ia, ic, oa, oc, ft⟩ := tx_form ht
  have h40 := (tx_small hk).1
  have hO40 := (tx_small hk).2
  have hR1000 : R.length ≤ 1000 := by have := (Cn.setF_zero hs).1; rwa [List.length_map] at this
  have hRat : ∀ x ∈ R, 0 ≤ x.at' ∧ x.at' < 40 := fun x hx => coinF_at ((Cn.setF_zero hs).2.1 _ (List.mem_map.2 ⟨x, hx, rfl⟩))
  have HCK := hide (fun W (hW : Below w.heap.size w W) => ccheck_any _ R W (hR.below hW))
  rw [hs, show errV 0 = .nilIface from rfl] at HCK
  have HOC := hide (fun W (hW : Below w.heap.size w W) => ownCoins_any t 0 W (ht.below hW) (hT.below hW hw) (Nat.lt_of_lt_of_le hw hW.size))
  simp only [OwTold, if_pos hk] at HOC
  have HNK := hide (fun W (hW : Below w.heap.size w W) => news_ok (ht.below hW) 0)
  have hNF := news_coinF hk (h := 0) (by omega)
  have hNit := news_it t 0
  have hNl := newsV_length (Tm.id t.it) 0 0 t.outs
  have hNg : ∀ k (hk : k < t.outs.length), (newsV (Tm.id t.it) 0 0 t.outs)[k]? = some (newV (Tm.id t.it) 0 k t.outs[k]) := fun k hk => by
    have := newsV_get (Tm.id t.it) 0 0 t.outs k hk
    rwa [Nat.zero_add] at this
  obtain ⟨N, hN⟩ : ∃ N, N = newsV (Tm.id t.it) 0 0 t.outs := ⟨_, rfl⟩
  rw [← hN] at HOC HNK hNF hNit hNl hNg
  have HNAT : Hid (∀ x ∈ N, 0 ≤ x.at' ∧ x.at' < 40) := hide (fun x hx => (hNF x hx).2)
  have HNIT := hide hNit
  have HLZ := hide hL
  -- each coin of its own is there, and its out is the same
  have HAT : Hid (∀ k (hk : k < N.length) W, Below w.heap.size w W → Calls Tryd.prog 17 #[cv, .agg (vals N[k].tx ++ [Value.int .i64 N[k].at']).toArray] W fun e w' => (∃ x : CoinV, e = .returned (.tuple #[.agg (coinCell x).toArray, .bool true]) ∧ CoinOk w' x ∧ x.amount = N[k].amount ∧ opsOf x.L = opsOf N[k].L) ∧ Below W.heap.size W w') := hide (fun k hk W hW => by
    have hk2 : k < t.outs.length := by rw [← hNl]; exact hk
    have e := hNg k hk2
    rw [List.getElem?_eq_getElem hk] at e
    have e := Option.some.inj e
    have ho := HNK.out W hW _ (List.getElem_mem hk)
    have hat := at_any cv R N[k].tx N[k].at' W (hR.below hW) hs ho.1 ho.2.1
    refine hat.mono ?_
    rintro e2 w2 ⟨h2, hb2⟩
    refine ⟨?_, hb2⟩
    obtain ⟨y, hy, hyp, hya, hyl⟩ := hnw k hk2
    have hpl : Cn.place N[k].it = (Tm.id t.it, (k : Int)) := by rw [e]; rfl
    rcases h2 with ⟨x, hx, hxp, rfl⟩ | ⟨hn, _⟩
    · have hxy : x.it = y.it := Cn.same_of_place (Cn.ord_nodup (Cn.set_ord hs)) (List.mem_map.2 ⟨x, hx, rfl⟩) (List.mem_map.2 ⟨y, hy, rfl⟩) (hxp.trans (hpl.trans hyp.symm))
      refine ⟨x, rfl, ((hR.below hW).below hb2).2 x hx, ?_, ?_⟩
      · rw [show x.amount = y.amount from congrArg Cn.Coin.amount hxy, hya, e]; rfl
      · rw [show opsOf x.L = opsOf y.L from congrArg Cn.Coin.lock hxy, hyl, e]; rfl
    · obtain ⟨j, hj, rfl⟩ := List.getElem_of_mem hy
      exact absurd (hyp.trans hpl.symm) (hn j hj))
  have HCS := hide (fun W (hW : Below w.heap.size w W) => checkSpent_good sv cv S R t ia ic W (hS.below hW) (hR.below hW) hs h40 hl (fun k hk W' hW' => by
    obtain ⟨b, off, e, h1, h2, h3, h4⟩ := ft.ins k hk W' (hW.trans (hW'.mono hW.size))
    exact ⟨b, off, e, h1, h2, Nat.lt_of_lt_of_le h3 hW.size, h4⟩) ft.tx hp hno)
  have HXG : Hid (∀ nv W, Below w.heap.size w W → HasCoins W nv N → Calls Tryd.prog 18 #[cv, nv, sv] W fun e w' => (∃ v X, e = .returned v ∧ HasCoins w' v X ∧ X.map CoinV.it = L ∧ X.length ≤ 1000 ∧ ∀ x ∈ X, Cn.coinF x.it = 0) ∧ Below W.heap.size W w') := hide (fun nv W hW hnv => by
    have key : ∀ e w', XgTold R S (placesOf N) e w' ∧ Below W.heap.size W w' → (∃ v X, e = .returned v ∧ HasCoins w' v X ∧ X.map CoinV.it = L ∧ X.length ≤ 1000 ∧ ∀ x ∈ X, Cn.coinF x.it = 0) ∧ Below W.heap.size W w' := by
      rintro e w' ⟨⟨v, X, rfl, hX, hXp, hXr⟩, hb⟩
      have hit := undo_perm hNit hXp hXr hL hperm
      obtain ⟨z1, z2, _⟩ := Cn.setF_zero hL
      rw [← hit] at z1 z2
      rw [List.length_map] at z1
      exact ⟨⟨v, X, rfl, hX, hit, z1, fun x hx => z2 _ (List.mem_map.2 ⟨x, hx, rfl⟩)⟩, hb⟩
    by_cases h0 : S.length = 0
    · exact (exchange_none cv nv sv R N S W (hR.below hW) hnv (hS.below hW) hR1000 (by rw [hNl]; omega) (by omega) h0 hRat (fun x hx => (hNF x hx).2)).mono key
    · exact (exchange_any cv nv sv R N S W (hR.below hW) hnv (hS.below hW) hR1000 (by rw [hNl]; omega) (by omega) (by omega) hRat (fun x hx => (hNF x hx).2)).mono key)
  have HVT := hide ft.val
  have hilm := ft.il
  have holm := ft.ol
  obtain ⟨ra, rc, rfl, _, _⟩ := coins_form hR
  obtain ⟨sa, sc, rfl, _, _⟩ := coins_form hS
  obtain ⟨il, hil⟩ : ∃ n, t.ins.length = n := ⟨_, rfl⟩
  obtain ⟨ol, hol⟩ : ∃ n, t.outs.length = n := ⟨_, rfl⟩
  obtain ⟨rl, hrl⟩ : ∃ n, R.length = n := ⟨_, rfl⟩
  obtain ⟨sl, hsl⟩ : ∃ n, S.length = n := ⟨_, rfl⟩
  obtain ⟨tt, htt⟩ : ∃ n, t.time = n := ⟨_, rfl⟩
  rw [hil, hol, htt] at HVT
  rw [HVT.out] at HOC
  rw [hol] at HOC hNl hO40
  rw [hrl] at HCK HAT HCS HXG
  rw [hsl, hil] at HCS
  rw [hsl] at HXG
  rw [HVT.out, hrl, hsl]
  have HB0 := hide (below_alloc w (.cells #[.slice ia il ic, .slice oa ol oc, .int .i64 tt] 26))
  have HI0 := hide (Is.new w [.slice ia il ic, .slice oa ol oc, .int .i64 tt] 26)
  have HNL := hide hNl
  have hzc := zero_coin
  obtain ⟨Z, hZ⟩ : ∃ Z, Z = ZC := ⟨_, rfl⟩
  have hzc2 : ∀ w : World, (zeroValue 53).run Tryd.prog w = .ok (.agg Z.toArray) w := by rw [hZ]; exact hzc
  have hZl : Z.length = 36 := by rw [hZ]; simp [ZC, vals]
  have hZp : ¬ Z = [] := by intro h; rw [h] at hZl; cases hZl
  have HZL := hide hZl
  clear hR hS ht hT hw hs hk hnw hl hp hno hL hperm ft h40 hR1000 hRat hNF hNit hNl hNg hN hil hol hrl hsl htt hzc hZ hZl hilm
  go_enter Tryd.func11, Tryd.ntmps11
  go_wp2_with fail
  refine (HCK.out _ HB0.out).mono ?_
  rintro e w1 ⟨rfl, hb1⟩
  have HI1 := hide (HI0.out.below hb1 HI0.out.lt)
  have HB1 := hide (HB0.out.trans (hb1.mono HB0.out.size))
  clear hb1
  go_wp2_with (refine wpList_load_part 26 [.slice ia il ic, .slice oa ol oc, .int .i64 tt] w.heap.size 0 rfl (.tmp 4) rfl rfl (is_range HI1.out) Tryd.underlying26 rfl size_tx rfl ?_)
  refine (HOC.out _ HB1.out).mono ?_
  rintro e w2 ⟨⟨ov, rfl, hov⟩, hb2⟩
  have HI2 := hide (HI1.out.below hb2 HI1.out.lt)
  have HB2 := hide (HB1.out.trans (hb2.mono HB1.out.size))
  obtain ⟨va, vc, hv⟩ := owns_form hov
  subst hv
  have HN2 : Hid (HasCoins w2 (.slice va ol vc) N) := hide (coins_of_row hov HNL.out (fun x hx => HNK.out w2 HB2.out x hx))
  clear hb2 hov HOC
  have HNR : Hid (∀ k (hk : k < N.length), ∃ b off, va = some ⟨b, off, none⟩ ∧ N.length ≤ vc ∧ vc ≤ maxLen ∧ b < w2.heap.size ∧ w2.rangeAt b (off + k * 36) (coinCell N[k])) := hide (by
    obtain ⟨a', c', he, _, hrr⟩ := coins_form HN2.out
    injection he with e1 e2 e3
    subst e1 e3
    exact hrr)
  go_wp2
  go_loopw [33] (fun i wr => ∃ k : Nat, k ≤ ol ∧ i = .int .i64 k ∧ Below w2.heap.size w2 wr) (fun i _ => ol - (intOf i).toNat)
  case atStart => exact ⟨0, by omega, rfl, Below.refl _ _⟩
  case round =>
    obtain ⟨k, hk, rfl, hbel⟩ := hrel
    have HBEL := hide hbel
    have HBW := hide (HB2.out.trans (hbel.mono HB2.out.size))
    clear hbel
    by_cases hltn : k < ol
    · have hki : (k : Int) < (ol : Int) := by omega
      have hlt : k < N.length := by rw [HNL.out]; exact hltn
      obtain ⟨b, off, rfl, hc1, hc2, hb, hri⟩ := HNR.out k hlt
      rw [HNL.out] at hc1
      obtain ⟨C, hC⟩ : ∃ C, C = coinCell N[k] := ⟨_, rfl⟩
      obtain ⟨PK, hPK⟩ : ∃ C, C = vals N[k].tx ++ [Value.int .i64 N[k].at'] := ⟨_, rfl⟩
      have hxo := HNK.out wr HBW.out _ (List.getElem_mem hlt)
      have HCLN : Hid (C.length = 36) := hide (by rw [hC]; exact coinCell_length _ hxo.1)
      have HC1 : Hid (∀ v ∈ C, v.oneCell' = true) := hide (by rw [hC]; exact coin_ones _ (hasOps_slice hxo.2.2))
      have HPKL : Hid (PK.length = 33) := hide (by rw [hPK]; simp [vals_length, hxo.1])
      have hCp : ¬ C = [] := by intro h; have := HCLN.out; rw [h] at this; cases this
      have hPKp : ¬ PK = [] := by intro h; have := HPKL.out; rw [h] at this; cases this
      have HRC : Hid (wr.rangeAt b (off + k * 36) C) := hide (by rw [hC]; exact range_keep hri HBEL.out hb)
      have HPR : Hid (∀ W, Is W wr.heap.size C 53 → W.rangeAt wr.heap.size 0 PK) := hide (fun W hW => by rw [hC] at hW; rw [hPK]; exact place_rangeS hW)
      have HATK := hide (fun W hW => HAT.out k hlt W hW)
      rw [← hPK] at HATK
      obtain ⟨l1, l2, l3, hlv⟩ := hasOps_slice hxo.2.2
      obtain ⟨OC, hOC⟩ : ∃ O, O = [Value.int .i64 N[k].amount, N[k].lv] := ⟨_, rfl⟩
      have HOCL : Hid (OC.length = 2) := hide (by rw [hOC]; rfl)
      have hOCp : ¬ OC = [] := by intro h; have := HOCL.out; rw [h] at this; cases this
      have HRO : Hid (∀ W, Is W wr.heap.size C 53 → W.rangeAt wr.heap.size 33 OC) := hide (fun W hW => by rw [hC] at hW; rw [hOC]; exact out_range hW hxo.1)
      have HLT := hide hlt
      clear hC hPK hxo hri hlv
      go_wp2_with (first
        | (refine wpList_load_part 53 C b (off + k * 36) rfl (.tmp 35) rfl rfl HRC.out Tryd.underlying53 rfl size_coin HCLN.out ?_)
        | (refine wpList_store_any3 53 Z C wr.heap.size rfl (.tmp 12) (.tmp 36) rfl rfl rfl rfl (Is.new wr _ _) size_coin HZL.out HCLN.out HC1.out ?_; intro w6 hi6 hw6; have hb6 : Below wr.heap.size wr w6 := (by rw [hw6]; exact ck_new); have HI6 := hide hi6; have HB6 := hide hb6; have HBW6 := hide (HBW.out.trans (hb6.mono HBW.out.size)); clear hi6 hw6 hb6)
        | (refine wpList_load_part 43 PK wr.heap.size 0 rfl (.tmp 39) rfl rfl (HPR.out _ HI6.out) Tryd.underlying43 rfl size_placeC HPKL.out ?_))
      refine (HATK.out _ HBW6.out).mono ?_
      rintro e w7 ⟨⟨x, rfl, hxk, hxa, hxl⟩, hb7⟩
      have HI7 := hide (HI6.out.below hb7 HI6.out.lt)
      have HB7 := hide hb7
      have HBW7 := hide (HBW6.out.trans (hb7.mono HBW6.out.size))
      obtain ⟨X, hX⟩ : ∃ C, C = coinCell x := ⟨_, rfl⟩
      have HXL : Hid (X.length = 36) := hide (by rw [hX]; exact coinCell_length _ hxk.1)
      have HX1 : Hid (∀ v ∈ X, v.oneCell' = true) := hide (by rw [hX]; exact coin_ones _ (hasOps_slice hxk.2.2))
      have hXp : ¬ X = [] := by intro h; have := HXL.out; rw [h] at this; cases this
      obtain ⟨OX, hOX⟩ : ∃ O, O = [Value.int .i64 x.amount, x.lv] := ⟨_, rfl⟩
      have HOXL : Hid (OX.length = 2) := hide (by rw [hOX]; rfl)
      have hOXp : ¬ OX = [] := by intro h; have := HOXL.out; rw [h] at this; cases this
      have HRX : Hid (∀ W, Is W w7.heap.size X 53 → W.rangeAt w7.heap.size 33 OX) := hide (fun W hW => by rw [hX] at hW; rw [hOX]; exact out_range hW hxk.1)
      have HSA : Hid (∀ W, Below w7.heap.size w7 W → Calls Tryd.prog 28 #[.agg OX.toArray, .agg OC.toArray] W fun e w' => e = .returned (.bool true) ∧ Below W.heap.size W w') := hide (fun W hW => by
        have hn := HNK.out W (HBW7.out.trans (hW.mono HBW7.out.size)) _ (List.getElem_mem HLT.out)
        rw [hOX, hOC, hxa]
        exact sameOut_any N[k].amount x.lv N[k].lv x.L N[k].L W (hxk.2.2.below hW) hn.2.2 hxl)
      rw [← hX]
      clear hX hxk hxa hxl hb7 hOX hOC
      go_wp2_with (first
        | (refine wpList_store_any3 53 Z X w7.heap.size rfl (.tmp 13) (.tmp 42) rfl rfl rfl rfl (Is.new w7 _ _) size_coin HZL.out HXL.out HX1.out ?_; intro w8 hi8 hw8; have hb8 : Below w7.heap.size w7 w8 := (by rw [hw8]; exact ck_new); have HI8 := hide hi8; have HB8 := hide hb8; have HC8 := hide (HI7.out.below hb8 HI7.out.lt); have HBW8 := hide (HBW7.out.trans (hb8.mono HBW7.out.size)); clear hi8 hw8 hb8)
        | (refine wpList_load_partU 36 OX w7.heap.size 33 (by rfl) (.tmp 47) rfl rfl (HRX.out _ HI8.out) Tryd.underlying36 rfl size_out HOXL.out ?_)
        | (refine wpList_load_partU 36 OC wr.heap.size 33 (by rfl) (.tmp 49) rfl rfl (HRO.out _ HC8.out) Tryd.underlying36 rfl size_out HOCL.out ?_))
      refine (HSA.out _ HB8.out).mono ?_
      rintro e w9 ⟨rfl, hb9⟩
      have HBW9 := hide (HBW8.out.trans (hb9.mono HBW8.out.size))
      have HB29 : Hid (Below w2.heap.size w2 w9) := hide (HBEL.out.trans ((HB6.out.trans ((HB7.out.trans ((HB8.out.trans (hb9.mono HB8.out.size)).mono HB7.out.size)).mono HB6.out.size)).mono HBEL.out.size))
      clear hb9
      go_wp2
      go_roundw
      case rel => exact ⟨k + 1, by omega, by go_num, HB29.out⟩
      case measure => simp [intOf]; omega
    · have hki : ¬ (k : Int) < (ol : Int) := by omega
      obtain ⟨w10, rfl⟩ : ∃ wA, wA = wr := ⟨_, rfl⟩
      have HI10 := hide (HI2.out.below HBEL.out HI2.out.lt)
      have HN10 := hide (HN2.out.below HBEL.out)
      have hcI := HI10.out.cell 0
      simp only [List.getElem?_cons_zero, List.getElem?_cons_succ] at hcI
      go_wp2_with fail
      refine (HCS.out _ HBW.out).mono ?_
      rintro e w11 ⟨rfl, hb11⟩
      have HBW11 := hide (HBW.out.trans (hb11.mono HBW.out.size))
      have HN11 := hide (HN10.out.below hb11)
      clear hb11 hcI
      go_wp2_with fail
      refine (HXG.out _ _ HBW11.out HN11.out).mono ?_
      rintro e w12 ⟨⟨v, X, rfl, hX, hXi, hXl, hXf⟩, hb12⟩
      have HBW12 := hide (HBW11.out.trans (hb12.mono HBW11.out.size))
      have HXX := hide hX
      have HCX := hide (ccheck_any v X w12 hX)
      rw [hXi, HLZ.out, show errV 0 = .nilIface from rfl] at HCX
      have HXI := hide hXi
      have HXF := hide hXf
      obtain ⟨xa, xc, rfl, _, _⟩ := coins_form hX
      have HCA := hide (fun W (hW : Below w12.heap.size w12 W) => cloneAll_any (.slice xa X.length xc) X W (HXX.out.below hW) (by omega) (fun x hx => coin_small (HXF.out x hx)))
      obtain ⟨xl, hxl⟩ : ∃ n, X.length = n := ⟨_, rfl⟩
      rw [hxl] at HCX HCA ⊢
      clear hb12 hX hXi hXf hxl
      go_wp2_with fail
      refine HCX.out.mono ?_
      rintro e w13 ⟨rfl, hb13⟩
      have HBW13 := hide (HBW12.out.trans (hb13.mono HBW12.out.size))
      go_wp2_with fail
      refine (HCA.out _ hb13).mono ?_
      rintro e w14 ⟨⟨v14, X14, rfl, hX14, hh14⟩, hb14⟩
      have HBW14 := hide (HBW13.out.trans (hb14.mono HBW13.out.size))
      clear hb13
      go_wp2
      exact bodyPost_ret (v := .tuple #[v14, .nilIface]) (by simp [results, Tryd.results11, go_sem]) rfl ⟨⟨v14, X14, rfl, hh14, by rw [hX14, HXI.out]⟩, HBW14.out⟩
end Go.Proofs.YtpnkndagahchhaaDoor

/- CoinBack: what is undone was not done. -/
namespace Go.Proofs.YtpnkndagahchhaaDoor
open Go.RowKit
set_option linter.unusedVariables false
set_option linter.unusedSimpArgs false

theorem back_new {R X : List CoinV} {t : TxV} {h : Int} {G : List Cn.Coin} (g : Cn.Good (R.map CoinV.it) t.it h G) (hX : X.map CoinV.it = Cn.merged (Cn.less (R.map CoinV.it) G) (Cn.news t.it h)) : ∀ k (hk : k < t.outs.length), ∃ x ∈ X, Cn.place x.it = (Tm.id t.it, (k : Int)) ∧ x.amount = t.outs[k].amount ∧ opsOf x.L = opsOf t.outs[k].L := fun k hk => by
  have hk2 : k < t.it.outs.length := by simpa [TxV.it] using hk
  have he : t.it.outs[k] = t.outs[k].it := by simp [TxV.it]
  have hm := g.has hk2
  rw [← hX, he] at hm
  obtain ⟨x, hx, e⟩ := List.mem_map.1 hm
  exact ⟨x, hx, by rw [e]; rfl, congrArg Cn.Coin.amount e, congrArg Cn.Coin.lock e⟩
theorem back_places {l G : List Cn.Coin} {S : List CoinV} {t : TxV} {h : Int} (g : Cn.Good l t.it h G) (hS : S.map CoinV.it = G) : ∀ k (hk : k < S.length) (hk2 : k < t.ins.length), Cn.place S[k].it = (t.ins[k].tx, t.ins[k].at') := fun k hk hk2 => by
  have e := g.places
  rw [← hS, places_it] at e
  have e2 := congrArg (fun l => l[k]?) e
  simpa [List.getElem?_eq_getElem hk, List.getElem?_eq_getElem hk2] using e2
theorem back_none {R X S : List CoinV} {t : TxV} {h : Int} {G : List Cn.Coin} (g : Cn.Good (R.map CoinV.it) t.it h G) (hX : X.map CoinV.it = Cn.merged (Cn.less (R.map CoinV.it) G) (Cn.news t.it h)) (hS : S.map CoinV.it = G) : ∀ x ∈ S, NoneAt X (Cn.place x.it) := fun x hx j hj e => by
  have hp : Cn.place x.it ∈ Tm.places t.it.ins := by
    rw [← g.places]
    refine List.mem_map.2 ⟨x.it, ?_, rfl⟩
    rw [← hS]; exact List.mem_map.2 ⟨x, hx, rfl⟩
  exact g.gone hp X[j].it (by rw [← hX]; exact List.mem_map.2 ⟨X[j], List.getElem_mem hj, rfl⟩) e
set_option maxRecDepth 100000 in
set_option maxHeartbeats 8000000 in
theorem coinBack_walk (cv : Value) (R : List CoinV) (t : TxV) (h : Int) (w : World) (hR : HasCoins w cv R) (ht : HasTx w t) (hT : Tab w) (hw : 0 < w.heap.size) :
    Calls Tryd.prog 5 #[cv, t.val, .int .i64 h] w fun e w' => e = .returned (.bool true) ∧ Below w.heap.size w w' := by
  obtain ⟨a, cap, rfl, hml, _⟩ := coins_form hR
  obtain ⟨ia, ic, oa, oc, ft⟩ := tx_form ht
  have HTB := hide (fun W (hW : Below w.heap.size w W) => hT.below hW hw)
  have HGL : Hid (∀ W, Below w.heap.size w W → 0 < W.heap.size) := hide (fun W (hW : Below w.heap.size w W) => Nat.lt_of_lt_of_le hw hW.size)
  have HHT := hide (fun W (hW : Below w.heap.size w W) => ht.below hW)
  have HRW := hide (fun W (hW : Below w.heap.size w W) => hR.below hW)
  have HMD := hide (fun W (hW : Below w.heap.size w W) => cmade_any W (HTB.out W hW) (HGL.out W hW))
  have HAPT := hide (fun W (hW : Below w.heap.size w W) => apply_any _ R t h W (hR.below hW) (ht.below hW) (HTB.out W hW) (HGL.out W hW))
  have HVT := hide ft.val
  obtain ⟨il, hil⟩ : ∃ n, t.ins.length = n := ⟨_, rfl⟩
  obtain ⟨ol, hol⟩ : ∃ n, t.outs.length = n := ⟨_, rfl⟩
  obtain ⟨n, hn⟩ : ∃ n, R.length = n := ⟨_, rfl⟩
  obtain ⟨tt, htt⟩ : ∃ n, t.time = n := ⟨_, rfl⟩
  rw [hil, hol, htt] at HVT
  rw [HVT.out, hn]
  rw [HVT.out, hn] at HAPT
  rw [hn] at HRW hml
  have HIL := hide hil
  have HB0 := hide (below_alloc w (.cells #[.slice ia il ic, .slice oa ol oc, .int .i64 tt] 26))
  have HI0 := hide (Is.new w [.slice ia il ic, .slice oa ol oc, .int .i64 tt] 26)
  clear hR ht hT hw ft hil hol hn htt
  go_enter Tryd.func5, Tryd.ntmps5
  go_wp2_with fail
  refine (HMD.out _ HB0.out).mono ?_
  rintro e w1 ⟨rfl, hb1⟩
  have HI1 := hide (HI0.out.below hb1 HI0.out.lt)
  have HB1 := hide (HB0.out.trans (hb1.mono HB0.out.size))
  clear hb1 HMD
  go_wp2_with (refine wpList_load_part 26 [.slice ia il ic, .slice oa ol oc, .int .i64 tt] w.heap.size 0 rfl (.tmp 4) rfl rfl (is_range HI1.out) Tryd.underlying26 rfl size_tx rfl ?_)
  refine (HAPT.out _ HB1.out).mono ?_
  rintro e w2 ⟨hap, hb2⟩
  have HI2 := hide (HI1.out.below hb2 HI1.out.lt)
  have HB2 := hide (HB1.out.trans (hb2.mono HB1.out.size))
  clear hb2 HAPT
  rcases ap_cases hap with ⟨_, c, rfl⟩ | ⟨v1, v2, X, S, G1, g1, rfl, hX, hXi, hS, hSi⟩
  · unfold BadV
    clear hap
    go_wp2
    go_ret
    exact ⟨rfl, HB2.out⟩
  · have HG1 := hide g1
    have HX2 := hide hX
    have HS2 := hide hS
    have HXI := hide hXi
    have HSI := hide hSi
    have HK2 := hide (Below.refl w2.heap.size w2)
    have HUN := hide (fun W (hW : Below w2.heap.size w2 W) => undo_good v1 v2 X S t (R.map CoinV.it) W (hX.below hW) (hS.below hW) (HHT.out W (HB2.out.trans (hW.mono HB2.out.size))) (HTB.out W (HB2.out.trans (hW.mono HB2.out.size))) (HGL.out W (HB2.out.trans (hW.mono HB2.out.size))) (by rw [hXi]; exact g1.set) g1.hk (back_new g1 hXi) (by have := g1.slen; rw [← hSi, List.length_map] at this; simpa [TxV.it] using this) (back_places g1 hSi) (back_none g1 hXi hSi) g1.hs (by rw [hXi, hSi]; exact Cn.back_law g1))
    have HCX := hide (fun W (hW : Below w2.heap.size w2 W) => ccheck_any v1 X W (hX.below hW))
    rw [hXi, g1.set, show errV 0 = .nilIface from rfl] at HCX
    rw [HVT.out] at HUN
    obtain ⟨xa, xc, rfl, _, _⟩ := coins_form hX
    obtain ⟨sa, sc, rfl, _, _⟩ := coins_form hS
    obtain ⟨xl, hxl⟩ : ∃ n, X.length = n := ⟨_, rfl⟩
    obtain ⟨sl, hsl⟩ : ∃ n, S.length = n := ⟨_, rfl⟩
    rw [hxl, hsl] at HUN
    rw [hxl] at HCX HX2
    rw [hsl] at HS2
    rw [hxl, hsl]
    obtain ⟨q1, hq1⟩ : ∃ q, q = Cn.leftOf t.it h G1 := ⟨_, rfl⟩
    have HQ1 := hide hq1
    rw [← hq1]
    clear hap hX hS hXi hSi g1 hxl hsl hq1
    go_wp2_with (refine wpList_load_part 26 [.slice ia il ic, .slice oa ol oc, .int .i64 tt] w.heap.size 0 rfl (.tmp 4) rfl rfl (is_range HI2.out) Tryd.underlying26 rfl size_tx rfl ?_)
    refine (HUN.out _ HK2.out).mono ?_
    rintro e w3 ⟨⟨v3, Y, rfl, hY, hYi⟩, hb3⟩
    have HI3 := hide (HI2.out.below hb3 HI2.out.lt)
    have HB3 := hide (HB2.out.trans (hb3.mono HB2.out.size))
    have HK3 := hide (HK2.out.trans (hb3.mono HK2.out.size))
    have HY3 := hide hY
    have HYI := hide hYi
    have HSC := hide (fun W (hW : Below w3.heap.size w3 W) => scoins_same v3 _ Y R W (hY.below hW) (HRW.out W (HB3.out.trans (hW.mono HB3.out.size))) hYi)
    have HAY := hide (fun W (hW : Below w3.heap.size w3 W) => apply_any v3 Y t h W (hY.below hW) (HHT.out W (HB3.out.trans (hW.mono HB3.out.size))) (HTB.out W (HB3.out.trans (hW.mono HB3.out.size))) (HGL.out W (HB3.out.trans (hW.mono HB3.out.size))))
    rw [HVT.out, hYi] at HAY
    obtain ⟨ya, yc, rfl, _, _⟩ := coins_form hY
    obtain ⟨yl, hyl⟩ : ∃ n, Y.length = n := ⟨_, rfl⟩
    rw [hyl] at HSC HAY ⊢
    have HL3 := hide (Below.refl w3.heap.size w3)
    clear hb3 hY hYi hyl HUN
    go_wp2_with fail
    refine (HSC.out _ HL3.out).mono ?_
    rintro e w4 ⟨rfl, hb4⟩
    have HI4 := hide (HI3.out.below hb4 HI3.out.lt)
    have HB4 := hide (HB3.out.trans (hb4.mono HB3.out.size))
    have HK4 := hide (HK3.out.trans (hb4.mono HK3.out.size))
    have HL4 := hide (HL3.out.trans (hb4.mono HL3.out.size))
    clear hb4 HSC
    go_wp2_with (refine wpList_load_part 26 [.slice ia il ic, .slice oa ol oc, .int .i64 tt] w.heap.size 0 rfl (.tmp 4) rfl rfl (is_range HI4.out) Tryd.underlying26 rfl size_tx rfl ?_)
    refine (HAY.out _ HL4.out).mono ?_
    rintro e w5 ⟨hap, hb5⟩
    have HI5 := hide (HI4.out.below hb5 HI4.out.lt)
    have HB5 := hide (HB4.out.trans (hb5.mono HB4.out.size))
    have HK5 := hide (HK4.out.trans (hb5.mono HK4.out.size))
    obtain ⟨v5, v6, X2, S2, rfl, hX2, hX2i, hS2, hS2i⟩ := ap_good HG1.out hap
    rw [← HQ1.out]
    have HSX := hide (fun W (hW : Below w5.heap.size w5 W) => scoins_same v5 _ X2 X W (hX2.below hW) (HX2.out.below (HK5.out.trans (hW.mono HK5.out.size))) (hX2i.trans HXI.out.symm))
    have HSS := hide (fun W (hW : Below w5.heap.size w5 W) => scoins_same v6 _ S2 S W (hS2.below hW) (HS2.out.below (HK5.out.trans (hW.mono HK5.out.size))) (hS2i.trans HSI.out.symm))
    obtain ⟨xa2, xc2, rfl, _, _⟩ := coins_form hX2
    obtain ⟨sa2, sc2, rfl, _, _⟩ := coins_form hS2
    obtain ⟨xl2, hxl2⟩ : ∃ n, X2.length = n := ⟨_, rfl⟩
    obtain ⟨sl2, hsl2⟩ : ∃ n, S2.length = n := ⟨_, rfl⟩
    rw [hxl2] at HSX ⊢
    rw [hsl2] at HSS ⊢
    have HL5 := hide (Below.refl w5.heap.size w5)
    clear hap hb5 hX2 hX2i hS2 hS2i hxl2 hsl2 HAY
    go_wp2_with fail
    refine (HSX.out _ HL5.out).mono ?_
    rintro e w6 ⟨rfl, hb6⟩
    have HI6 := hide (HI5.out.below hb6 HI5.out.lt)
    have HB6 := hide (HB5.out.trans (hb6.mono HB5.out.size))
    have HK6 := hide (HK5.out.trans (hb6.mono HK5.out.size))
    have HL6 := hide (HL5.out.trans (hb6.mono HL5.out.size))
    clear hb6 HSX
    go_wp2_with fail
    refine (HSS.out _ HL6.out).mono ?_
    rintro e w7 ⟨rfl, hb7⟩
    have HI7 := hide (HI6.out.below hb7 HI6.out.lt)
    have HB7 := hide (HB6.out.trans (hb7.mono HB6.out.size))
    have HK7 := hide (HK6.out.trans (hb7.mono HK6.out.size))
    clear hb7 HSS
    go_wp2_with fail
    refine (HCX.out _ HK7.out).mono ?_
    rintro e w8 ⟨rfl, hb8⟩
    have HB8 := hide (HB7.out.trans (hb8.mono HB7.out.size))
    clear hb8
    go_wp2
    go_ret
    exact ⟨rfl, HB8.out⟩
end Go.Proofs.YtpnkndagahchhaaDoor
