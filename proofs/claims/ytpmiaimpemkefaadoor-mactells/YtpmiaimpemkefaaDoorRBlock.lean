/- The contract of moneyerref1.block: a block is brought into eight words, in ints. -/
import Derived.Test.YtpmiaimpemkefaaDoorRTurn
import Derived.Test.YtpmiaimpemkefaaDoorNums
import Derived.Test.YtpmiaimpemkefaaDoorShSpread
namespace Go.Proofs.YtpmiaimpemkefaaDoor
open Go.RowKit
set_option linter.unusedVariables false

def ivals (l : List Nat) : List Value := l.map (fun x => Value.int .i64 (x : Nat))
theorem ivals_length (l : List Nat) : (ivals l).length = l.length := by simp [ivals]
theorem ivals_get (l : List Nat) (j : Nat) (h : j < l.length) : (ivals l)[j]? = some (.int .i64 (l.getD j 0 : Nat)) := by
  simp [ivals, List.getD, List.getElem?_eq_getElem h]
theorem ivals_set (l : List Nat) (i x : Nat) : (ivals l).set i (.int .i64 (x : Nat)) = ivals (l.set i x) := by unfold ivals; rw [← List.map_set]
theorem ivals_one (l : List Nat) : ∀ u ∈ ivals l, u.oneCell' = true := by
  intro u hu
  obtain ⟨x, _, rfl⟩ := List.mem_map.1 hu
  rfl

theorem info_int : ∃ i, Tryd.prog.info? 3 = some i ∧ i.zero = some (.int .i64 0) ∧ i.size = 1 ∧ i.bytes = 8 := by
  have h : (Tryd.prog.info? 3).map (fun i => (i.zero, i.size, i.bytes)) = some (some (.int .i64 0), 1, 8) := by kernel_rfl
  cases hi : Tryd.prog.info? 3 with
  | none => rw [hi] at h; cases h
  | some i =>
    rw [hi] at h
    simp only [Option.map_some, Option.some.injEq, Prod.mk.injEq] at h
    exact ⟨i, rfl, h.1, h.2.1, h.2.2⟩
theorem made64 : madeCells #[.int .i64 0] 64 = (ivals (List.replicate 64 0)).toArray := by kernel_rfl
theorem make_ints (w : World) : (Instr.makeSlice 49 (.int .i64 64) (.int .i64 64)).run Tryd.prog w = .ok (.slice (some ⟨w.heap.size, 0, none⟩) 64 64) (w.alloc (.cells (ivals (List.replicate 64 0)).toArray 3)) := by
  obtain ⟨i, hi, hz, hs, hby⟩ := info_int
  have hr := run_make (P := Tryd.prog) w 49 3 i (.int .i64 0) Tryd.underlying49 hi hz .i64 .i64 64 64 (by omega) (Int.le_refl _) (by rw [hby]; omega) (by omega)
  simpa [Value.cells, hs, made64] using hr

/-- The words that are made already, and 0 behind them. -/
def pz (W : List Nat) (k : Nat) : List Nat := W.take k ++ List.replicate (64 - k) 0
theorem pz_length (W : List Nat) (k : Nat) (h : W.length = 64) (hk : k ≤ 64) : (pz W k).length = 64 := by simp [pz, h]; omega
theorem pz_all (W : List Nat) (h : W.length = 64) : pz W 64 = W := by simp [pz, List.take_of_length_le (Nat.le_of_eq h)]
theorem pz_get (W : List Nat) (k i : Nat) (h : W.length = 64) (hk : k ≤ 64) (hi : i < k) : (pz W k).getD i 0 = W.getD i 0 := by
  simp only [List.getD, pz]
  rw [List.getElem?_append_left (by rw [List.length_take]; omega), List.getElem?_take, if_pos hi]
theorem pz_step (W : List Nat) (k : Nat) (h : W.length = 64) (hk : k < 64) : (pz W k).set k (W.getD k 0) = pz W (k + 1) := by
  unfold pz
  have e : W.getD k 0 = W[k] := by simp [List.getD, List.getElem?_eq_getElem (show k < W.length by omega)]
  have hl : (W.take k).length = k := by rw [List.length_take]; omega
  rw [List.set_append_right _ _ (by omega), hl, Nat.sub_self, show 64 - k = (64 - (k + 1)) + 1 by omega, List.replicate_succ, List.set_cons_zero, e, List.take_succ_eq_append_getElem (by omega), List.append_assoc]
  rfl

theorem slice_four (b off cap j : Nat) (w : World) (hj : j < 16) (hc : 64 ≤ cap) : (Instr.slice 22 (.slice (some ⟨b, off, none⟩) 64 cap) (some (.int .i64 (4 * (j : Int)))) (some (.int .i64 (4 * (j : Int) + 4))) none).run Tryd.prog w = .ok (.slice (some ⟨b, off + 4 * j, none⟩) 4 (cap - 4 * j)) w := by
  have hu := Tryd.underlying22
  have he : Tryd.prog.elem 22 = 5 := by simp [Program.elem, hu]
  obtain ⟨i, hi, hz, hs, hby⟩ := info_u8
  have hsz : (sizeOf 5).run Tryd.prog w = .ok 1 w := by simp [sizeOf, typeInfo, hi, hs]
  have := run_slice_lh (P := Tryd.prog) w 22 (some ⟨b, off, none⟩) 64 cap (by rw [he]; exact hu) .i64 .i64 (4 * (j : Int)) (4 * (j : Int) + 4) (by omega) (by omega) (by omega)
  rw [this, he, hsz]
  have e1 : (4 * (j : Int)).toNat = 4 * j := by omega
  have e2 : (4 * (j : Int) + 4).toNat = 4 * j + 4 := by omega
  simp [sliced, Addr.add_lit, e1, e2, show ¬ cap = 4 * j by omega]
theorem join_word (l : List Int) (j : Nat) (hl : l.length = 64) (hb : Sz.Byt l) (hj : j < 16) : Sz.joinL ((l.drop (4 * j)).take 4) = ((Sh.word l j : Nat) : Int) := by
  have e : (l.drop (4 * j)).take 4 = [l.getD (4 * j) 0, l.getD (4 * j + 1) 0, l.getD (4 * j + 2) 0, l.getD (4 * j + 3) 0] := by
    apply List.ext_getElem
    · simp; omega
    · intro i h1 h2
      simp at h1 h2
      rw [List.getElem_take, List.getElem_drop]
      match i, h2 with
      | 0, _ => simp [List.getElem?_eq_getElem (show 4 * j < l.length by omega)]
      | 1, _ => simp [List.getElem?_eq_getElem (show 4 * j + 1 < l.length by omega)]
      | 2, _ => simp [List.getElem?_eq_getElem (show 4 * j + 2 < l.length by omega)]
      | 3, _ => simp [List.getElem?_eq_getElem (show 4 * j + 3 < l.length by omega)]
  have h0 := hb.getD (4 * j)
  have h1 := hb.getD (4 * j + 1)
  have h2 := hb.getD (4 * j + 2)
  have h3 := hb.getD (4 * j + 3)
  rw [e]
  unfold Sh.word
  simp only [Sz.joinL, List.foldl_cons, List.foldl_nil]
  omega

/-- Eight words, those behind place q moved up by one. -/
def psh (L : List Nat) (q : Nat) : List Nat := (List.range 8).map fun j => if q < j then L.getD (j - 1) 0 else L.getD j 0
theorem psh_length (L : List Nat) (q : Nat) : (psh L q).length = 8 := by simp [psh]
theorem psh_get (L : List Nat) (r : Nat) (h : r < 7) : (psh L (r + 1)).getD r 0 = L.getD r 0 := by
  have h8 : r < (List.range 8).length := by simp; omega
  simp only [psh, List.getD, List.getElem?_map, List.getElem?_eq_getElem h8, List.getElem_range, Option.map_some, Option.getD_some]
  rw [if_neg (by omega)]
theorem psh_step (L : List Nat) (r : Nat) (h : r < 7) : (psh L (r + 1)).set (r + 1) (L.getD r 0) = psh L r := by
  apply List.ext_getElem
  · simp [psh]
  · intro i h1 h2
    simp only [psh, List.getElem_set, List.getElem_map, List.getElem_range]
    by_cases e : r + 1 = i
    · subst e; rw [if_pos rfl, if_pos (by omega), Nat.add_sub_cancel]
    · rw [if_neg e]
      by_cases e2 : r + 1 < i
      · rw [if_pos e2, if_pos (by omega)]
      · rw [if_neg e2, if_neg (by omega)]
theorem add_comm' (x y : Sh.St) : x.add y = y.add x := by
  unfold Sh.St.add
  simp only [Nat.add_comm]

/-- A slice of ints in memory made since 'base'. -/
def OwnI (w : World) (base : Nat) (v : Value) (l : List Nat) : Prop := w.ownsRow base 3 1 v l.length (ivals l)
theorem own_is {w : World} {base : Nat} {v : Value} {l : List Nat} (h : OwnI w base v l) (h0 : 0 < l.length) : ∃ vb vcap rest, v = .slice (some ⟨vb, 0, none⟩) l.length vcap ∧ base ≤ vb ∧ l.length ≤ vcap ∧ vcap ≤ maxLen ∧ Is w vb (ivals l ++ rest) 3 := by
  rcases h.2 with ⟨rfl, h1⟩ | ⟨g, cap, cur, rfl, hbg, hg, hn, hc, hs, ht⟩
  · omega
  · refine ⟨g, cap, cur.toList.drop (l.length * 1), rfl, hbg, hn, hc, ?_⟩
    unfold Is
    rw [← ht, List.take_append_drop]
    exact hg
theorem own_is8 {w : World} {base : Nat} {v : Value} {l : List Nat} (h : OwnI w base v l) (h8 : l.length = 8) : ∃ vb vcap rest, v = .slice (some ⟨vb, 0, none⟩) 8 vcap ∧ base ≤ vb ∧ 8 ≤ vcap ∧ vcap ≤ maxLen ∧ Is w vb (ivals l ++ rest) 3 := by
  have := own_is h (by omega)
  rwa [h8] at this
theorem wpList_append_ints (w : World) {ops : Array Oper} {rest : List Oper} {o : Oper} {a : Act} {Q : Exit → Act → World → Prop} (hgd : o.guard = none) (s x : Operand)
    (ho : o.op = .call { callee := .builtin .append, args := #[s, x], argTypes := #[49, 49] })
    (base : Nat) (v : Value) (xs : List Nat) (hs : a.eval s = v) (hown : OwnI w base v xs) (ad : Addr) (c : Nat) (l : List Nat) (hx : a.eval x = .slice (some ad) l.length c) (hnews : ∀ j u, (ivals l)[j]? = some u → w.cell? (ad.add j) = some u) (hbd : xs.length + l.length ≤ 100000) (hbase : base ≤ w.heap.size)
    (h : ∀ v' w', OwnI w' base v' (xs ++ l) → w.grownBy w' v.ownBlock → wpList Tryd.prog ops Q rest (a.put o.dst v') w') : wpList Tryd.prog ops Q (o :: rest) a w := by
  refine wpList_plain hgd fun K hK => ?_
  obtain ⟨i, hi, hz, hsz, hby⟩ := info_int
  obtain ⟨v', w', hr, h2, h3, _⟩ := run_append_own (P := Tryd.prog) w base 49 o.type 3 i (.int .i64 0) 1 8 Tryd.underlying49 hi hz hsz hby rfl (by decide) v xs.length (ivals xs) hown ad l.length c (ivals l) (by simp [ivals]) hnews (ivals_one l) (by unfold maxLen; omega) (by omega) hbase
  unfold Oper.wp
  simp only [execOp, ho, resolve, invoke, builtin, Sem.run_bind, Sem.run_pure, Result.andThen_ok, List.map_toArray, List.map_cons, List.map_nil, hs, hx, hr]
  exact hK _ _ (h v' w' (by unfold OwnI; rw [List.length_append, show ivals (xs ++ l) = ivals xs ++ ivals l by simp [ivals]]; exact h2) h3)
theorem OwnI.none (w : World) (base : Nat) (hb : base ≤ w.heap.size) : OwnI (w.alloc (.cells #[] 3)) base (.slice (some ⟨w.heap.size, 0, none⟩) 0 0) [] :=
  ⟨rfl, .inr ⟨w.heap.size, 0, #[], rfl, hb, heap_alloc_new w _, Nat.le_refl _, by unfold maxLen; omega, rfl, rfl⟩⟩

set_option maxRecDepth 100000 in
set_option maxHeartbeats 1600000 in
theorem rblock_any (hb kb mb moff hcap kcap mcap : Nat) (s : Sh.St) (l : List Int) (w : World) (hok : s.Ok) (hl : l.length = 64) (hbt : Sz.Byt l) (hc8 : 8 ≤ hcap) (hc8' : hcap ≤ maxLen) (kc : 64 ≤ kcap) (mc : 64 ≤ mcap) (mc' : mcap ≤ maxLen)
    (hh : ∀ j, j < 8 → w.cell? ⟨hb, j, none⟩ = some (.int .i64 (s.list.getD j 0 : Nat))) (hk : ∀ t, t < 64 → w.cell? ⟨kb, t, none⟩ = some (.int .i64 (Sh.ks.getD t 0 : Nat))) (hm : ∀ j, j < 64 → w.cell? ⟨mb, moff + j, none⟩ = some (.int .u8 (l.getD j 0))) :
    Calls Tryd.prog 24 #[.slice (some ⟨hb, 0, none⟩) 8 hcap, .slice (some ⟨kb, 0, none⟩) 64 kcap, .slice (some ⟨mb, moff, none⟩) 64 mcap] w fun e w' =>
      ∃ vb vcap, e = .returned (.slice (some ⟨vb, 0, none⟩) 8 vcap) ∧ 8 ≤ vcap ∧ vcap ≤ maxLen ∧ (∀ j, j < 8 → w'.cell? ⟨vb, j, none⟩ = some (.int .i64 ((Sh.mix s l).list.getD j 0 : Nat))) ∧ Below w.heap.size w w' := by
  have hhb : hb < w.heap.size := World.block_lt_of_cell? w ⟨hb, 0, none⟩ (hh 0 (by omega))
  have hkb : kb < w.heap.size := World.block_lt_of_cell? w ⟨kb, 0, none⟩ (hk 0 (by omega))
  have hmb : mb < w.heap.size := World.block_lt_of_cell? w ⟨mb, moff + 0, none⟩ (hm 0 (by omega))
  obtain ⟨W, hW⟩ : ∃ W, W = Sh.sched l := ⟨_, rfl⟩
  have hWl : W.length = 64 := by rw [hW]; exact Sh.sched_length l
  have hWb : ∀ i, W.getD i 0 < 4294967296 := by rw [hW]; exact Sh.sched_lt l hbt
  have hlo : ∀ t, t < 16 → W.getD t 0 = Sh.word l t := by rw [hW]; exact Sh.sched_lo l
  have hhi : ∀ j, j < 48 → W.getD (16 + j) 0 = (Sh.s1 (W.getD (14 + j) 0) + W.getD (9 + j) 0 + Sh.s0 (W.getD (1 + j) 0) + W.getD j 0) % 4294967296 := by rw [hW]; exact Sh.sched_hi l
  have hmx : Hid (Sh.mix s l = s.add (Sh.rnds s W 64)) := by rw [hW]; rfl
  have hmk := fun w => make_ints w
  obtain ⟨Z, hZ⟩ : ∃ Z, Z = ivals (List.replicate 64 0) := ⟨_, rfl⟩
  rw [← hZ] at hmk
  have hZ0 : Hid (Z = ivals (pz W 0)) := by rw [hZ]; rfl
  have HH := hide hh
  have HK := hide hk
  have HM := hide hm
  have HWL := hide hWl
  have HWB := hide hWb
  have HLO := hide hlo
  have HHI := hide hhi
  clear hW hZ hWl hWb hlo hhi hh hk hm
  go_enter Tryd.func24, Tryd.ntmps24
  go_wp2
  go_loopw [8] (fun t wr => ∃ j : Nat, j ≤ 64 ∧ t = .int .i64 j ∧ Below w.heap.size w wr ∧ Is wr w.heap.size (ivals (pz W j)) 3) (fun t _ => 64 - (intOf t).toNat)
  case atStart => exact ⟨0, by omega, rfl, below_alloc w _, by rw [← hZ0.out]; exact Is.new w Z 3⟩
  case round =>
    obtain ⟨j, hj, rfl, hbel, hI⟩ := hrel
    by_cases h64 : j < 64
    · have HI := hide hI
      have hcj := hI.cell j
      rw [ivals_get _ _ (by rw [pz_length _ _ HWL.out hj]; exact h64)] at hcj
      have hfj := hI.frozen j
      have HST := hide (pz_step W j HWL.out h64)
      generalize (pz W j).getD j 0 = y at *
      by_cases h16 : j < 16
      · have hsl := fun w => slice_four mb moff mcap j w h16 mc
        have hl4 : ((l.drop (4 * j)).take 4).length = 4 := by rw [List.length_take, List.length_drop]; omega
        have hjw := join_word l j hl hbt h16
        have HNUM := hide (num_ok mb (moff + 4 * j) (mcap - 4 * j) 4 ((l.drop (4 * j)).take 4) wr hl4 (fun i hi => by
          rw [hbel.cell (p := ⟨mb, moff + 4 * j + i, none⟩) hmb, Nat.add_assoc, HM.out (4 * j + i) (by omega)]
          simp only [List.getD, List.getElem?_take, List.getElem?_drop]
          rw [if_pos (by omega)]) ((hbt.drop _).take _) (by omega) (by omega) (by rw [hjw]; have := Sh.word_lt l hbt j; omega))
        rw [hjw, ← HLO.out j h16] at HNUM
        generalize W.getD j 0 = x at *
        have hlt0 := hI.lt
        clear hI hl4 hjw
        go_wp2_with (go_at_call 29; refine HNUM.out.mono ?_; rintro e w3 ⟨rfl, hb3⟩; have hI3 := HI.out.below hb3 hlt0; have HI3 := hide hI3; have hc3 : w3.cell? ⟨w.heap.size, j, none⟩ = some (.int .i64 (y : Nat)) := (by rw [hb3.cell (p := ⟨w.heap.size, j, none⟩) hlt0]; exact hcj); have hf3 := hI3.frozen j; clear hI3)
        go_roundw
        case rel =>
          refine ⟨j + 1, by omega, by go_num, (hbel.trans (hb3.mono hbel.size)).setCell (p := ⟨w.heap.size, j, none⟩) (Nat.le_refl _) _, ?_⟩
          rw [← HST.out, ← ivals_set]
          exact HI3.out.set j _
        case measure => simp [intOf]; omega
      · obtain ⟨i, hi⟩ : ∃ i, j = 16 + i := ⟨j - 16, by omega⟩
        have hX := HHI.out i (by omega)
        rw [← hi] at hX
        have gt : ∀ t, t < j → wr.cell? ⟨w.heap.size, t, none⟩ = some (.int .i64 (W.getD t 0 : Nat)) := fun t ht => by
          rw [hI.cell, ivals_get _ _ (by rw [pz_length _ _ HWL.out hj]; omega), pz_get _ _ _ HWL.out hj ht]
        have c0 := gt (1 + i) (by omega)
        have c1 := gt (14 + i) (by omega)
        have c2 := gt (9 + i) (by omega)
        have c3 := gt i (by omega)
        have l0 := HWB.out (1 + i)
        have l1 := HWB.out (14 + i)
        have l2 := HWB.out (9 + i)
        have l3 := HWB.out i
        have i0 : (j : Int) - 15 = ((1 + i : Nat) : Int) := by omega
        have i1 : (j : Int) - 2 = ((14 + i : Nat) : Int) := by omega
        have i2 : (j : Int) - 7 = ((9 + i : Nat) : Int) := by omega
        have i3 : (j : Int) - 16 = ((i : Nat) : Int) := by omega
        generalize W.getD (1 + i) 0 = x at *
        generalize W.getD (14 + i) 0 = z1 at *
        generalize W.getD (9 + i) 0 = z2 at *
        generalize W.getD i 0 = z3 at *
        generalize W.getD j 0 = X at *
        obtain ⟨p0, hp0⟩ : ∃ p, p = 1 + i := ⟨_, rfl⟩
        obtain ⟨p1, hp1⟩ : ∃ p, p = 14 + i := ⟨_, rfl⟩
        obtain ⟨p2, hp2⟩ : ∃ p, p = 9 + i := ⟨_, rfl⟩
        rw [← hp0] at i0 c0
        rw [← hp1] at i1 c1
        rw [← hp2] at i2 c2
        have q0 : p0 < 64 := by omega
        have q1 : p1 < 64 := by omega
        have q2 : p2 < 64 := by omega
        have q3 : i < 64 := by omega
        have hs0 := s0_bits64 x l0
        have hs1 := s1_bits64 z1 l1
        have ls0 := Sh.s0_lt x l0
        have ls1 := Sh.s1_lt z1 l1
        have HX := hide hX
        have hln : ¬ (j : Int) < 16 := by omega
        clear hX gt hp0 hp1 hp2 hi hI h16
        generalize Sh.s0 x = S0x at *
        generalize Sh.s1 z1 = S1x at *
        go_wp2_with (go_at_call 30; refine (rturn_int _ _ _ (by decide) (by decide) (by assumption)).mono ?_; rintro e w' ⟨rfl, m, rfl⟩)
        go_region
        go_wp2
        go_roundw
        case rel =>
          have e : bits .and .i64 ((S1x : Int) + (z2 : Int) + (S0x : Int) + (z3 : Int)) 4294967295 = ((X : Nat) : Int) := by
            rw [show (S1x : Int) + (z2 : Int) + (S0x : Int) + (z3 : Int) = ((S1x + z2 + S0x + z3 : Nat) : Int) by omega, and_all _ (by omega), HX.out]
          rw [e]
          refine ⟨j + 1, by omega, by go_num, (below_drewN hbel _).setCell (p := ⟨w.heap.size, j, none⟩) (Nat.le_refl _) _, ?_⟩
          rw [← HST.out, ← ivals_set]
          exact Is.set (w := wr.drewN _) HI.out j _
        case measure => simp [intOf]; omega
    · have hj' : j = 64 := by omega
      rw [hj', pz_all W HWL.out] at hI
      have hjn : ¬ (j : Int) < 64 := by omega
      obtain ⟨wA, rfl⟩ : ∃ wA, wA = wr := ⟨_, rfl⟩
      have hnews : ∀ (w' : World), Below w.heap.size w w' → ∀ i u, (ivals s.list)[i]? = some u → w'.cell? ((⟨hb, 0, none⟩ : Addr).add i) = some u := fun w' hb' i u hu => by
        have hi : i < s.list.length := by have := (List.getElem?_eq_some_iff.1 hu).1; rwa [ivals_length] at this
        rw [Addr.add_lit, Nat.zero_add, hb'.cell (p := ⟨hb, i, none⟩) hhb, HH.out i hi, ← hu, ivals_get _ _ hi]
      have HNEWS := hide hnews
      have HI := hide hI
      have hsz := hbel.size
      clear hI hj' h64 hj hnews HLO HHI hZ0 HM
      go_wp2_with (at_builtin; refine wpList_append_ints _ rfl _ _ rfl wA.heap.size _ _ rfl (OwnI.none wA wA.heap.size (Nat.le_refl _)) ⟨hb, 0, none⟩ hcap s.list rfl (HNEWS.out _ (hbel.alloc hbel.size _)) (by show 0 + 8 ≤ 100000; omega) (by simp) ?_; intro v4 w4 ho4 hg4)
      have hltA := HI.out.lt
      obtain ⟨vb, vcap, rest, rfl, hvb, hvc1, hvc2, hIv⟩ := own_is8 ho4 rfl
      have hb4 : Below w.heap.size w w4 := (hbel.alloc hbel.size _).grown hg4 (by simp; omega) (fun k hk => by injection hk with hk; rw [← hk]; show _ ≤ wA.heap.size; exact hbel.size)
      have hI4 : Is w4 w.heap.size (ivals W) 3 := by
        unfold Is
        rw [hg4.block w.heap.size (by simp; omega) (fun e => by injection e with e; have : w.heap.size = wA.heap.size := e; omega)]
        exact (HI.out.alloc _)
      rw [List.nil_append] at hIv
      have hvbw : w.heap.size < vb := by omega
      have HB4 := hide hb4
      have HI4 := hide hI4
      have HIV := hide hIv
      clear hb4 hI4 hIv ho4 hg4 HI HNEWS
      go_loopw [14] (fun t wr => ∃ (j : Nat) (st : Sh.St), j ≤ 64 ∧ t = .int .i64 j ∧ st = Sh.rnds s W j ∧ Below w.heap.size w wr ∧ Is wr w.heap.size (ivals W) 3 ∧ Is wr vb (ivals st.list ++ rest) 3) (fun t _ => 64 - (intOf t).toNat)
      case atStart => exact ⟨0, s, by omega, rfl, rfl, HB4.out, HI4.out, HIV.out⟩
      case round =>
        obtain ⟨i, st, hi, rfl, hst, hb5, hI5, hIv⟩ := hrel
        clear HB4 HI4 HIV
        have hok5 := Sh.rnds_ok s W hok i
        rw [← hst] at hok5
        by_cases hi64 : i < 64
        · have hnx : Hid (Sh.rnds s W (i + 1) = Sh.rnd (Sh.rnds s W i) (Sh.ks.getD i 0) (W.getD i 0)) := rfl
          rw [← hst] at hnx
          obtain ⟨l1, l2, l3, l4, l5, l6, l7, l8⟩ := hok5
          have c0 : wr.cell? ⟨vb, 0, none⟩ = some (.int .i64 (st.a : Nat)) := hIv.cell 0
          have c1 : wr.cell? ⟨vb, 1, none⟩ = some (.int .i64 (st.b : Nat)) := hIv.cell 1
          have c2 : wr.cell? ⟨vb, 2, none⟩ = some (.int .i64 (st.c : Nat)) := hIv.cell 2
          have c4 : wr.cell? ⟨vb, 4, none⟩ = some (.int .i64 (st.e : Nat)) := hIv.cell 4
          have c5 : wr.cell? ⟨vb, 5, none⟩ = some (.int .i64 (st.f : Nat)) := hIv.cell 5
          have c6 : wr.cell? ⟨vb, 6, none⟩ = some (.int .i64 (st.g : Nat)) := hIv.cell 6
          have c7 : wr.cell? ⟨vb, 7, none⟩ = some (.int .i64 (st.h : Nat)) := hIv.cell 7
          have ck : wr.cell? ⟨kb, i, none⟩ = some (.int .i64 (Sh.ks.getD i 0 : Nat)) := by rw [hb5.cell (p := ⟨kb, i, none⟩) hkb]; exact HK.out i hi64
          have cw : wr.cell? ⟨w.heap.size, i, none⟩ = some (.int .i64 (W.getD i 0 : Nat)) := by rw [hI5.cell, ivals_get _ _ (by rw [HWL.out]; exact hi64)]
          have lw := HWB.out i
          have lk := Sh.ks_lt i
          generalize Sh.ks.getD i 0 = kk at *
          generalize W.getD i 0 = wk at *
          have eS1 := S1_bits64 st.e l5
          have eCH := ch_bits64 st.e st.f st.g l5 l6 l7
          have eS0 := S0_bits64 st.a l1
          have eMJ := maj_bits64 st.a st.b st.c l1 l2 l3
          have bS1 := Sh.S1_lt st.e l5
          have bCH := Sh.ch_lt st.e st.f st.g l5
          have bS0 := Sh.S0_lt st.a l1
          have bMJ := Sh.maj_lt st.a st.b st.c l1 l2
          have hrd : Hid (Sh.rnd st kk wk = ⟨(st.h + Sh.S1 st.e + Sh.ch st.e st.f st.g + kk + wk + (Sh.S0 st.a + Sh.maj st.a st.b st.c)) % 4294967296, st.a, st.b, st.c, (st.d + (st.h + Sh.S1 st.e + Sh.ch st.e st.f st.g + kk + wk)) % 4294967296, st.e, st.f, st.g⟩) := rfl
          generalize Sh.S1 st.e = xS1 at *
          generalize Sh.ch st.e st.f st.g = xCH at *
          generalize Sh.S0 st.a = xS0 at *
          generalize Sh.maj st.a st.b st.c = xMJ at *
          have HI5 := hide hI5
          have HIV := hide hIv
          clear hI5 hIv hst hi
          obtain ⟨wB, rfl⟩ : ∃ wB, wB = wr := ⟨_, rfl⟩
          go_wp2
          go_quiet ((go_at_call 30; exact Calls.quiet_of (rturn_int _ _ _ (by decide) (by decide) (by assumption))))
          go_wp2
          obtain ⟨wC, hwC⟩ : ∃ wC, wC = wB.drewN nq := ⟨_, rfl⟩
          have d0 : wC.cell? ⟨vb, 0, none⟩ = some (.int .i64 (st.a : Nat)) := by rw [hwC]; exact c0
          have d1 : wC.cell? ⟨vb, 1, none⟩ = some (.int .i64 (st.b : Nat)) := by rw [hwC]; exact c1
          have d2 : wC.cell? ⟨vb, 2, none⟩ = some (.int .i64 (st.c : Nat)) := by rw [hwC]; exact c2
          have hb6 : Below w.heap.size w wC := by rw [hwC]; exact below_drewN hb5 _
          have HI6 : Hid (Is wC w.heap.size (ivals W) 3) := by rw [hwC]; exact HI5.out
          have HIV6 : Hid (Is wC vb (ivals st.list ++ rest) 3) := by rw [hwC]; exact HIV.out
          rw [← hwC]
          clear hwC c0 c1 c2 c4 c5 c6 c7 ck cw HI5 HIV hb5
          go_quiet ((go_at_call 30; exact Calls.quiet_of (rturn_int _ _ _ (by decide) (by decide) (by assumption))))
          clear d0 d1 d2 eS1 eCH eS0 eMJ
          go_wp2
          obtain ⟨P, hP⟩ : ∃ P : Nat, P = st.h + xS1 + xCH + kk + wk := ⟨_, rfl⟩
          obtain ⟨Q, hQ⟩ : ∃ Q : Nat, Q = xS0 + xMJ := ⟨_, rfl⟩
          have hPi : (st.h : Int) + (xS1 : Int) + (xCH : Int) + (kk : Int) + (wk : Int) = (P : Int) := by omega
          have hQi : (xS0 : Int) + (xMJ : Int) = (Q : Int) := by omega
          rw [hPi, hQi]
          have hPl : P < 21474836480 := by omega
          have hQl : Q < 8589934592 := by omega
          rw [← hP, ← hQ] at hrd
          clear hPi hQi hP hQ bS1 bCH bS0 bMJ lk lw
          go_loopw [19] (fun x wr => ∃ q : Nat, q ≤ 7 ∧ x = .int .i64 q ∧ Below w.heap.size w wr ∧ Is wr w.heap.size (ivals W) 3 ∧ Is wr vb (ivals (psh st.list q) ++ rest) 3) (fun x _ => (intOf x).toNat)
          case atStart => exact ⟨7, by omega, rfl, below_drewN hb6 _, HI6.out, HIV6.out⟩
          case round =>
            obtain ⟨q, hq, rfl, hb7, hI7, hIv7⟩ := hrel
            have HI7 := hide hI7
            have HIV7 := hide hIv7
            clear HI6 HIV6 hb6
            by_cases hq0 : 0 < q
            · obtain ⟨r, rfl⟩ : ∃ r, q = r + 1 := ⟨q - 1, by omega⟩
              have hr7 : r < 7 := by omega
              have g0 := hIv7.cell r
              rw [List.getElem?_append_left (by rw [ivals_length, psh_length]; omega), ivals_get _ _ (by rw [psh_length]; omega), psh_get _ _ hr7] at g0
              have g1 := hIv7.cell (r + 1)
              rw [List.getElem?_append_left (by rw [ivals_length, psh_length]; omega), ivals_get _ _ (by rw [psh_length]; omega)] at g1
              have f1 := hIv7.frozen (r + 1)
              have HS7 := hide (psh_step st.list r hr7)
              have hr1 : (((r + 1 : Nat) : Int)) - 1 = (r : Int) := by omega
              generalize st.list.getD r 0 = y at *
              generalize (psh st.list (r + 1)).getD (r + 1) 0 = y' at *
              clear hI7 hIv7
              go_wp2
              go_roundw
              case rel =>
                refine ⟨r, by omega, rfl, hb7.setCell (p := ⟨vb, r + 1, none⟩) (by show w.heap.size ≤ vb; omega) _, HI7.out.other ⟨vb, r + 1, none⟩ _ (by show vb ≠ w.heap.size; omega), ?_⟩
                have h8 := HIV7.out.set (r + 1) (.int .i64 (y : Nat))
                rw [List.set_append_left _ _ (by rw [ivals_length, psh_length]; omega), ivals_set, HS7.out] at h8
                exact h8
              case measure => simp [intOf]
            · have hq' : q = 0 := by omega
              have hqn : ¬ (0 : Int) < (q : Int) := by omega
              rw [hq'] at hIv7
              have d0 : wr.cell? ⟨vb, 0, none⟩ = some (.int .i64 (st.a : Nat)) := hIv7.cell 0
              have d4 : wr.cell? ⟨vb, 4, none⟩ = some (.int .i64 (st.d : Nat)) := hIv7.cell 4
              have f0 := hIv7.frozen 0
              have f4 := hIv7.frozen 4
              have e4 : bits .and .i64 ((st.d : Int) + (P : Int)) 4294967295 = (((st.d + P) % 4294967296 : Nat) : Int) := by
                rw [show (st.d : Int) + (P : Int) = ((st.d + P : Nat) : Int) by omega]; exact and_all _ (by omega)
              have e0 : bits .and .i64 ((P : Int) + (Q : Int)) 4294967295 = (((P + Q) % 4294967296 : Nat) : Int) := by
                rw [show (P : Int) + (Q : Int) = ((P + Q : Nat) : Int) by omega]; exact and_all _ (by omega)
              generalize hE4 : (st.d + P) % 4294967296 = E4 at *
              generalize hE0 : (P + Q) % 4294967296 = E0 at *
              have h8 : Is ((wr.setCell ⟨vb, 4, none⟩ (.int .i64 (E4 : Nat))).setCell ⟨vb, 0, none⟩ (.int .i64 (E0 : Nat))) vb (ivals (Sh.St.list ⟨E0, st.a, st.b, st.c, E4, st.e, st.f, st.g⟩) ++ rest) 3 := (hIv7.set 4 _).set 0 _
              rw [← hrd.out] at h8
              have H8 := hide h8
              clear hI7 hIv7 HIV7 hq' hq hq0 hE4 hE0 h8 hrd
              go_wp2
              go_roundw
              case rel =>
                exact ⟨i + 1, Sh.rnd st kk wk, by omega, by go_num, hnx.out.symm, (hb7.setCell (p := ⟨vb, 4, none⟩) (by show w.heap.size ≤ vb; omega) _).setCell (p := ⟨vb, 0, none⟩) (by show w.heap.size ≤ vb; omega) _, (HI7.out.other ⟨vb, 4, none⟩ _ (by show vb ≠ w.heap.size; omega)).other ⟨vb, 0, none⟩ _ (by show vb ≠ w.heap.size; omega), H8.out⟩
              case measure => simp [intOf]; omega
        · have hi' : i = 64 := by omega
          have hin : ¬ (i : Int) < 64 := by omega
          rw [hi'] at hst
          have HST := hide hst
          have HIV := hide hIv
          obtain ⟨wB, rfl⟩ : ∃ wB, wB = wr := ⟨_, rfl⟩
          clear hi' hi64 hi hst hI5 hIv
          go_wp2
          go_loopw [20] (fun x wr => ∃ q : Nat, q ≤ 8 ∧ x = .int .i64 q ∧ Below w.heap.size w wr ∧ Is wr vb (ivals (Sh.padd st s q) ++ rest) 3) (fun x _ => 8 - (intOf x).toNat)
          case atStart => exact ⟨0, by omega, rfl, hb5, HIV.out⟩
          case round =>
            obtain ⟨q, hq, rfl, hb7, hIv7⟩ := hrel
            clear HIV hb5
            by_cases hq8 : q < 8
            · have g0 := hIv7.cell q
              rw [List.getElem?_append_left (by rw [ivals_length, Sh.padd_length]; exact hq8), ivals_get _ _ (by rw [Sh.padd_length]; exact hq8), Sh.padd_get _ _ _ hq8] at g0
              have f0 := hIv7.frozen q
              have g1 : wr.cell? ⟨hb, q, none⟩ = some (.int .i64 (s.list.getD q 0 : Nat)) := by rw [hb7.cell (p := ⟨hb, q, none⟩) hhb]; exact HH.out q hq8
              have lx := Sh.getD_lt (Sh.list_lt st hok5) (by omega) q
              have ly := Sh.getD_lt (Sh.list_lt s hok) (by omega) q
              have HS7 := hide (Sh.padd_step st s q hq8)
              generalize st.list.getD q 0 = x at *
              generalize s.list.getD q 0 = y at *
              have e0 : bits .and .i64 ((x : Int) + (y : Int)) 4294967295 = (((x + y) % 4294967296 : Nat) : Int) := by
                rw [show (x : Int) + (y : Int) = ((x + y : Nat) : Int) by omega]; exact and_all _ (by omega)
              generalize hE0 : (x + y) % 4294967296 = E0 at *
              have HIV7 := hide hIv7
              clear hIv7 hE0
              go_wp2
              go_region
              go_wp2
              go_roundw
              case rel =>
                refine ⟨q + 1, by omega, by go_num, (hb7.setCell (p := ⟨vb, q, none⟩) (by show w.heap.size ≤ vb; omega) _).drew, ?_⟩
                have h8 := (HIV7.out.set q (.int .i64 (E0 : Nat))).drew
                rw [List.set_append_left _ _ (by rw [ivals_length, Sh.padd_length]; exact hq8), ivals_set, HS7.out] at h8
                exact h8
              case measure => simp [intOf]; omega
            · have hq' : q = 8 := by omega
              have hqn : ¬ (q : Int) < 8 := by omega
              rw [hq', Sh.padd_all, add_comm', HST.out] at hIv7
              have HIV7 := hide hIv7
              clear hIv7 hq' hq8 hq
              go_wp2
              go_ret
              refine ⟨vb, vcap, rfl, hvc1, hvc2, fun j hj => ?_, hb7⟩
              rw [hmx.out, HIV7.out.cell, List.getElem?_append_left (by rw [ivals_length]; exact hj), ivals_get _ _ hj]
              rfl
end Go.Proofs.YtpmiaimpemkefaaDoor
