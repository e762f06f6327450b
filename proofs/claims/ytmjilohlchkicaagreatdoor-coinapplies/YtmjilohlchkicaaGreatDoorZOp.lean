/- The texts TxOpn, CnOpn, one behind the other. -/
import Derived.Test.YtmjilohlchkicaaGreatDoorZTc
import Derived.Test.YtmjilohlchkicaaGreatDoorOpenD
import Derived.Deep.Strs
import Derived.Test.YtmjilohlchkicaaGreatDoorZCm
/- How an argument that is a payment is opened. -/
namespace Go.Proofs.YtmjilohlchkicaaGreatDoor
open Go.ChangeShapes Go.WideShapes Go.ChangeAt Go.RowKit Go.Deep
set_option linter.unusedVariables false

instance : Inhabited InV := ⟨⟨[], 0, .nilIface, []⟩⟩
instance : Inhabited OutV := ⟨⟨0, .nilIface, []⟩⟩

set_option maxRecDepth 100000 in
theorem tx_dig_cells {H : Type} {enc : TypeId × Value → H} {W : World} {base fuel : Nat} {cs : List Value} {x : DataW H × List MemPlace}
    (hf : DataW.trod enc Tryz.prog W base (fun _ => true) true fuel 44 cs = some x) (hs : cs.length = 32) : ∃ l, cs = vals l ∧ l.length = 32 ∧ Sz.Byt l := by
  have hu := Tryz.underlying44
  have hc1 : Tryz.prog.cellsOf 5 = 1 := by kernel_rfl
  have hc32 : Tryz.prog.cellsOf 44 = 32 := by kernel_rfl
  cases fuel with
  | zero => simp [DataW.trod] at hf
  | succ m =>
    rw [DataW.trod_step] at hf
    unfold DataW.trodStep at hf
    simp only [hu] at hf
    rw [if_pos (by rw [hc32]; exact hs)] at hf
    simp only [Option.map_eq_some_iff] at hf
    obtain ⟨ys, hy, _⟩ := hf
    have hcell : ∀ i, i < 32 → ∃ a, cs[i]? = some (.int .u8 a) ∧ 0 ≤ a ∧ a < 256 := fun i hi => by
      obtain ⟨a, ea, wa⟩ := mapM_cells _ ys hy i (by simpa using hi)
      refine ⟨a, ?_, ?_⟩
      · have e2 : ((cs.drop (i * Tryz.prog.cellsOf 5)).take (Tryz.prog.cellsOf 5))[0]? = some (.int .u8 a) := by rw [ea]; rfl
        rw [hc1, Nat.mul_one, List.getElem?_take, List.getElem?_drop] at e2
        simpa using e2
      · simp [Lit.wf, IntKind.min, IntKind.max, IntKind.signed, IntKind.bits] at wa
        omega
    refine ⟨cs.map valI, ?_, by rw [List.length_map, hs], fun x hx => ?_⟩
    · apply List.ext_getElem (by simp [vals])
      intro i h1 h2
      obtain ⟨a, ha, _⟩ := hcell i (by omega)
      rw [List.getElem?_eq_getElem h1] at ha
      injection ha with ha
      simp only [vals, List.getElem_map, ha, valI]
    · obtain ⟨y, hy, rfl⟩ := List.mem_map.1 hx
      obtain ⟨i, hi, rfl⟩ := List.getElem_of_mem hy
      obtain ⟨a, ha, h0, h1⟩ := hcell i (by omega)
      rw [List.getElem?_eq_getElem hi] at ha
      injection ha with ha
      rw [ha]
      exact ⟨h0, h1⟩


theorem open_keys_cells {H : Type} {enc : TypeId × Value → H} {W : World} {fuel : Nat} {cs : List Value} {x : DataW H × List MemPlace}
    (h : DataW.trod enc Tryz.prog W 0 (fun _ => true) true fuel 47 cs = some x) : ∃ v K, cs = [v] ∧ HasKeys W v K := by
  obtain ⟨d0, p0⟩ := x
  have h2 := h
  rcases open_slice Tryz.underlying47 h2 with ⟨hcs, hd⟩ | ⟨a, len, cap, m, n, D, Pl, hcs, hb, hl, hm, hmm, hd, hx⟩
  · subst hcs
    obtain ⟨K, hk, _⟩ := open_keys (a0 := none) (len0 := 0) (cap0 := 0) (⟨fuel, h⟩ : DataW.Trod enc Tryz.prog W 0 (fun _ => true) true 47 (.slice none 0 0) d0 p0)
    exact ⟨_, K, rfl, hk⟩
  · subst hcs
    obtain ⟨K, hk, _⟩ := open_keys (a0 := some a) (len0 := len) (cap0 := cap) (⟨fuel, h⟩ : DataW.Trod enc Tryz.prog W 0 (fun _ => true) true 47 (.slice (some a) len cap) d0 p0)
    exact ⟨_, K, rfl, hk⟩
theorem open_ops_cells {H : Type} {enc : TypeId × Value → H} {W : World} {fuel : Nat} {cs : List Value} {x : DataW H × List MemPlace}
    (h : DataW.trod enc Tryz.prog W 0 (fun _ => true) true fuel 50 cs = some x) : ∃ v R, cs = [v] ∧ HasOps W v R := by
  obtain ⟨d0, p0⟩ := x
  have h2 := h
  rcases open_slice Tryz.underlying50 h2 with ⟨hcs, hd⟩ | ⟨a, len, cap, m, n, D, Pl, hcs, hb, hl, hm, hmm, hd, hx⟩
  · subst hcs
    obtain ⟨K, hk, _⟩ := open_ops (a0 := none) (len0 := 0) (cap0 := 0) (⟨fuel, h⟩ : DataW.Trod enc Tryz.prog W 0 (fun _ => true) true 50 (.slice none 0 0) d0 p0)
    exact ⟨_, K, rfl, hk⟩
  · subst hcs
    obtain ⟨K, hk, _⟩ := open_ops (a0 := some a) (len0 := len) (cap0 := cap) (⟨fuel, h⟩ : DataW.Trod enc Tryz.prog W 0 (fun _ => true) true 50 (.slice (some a) len cap) d0 p0)
    exact ⟨_, K, rfl, hk⟩

set_option maxRecDepth 100000 in
theorem open_in {H : Type} {enc : TypeId × Value → H} {W : World} {fuel : Nat} {cs : List Value} {x : DataW H × List MemPlace}
    (h : DataW.trod enc Tryz.prog W 0 (fun _ => true) true fuel 49 cs = some x) : ∃ q : InV, cs = inCell q ∧ q.tx.length = 32 ∧ Sz.Byt q.tx ∧ HasKeys W q.kv q.K := by
  have c34 : Tryz.prog.cellsOf 49 = 34 := by kernel_rfl
  have c33 : Tryz.prog.cellsOf 46 = 33 := by kernel_rfl
  have c32 : Tryz.prog.cellsOf 44 = 32 := by kernel_rfl
  have c1 : Tryz.prog.cellsOf 3 = 1 := by kernel_rfl
  have ck : Tryz.prog.cellsOf 47 = 1 := by kernel_rfl
  obtain ⟨y0, y1, n, _, hl, g0, g1⟩ := trod_struct2 Tryz.underlying49 h
  dsimp only at g0 g1
  obtain ⟨z0, z1, m, _, hl2, k0, k1⟩ := trod_struct2 Tryz.underlying46 g0
  dsimp only at k0 k1
  rw [c34] at hl
  rw [c33] at g0 hl2 k0 k1
  rw [ck] at g1
  rw [c32] at k0
  rw [c1] at k1
  obtain ⟨l, el, l32, lb⟩ := tx_dig_cells k0 (by simp; omega)
  obtain ⟨a, ea, _, _⟩ := DataW.trod_int Tryz.underlying3 k1
  obtain ⟨v, K, ev, hK⟩ := open_keys_cells g1
  refine ⟨⟨l, a, v, K⟩, ?_, l32, lb, hK⟩
  show cs = vals l ++ [.int .i64 a, v]
  have e0 : cs.take 32 = vals l := by
    rw [← el]; simp [List.take_take]
  have e1 : (cs.drop 32).take 1 = [.int .i64 a] := by
    rw [← ea]
    rw [List.drop_zero, List.drop_take, List.take_take]
    rfl
  have e2 : (cs.drop 33).take 1 = [v] := ev
  have h1 : cs = cs.take 32 ++ ((cs.drop 32).take 1 ++ (cs.drop 33)) := by
    conv => lhs; rw [← List.take_append_drop 32 cs]
    congr 1
    conv => lhs; rw [← List.take_append_drop 1 (cs.drop 32)]
    rw [List.drop_drop]
  have h2 : cs.drop 33 = (cs.drop 33).take 1 := by rw [List.take_of_length_le (by rw [List.length_drop]; omega)]
  rw [h1, h2, e0, e1, e2]; rfl

set_option maxRecDepth 100000 in
theorem open_out {H : Type} {enc : TypeId × Value → H} {W : World} {fuel : Nat} {cs : List Value} {x : DataW H × List MemPlace}
    (h : DataW.trod enc Tryz.prog W 0 (fun _ => true) true fuel 52 cs = some x) : ∃ q : OutV, cs = outCell q ∧ HasOps W q.lv q.L := by
  have c2 : Tryz.prog.cellsOf 52 = 2 := by kernel_rfl
  have c1 : Tryz.prog.cellsOf 3 = 1 := by kernel_rfl
  have ck : Tryz.prog.cellsOf 50 = 1 := by kernel_rfl
  obtain ⟨y0, y1, n, _, hl, g0, g1⟩ := trod_struct2 Tryz.underlying52 h
  dsimp only at g0 g1
  rw [c2] at hl
  rw [c1] at g0
  rw [ck] at g1
  match cs, hl with
  | [x0, x1], _ =>
    obtain ⟨a, ea, _, _⟩ := DataW.trod_int Tryz.underlying3 g0
    obtain ⟨v, K, ev, hK⟩ := open_ops_cells g1
    simp at ea ev
    subst ea ev
    exact ⟨⟨a, x1, K⟩, rfl, hK⟩

/-- A row of pieces, each as long as the others. -/
theorem range_all {W : World} {α : Type} {b off s n : Nat} {f : α → List Value} {q : Nat → α} (hs0 : 0 < s) (h : ∀ i, i < n → (f (q i)).length = s ∧ ∀ j v, (f (q i))[j]? = some v → W.cell? ⟨b, off + (i * s + j), none⟩ = some v) :
    W.rangeAt b off ((((List.range n).map q).map f).flatten) := by
  have key : ∀ k, k ≤ n → W.rangeAt b off ((((List.range k).map q).map f).flatten) ∧ ((((List.range k).map q).map f).flatten).length = k * s := by
    intro k
    induction k with
    | zero => intro _; exact ⟨fun j v hv => by simp at hv, by simp⟩
    | succ k ih =>
      intro hk
      obtain ⟨i1, i2⟩ := ih (by omega)
      obtain ⟨h1, h2⟩ := h k (by omega)
      rw [List.range_succ, List.map_append, List.map_append, List.flatten_append]
      simp only [List.map_cons, List.map_nil, List.flatten_cons, List.flatten_nil, List.append_nil]
      refine ⟨fun j v hv => ?_, by rw [List.length_append, i2, h1, Nat.succ_mul]⟩
      by_cases hj : j < k * s
      · rw [List.getElem?_append_left (by omega)] at hv
        exact i1 j v hv
      · rw [List.getElem?_append_right (by omega), i2] at hv
        have := h2 (j - k * s) v hv
        rwa [show off + (k * s + (j - k * s)) = off + j by omega] at this
  exact (key n (Nat.le_refl _)).1

theorem open_ins {H : Type} {enc : TypeId × Value → H} {W : World} {fuel : Nat} {cs : List Value} {x : DataW H × List MemPlace}
    (hf : DataW.trod enc Tryz.prog W 0 (fun _ => true) true fuel 23 cs = some x) : ∃ v R, cs = [v] ∧ HasIns W v R := by
  have c34 : Tryz.prog.cellsOf 49 = 34 := by kernel_rfl
  rcases open_slice Tryz.underlying23 hf with ⟨hcs, hd⟩ | ⟨a, len, cap, m, n, D, Pl, hcs, hb, hl, hm, hmm, hd, hx⟩
  · subst hcs
    exact ⟨_, [], rfl, .inl ⟨none, 0, rfl, rfl⟩, fun p hp => by cases hp⟩
  · subst hcs
    simp only [if_true] at hmm
    subst hmm
    rw [c34] at hx
    have each : ∀ i, i < m → ∃ q : InV, (∀ j v, (inCell q)[j]? = some v → W.cell? (a.add (i * 34 + j)) = some v) ∧ q.tx.length = 32 ∧ Sz.Byt q.tx ∧ HasKeys W q.kv q.K := by
      intro i hi
      obtain ⟨cs', h1, h2⟩ := hx i hi
      obtain ⟨_, hlen, hcell⟩ := World.cells?_some h1
      obtain ⟨q, rfl, q1, q2, q3⟩ := open_in h2
      refine ⟨q, fun j v hv => ?_, q1, q2, q3⟩
      have hj : j < 34 := by have := (List.getElem?_eq_some_iff.1 hv).1; rw [inCell_length q q1] at this; exact this
      have := hcell j hj
      rw [add_add] at this
      rw [this]; exact hv
    obtain ⟨q, hq⟩ := choose_lt each
    refine ⟨_, (List.range len).map q, rfl, ?_, fun p hp => ?_⟩
    · by_cases hl0 : len = 0
      · subst hl0; exact .inl ⟨_, _, rfl, by simp⟩
      · obtain ⟨b, off, spot⟩ := a
        have h00 := (hq 0 (by omega)).1 0 (.int .u8 ((q 0).tx.getD 0 0)) (by rw [inCell, List.getElem?_append_left (by rw [vals_length, (hq 0 (by omega)).2.1]; omega), vals_get _ _ (by rw [(hq 0 (by omega)).2.1]; omega)])
        have hspot : spot = none := by simpa [Addr.add] using World.cell?_spot h00
        subst hspot
        have hlt : b < W.heap.size := by rw [Addr.add_lit] at h00; exact World.block_lt_of_cell? W _ h00
        refine .inr ⟨b, off, m, by simp, by simp; omega, by simp; omega, hm, hlt, ?_⟩
        refine range_all (s := 34) (by omega) fun i hi => ⟨inCell_length _ (hq i (by omega)).2.1, fun j v hv => ?_⟩
        have := (hq i (by omega)).1 j v hv
        rw [Addr.add_lit] at this
        exact this
    · obtain ⟨i, hi, rfl⟩ := List.mem_map.1 hp
      exact (hq i (by have := List.mem_range.1 hi; omega)).2

theorem open_outs {H : Type} {enc : TypeId × Value → H} {W : World} {fuel : Nat} {cs : List Value} {x : DataW H × List MemPlace}
    (hf : DataW.trod enc Tryz.prog W 0 (fun _ => true) true fuel 24 cs = some x) : ∃ v R, cs = [v] ∧ HasOuts W v R := by
  have c2 : Tryz.prog.cellsOf 52 = 2 := by kernel_rfl
  rcases open_slice Tryz.underlying24 hf with ⟨hcs, hd⟩ | ⟨a, len, cap, m, n, D, Pl, hcs, hb, hl, hm, hmm, hd, hx⟩
  · subst hcs
    exact ⟨_, [], rfl, .inl ⟨none, 0, rfl, rfl⟩, fun p hp => by cases hp⟩
  · subst hcs
    simp only [if_true] at hmm
    subst hmm
    rw [c2] at hx
    have each : ∀ i, i < m → ∃ q : OutV, (∀ j v, (outCell q)[j]? = some v → W.cell? (a.add (i * 2 + j)) = some v) ∧ HasOps W q.lv q.L := by
      intro i hi
      obtain ⟨cs', h1, h2⟩ := hx i hi
      obtain ⟨_, hlen, hcell⟩ := World.cells?_some h1
      obtain ⟨q, rfl, q1⟩ := open_out h2
      refine ⟨q, fun j v hv => ?_, q1⟩
      have hj : j < 2 := (List.getElem?_eq_some_iff.1 hv).1
      have := hcell j hj
      rw [add_add] at this
      rw [this]; exact hv
    obtain ⟨q, hq⟩ := choose_lt each
    refine ⟨_, (List.range len).map q, rfl, ?_, fun p hp => ?_⟩
    · by_cases hl0 : len = 0
      · subst hl0; exact .inl ⟨_, _, rfl, by simp⟩
      · obtain ⟨b, off, spot⟩ := a
        have h00 := (hq 0 (by omega)).1 0 (.int .i64 (q 0).amount) rfl
        have hspot : spot = none := by simpa [Addr.add] using World.cell?_spot h00
        subst hspot
        have hlt : b < W.heap.size := by rw [Addr.add_lit] at h00; exact World.block_lt_of_cell? W _ h00
        refine .inr ⟨b, off, m, by simp, by simp; omega, by simp; omega, hm, hlt, ?_⟩
        refine range_all (f := outCell) (s := 2) (by omega) fun i hi => ⟨rfl, fun j v hv => ?_⟩
        have := (hq i (by omega)).1 j v hv
        rw [Addr.add_lit] at this
        exact this
    · obtain ⟨i, hi, rfl⟩ := List.mem_map.1 hp
      exact (hq i (by have := List.mem_range.1 hi; omega)).2

set_option maxRecDepth 100000 in
/-- An argument that is a payment. -/
theorem open_tx {H : Type} {enc : TypeId × Value → H} {W : World} {v : Value} {r : Reach} {b0 : Nat} {d : DataW H} {p : List MemPlace} (hv : Value.okWide Tryz.prog W r b0 26 v)
    (h : DataW.Trod enc Tryz.prog W 0 (fun _ => true) true 26 v d p) : ∃ t : TxV, v = t.val ∧ HasTx W t := by
  have c3 : Tryz.prog.cellsOf 26 = 3 := by kernel_rfl
  have c1 : Tryz.prog.cellsOf 3 = 1 := by kernel_rfl
  have ci : Tryz.prog.cellsOf 23 = 1 := by kernel_rfl
  have co : Tryz.prog.cellsOf 24 = 1 := by kernel_rfl
  simp only [Value.okWide, Tryz.underlying26] at hv
  obtain ⟨cs, rfl, hs, _⟩ := hv
  obtain ⟨fuel, hf⟩ := h
  obtain ⟨y0, y1, y2, n, _, hl, g0, g1, g2⟩ := trod_struct3 Tryz.underlying26 hf
  dsimp only at g0 g1 g2
  rw [c3] at hl
  rw [ci] at g0
  rw [co] at g1
  rw [c1] at g2
  obtain ⟨cl⟩ := cs
  simp only [Value.cells] at hl g0 g1 g2
  match cl, hl with
  | [x0, x1, x2], _ =>
    obtain ⟨iv, I, ei, hI⟩ := open_ins g0
    obtain ⟨ov, O, eo, hO⟩ := open_outs g1
    obtain ⟨a, ea, _, _⟩ := DataW.trod_int Tryz.underlying3 g2
    simp at ei eo ea
    subst ei eo ea
    exact ⟨⟨x0, I, x1, O, a⟩, rfl, hI, hO⟩
end Go.Proofs.YtmjilohlchkicaaGreatDoor

/- How arguments that are places and sets of coins are opened. -/
namespace Go.Proofs.YtmjilohlchkicaaGreatDoor
open Go.ChangeShapes Go.WideShapes Go.ChangeAt Go.RowKit Go.Deep
set_option linter.unusedVariables false

instance : Inhabited CoinV := ⟨⟨[], 0, 0, .nilIface, [], 0⟩⟩
set_option maxRecDepth 100000 in
theorem open_place_cells {H : Type} {enc : TypeId × Value → H} {W : World} {fuel : Nat} {cs : List Value} {x : DataW H × List MemPlace}
    (h : DataW.trod enc Tryz.prog W 0 (fun _ => true) true fuel 46 cs = some x) : ∃ l n, cs = vals l ++ [.int .i64 n] ∧ l.length = 32 ∧ Sz.Byt l := by
  have c33 : Tryz.prog.cellsOf 46 = 33 := by kernel_rfl
  have c32 : Tryz.prog.cellsOf 44 = 32 := by kernel_rfl
  have c1 : Tryz.prog.cellsOf 3 = 1 := by kernel_rfl
  obtain ⟨z0, z1, m, _, hl2, k0, k1⟩ := trod_struct2 Tryz.underlying46 h
  dsimp only at k0 k1
  rw [c33] at hl2
  rw [c32] at k0
  rw [c1] at k1
  obtain ⟨l, el, l32, lb⟩ := tx_dig_cells k0 (by simp; omega)
  obtain ⟨a, ea, _, _⟩ := DataW.trod_int Tryz.underlying3 k1
  refine ⟨l, a, ?_, l32, lb⟩
  have e1 : cs.take 32 ++ (cs.drop 32) = cs := List.take_append_drop 32 cs
  have e2 : (cs.drop 32).take 1 = cs.drop 32 := List.take_of_length_le (by rw [List.length_drop]; omega)
  have e3 : cs.take 32 = vals l := by rw [← el]; simp
  rw [e2] at ea
  rw [← e1, e3, ea]
set_option maxRecDepth 100000 in
theorem open_place {H : Type} {enc : TypeId × Value → H} {W : World} {v : Value} {r : Reach} {b0 : Nat} {d : DataW H} {p : List MemPlace} (hv : Value.okWide Tryz.prog W r b0 46 v)
    (h : DataW.Trod enc Tryz.prog W 0 (fun _ => true) true 46 v d p) : ∃ l n, v = .agg (vals l ++ [Value.int .i64 n]).toArray ∧ l.length = 32 ∧ Sz.Byt l := by
  simp only [Value.okWide, Tryz.underlying46] at hv
  obtain ⟨cs, rfl, hs, _⟩ := hv
  obtain ⟨fuel, hf⟩ := h
  obtain ⟨l, n, e, h1, h2⟩ := open_place_cells hf
  obtain ⟨cl⟩ := cs
  simp only [Value.cells] at e
  exact ⟨l, n, by rw [← e], h1, h2⟩
set_option maxRecDepth 100000 in
theorem open_coin {H : Type} {enc : TypeId × Value → H} {W : World} {fuel : Nat} {cs : List Value} {x : DataW H × List MemPlace}
    (h : DataW.trod enc Tryz.prog W 0 (fun _ => true) true fuel 54 cs = some x) : ∃ q : CoinV, cs = coinCell q ∧ CoinOk W q := by
  have c36 : Tryz.prog.cellsOf 54 = 36 := by kernel_rfl
  have c33 : Tryz.prog.cellsOf 46 = 33 := by kernel_rfl
  have c2 : Tryz.prog.cellsOf 52 = 2 := by kernel_rfl
  have c1 : Tryz.prog.cellsOf 3 = 1 := by kernel_rfl
  obtain ⟨y0, y1, y2, n, _, hl, g0, g1, g2⟩ := trod_struct3 Tryz.underlying54 h
  dsimp only at g0 g1 g2
  rw [c36] at hl
  rw [c33] at g0
  rw [c2] at g1
  rw [c1] at g2
  obtain ⟨l, a, e0, l32, lb⟩ := open_place_cells g0
  obtain ⟨o, e1, ho⟩ := open_out g1
  obtain ⟨ht, e2, _, _⟩ := DataW.trod_int Tryz.underlying3 g2
  refine ⟨⟨l, a, o.amount, o.lv, o.L, ht⟩, ?_, l32, lb, ho⟩
  have h1 : cs = cs.take 33 ++ ((cs.drop 33).take 2 ++ (cs.drop 35).take 1) := by
    conv => lhs; rw [← List.take_append_drop 33 cs, ← List.take_append_drop 2 (cs.drop 33), List.drop_drop]
    congr 2
    exact (List.take_of_length_le (by rw [List.length_drop]; omega)).symm
  rw [List.drop_zero] at e0
  rw [h1, e0, e1, e2]
  simp [coinCell, outCell]
set_option maxRecDepth 100000 in
theorem open_coins_cells {H : Type} {enc : TypeId × Value → H} {W : World} {fuel : Nat} {cs : List Value} {x : DataW H × List MemPlace}
    (hf : DataW.trod enc Tryz.prog W 0 (fun _ => true) true fuel 22 cs = some x) : ∃ v R, cs = [v] ∧ HasCoins W v R := by
  have c36 : Tryz.prog.cellsOf 54 = 36 := by kernel_rfl
  rcases open_slice Tryz.underlying22 hf with ⟨hcs, hd⟩ | ⟨a, len, cap, m, n, D, Pl, hcs, hb, hl, hm, hmm, hd, hx⟩
  · subst hcs
    exact ⟨_, [], rfl, .inl ⟨none, 0, rfl, rfl⟩, fun p hp => by cases hp⟩
  · subst hcs
    simp only [if_true] at hmm
    subst hmm
    rw [c36] at hx
    have each : ∀ i, i < m → ∃ q : CoinV, (∀ j v, (coinCell q)[j]? = some v → W.cell? (a.add (i * 36 + j)) = some v) ∧ CoinOk W q := by
      intro i hi
      obtain ⟨cs', h1, h2⟩ := hx i hi
      obtain ⟨_, hlen, hcell⟩ := World.cells?_some h1
      obtain ⟨q, rfl, hq⟩ := open_coin h2
      refine ⟨q, fun j v hv => ?_, hq⟩
      have hj : j < 36 := by have := (List.getElem?_eq_some_iff.1 hv).1; rw [coinCell_length q hq.1] at this; exact this
      have := hcell j hj
      rw [add_add] at this
      rw [this]; exact hv
    obtain ⟨q, hq⟩ := choose_lt each
    refine ⟨_, (List.range len).map q, rfl, ?_, fun p hp => ?_⟩
    · by_cases hl0 : len = 0
      · subst hl0; exact .inl ⟨_, _, rfl, by simp⟩
      · obtain ⟨b, off, spot⟩ := a
        have h32 := (hq 0 (by omega)).2.1
        have h00 := (hq 0 (by omega)).1 0 (.int .u8 ((q 0).tx.getD 0 0)) (by rw [coinCell, List.getElem?_append_left (by rw [vals_length, h32]; omega), vals_get _ _ (by rw [h32]; omega)])
        have hspot : spot = none := by simpa [Addr.add] using World.cell?_spot h00
        subst hspot
        have hlt : b < W.heap.size := by rw [Addr.add_lit] at h00; exact World.block_lt_of_cell? W _ h00
        refine .inr ⟨b, off, m, by simp, by simp; omega, by simp; omega, hm, hlt, ?_⟩
        refine range_all (s := 36) (by omega) fun i hi => ⟨coinCell_length _ (hq i (by omega)).2.1, fun j v hv => ?_⟩
        have := (hq i (by omega)).1 j v hv
        rw [Addr.add_lit] at this
        exact this
    · obtain ⟨i, hi, rfl⟩ := List.mem_map.1 hp
      exact (hq i (by have := List.mem_range.1 hi; omega)).2
set_option maxRecDepth 100000 in
theorem open_coins {H : Type} {enc : TypeId × Value → H} {W : World} {a : Option Addr} {len cap : Nat} {d : DataW H} {p : List MemPlace}
    (h : DataW.Trod enc Tryz.prog W 0 (fun _ => true) true 22 (.slice a len cap) d p) : ∃ R, HasCoins W (.slice a len cap) R := by
  obtain ⟨fuel, hf⟩ := h
  obtain ⟨v, R, e, hR⟩ := open_coins_cells hf
  simp only [Value.cells] at e
  injection e with e
  subst e
  exact ⟨R, hR⟩
end Go.Proofs.YtmjilohlchkicaaGreatDoor
