/- How arguments that are places and sets of coins are opened. -/
import Derived.Test.YtpnkndagahchhaaDoorZCm
import Derived.Test.YtpnkndagahchhaaDoorTxOpn
namespace Go.Proofs.YtpnkndagahchhaaDoor
open Go.ChangeShapes Go.WideShapes Go.ChangeAt Go.RowKit Go.Deep
set_option linter.unusedVariables false

instance : Inhabited CoinV := ⟨⟨[], 0, 0, .nilIface, [], 0⟩⟩
set_option maxRecDepth 100000 in
theorem open_place_cells {H : Type} {enc : TypeId × Value → H} {W : World} {fuel : Nat} {cs : List Value} {x : DataW H × List MemPlace}
    (h : DataW.trod enc Tryd.prog W 0 (fun _ => true) true fuel 43 cs = some x) : ∃ l n, cs = vals l ++ [.int .i64 n] ∧ l.length = 32 ∧ Sz.Byt l := by
  have c33 : Tryd.prog.cellsOf 43 = 33 := by kernel_rfl
  have c32 : Tryd.prog.cellsOf 39 = 32 := by kernel_rfl
  have c1 : Tryd.prog.cellsOf 3 = 1 := by kernel_rfl
  obtain ⟨z0, z1, m, _, hl2, k0, k1⟩ := trod_struct2 Tryd.underlying43 h
  dsimp only at k0 k1
  rw [c33] at hl2
  rw [c32] at k0
  rw [c1] at k1
  obtain ⟨l, el, l32, lb⟩ := tx_dig_cells k0 (by simp; omega)
  obtain ⟨a, ea, _, _⟩ := DataW.trod_int Tryd.underlying3 k1
  refine ⟨l, a, ?_, l32, lb⟩
  have e1 : cs.take 32 ++ (cs.drop 32) = cs := List.take_append_drop 32 cs
  have e2 : (cs.drop 32).take 1 = cs.drop 32 := List.take_of_length_le (by rw [List.length_drop]; omega)
  have e3 : cs.take 32 = vals l := by rw [← el]; simp
  rw [e2] at ea
  rw [← e1, e3, ea]
set_option maxRecDepth 100000 in
theorem open_place {H : Type} {enc : TypeId × Value → H} {W : World} {v : Value} {r : Reach} {b0 : Nat} {d : DataW H} {p : List MemPlace} (hv : Value.okWide Tryd.prog W r b0 43 v)
    (h : DataW.Trod enc Tryd.prog W 0 (fun _ => true) true 43 v d p) : ∃ l n, v = .agg (vals l ++ [Value.int .i64 n]).toArray ∧ l.length = 32 ∧ Sz.Byt l := by
  simp only [Value.okWide, Tryd.underlying43] at hv
  obtain ⟨cs, rfl, hs, _⟩ := hv
  obtain ⟨fuel, hf⟩ := h
  obtain ⟨l, n, e, h1, h2⟩ := open_place_cells hf
  obtain ⟨cl⟩ := cs
  simp only [Value.cells] at e
  exact ⟨l, n, by rw [← e], h1, h2⟩
set_option maxRecDepth 100000 in
theorem open_coin {H : Type} {enc : TypeId × Value → H} {W : World} {fuel : Nat} {cs : List Value} {x : DataW H × List MemPlace}
    (h : DataW.trod enc Tryd.prog W 0 (fun _ => true) true fuel 53 cs = some x) : ∃ q : CoinV, cs = coinCell q ∧ CoinOk W q := by
  have c36 : Tryd.prog.cellsOf 53 = 36 := by kernel_rfl
  have c33 : Tryd.prog.cellsOf 43 = 33 := by kernel_rfl
  have c2 : Tryd.prog.cellsOf 36 = 2 := by kernel_rfl
  have c1 : Tryd.prog.cellsOf 3 = 1 := by kernel_rfl
  obtain ⟨y0, y1, y2, n, _, hl, g0, g1, g2⟩ := trod_struct3 Tryd.underlying53 h
  dsimp only at g0 g1 g2
  rw [c36] at hl
  rw [c33] at g0
  rw [c2] at g1
  rw [c1] at g2
  obtain ⟨l, a, e0, l32, lb⟩ := open_place_cells g0
  obtain ⟨o, e1, ho⟩ := open_out g1
  obtain ⟨ht, e2, _, _⟩ := DataW.trod_int Tryd.underlying3 g2
  refine ⟨⟨l, a, o.amount, o.lv, o.L, ht⟩, ?_, l32, lb, ho⟩
  have h1 : cs = cs.take 33 ++ ((cs.drop 33).take 2 ++ (cs.drop 35).take 1) := by
    conv => lhs; rw [← List.take_append_drop 33 cs, ← List.take_append_drop 2 (cs.drop 33), List.drop_drop]
    congr 2
    exact (List.take_of_length_le (by rw [List.length_drop]; omega)).symm
  rw [List.drop_zero] at e0
  rw [h1, e0, e1, e2]
  simp [coinCell, outCell]
set_option maxRecDepth 100000 in
theorem open_coins_cells {H : Type} {enc : TypeId × Value → H} {W : World} {fuel : Nat} {cs : List Value} {x : DataW H × List MemPlace}
    (hf : DataW.trod enc Tryd.prog W 0 (fun _ => true) true fuel 22 cs = some x) : ∃ v R, cs = [v] ∧ HasCoins W v R := by
  have c36 : Tryd.prog.cellsOf 53 = 36 := by kernel_rfl
  rcases open_slice Tryd.underlying22 hf with ⟨hcs, hd⟩ | ⟨a, len, cap, m, n, D, Pl, hcs, hb, hl, hm, hmm, hd, hx⟩
  · subst hcs
    exact ⟨_, [], rfl, .inl ⟨none, 0, rfl, rfl⟩, fun p hp => by cases hp⟩
  · subst hcs
    simp only [if_true] at hmm
    subst hmm
    rw [c36] at hx
    have each : ∀ i, i < m → ∃ q : CoinV, (∀ j v, (coinCell q)[j]? = some v → W.cell? (a.add (i * 36 + j)) = some v) ∧ CoinOk W q := by
      intro i hi
      obtain ⟨cs', h1, h2⟩ := hx i hi
      obtain ⟨_, hlen, hcell⟩ := World.cells?_some h1
      obtain ⟨q, rfl, hq⟩ := open_coin h2
      refine ⟨q, fun j v hv => ?_, hq⟩
      have hj : j < 36 := by have := (List.getElem?_eq_some_iff.1 hv).1; rw [coinCell_length q hq.1] at this; exact this
      have := hcell j hj
      rw [add_add] at this
      rw [this]; exact hv
    obtain ⟨q, hq⟩ := choose_lt each
    refine ⟨_, (List.range len).map q, rfl, ?_, fun p hp => ?_⟩
    · by_cases hl0 : len = 0
      · subst hl0; exact .inl ⟨_, _, rfl, by simp⟩
      · obtain ⟨b, off, spot⟩ := a
        have h32 := (hq 0 (by omega)).2.1
        have h00 := (hq 0 (by omega)).1 0 (.int .u8 ((q 0).tx.getD 0 0)) (by rw [coinCell, List.getElem?_append_left (by rw [vals_length, h32]; omega), vals_get _ _ (by rw [h32]; omega)])
        have hspot : spot = none := by simpa [Addr.add] using World.cell?_spot h00
        subst hspot
        have hlt : b < W.heap.size := by rw [Addr.add_lit] at h00; exact World.block_lt_of_cell? W _ h00
        refine .inr ⟨b, off, m, by simp, by simp; omega, by simp; omega, hm, hlt, ?_⟩
        refine range_all (s := 36) (by omega) fun i hi => ⟨coinCell_length _ (hq i (by omega)).2.1, fun j v hv => ?_⟩
        have := (hq i (by omega)).1 j v hv
        rw [Addr.add_lit] at this
        exact this
    · obtain ⟨i, hi, rfl⟩ := List.mem_map.1 hp
      exact (hq i (by have := List.mem_range.1 hi; omega)).2
set_option maxRecDepth 100000 in
theorem open_coins {H : Type} {enc : TypeId × Value → H} {W : World} {a : Option Addr} {len cap : Nat} {d : DataW H} {p : List MemPlace}
    (h : DataW.Trod enc Tryd.prog W 0 (fun _ => true) true 22 (.slice a len cap) d p) : ∃ R, HasCoins W (.slice a len cap) R := by
  obtain ⟨fuel, hf⟩ := h
  obtain ⟨v, R, e, hR⟩ := open_coins_cells hf
  simp only [Value.cells] at e
  injection e with e
  subst e
  exact ⟨R, hR⟩
end Go.Proofs.YtpnkndagahchhaaDoor
