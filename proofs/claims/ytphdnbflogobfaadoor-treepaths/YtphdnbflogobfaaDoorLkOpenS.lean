/- How arguments that are a slice of digests, or a slice of truths, are opened. -/
import Derived.Test.YtphdnbflogobfaaDoorLkK
import Derived.Test.YtphdnbflogobfaaDoorOpenD
import Derived.Deep.Grids
namespace Go.Proofs.YtphdnbflogobfaaDoor
open Go.ChangeShapes Go.WideShapes Go.ChangeAt Go.RowKit Go.Deep
set_option linter.unusedVariables false

set_option maxRecDepth 100000 in
theorem open_dig_cells {H : Type} {enc : TypeId × Value → H} {W : World} {base fuel : Nat} {cs : List Value} {x : DataW H × List MemPlace}
    (hf : DataW.trod enc Tryd.prog W base (fun _ => true) true fuel 26 cs = some x) (hs : cs.length = 32) : ∃ l, cs = vals l ∧ l.length = 32 ∧ Sz.Byt l := by
  have hu := Tryd.underlying26
  have hc1 : Tryd.prog.cellsOf 5 = 1 := by kernel_rfl
  have hc32 : Tryd.prog.cellsOf 26 = 32 := by kernel_rfl
  cases fuel with
  | zero => simp [DataW.trod] at hf
  | succ m =>
    rw [DataW.trod_step] at hf
    unfold DataW.trodStep at hf
    simp only [hu] at hf
    rw [if_pos (by rw [hc32]; exact hs)] at hf
    simp only [Option.map_eq_some_iff] at hf
    obtain ⟨ys, hy, _⟩ := hf
    have hcell : ∀ i, i < 32 → ∃ a, cs[i]? = some (.int .u8 a) ∧ 0 ≤ a ∧ a < 256 := fun i hi => by
      obtain ⟨a, ea, wa⟩ := mapM_cells _ ys hy i (by simpa using hi)
      refine ⟨a, ?_, ?_⟩
      · have e2 : ((cs.drop (i * Tryd.prog.cellsOf 5)).take (Tryd.prog.cellsOf 5))[0]? = some (.int .u8 a) := by rw [ea]; rfl
        rw [hc1, Nat.mul_one, List.getElem?_take, List.getElem?_drop] at e2
        simpa using e2
      · simp [Lit.wf, IntKind.min, IntKind.max, IntKind.signed, IntKind.bits] at wa
        omega
    refine ⟨cs.map valI, ?_, by rw [List.length_map, hs], fun x hx => ?_⟩
    · apply List.ext_getElem (by simp [vals])
      intro i h1 h2
      obtain ⟨a, ha, _⟩ := hcell i (by omega)
      rw [List.getElem?_eq_getElem h1] at ha
      injection ha with ha
      simp only [vals, List.getElem_map, ha, valI]
    · obtain ⟨y, hy, rfl⟩ := List.mem_map.1 hx
      obtain ⟨i, hi, rfl⟩ := List.getElem_of_mem hy
      obtain ⟨a, ha, h0, h1⟩ := hcell i (by omega)
      rw [List.getElem?_eq_getElem hi] at ha
      injection ha with ha
      rw [ha]
      exact ⟨h0, h1⟩

/-- A slice of digests. -/
def HasDigs (w : World) (v : Value) (DS : List (List Int)) : Prop :=
  (∃ a cap, v = .slice a DS.length cap ∧ DS.length ≤ cap ∧ cap ≤ maxLen ∧ ∀ i, i < DS.length → ∃ b off, a = some ⟨b, off, none⟩ ∧ b < w.heap.size ∧ ∀ i, i < DS.length → w.rangeAt b (off + i * 32) (vals (DS.getD i []))) ∧
  ∀ d ∈ DS, d.length = 32 ∧ Sz.Byt d
theorem HasDigs.below {w w' : World} {v : Value} {DS : List (List Int)} (h : HasDigs w v DS) (hb : Below w.heap.size w w') : HasDigs w' v DS := by
  obtain ⟨⟨a, cap, hv, h1, h2, hr⟩, hd⟩ := h
  refine ⟨⟨a, cap, hv, h1, h2, fun i hi => ?_⟩, hd⟩
  obtain ⟨b, off, ha, hlt, hrr⟩ := hr i hi
  exact ⟨b, off, ha, Nat.lt_of_lt_of_le hlt hb.size, fun j hj => range_keep (hrr j hj) hb hlt⟩

theorem open_digs {H : Type} {enc : TypeId × Value → H} {W : World} {a0 : Option Addr} {len0 cap0 : Nat} {d0 : DataW H} {p0 : List MemPlace}
    (h0 : DataW.Trod enc Tryd.prog W 0 (fun _ => true) true 22 (.slice a0 len0 cap0) d0 p0) : ∃ DS, HasDigs W (.slice a0 len0 cap0) DS ∧ DS.length = len0 := by
  have c32 : Tryd.prog.cellsOf 26 = 32 := by kernel_rfl
  obtain ⟨fuel, hf⟩ := h0
  rcases open_slice Tryd.underlying22 hf with ⟨hcs, hd⟩ | ⟨a, len, cap, m, n, D, Pl, hcs, hb, hl, hm, hmm, hd, hx⟩
  · simp [Value.cells] at hcs
    obtain ⟨rfl, rfl, rfl⟩ := hcs
    exact ⟨[], ⟨⟨none, 0, rfl, by simp, by simp, fun i hi => absurd hi (by simp)⟩, fun p hp => by cases hp⟩, rfl⟩
  · simp [Value.cells] at hcs
    obtain ⟨rfl, rfl, rfl⟩ := hcs
    simp only [if_true] at hmm
    subst hmm
    rw [c32] at hx
    have each : ∀ i, i < m → ∃ l : List Int, (∀ j v, (vals l)[j]? = some v → W.cell? (a.add (i * 32 + j)) = some v) ∧ l.length = 32 ∧ Sz.Byt l := by
      intro i hi
      obtain ⟨cs', h1, h2⟩ := hx i hi
      obtain ⟨_, hlen, hcell⟩ := World.cells?_some h1
      obtain ⟨l, rfl, q1, q2⟩ := open_dig_cells h2 hlen
      refine ⟨l, fun j v hv => ?_, q1, q2⟩
      have hj : j < 32 := by have := (List.getElem?_eq_some_iff.1 hv).1; rw [vals_length, q1] at this; exact this
      have := hcell j hj
      rw [add_add] at this
      rw [this]; exact hv
    obtain ⟨q, hq⟩ := choose_lt each
    refine ⟨(List.range len0).map q, ⟨⟨some a, m, by simp, by simpa using hl, hm, fun i hi => ?_⟩, fun p hp => ?_⟩, by simp⟩
    · have hi0 : i < len0 := by simpa using hi
      obtain ⟨b, off, spot⟩ := a
      have h00 := (hq 0 (by omega)).1 0 (.int .u8 ((q 0).getD 0 0)) (vals_get _ _ (by rw [(hq 0 (by omega)).2.1]; omega))
      have hspot : spot = none := by simpa [Addr.add] using World.cell?_spot h00
      subst hspot
      have hlt : b < W.heap.size := by rw [Addr.add_lit] at h00; exact World.block_lt_of_cell? W _ h00
      refine ⟨b, off, rfl, hlt, fun i hi => ?_⟩
      have hi2 : i < len0 := by simpa using hi
      have e : ((List.range len0).map q).getD i [] = q i := by simp [List.getD, hi2]
      rw [e]
      intro j v hv
      have := (hq i (by omega)).1 j v hv
      rw [Addr.add_lit, ← Nat.add_assoc] at this
      exact this
    · obtain ⟨i, hi, rfl⟩ := List.mem_map.1 hp
      exact (hq i (by have := List.mem_range.1 hi; omega)).2

/-- A slice of truths. -/
def HasBools (w : World) (v : Value) (BS : List Bool) : Prop :=
  ∃ a cap, v = .slice a BS.length cap ∧ BS.length ≤ cap ∧ cap ≤ maxLen ∧ ∀ i, i < BS.length → ∃ b off, a = some ⟨b, off, none⟩ ∧ b < w.heap.size ∧ w.cell? ⟨b, off + i, none⟩ = some (.bool (BS.getD i false))
theorem HasBools.below {w w' : World} {v : Value} {BS : List Bool} (h : HasBools w v BS) (hb : Below w.heap.size w w') : HasBools w' v BS := by
  obtain ⟨a, cap, hv, h1, h2, hr⟩ := h
  refine ⟨a, cap, hv, h1, h2, fun i hi => ?_⟩
  obtain ⟨b, off, ha, hlt, hc⟩ := hr i hi
  exact ⟨b, off, ha, Nat.lt_of_lt_of_le hlt hb.size, by rw [hb.cell (p := ⟨b, off + i, none⟩) hlt]; exact hc⟩
theorem open_bslice {H : Type} {enc : TypeId × Value → H} {W : World} {a0 : Option Addr} {len0 cap0 : Nat} {d0 : DataW H} {p0 : List MemPlace}
    (h0 : DataW.Trod enc Tryd.prog W 0 (fun _ => true) true 51 (.slice a0 len0 cap0) d0 p0) : ∃ BS, HasBools W (.slice a0 len0 cap0) BS ∧ BS.length = len0 := by
  obtain ⟨fuel, hf⟩ := h0
  rcases open_bools Tryd.underlying51 Tryd.underlying4 (by kernel_rfl) hf with ⟨hcs, hd⟩ | ⟨a, len, cap, B, hcs, _, hl, hm, hd, hcell⟩
  · simp [Value.cells] at hcs
    obtain ⟨rfl, rfl, rfl⟩ := hcs
    exact ⟨[], ⟨none, 0, rfl, by simp, by simp, fun i hi => absurd hi (by simp)⟩, rfl⟩
  · simp [Value.cells] at hcs
    obtain ⟨rfl, rfl, rfl⟩ := hcs
    refine ⟨(List.range len0).map B, ⟨some a, cap0, by simp, by simpa using hl, hm, fun i hi => ?_⟩, by simp⟩
    have hi0 : i < len0 := by simpa using hi
    obtain ⟨b, off, spot⟩ := a
    have hspot : spot = none := by simpa [Addr.add] using World.cell?_spot (hcell 0 (by omega))
    subst hspot
    have hc := hcell i (by omega)
    rw [Addr.add_lit] at hc
    refine ⟨b, off, rfl, World.block_lt_of_cell? W _ hc, ?_⟩
    rw [hc]
    simp [List.getD, hi0]
end Go.Proofs.YtphdnbflogobfaaDoor
