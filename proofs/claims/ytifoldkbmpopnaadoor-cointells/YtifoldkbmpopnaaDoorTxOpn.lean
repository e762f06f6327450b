/- How an argument that is a payment is opened. -/
import Derived.Test.YtifoldkbmpopnaaDoorZTc
import Derived.Test.YtifoldkbmpopnaaDoorOpenD
import Derived.Deep.Strs
namespace Go.Proofs.YtifoldkbmpopnaaDoor
open Go.ChangeShapes Go.WideShapes Go.ChangeAt Go.RowKit Go.Deep
set_option linter.unusedVariables false

instance : Inhabited InV := ⟨⟨[], 0, .nilIface, []⟩⟩
instance : Inhabited OutV := ⟨⟨0, .nilIface, []⟩⟩

set_option maxRecDepth 100000 in
theorem tx_dig_cells {H : Type} {enc : TypeId × Value → H} {W : World} {base fuel : Nat} {cs : List Value} {x : DataW H × List MemPlace}
    (hf : DataW.trod enc Tryd.prog W base (fun _ => true) true fuel 23 cs = some x) (hs : cs.length = 32) : ∃ l, cs = vals l ∧ l.length = 32 ∧ Sz.Byt l := by
  have hu := Tryd.underlying23
  have hc1 : Tryd.prog.cellsOf 5 = 1 := by kernel_rfl
  have hc32 : Tryd.prog.cellsOf 23 = 32 := by kernel_rfl
  cases fuel with
  | zero => simp [DataW.trod] at hf
  | succ m =>
    rw [DataW.trod_step] at hf
    unfold DataW.trodStep at hf
    simp only [hu] at hf
    rw [if_pos (by rw [hc32]; exact hs)] at hf
    simp only [Option.map_eq_some_iff] at hf
    obtain ⟨ys, hy, _⟩ := hf
    have hcell : ∀ i, i < 32 → ∃ a, cs[i]? = some (.int .u8 a) ∧ 0 ≤ a ∧ a < 256 := fun i hi => by
      obtain ⟨a, ea, wa⟩ := mapM_cells _ ys hy i (by simpa using hi)
      refine ⟨a, ?_, ?_⟩
      · have e2 : ((cs.drop (i * Tryd.prog.cellsOf 5)).take (Tryd.prog.cellsOf 5))[0]? = some (.int .u8 a) := by rw [ea]; rfl
        rw [hc1, Nat.mul_one, List.getElem?_take, List.getElem?_drop] at e2
        simpa using e2
      · simp [Lit.wf, IntKind.min, IntKind.max, IntKind.signed, IntKind.bits] at wa
        omega
    refine ⟨cs.map valI, ?_, by rw [List.length_map, hs], fun x hx => ?_⟩
    · apply List.ext_getElem (by simp [vals])
      intro i h1 h2
      obtain ⟨a, ha, _⟩ := hcell i (by omega)
      rw [List.getElem?_eq_getElem h1] at ha
      injection ha with ha
      simp only [vals, List.getElem_map, ha, valI]
    · obtain ⟨y, hy, rfl⟩ := List.mem_map.1 hx
      obtain ⟨i, hi, rfl⟩ := List.getElem_of_mem hy
      obtain ⟨a, ha, h0, h1⟩ := hcell i (by omega)
      rw [List.getElem?_eq_getElem hi] at ha
      injection ha with ha
      rw [ha]
      exact ⟨h0, h1⟩


theorem open_ops_cells {H : Type} {enc : TypeId × Value → H} {W : World} {fuel : Nat} {cs : List Value} {x : DataW H × List MemPlace}
    (h : DataW.trod enc Tryd.prog W 0 (fun _ => true) true fuel 39 cs = some x) : ∃ v R, cs = [v] ∧ HasOps W v R := by
  obtain ⟨d0, p0⟩ := x
  have h2 := h
  rcases open_slice Tryd.underlying39 h2 with ⟨hcs, hd⟩ | ⟨a, len, cap, m, n, D, Pl, hcs, hb, hl, hm, hmm, hd, hx⟩
  · subst hcs
    obtain ⟨K, hk, _⟩ := open_ops (a0 := none) (len0 := 0) (cap0 := 0) (⟨fuel, h⟩ : DataW.Trod enc Tryd.prog W 0 (fun _ => true) true 39 (.slice none 0 0) d0 p0)
    exact ⟨_, K, rfl, hk⟩
  · subst hcs
    obtain ⟨K, hk, _⟩ := open_ops (a0 := some a) (len0 := len) (cap0 := cap) (⟨fuel, h⟩ : DataW.Trod enc Tryd.prog W 0 (fun _ => true) true 39 (.slice (some a) len cap) d0 p0)
    exact ⟨_, K, rfl, hk⟩

set_option maxRecDepth 100000 in
theorem open_out {H : Type} {enc : TypeId × Value → H} {W : World} {fuel : Nat} {cs : List Value} {x : DataW H × List MemPlace}
    (h : DataW.trod enc Tryd.prog W 0 (fun _ => true) true fuel 41 cs = some x) : ∃ q : OutV, cs = outCell q ∧ HasOps W q.lv q.L := by
  have c2 : Tryd.prog.cellsOf 41 = 2 := by kernel_rfl
  have c1 : Tryd.prog.cellsOf 3 = 1 := by kernel_rfl
  have ck : Tryd.prog.cellsOf 39 = 1 := by kernel_rfl
  obtain ⟨y0, y1, n, _, hl, g0, g1⟩ := trod_struct2 Tryd.underlying41 h
  dsimp only at g0 g1
  rw [c2] at hl
  rw [c1] at g0
  rw [ck] at g1
  match cs, hl with
  | [x0, x1], _ =>
    obtain ⟨a, ea, _, _⟩ := DataW.trod_int Tryd.underlying3 g0
    obtain ⟨v, K, ev, hK⟩ := open_ops_cells g1
    simp at ea ev
    subst ea ev
    exact ⟨⟨a, x1, K⟩, rfl, hK⟩

/-- A row of pieces, each as long as the others. -/
theorem range_all {W : World} {α : Type} {b off s n : Nat} {f : α → List Value} {q : Nat → α} (hs0 : 0 < s) (h : ∀ i, i < n → (f (q i)).length = s ∧ ∀ j v, (f (q i))[j]? = some v → W.cell? ⟨b, off + (i * s + j), none⟩ = some v) :
    W.rangeAt b off ((((List.range n).map q).map f).flatten) := by
  have key : ∀ k, k ≤ n → W.rangeAt b off ((((List.range k).map q).map f).flatten) ∧ ((((List.range k).map q).map f).flatten).length = k * s := by
    intro k
    induction k with
    | zero => intro _; exact ⟨fun j v hv => by simp at hv, by simp⟩
    | succ k ih =>
      intro hk
      obtain ⟨i1, i2⟩ := ih (by omega)
      obtain ⟨h1, h2⟩ := h k (by omega)
      rw [List.range_succ, List.map_append, List.map_append, List.flatten_append]
      simp only [List.map_cons, List.map_nil, List.flatten_cons, List.flatten_nil, List.append_nil]
      refine ⟨fun j v hv => ?_, by rw [List.length_append, i2, h1, Nat.succ_mul]⟩
      by_cases hj : j < k * s
      · rw [List.getElem?_append_left (by omega)] at hv
        exact i1 j v hv
      · rw [List.getElem?_append_right (by omega), i2] at hv
        have := h2 (j - k * s) v hv
        rwa [show off + (k * s + (j - k * s)) = off + j by omega] at this
  exact (key n (Nat.le_refl _)).1

end Go.Proofs.YtifoldkbmpopnaaDoor
