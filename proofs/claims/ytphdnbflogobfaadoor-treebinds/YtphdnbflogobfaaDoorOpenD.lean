/- How an argument that is a digest, an array by value, is opened: its 32 bytes as a list of numbers. -/
import Derived.Test.YtphdnbflogobfaaDoorOpen
namespace Go.Proofs.YtphdnbflogobfaaDoor
open Go.ChangeShapes Go.WideShapes Go.ChangeAt Go.RowKit
set_option linter.unusedVariables false

theorem mapM_cells {H : Type} {enc : TypeId × Value → H} {W : World} {base : Nat} {sp : Nat → Bool} {held : Bool} {m : Nat} {cs : List Value} {c : Nat} : ∀ (L : List Nat) (xs : List (DataW H × List MemPlace)),
    L.mapM (fun i => DataW.trod enc Tryd.prog W base sp held m 5 ((cs.drop (i * c)).take c)) = some xs → ∀ i ∈ L, ∃ a, (cs.drop (i * c)).take c = [.int .u8 a] ∧ (Lit.int .u8 a).wf = true
  | [], xs, h, i, hi => by cases hi
  | j :: L, xs, h, i, hi => by
    rw [List.mapM_cons] at h
    simp only [bind, Option.bind_eq_some_iff, pure, Option.some.injEq] at h
    obtain ⟨y, hy, ys, hys, rfl⟩ := h
    rcases List.mem_cons.1 hi with rfl | hi
    · obtain ⟨a, ea, _, wa⟩ := DataW.trod_int Tryd.underlying5 hy
      exact ⟨a, ea, wa⟩
    · exact mapM_cells L ys hys i hi

def valI : Value → Int
  | .int _ n => n
  | _ => 0

set_option maxRecDepth 100000 in
/-- An argument that is a digest. -/
theorem open_dig {H : Type} {enc : TypeId × Value → H} {W : World} {v : Value} {r : Reach} {b0 base : Nat} {d : DataW H} {p : List MemPlace} (hv : Value.okWide Tryd.prog W r b0 26 v)
    (h : DataW.Trod enc Tryd.prog W base (fun _ => true) true 26 v d p) : ∃ l, v = .agg (vals l).toArray ∧ l.length = 32 ∧ Sz.Byt l := by
  have hu := Tryd.underlying26
  have hc1 : Tryd.prog.cellsOf 5 = 1 := by kernel_rfl
  have hc32 : Tryd.prog.cellsOf 26 = 32 := by kernel_rfl
  simp only [Value.okWide, hu] at hv
  obtain ⟨cs, rfl, hs, _⟩ := hv
  rw [hc32] at hs
  obtain ⟨fuel, hf⟩ := h
  cases fuel with
  | zero => simp [DataW.trod] at hf
  | succ m =>
    rw [DataW.trod_step] at hf
    unfold DataW.trodStep at hf
    simp only [hu, Value.cells] at hf
    rw [if_pos (by rw [hc32]; simpa using hs)] at hf
    simp only [Option.map_eq_some_iff] at hf
    obtain ⟨ys, hy, _⟩ := hf
    have hcell : ∀ i, i < 32 → ∃ a, cs.toList[i]? = some (.int .u8 a) ∧ 0 ≤ a ∧ a < 256 := fun i hi => by
      obtain ⟨a, ea, wa⟩ := mapM_cells _ ys hy i (by simpa using hi)
      refine ⟨a, ?_, ?_⟩
      · have e2 : ((cs.toList.drop (i * Tryd.prog.cellsOf 5)).take (Tryd.prog.cellsOf 5))[0]? = some (.int .u8 a) := by rw [ea]; rfl
        rw [hc1, Nat.mul_one, List.getElem?_take, List.getElem?_drop] at e2
        simpa using e2
      · simp [Lit.wf, IntKind.min, IntKind.max, IntKind.signed, IntKind.bits] at wa
        omega
    have hl : cs.toList.length = 32 := by simpa using hs
    refine ⟨cs.toList.map valI, ?_, by rw [List.length_map, hl], fun x hx => ?_⟩
    · have e : vals (cs.toList.map valI) = cs.toList := by
        apply List.ext_getElem (by simp [vals])
        intro i h1 h2
        obtain ⟨a, ha, _⟩ := hcell i (by omega)
        rw [List.getElem?_eq_getElem h2] at ha
        injection ha with ha
        simp only [vals, List.getElem_map, ha, valI]
      rw [e]
    · obtain ⟨y, hy, rfl⟩ := List.mem_map.1 hx
      obtain ⟨i, hi, rfl⟩ := List.getElem_of_mem hy
      obtain ⟨a, ha, h0, h1⟩ := hcell i (by omega)
      rw [List.getElem?_eq_getElem hi] at ha
      injection ha with ha
      rw [ha]
      exact ⟨h0, h1⟩
end Go.Proofs.YtphdnbflogobfaaDoor
