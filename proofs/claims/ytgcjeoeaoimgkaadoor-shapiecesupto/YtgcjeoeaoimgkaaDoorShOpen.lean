/- How an argument that is a slice of slices of bytes is opened: its rows as lists of numbers, and how many they can be. -/
import Derived.Test.YtgcjeoeaoimgkaaDoorShPieces
import Derived.Test.YtgcjeoeaoimgkaaDoorOpen
import Derived.Deep.Matrix
namespace Go.Proofs.YtgcjeoeaoimgkaaDoor
open Go.ChangeShapes Go.WideShapes Go.ChangeAt Go.RowKit Go.Deep
set_option linter.unusedVariables false

theorem bulk_pos {H : Type} (d : DataW H) : 1 ≤ Rows.uptoBulk d := by
  unfold Rows.uptoBulk
  split <;> omega
theorem bulk_length {H : Type} (l : List (DataW H)) : l.length ≤ Rows.uptoBulkAll l := by
  induction l with
  | nil => simp [Rows.uptoBulkAll]
  | cons x r ih => have := bulk_pos x; simp only [Rows.uptoBulkAll, List.length_cons]; omega
theorem bulk_holds {H : Type} {d : DataW H} {l : List Int} (h : Holds d l) : l.length ≤ Rows.uptoBulk d := by
  rcases h with ⟨rfl, rfl⟩ | ⟨elems, spare, rfl, hl⟩
  · simp
  · have := bulk_length elems
    simp only [Rows.uptoBulk]
    omega

theorem row_has {W : World} {A : Option Addr} {L C : Nat} {Z : List Int} (h1 : L ≤ C) (h2 : C ≤ maxLen) (h3 : Z.length = C) (hn : A = none → C = 0) (hc : ∀ a', A = some a' → ∀ c, c < C → W.cell? (a'.add c) = some (.int .u8 (Z.getD c 0))) :
    Has W (.slice A L C) (Z.take L) := by
  have hl : (Z.take L).length = L := by rw [List.length_take]; omega
  by_cases hL : L = 0
  · subst hL; exact .inl ⟨A, C, rfl, rfl, h2, hn⟩
  · cases A with
    | none => have := hn rfl; omega
    | some a =>
      obtain ⟨b, off, spot⟩ := a
      have hspot : spot = none := by simpa [Addr.add] using World.cell?_spot (hc _ rfl 0 (by omega))
      subst hspot
      refine .inr ⟨b, off, C, by rw [hl], by omega, by omega, h2, fun j hj => ?_⟩
      have := hc _ rfl j (by omega)
      rw [Addr.add_lit] at this
      rw [this]
      simp only [List.getD, List.getElem?_take]
      rw [if_pos (by omega)]

theorem bulk_rows {H : Type} (f : Nat → DataW H) (g : Nat → List Int) (rs : List Nat) (h : ∀ r ∈ rs, (g r).length ≤ Rows.uptoBulk (f r)) : ((rs.map g).flatten).length ≤ Rows.uptoBulkAll (rs.map f) := by
  induction rs with
  | nil => simp [Rows.uptoBulkAll]
  | cons r rs ih =>
    have h1 := h r (by simp)
    have h2 := ih (fun x hx => h x (by simp [hx]))
    simp only [List.map_cons, List.flatten_cons, List.length_append, Rows.uptoBulkAll]
    omega

theorem open_rows {H : Type} {enc : TypeId × Value → H} {W : World} {a0 : Option Addr} {len0 cap0 : Nat} {d0 : DataW H} {p0 : List MemPlace}
    (h0 : DataW.Trod enc Tryd.prog W 0 (fun _ => true) true 28 (.slice a0 len0 cap0) d0 p0) :
    ∃ ls, HasRows W a0 len0 ls ∧ (∀ l ∈ ls, Sz.Byt l) ∧ ls.flatten.length ≤ Rows.uptoBulk d0 ∧ ls.length ≤ Rows.uptoBulk d0 := by
  obtain ⟨fuel, hf⟩ := h0
  rcases open_int_rows Tryd.underlying28 Tryd.underlying22 Tryd.underlying5 (by kernel_rfl) (by kernel_rfl) hf with ⟨hcs, hd⟩ | ⟨a, len, cap, A, L, C, Z, hcs, _, hl, hm, hd, hrow⟩
  · simp [Value.cells] at hcs
    obtain ⟨rfl, rfl, rfl⟩ := hcs
    exact ⟨[], ⟨rfl, fun i hi => absurd hi (by omega)⟩, (fun l hl => by cases hl), by simp, by simp⟩
  · simp [Value.cells] at hcs
    obtain ⟨rfl, rfl, rfl⟩ := hcs
    simp only [Prod.mk.injEq] at hd
    obtain ⟨rfl, rfl⟩ := hd
    refine ⟨(List.range len0).map fun r => (Z r).take (L r), ⟨by simp, fun i hi => ?_⟩, fun l hl' => ?_, ?_, ?_⟩
    · obtain ⟨h1, h2, h3, h4, h5, h6, h7⟩ := hrow i (by omega)
      obtain ⟨b, off, spot⟩ := a
      have hspot : spot = none := by simpa [Addr.add] using World.cell?_spot (hrow 0 (by omega)).1
      subst hspot
      rw [Addr.add_lit] at h1
      refine ⟨b, off, A i, L i, C i, rfl, h1, ?_⟩
      have e : ((List.range len0).map fun r => (Z r).take (L r)).getD i [] = (Z i).take (L i) := by simp [List.getD, hi]
      rw [e]
      exact row_has h2 h3 h4 h6 (fun a' ha' => (h7 a' ha').2)
    · simp only [List.mem_map, List.mem_range] at hl'
      obtain ⟨r, hr, rfl⟩ := hl'
      obtain ⟨h1, h2, h3, h4, h5, h6, h7⟩ := hrow r (by omega)
      intro n hn
      have := h5 n (List.mem_of_mem_take hn)
      simp [Lit.wf, IntKind.min, IntKind.max, IntKind.signed, IntKind.bits] at this
      omega
    · have := bulk_rows (fun r => (intRow .u8 (A r) (L r) (Z r) : DataW H)) (fun r => (Z r).take (L r)) (List.range len0) (fun r hr => ?_)
      · simp only [Rows.uptoBulk]; omega
      · obtain ⟨h1, h2, h3, h4, h5, h6, h7⟩ := hrow r (by simp at hr; omega)
        unfold intRow
        cases hA : A r with
        | none => have := h6 hA; simp; omega
        | some a' =>
          simp only [Rows.uptoBulk]
          have := bulk_length (lits (H := H) .u8 ((Z r).take (L r)))
          simp [lits] at this ⊢
          omega
    · have := bulk_length ((List.range len0).map fun r => (intRow .u8 (A r) (L r) (Z r) : DataW H))
      simp only [Rows.uptoBulk]
      simp at this ⊢
      omega
end Go.Proofs.YtgcjeoeaoimgkaaDoor
