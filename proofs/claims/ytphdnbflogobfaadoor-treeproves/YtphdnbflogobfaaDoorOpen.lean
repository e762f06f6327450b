/- How an argument that is a slice of bytes is opened: its elements as a list of numbers, and how many they can be. -/
import Derived.Test.YtphdnbflogobfaaDoorOwns
import Derived.SizedLaws
namespace Go.Proofs.YtphdnbflogobfaaDoor
open Go.ChangeShapes Go.WideShapes Go.ChangeAt Go.RowKit
set_option linter.unusedVariables false

theorem own_knob : ownKnob Tryd.prog.godebug = none := by kernel_rfl
theorem laid_out : laidOutB Tryd.prog = true := by kernel_rfl
theorem bytes_u8 : Tryd.prog.bytesOf 5 = 1 := by kernel_rfl

/-- What the datum of a slice of bytes says of how many there are. -/
def Holds {H : Type} (d : DataW H) (l : List Int) : Prop := (d = .nil ∧ l = []) ∨ ∃ elems spare, d = .slice elems spare ∧ l.length = elems.length

theorem open_bytes {H : Type} {enc : TypeId × Value → H} {W : World} {a0 : Option Addr} {len0 cap0 : Nat} {d0 : DataW H} {p0 : List MemPlace}
    (h0 : DataW.Trod enc Tryd.prog W 0 (fun _ => true) true 23 (.slice a0 len0 cap0) d0 p0) : ∃ l, Has W (.slice a0 len0 cap0) l ∧ Sz.Byt l ∧ Holds d0 l := by
  obtain ⟨fuel, hf⟩ := h0
  rcases open_ints Tryd.underlying23 Tryd.underlying5 (by kernel_rfl) hf with ⟨hcs, hd⟩ | ⟨x, l, c, zs, hcs, _, hl, hm, hz, hd, hcell, hwz⟩
  · simp [Value.cells] at hcs
    obtain ⟨rfl, rfl, rfl⟩ := hcs
    simp only [Prod.mk.injEq] at hd
    exact ⟨[], .inl ⟨none, 0, rfl, rfl, by unfold maxLen; omega, fun _ => rfl⟩, Sz.Byt.nil, .inl ⟨hd.1, rfl⟩⟩
  · simp [Value.cells] at hcs
    obtain ⟨rfl, rfl, rfl⟩ := hcs
    simp only [Prod.mk.injEq] at hd
    obtain ⟨rfl, rfl⟩ := hd
    simp only [if_true] at hz
    have hlen : (zs.take len0).length = len0 := by rw [List.length_take]; omega
    refine ⟨zs.take len0, ?_, fun n hn => ?_, .inr ⟨_, _, rfl, by simp [lits]⟩⟩
    · by_cases hl0 : len0 = 0
      · subst hl0; exact .inl ⟨_, _, rfl, by simp, hm, fun h => by cases h⟩
      · obtain ⟨b, off, spot⟩ := x
        have hspot : spot = none := by simpa [Addr.add] using World.cell?_spot (hcell 0 (by omega))
        subst hspot
        refine .inr ⟨b, off, cap0, by rw [hlen], by omega, by rw [hlen]; omega, hm, fun j hj => ?_⟩
        have := hcell j (by omega)
        rw [Addr.add_lit] at this
        rw [this]
        simp only [List.getD, List.getElem?_take]
        rw [if_pos (by omega)]
    · have := hwz n (List.mem_of_mem_take hn)
      simp [Lit.wf, IntKind.min, IntKind.max, IntKind.signed, IntKind.bits] at this
      omega

theorem reach_bytes {H : Type} {ts : List TypeId} {ds : List (DataW H)} (hsz : (DataW.weightsEach Tryd.prog ts ds).all (· ≤ reachBytes) = true) {j : Nat} {d : DataW H} {l : List Int} (ht : ts[j]? = some 23) (hd : ds[j]? = some d) (h : Holds d l) :
    l.length ≤ 140737488351232 := by
  rcases h with ⟨rfl, rfl⟩ | ⟨elems, spare, rfl, hl⟩
  · simp
  · have := sized_slice hsz (j := j) (t := 23) (e := 5) ht hd Tryd.underlying23
    rw [bytes_u8] at this
    simp only [reachBytes] at this
    omega
end Go.Proofs.YtphdnbflogobfaaDoor
