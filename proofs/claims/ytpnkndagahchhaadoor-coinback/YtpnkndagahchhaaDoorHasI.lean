/- Slices of numbers: what they hold, how an argument that is one is opened, and how many they can be. -/
import Derived.Test.YtpnkndagahchhaaDoorOpen
namespace Go.Proofs.YtpnkndagahchhaaDoor
open Go.ChangeShapes Go.WideShapes Go.ChangeAt Go.RowKit
set_option linter.unusedVariables false

/-- A slice value whose elements are the numbers l. -/
def HasI (w : World) (v : Value) (l : List Int) : Prop :=
  (∃ a cap, v = .slice a 0 cap ∧ l = [] ∧ (a = none → cap = 0)) ∨
  ∃ b off cap, v = .slice (some ⟨b, off, none⟩) l.length cap ∧ 0 < l.length ∧ l.length ≤ maxLen ∧ ∀ j, j < l.length → w.cell? ⟨b, off + j, none⟩ = some (.int .i64 (l.getD j 0))
/-- Numbers that an int can be. -/
def I64s (l : List Int) : Prop := ∀ n ∈ l, -9223372036854775808 ≤ n ∧ n ≤ 9223372036854775807
theorem I64s.getD {l : List Int} (h : I64s l) (k : Nat) (hk : k < l.length) : -9223372036854775808 ≤ l.getD k 0 ∧ l.getD k 0 ≤ 9223372036854775807 :=
  h _ (by simp [List.getD, List.getElem?_eq_getElem hk])

theorem HasI.below {w w' : World} {v : Value} {l : List Int} (h : HasI w v l) (hb : Below w.heap.size w w') : HasI w' v l := by
  rcases h with h | ⟨b, off, cap, hv, h0, h2, hc⟩
  · exact .inl h
  · refine .inr ⟨b, off, cap, hv, h0, h2, fun j hj => ?_⟩
    have hlt : b < w.heap.size := World.block_lt_of_cell? w ⟨b, off + j, none⟩ (hc j hj)
    rw [hb.cell (p := ⟨b, off + j, none⟩) hlt]
    exact hc j hj

theorem bytes_int : Tryd.prog.bytesOf 3 = 8 := by kernel_rfl

theorem open_i64s {H : Type} {enc : TypeId × Value → H} {W : World} {a0 : Option Addr} {len0 cap0 : Nat} {d0 : DataW H} {p0 : List MemPlace}
    (h0 : DataW.Trod enc Tryd.prog W 0 (fun _ => true) true 85 (.slice a0 len0 cap0) d0 p0) : ∃ l, HasI W (.slice a0 len0 cap0) l ∧ I64s l ∧ Holds d0 l := by
  obtain ⟨fuel, hf⟩ := h0
  rcases open_ints Tryd.underlying85 Tryd.underlying3 (by kernel_rfl) hf with ⟨hcs, hd⟩ | ⟨x, l, c, zs, hcs, _, hl, hm, hz, hd, hcell, hwz⟩
  · simp [Value.cells] at hcs
    obtain ⟨rfl, rfl, rfl⟩ := hcs
    simp only [Prod.mk.injEq] at hd
    exact ⟨[], .inl ⟨none, 0, rfl, rfl, fun _ => rfl⟩, (fun n hn => by cases hn), .inl ⟨hd.1, rfl⟩⟩
  · simp [Value.cells] at hcs
    obtain ⟨rfl, rfl, rfl⟩ := hcs
    simp only [Prod.mk.injEq] at hd
    obtain ⟨rfl, rfl⟩ := hd
    simp only [if_true] at hz
    have hlen : (zs.take len0).length = len0 := by rw [List.length_take]; omega
    refine ⟨zs.take len0, ?_, fun n hn => ?_, .inr ⟨_, _, rfl, by simp [lits]⟩⟩
    · by_cases hl0 : len0 = 0
      · subst hl0; exact .inl ⟨_, _, rfl, by simp, fun h => by cases h⟩
      · obtain ⟨b, off, spot⟩ := x
        have hspot : spot = none := by simpa [Addr.add] using World.cell?_spot (hcell 0 (by omega))
        subst hspot
        refine .inr ⟨b, off, cap0, by rw [hlen], by omega, by rw [hlen]; omega, fun j hj => ?_⟩
        have := hcell j (by omega)
        rw [Addr.add_lit] at this
        rw [this]
        simp only [List.getD, List.getElem?_take]
        rw [if_pos (by omega)]
    · have := hwz n (List.mem_of_mem_take hn)
      simp [Lit.wf, IntKind.min, IntKind.max, IntKind.signed, IntKind.bits] at this
      omega

theorem reach_i64s {H : Type} {ts : List TypeId} {ds : List (DataW H)} (hsz : (DataW.weightsEach Tryd.prog ts ds).all (· ≤ reachBytes) = true) {j : Nat} {d : DataW H} {l : List Int} (ht : ts[j]? = some 85) (hd : ds[j]? = some d) (h : Holds d l) :
    l.length ≤ 17592186043904 := by
  rcases h with ⟨rfl, rfl⟩ | ⟨elems, spare, rfl, hl⟩
  · simp
  · have := sized_slice hsz (j := j) (t := 85) (e := 3) ht hd Tryd.underlying85
    rw [bytes_int] at this
    simp only [reachBytes] at this
    omega
end Go.Proofs.YtpnkndagahchhaaDoor
