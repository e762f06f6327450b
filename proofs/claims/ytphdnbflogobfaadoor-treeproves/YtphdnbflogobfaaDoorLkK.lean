/- Ops and keys as arguments: how they lie in memory, how they are opened; what is wrong with keys. -/
import Derived.Test.YtphdnbflogobfaaDoorZLk
import Derived.Test.YtphdnbflogobfaaDoorOpen
import Derived.Deep.Slices
import Derived.Deep.Matrix
import Derived.SizedLaws
/- How arguments that are a slice of ops, or a slice of slices of bytes, are opened. -/
namespace Go.Proofs.YtphdnbflogobfaaDoor
open Go.ChangeShapes Go.WideShapes Go.ChangeAt Go.RowKit Go.Deep
set_option linter.unusedVariables false

theorem open_bytes_cells {H : Type} {enc : TypeId × Value → H} {W : World} {fuel : Nat} {cs : List Value} {d0 : DataW H} {p0 : List MemPlace}
    (h : DataW.trod enc Tryd.prog W 0 (fun _ => true) true fuel 23 cs = some (d0, p0)) : ∃ v l, cs = [v] ∧ Has W v l ∧ Sz.Byt l := by
  have h2 := h
  rcases open_ints Tryd.underlying23 Tryd.underlying5 (by kernel_rfl) h2 with ⟨hcs, hd⟩ | ⟨x, l, c, zs, hcs, _, hl, hm, hz, hd, hcell, hwz⟩
  · subst hcs
    obtain ⟨l, h1, h2, _⟩ := open_bytes (a0 := none) (len0 := 0) (cap0 := 0) (⟨fuel, h⟩ : DataW.Trod enc Tryd.prog W 0 (fun _ => true) true 23 (.slice none 0 0) d0 p0)
    exact ⟨_, l, rfl, h1, h2⟩
  · subst hcs
    obtain ⟨l2, h1, h2, _⟩ := open_bytes (a0 := some x) (len0 := l) (cap0 := c) (⟨fuel, h⟩ : DataW.Trod enc Tryd.prog W 0 (fun _ => true) true 23 (.slice (some x) l c) d0 p0)
    exact ⟨_, l2, rfl, h1, h2⟩

instance : Inhabited Lk.Op := ⟨⟨0, 0, []⟩⟩

theorem range_ops {W : World} {b off n : Nat} {q : Nat → Lk.Op × Value} (h : ∀ i, i < n → W.cell? ⟨b, off + i * 3, none⟩ = some (.int .i64 (q i).1.op) ∧ W.cell? ⟨b, off + i * 3 + 1, none⟩ = some (.int .i64 (q i).1.n) ∧ W.cell? ⟨b, off + i * 3 + 2, none⟩ = some (q i).2) :
    W.rangeAt b off (opCells ((List.range n).map q)) := by
  intro j v hv
  have hj := (List.getElem?_eq_some_iff.1 hv).1
  rw [opCells_length, List.length_map, List.length_range] at hj
  have hi : j / 3 < n := by omega
  have hi2 : j / 3 < ((List.range n).map q).length := by simpa using hi
  obtain ⟨g0, g1, g2⟩ := opCells_get _ (j / 3) hi2
  obtain ⟨k0, k1, k2⟩ := h (j / 3) hi
  simp only [List.getElem_map, List.getElem_range] at g0 g1 g2
  have hr : j % 3 = 0 ∨ j % 3 = 1 ∨ j % 3 = 2 := by omega
  rcases hr with e | e | e
  · have ej : j = j / 3 * 3 := by omega
    generalize j / 3 = i at *
    subst ej
    rw [hv] at g0
    rw [k0, ← g0]
  · have ej : j = j / 3 * 3 + 1 := by omega
    generalize j / 3 = i at *
    subst ej
    rw [hv] at g1
    rw [← Nat.add_assoc, k1, ← g1]
  · have ej : j = j / 3 * 3 + 2 := by omega
    generalize j / 3 = i at *
    subst ej
    rw [hv] at g2
    rw [← Nat.add_assoc, k2, ← g2]

/-- A slice of slices of bytes, each with the slice that it lies in. -/
def HasKeys (w : World) (v : Value) (K : List (List Int × Value)) : Prop :=
  ((∃ a cap, v = .slice a 0 cap ∧ K = [] ∧ cap ≤ maxLen) ∨ ∃ b off cap, v = .slice (some ⟨b, off, none⟩) K.length cap ∧ 0 < K.length ∧ K.length ≤ cap ∧ cap ≤ maxLen ∧ b < w.heap.size ∧ w.rangeAt b off (K.map Prod.snd)) ∧
  ∀ p ∈ K, Has w p.2 p.1 ∧ Sz.Byt p.1
theorem HasKeys.below {w w' : World} {v : Value} {K : List (List Int × Value)} (h : HasKeys w v K) (hb : Below w.heap.size w w') : HasKeys w' v K := by
  refine ⟨?_, fun p hp => ⟨(h.2 p hp).1.below hb, (h.2 p hp).2⟩⟩
  rcases h.1 with h | ⟨b, off, cap, hv, h0, h1, h2, h3, hc⟩
  · exact .inl h
  · exact .inr ⟨b, off, cap, hv, h0, h1, h2, Nat.lt_of_lt_of_le h3 hb.size, range_keep hc hb h3⟩

theorem row_has {W : World} {A : Option Addr} {L C : Nat} {Z : List Int} (h1 : L ≤ C) (h2 : C ≤ maxLen) (h3 : Z.length = C) (hn : A = none → C = 0) (hc : ∀ a', A = some a' → ∀ c, c < C → W.cell? (a'.add c) = some (.int .u8 (Z.getD c 0))) :
    Has W (.slice A L C) (Z.take L) := by
  have hl : (Z.take L).length = L := by rw [List.length_take]; omega
  by_cases hL : L = 0
  · subst hL; exact .inl ⟨A, C, rfl, rfl, h2, hn⟩
  · cases A with
    | none => have := hn rfl; omega
    | some a =>
      obtain ⟨b, off, spot⟩ := a
      have hspot : spot = none := by simpa [Addr.add] using World.cell?_spot (hc _ rfl 0 (by omega))
      subst hspot
      refine .inr ⟨b, off, C, by rw [hl], by omega, by omega, h2, fun j hj => ?_⟩
      have := hc _ rfl j (by omega)
      rw [Addr.add_lit] at this
      rw [this]
      simp only [List.getD, List.getElem?_take]
      rw [if_pos (by omega)]

theorem open_keys {H : Type} {enc : TypeId × Value → H} {W : World} {a0 : Option Addr} {len0 cap0 : Nat} {d0 : DataW H} {p0 : List MemPlace}
    (h0 : DataW.Trod enc Tryd.prog W 0 (fun _ => true) true 67 (.slice a0 len0 cap0) d0 p0) : ∃ K, HasKeys W (.slice a0 len0 cap0) K ∧ K.length = len0 := by
  obtain ⟨fuel, hf⟩ := h0
  rcases open_int_rows Tryd.underlying67 Tryd.underlying23 Tryd.underlying5 (by kernel_rfl) (by kernel_rfl) hf with ⟨hcs, hd⟩ | ⟨a, len, cap, A, L, C, Z, hcs, _, hl, hm, hd, hrow⟩
  · simp [Value.cells] at hcs
    obtain ⟨rfl, rfl, rfl⟩ := hcs
    exact ⟨[], ⟨.inl ⟨none, 0, rfl, rfl, by simp⟩, fun p hp => by cases hp⟩, rfl⟩
  · simp [Value.cells] at hcs
    obtain ⟨rfl, rfl, rfl⟩ := hcs
    refine ⟨(List.range len0).map fun r => ((Z r).take (L r), Value.slice (A r) (L r) (C r)), ⟨?_, fun p hp => ?_⟩, by simp⟩
    · by_cases hl0 : len0 = 0
      · subst hl0; exact .inl ⟨_, _, rfl, by simp, hm⟩
      · obtain ⟨b, off, spot⟩ := a
        have hspot : spot = none := by simpa [Addr.add] using World.cell?_spot (hrow 0 (by omega)).1
        subst hspot
        have hlt : b < W.heap.size := by
          have := (hrow 0 (by omega)).1
          rw [Addr.add_lit] at this
          exact World.block_lt_of_cell? W _ this
        refine .inr ⟨b, off, cap0, by simp, by simp; omega, by simp; omega, hm, hlt, fun j v hv => ?_⟩
        have hj : j < len0 := by have := (List.getElem?_eq_some_iff.1 hv).1; simpa using this
        have := (hrow j (by omega)).1
        rw [Addr.add_lit] at this
        rw [this, ← hv]
        simp [hj]
    · obtain ⟨r, hr, rfl⟩ := List.mem_map.1 hp
      obtain ⟨h1, h2, h3, h4, h5, h6, h7⟩ := hrow r (by have := List.mem_range.1 hr; omega)
      refine ⟨row_has h2 h3 h4 h6 (fun a' ha' => (h7 a' ha').2), fun n hn => ?_⟩
      have := h5 n (List.mem_of_mem_take hn)
      simp [Lit.wf, IntKind.min, IntKind.max, IntKind.signed, IntKind.bits] at this
      omega
end Go.Proofs.YtphdnbflogobfaaDoor

/- How many keys an argument that is a slice of slices can have. -/
namespace Go.Proofs.YtphdnbflogobfaaDoor
open Go.ChangeShapes Go.WideShapes Go.ChangeAt Go.RowKit Go.Deep
set_option linter.unusedVariables false

def HoldsN {H : Type} (d : DataW H) (n : Nat) : Prop := (d = .nil ∧ n = 0) ∨ ∃ elems spare, d = .slice elems spare ∧ n = elems.length
theorem holds_slice {H : Type} {enc : TypeId × Value → H} {W : World} {t e : TypeId} (hu : Tryd.prog.underlying t = some (.slice e)) {a0 : Option Addr} {len0 cap0 : Nat} {d0 : DataW H} {p0 : List MemPlace}
    (h0 : DataW.Trod enc Tryd.prog W 0 (fun _ => true) true t (.slice a0 len0 cap0) d0 p0) : HoldsN d0 len0 := by
  obtain ⟨fuel, hf⟩ := h0
  rcases open_slice hu hf with ⟨hcs, hd⟩ | ⟨a, len, cap, m, n, D, Pl, hcs, hb, hl, hm, hmm, hd, hx⟩
  · simp [Value.cells] at hcs
    obtain ⟨rfl, rfl, rfl⟩ := hcs
    simp only [Prod.mk.injEq] at hd
    exact .inl ⟨hd.1, rfl⟩
  · simp [Value.cells] at hcs
    obtain ⟨rfl, rfl, rfl⟩ := hcs
    simp only [Prod.mk.injEq] at hd
    exact .inr ⟨_, _, hd.1, by simp⟩
theorem bytes_row : Tryd.prog.bytesOf 23 = 24 := by kernel_rfl
theorem reach_rows {H : Type} {ts : List TypeId} {ds : List (DataW H)} (hsz : (DataW.weightsEach Tryd.prog ts ds).all (· ≤ reachBytes) = true) {j : Nat} {d : DataW H} {n : Nat} (ht : ts[j]? = some 67) (hd : ds[j]? = some d) (h : HoldsN d n) :
    n * 24 ≤ 140737488351232 := by
  rcases h with ⟨rfl, rfl⟩ | ⟨elems, spare, rfl, hl⟩
  · simp
  · have := sized_slice hsz (j := j) (t := 67) (e := 23) ht hd Tryd.underlying67
    rw [bytes_row] at this
    simp only [reachBytes] at this
    omega
end Go.Proofs.YtphdnbflogobfaaDoor

/- What is wrong with keys. -/
namespace Go.Proofs.YtphdnbflogobfaaDoor
open Go.RowKit
set_option linter.unusedVariables false

theorem HasKeys.form {w : World} {v : Value} {K : List (List Int × Value)} (h : HasKeys w v K) : ∃ a cap, v = .slice a K.length cap ∧ cap ≤ maxLen ∧ K.length ≤ maxLen ∧ ∀ k, k < K.length → ∃ b off, a = some ⟨b, off, none⟩ ∧ b < w.heap.size ∧ w.rangeAt b off (K.map Prod.snd) := by
  rcases h.1 with ⟨a, cap, rfl, rfl, hc⟩ | ⟨b, off, cap, rfl, h0, h1, h2, h3, hc⟩
  · exact ⟨a, cap, rfl, hc, by simp, fun k hk => absurd hk (by simp)⟩
  · exact ⟨_, cap, rfl, h2, by omega, fun k hk => ⟨b, off, rfl, h3, hc⟩⟩

/-- What is wrong with keys. -/
def keysF (ks : List (List Int)) : Int := if 30 < ks.length then 4 else if ks.any (fun k => decide (3000 < k.length)) then 4 else 0

theorem keysF_zero (ks : List (List Int)) : keysF ks = 0 ↔ ks.length ≤ 30 ∧ ∀ k ∈ ks, k.length ≤ 3000 := by
  unfold keysF
  by_cases h : 30 < ks.length
  · rw [if_pos h]; exact ⟨(fun h => by cases h), (fun h' => by omega)⟩
  · rw [if_neg h]
    by_cases ha : ks.any (fun k => decide (3000 < k.length)) = true
    · rw [if_pos ha]
      obtain ⟨k, hk, h3⟩ := List.any_eq_true.1 ha
      have := of_decide_eq_true h3
      exact ⟨(fun h => by cases h), (fun h' => by have := h'.2 k hk; omega)⟩
    · rw [if_neg ha]
      refine ⟨fun _ => ⟨by omega, fun k hk => ?_⟩, fun _ => rfl⟩
      apply Classical.byContradiction
      intro h3
      exact ha (List.any_eq_true.2 ⟨k, hk, decide_eq_true (by omega)⟩)
theorem keysF_vals (ks : List (List Int)) (h : keysF ks ≠ 0) : keysF ks = 4 := by
  unfold keysF at h ⊢
  by_cases h1 : 30 < ks.length
  · rw [if_pos h1]
  · rw [if_neg h1] at h ⊢
    by_cases ha : ks.any (fun k => decide (3000 < k.length)) = true
    · rw [if_pos ha]
    · rw [if_neg ha] at h; exact absurd rfl h
end Go.Proofs.YtphdnbflogobfaaDoor
