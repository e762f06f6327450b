/- The texts LkH0, LkOpen, OpenK, LkH, LkK, LkM, one behind the other. -/
import Derived.Test.YtkdihbgjeanjdaaDoorZLk
import Derived.Defers
import Derived.Recover
import Derived.Test.YtkdihbgjeanjdaaDoorOpen
import Derived.Deep.Slices
import Derived.Deep.Matrix
import Derived.SizedLaws
import Derived.Test.YtkdihbgjeanjdaaDoorZDo
import Derived.Test.YtkdihbgjeanjdaaDoorBuild1
/- The function that tells what a run broke off with. -/
namespace Go.Proofs.YtkdihbgjeanjdaaDoor
open Go.RowKit
set_option linter.unusedVariables false

theorem catch_idle (p : Addr) (w : World) :
    CallsD Tryd.prog 43 #[.pointer (some p)] .returning w fun e u' w' => e = .returned (.tuple #[]) ∧ u' = .returning ∧ w' = w := by
  refine callsD_of_wpS Tryd.func43 rfl fun c₀ cs hu => ?_
  apply wpS_seq
  apply wpS_region
  simp [wpOpsS, go_sem, recoverD, hu, Tryd.ntmps43, Exit.thenS]
  refine wpS_of_wp ?_
  change Code.wp Tryd.prog _ _ { tmps := #[.pointer (some p), .nilIface, undef, undef, undef, undef, undef, undef, undef, undef, undef, undef], defers := [] } w
  go_wp2
  cases c₀
  simp_all [bodyPostS, results, Tryd.results43]
theorem ta_hit4 (W : World) : (Instr.typeAssert (.iface 78 (.agg #[])) 20 78 true).run Tryd.prog W = .ok (.tuple #[.agg #[], .bool true]) W := by kernel_rfl
theorem ta_miss8 (W : World) : (Instr.typeAssert (.iface 79 (.agg #[])) 20 78 true).run Tryd.prog W = .ok (.tuple #[.agg #[], .bool false]) W := by kernel_rfl
theorem ta_hit8 (W : World) : (Instr.typeAssert (.iface 79 (.agg #[])) 20 79 true).run Tryd.prog W = .ok (.tuple #[.agg #[], .bool true]) W := by kernel_rfl
theorem ta_miss7 (W : World) : (Instr.typeAssert (.iface 141 (.agg #[])) 20 78 true).run Tryd.prog W = .ok (.tuple #[.agg #[], .bool false]) W := by kernel_rfl
theorem ta_miss7b (W : World) : (Instr.typeAssert (.iface 141 (.agg #[])) 20 79 true).run Tryd.prog W = .ok (.tuple #[.agg #[], .bool false]) W := by kernel_rfl
set_option maxRecDepth 100000 in
theorem catch_pan (c : Int) (hc : c = 4 ∨ c = 7 ∨ c = 8) (b : Nat) (x : Value) (w : World) (hx : w.cell? ⟨b, 0, none⟩ = some x) (hz : w.frozen? ⟨b, 0, none⟩ = false) :
    CallsD Tryd.prog 43 #[.pointer (some ⟨b, 0, none⟩)] (.panicking (pan c)) w fun e u' w' => e = .returned (.tuple #[]) ∧ settle u' = .returning ∧ w' = w.setCell ⟨b, 0, none⟩ (errV c) := by
  refine callsD_of_wpS Tryd.func43 rfl fun c₀ cs hu => ?_
  have a1 := ta_hit4
  have a2 := ta_miss8
  have a3 := ta_hit8
  have a4 := ta_miss7
  have a5 := ta_miss7b
  rcases hc with rfl | rfl | rfl
  · simp only [pan] at hu
    apply wpS_seq
    apply wpS_region
    simp [wpOpsS, go_sem, recoverD, hu, Tryd.ntmps43, Exit.thenS]
    refine wpS_of_wp ?_
    change Code.wp Tryd.prog _ _ { tmps := #[.pointer (some ⟨b, 0, none⟩), .iface 78 (.agg #[]), undef, undef, undef, undef, undef, undef, undef, undef, undef, undef], defers := [] } w
    go_wp2
    simp_all [bodyPostS, results, Tryd.results43, settle, errV]
  · simp only [pan] at hu
    apply wpS_seq
    apply wpS_region
    simp [wpOpsS, go_sem, recoverD, hu, Tryd.ntmps43, Exit.thenS]
    refine wpS_of_wp ?_
    change Code.wp Tryd.prog _ _ { tmps := #[.pointer (some ⟨b, 0, none⟩), .iface 141 (.agg #[]), undef, undef, undef, undef, undef, undef, undef, undef, undef, undef], defers := [] } w
    go_wp2
    simp_all [bodyPostS, results, Tryd.results43, settle, errV]
  · simp only [pan] at hu
    apply wpS_seq
    apply wpS_region
    simp [wpOpsS, go_sem, recoverD, hu, Tryd.ntmps43, Exit.thenS]
    refine wpS_of_wp ?_
    change Code.wp Tryd.prog _ _ { tmps := #[.pointer (some ⟨b, 0, none⟩), .iface 79 (.agg #[]), undef, undef, undef, undef, undef, undef, undef, undef, undef, undef], defers := [] } w
    go_wp2
    simp_all [bodyPostS, results, Tryd.results43, settle, errV]
end Go.Proofs.YtkdihbgjeanjdaaDoor

/- How arguments that are a slice of ops, or a slice of slices of bytes, are opened. -/
namespace Go.Proofs.YtkdihbgjeanjdaaDoor
open Go.ChangeShapes Go.WideShapes Go.ChangeAt Go.RowKit Go.Deep
set_option linter.unusedVariables false

theorem open_bytes_cells {H : Type} {enc : TypeId × Value → H} {W : World} {fuel : Nat} {cs : List Value} {d0 : DataW H} {p0 : List MemPlace}
    (h : DataW.trod enc Tryd.prog W 0 (fun _ => true) true fuel 36 cs = some (d0, p0)) : ∃ v l, cs = [v] ∧ Has W v l ∧ Sz.Byt l := by
  have h2 := h
  rcases open_ints Tryd.underlying36 Tryd.underlying5 (by kernel_rfl) h2 with ⟨hcs, hd⟩ | ⟨x, l, c, zs, hcs, _, hl, hm, hz, hd, hcell, hwz⟩
  · subst hcs
    obtain ⟨l, h1, h2, _⟩ := open_bytes (a0 := none) (len0 := 0) (cap0 := 0) (⟨fuel, h⟩ : DataW.Trod enc Tryd.prog W 0 (fun _ => true) true 36 (.slice none 0 0) d0 p0)
    exact ⟨_, l, rfl, h1, h2⟩
  · subst hcs
    obtain ⟨l2, h1, h2, _⟩ := open_bytes (a0 := some x) (len0 := l) (cap0 := c) (⟨fuel, h⟩ : DataW.Trod enc Tryd.prog W 0 (fun _ => true) true 36 (.slice (some x) l c) d0 p0)
    exact ⟨_, l2, rfl, h1, h2⟩

instance : Inhabited Lk.Op := ⟨⟨0, 0, []⟩⟩

set_option maxRecDepth 100000 in
theorem open_op {H : Type} {enc : TypeId × Value → H} {W : World} {fuel : Nat} {cs : List Value} {x : DataW H × List MemPlace}
    (h : DataW.trod enc Tryd.prog W 0 (fun _ => true) true fuel 38 cs = some x) : ∃ q : Lk.Op × Value, cs = [.int .i64 q.1.op, .int .i64 q.1.n, q.2] ∧ Has W q.2 q.1.data ∧ Sz.Byt q.1.data := by
  have c3 : Tryd.prog.cellsOf 38 = 3 := by kernel_rfl
  have ci : Tryd.prog.cellsOf 3 = 1 := by kernel_rfl
  have cb : Tryd.prog.cellsOf 36 = 1 := by kernel_rfl
  obtain ⟨xs, n, _, _, hl, hxl, hf⟩ := DataW.trod_struct Tryd.underlying38 h
  rw [c3] at hl
  have hx3 : xs.length = 3 := hxl
  match xs, hx3, cs, hl with
  | [y0, y1, y2], _, [c0, c1, c2], _ =>
    have g0 := hf 0 _ rfl
    have g1 := hf 1 _ rfl
    have g2 := hf 2 _ rfl
    simp [ci, cb] at g0 g1 g2
    obtain ⟨a, ea, _, _⟩ := DataW.trod_int Tryd.underlying3 g0
    obtain ⟨b, eb, _, _⟩ := DataW.trod_int Tryd.underlying3 g1
    obtain ⟨v, l, ev, h1, h2⟩ := open_bytes_cells (d0 := y2.1) (p0 := y2.2) g2
    simp at ea eb ev
    subst ea eb ev
    exact ⟨(⟨a, b, l⟩, c2), rfl, h1, h2⟩

theorem range_ops {W : World} {b off n : Nat} {q : Nat → Lk.Op × Value} (h : ∀ i, i < n → W.cell? ⟨b, off + i * 3, none⟩ = some (.int .i64 (q i).1.op) ∧ W.cell? ⟨b, off + i * 3 + 1, none⟩ = some (.int .i64 (q i).1.n) ∧ W.cell? ⟨b, off + i * 3 + 2, none⟩ = some (q i).2) :
    W.rangeAt b off (opCells ((List.range n).map q)) := by
  intro j v hv
  have hj := (List.getElem?_eq_some_iff.1 hv).1
  rw [opCells_length, List.length_map, List.length_range] at hj
  have hi : j / 3 < n := by omega
  have hi2 : j / 3 < ((List.range n).map q).length := by simpa using hi
  obtain ⟨g0, g1, g2⟩ := opCells_get _ (j / 3) hi2
  obtain ⟨k0, k1, k2⟩ := h (j / 3) hi
  simp only [List.getElem_map, List.getElem_range] at g0 g1 g2
  have hr : j % 3 = 0 ∨ j % 3 = 1 ∨ j % 3 = 2 := by omega
  rcases hr with e | e | e
  · have ej : j = j / 3 * 3 := by omega
    generalize j / 3 = i at *
    subst ej
    rw [hv] at g0
    rw [k0, ← g0]
  · have ej : j = j / 3 * 3 + 1 := by omega
    generalize j / 3 = i at *
    subst ej
    rw [hv] at g1
    rw [← Nat.add_assoc, k1, ← g1]
  · have ej : j = j / 3 * 3 + 2 := by omega
    generalize j / 3 = i at *
    subst ej
    rw [hv] at g2
    rw [← Nat.add_assoc, k2, ← g2]

theorem open_ops {H : Type} {enc : TypeId × Value → H} {W : World} {a0 : Option Addr} {len0 cap0 : Nat} {d0 : DataW H} {p0 : List MemPlace}
    (h0 : DataW.Trod enc Tryd.prog W 0 (fun _ => true) true 22 (.slice a0 len0 cap0) d0 p0) : ∃ R, HasOps W (.slice a0 len0 cap0) R ∧ R.length = len0 := by
  have c3 : Tryd.prog.cellsOf 38 = 3 := by kernel_rfl
  obtain ⟨fuel, hf⟩ := h0
  rcases open_slice Tryd.underlying22 hf with ⟨hcs, hd⟩ | ⟨a, len, cap, m, n, D, Pl, hcs, hb, hl, hm, hmm, hd, hx⟩
  · simp [Value.cells] at hcs
    obtain ⟨rfl, rfl, rfl⟩ := hcs
    exact ⟨[], ⟨.inl ⟨none, 0, rfl, rfl⟩, fun p hp => by cases hp⟩, rfl⟩
  · simp [Value.cells] at hcs
    obtain ⟨rfl, rfl, rfl⟩ := hcs
    simp only [if_true] at hmm
    subst hmm
    rw [c3] at hx
    have each : ∀ i, i < m → ∃ q : Lk.Op × Value, W.cell? (a.add (i * 3)) = some (.int .i64 q.1.op) ∧ W.cell? (a.add (i * 3 + 1)) = some (.int .i64 q.1.n) ∧ W.cell? (a.add (i * 3 + 2)) = some q.2 ∧ Has W q.2 q.1.data ∧ Sz.Byt q.1.data := by
      intro i hi
      obtain ⟨cs', h1, h2⟩ := hx i hi
      obtain ⟨q, rfl, q1, q2⟩ := open_op h2
      obtain ⟨_, _, hcell⟩ := World.cells?_some h1
      have e0 := hcell 0 (by omega)
      have e1 := hcell 1 (by omega)
      have e2 := hcell 2 (by omega)
      rw [add_add] at e0 e1 e2
      exact ⟨q, by simpa using e0, by simpa using e1, by simpa using e2, q1, q2⟩
    obtain ⟨q, hq⟩ := choose_lt each
    refine ⟨(List.range len0).map q, ⟨?_, fun p hp => ?_⟩, by simp⟩
    · by_cases hl0 : len0 = 0
      · subst hl0; exact .inl ⟨_, _, rfl, by simp⟩
      · obtain ⟨b, off, spot⟩ := a
        have hspot : spot = none := by
          have := (hq 0 (by omega)).1
          simpa [Addr.add] using World.cell?_spot this
        subst hspot
        have hlt : b < W.heap.size := by
          have := (hq 0 (by omega)).1
          rw [Addr.add_lit] at this
          exact World.block_lt_of_cell? W _ this
        refine .inr ⟨b, off, m, by simp, by simp; omega, by simp; omega, hm, hlt, range_ops fun i hi => ?_⟩
        obtain ⟨e0, e1, e2, _⟩ := hq i (by omega)
        rw [Addr.add_lit] at e0 e1 e2
        exact ⟨e0, by rw [Nat.add_assoc]; exact e1, by rw [Nat.add_assoc]; exact e2⟩
    · obtain ⟨i, hi, rfl⟩ := List.mem_map.1 hp
      exact (hq i (by have := List.mem_range.1 hi; omega)).2.2.2

/-- A slice of slices of bytes, each with the slice that it lies in. -/
def HasKeys (w : World) (v : Value) (K : List (List Int × Value)) : Prop :=
  ((∃ a cap, v = .slice a 0 cap ∧ K = [] ∧ cap ≤ maxLen) ∨ ∃ b off cap, v = .slice (some ⟨b, off, none⟩) K.length cap ∧ 0 < K.length ∧ K.length ≤ cap ∧ cap ≤ maxLen ∧ b < w.heap.size ∧ w.rangeAt b off (K.map Prod.snd)) ∧
  ∀ p ∈ K, Has w p.2 p.1 ∧ Sz.Byt p.1
theorem HasKeys.below {w w' : World} {v : Value} {K : List (List Int × Value)} (h : HasKeys w v K) (hb : Below w.heap.size w w') : HasKeys w' v K := by
  refine ⟨?_, fun p hp => ⟨(h.2 p hp).1.below hb, (h.2 p hp).2⟩⟩
  rcases h.1 with h | ⟨b, off, cap, hv, h0, h1, h2, h3, hc⟩
  · exact .inl h
  · exact .inr ⟨b, off, cap, hv, h0, h1, h2, Nat.lt_of_lt_of_le h3 hb.size, range_keep hc hb h3⟩

theorem row_has {W : World} {A : Option Addr} {L C : Nat} {Z : List Int} (h1 : L ≤ C) (h2 : C ≤ maxLen) (h3 : Z.length = C) (hn : A = none → C = 0) (hc : ∀ a', A = some a' → ∀ c, c < C → W.cell? (a'.add c) = some (.int .u8 (Z.getD c 0))) :
    Has W (.slice A L C) (Z.take L) := by
  have hl : (Z.take L).length = L := by rw [List.length_take]; omega
  by_cases hL : L = 0
  · subst hL; exact .inl ⟨A, C, rfl, rfl, h2, hn⟩
  · cases A with
    | none => have := hn rfl; omega
    | some a =>
      obtain ⟨b, off, spot⟩ := a
      have hspot : spot = none := by simpa [Addr.add] using World.cell?_spot (hc _ rfl 0 (by omega))
      subst hspot
      refine .inr ⟨b, off, C, by rw [hl], by omega, by omega, h2, fun j hj => ?_⟩
      have := hc _ rfl j (by omega)
      rw [Addr.add_lit] at this
      rw [this]
      simp only [List.getD, List.getElem?_take]
      rw [if_pos (by omega)]

theorem open_keys {H : Type} {enc : TypeId × Value → H} {W : World} {a0 : Option Addr} {len0 cap0 : Nat} {d0 : DataW H} {p0 : List MemPlace}
    (h0 : DataW.Trod enc Tryd.prog W 0 (fun _ => true) true 23 (.slice a0 len0 cap0) d0 p0) : ∃ K, HasKeys W (.slice a0 len0 cap0) K ∧ K.length = len0 := by
  obtain ⟨fuel, hf⟩ := h0
  rcases open_int_rows Tryd.underlying23 Tryd.underlying36 Tryd.underlying5 (by kernel_rfl) (by kernel_rfl) hf with ⟨hcs, hd⟩ | ⟨a, len, cap, A, L, C, Z, hcs, _, hl, hm, hd, hrow⟩
  · simp [Value.cells] at hcs
    obtain ⟨rfl, rfl, rfl⟩ := hcs
    exact ⟨[], ⟨.inl ⟨none, 0, rfl, rfl, by simp⟩, fun p hp => by cases hp⟩, rfl⟩
  · simp [Value.cells] at hcs
    obtain ⟨rfl, rfl, rfl⟩ := hcs
    refine ⟨(List.range len0).map fun r => ((Z r).take (L r), Value.slice (A r) (L r) (C r)), ⟨?_, fun p hp => ?_⟩, by simp⟩
    · by_cases hl0 : len0 = 0
      · subst hl0; exact .inl ⟨_, _, rfl, by simp, hm⟩
      · obtain ⟨b, off, spot⟩ := a
        have hspot : spot = none := by simpa [Addr.add] using World.cell?_spot (hrow 0 (by omega)).1
        subst hspot
        have hlt : b < W.heap.size := by
          have := (hrow 0 (by omega)).1
          rw [Addr.add_lit] at this
          exact World.block_lt_of_cell? W _ this
        refine .inr ⟨b, off, cap0, by simp, by simp; omega, by simp; omega, hm, hlt, fun j v hv => ?_⟩
        have hj : j < len0 := by have := (List.getElem?_eq_some_iff.1 hv).1; simpa using this
        have := (hrow j (by omega)).1
        rw [Addr.add_lit] at this
        rw [this, ← hv]
        simp [hj]
    · obtain ⟨r, hr, rfl⟩ := List.mem_map.1 hp
      obtain ⟨h1, h2, h3, h4, h5, h6, h7⟩ := hrow r (by have := List.mem_range.1 hr; omega)
      refine ⟨row_has h2 h3 h4 h6 (fun a' ha' => (h7 a' ha').2), fun n hn => ?_⟩
      have := h5 n (List.mem_of_mem_take hn)
      simp [Lit.wf, IntKind.min, IntKind.max, IntKind.signed, IntKind.bits] at this
      omega
end Go.Proofs.YtkdihbgjeanjdaaDoor

/- How many keys an argument that is a slice of slices can have. -/
namespace Go.Proofs.YtkdihbgjeanjdaaDoor
open Go.ChangeShapes Go.WideShapes Go.ChangeAt Go.RowKit Go.Deep
set_option linter.unusedVariables false

def HoldsN {H : Type} (d : DataW H) (n : Nat) : Prop := (d = .nil ∧ n = 0) ∨ ∃ elems spare, d = .slice elems spare ∧ n = elems.length
theorem holds_slice {H : Type} {enc : TypeId × Value → H} {W : World} {t e : TypeId} (hu : Tryd.prog.underlying t = some (.slice e)) {a0 : Option Addr} {len0 cap0 : Nat} {d0 : DataW H} {p0 : List MemPlace}
    (h0 : DataW.Trod enc Tryd.prog W 0 (fun _ => true) true t (.slice a0 len0 cap0) d0 p0) : HoldsN d0 len0 := by
  obtain ⟨fuel, hf⟩ := h0
  rcases open_slice hu hf with ⟨hcs, hd⟩ | ⟨a, len, cap, m, n, D, Pl, hcs, hb, hl, hm, hmm, hd, hx⟩
  · simp [Value.cells] at hcs
    obtain ⟨rfl, rfl, rfl⟩ := hcs
    simp only [Prod.mk.injEq] at hd
    exact .inl ⟨hd.1, rfl⟩
  · simp [Value.cells] at hcs
    obtain ⟨rfl, rfl, rfl⟩ := hcs
    simp only [Prod.mk.injEq] at hd
    exact .inr ⟨_, _, hd.1, by simp⟩
theorem bytes_row : Tryd.prog.bytesOf 36 = 24 := by kernel_rfl
theorem reach_rows {H : Type} {ts : List TypeId} {ds : List (DataW H)} (hsz : (DataW.weightsEach Tryd.prog ts ds).all (· ≤ reachBytes) = true) {j : Nat} {d : DataW H} {n : Nat} (ht : ts[j]? = some 23) (hd : ds[j]? = some d) (h : HoldsN d n) :
    n * 24 ≤ 140737488351232 := by
  rcases h with ⟨rfl, rfl⟩ | ⟨elems, spare, rfl, hl⟩
  · simp
  · have := sized_slice hsz (j := j) (t := 23) (e := 36) ht hd Tryd.underlying23
    rw [bytes_row] at this
    simp only [reachBytes] at this
    omega
end Go.Proofs.YtkdihbgjeanjdaaDoor

/- A lock that is opened: what its run breaks off with is told as an error. -/
namespace Go.Proofs.YtkdihbgjeanjdaaDoor
open Go.RowKit
set_option linter.unusedVariables false

theorem size_lrun : Sized 82 34 := by unfold Sized; kernel_rfl
def zrun : List Value := runCells (.slice none 0 0) (List.replicate 32 0) 0
theorem info_lrun : (Tryd.prog.info? 82).map (fun i => i.zero) = some (some (.agg zrun.toArray)) := by kernel_rfl
theorem places_lrun : ∃ fs, Tryd.prog.underlying 82 = some (.struct fs) ∧ fs.toList.mapM (fun f => (Tryd.prog.info? f.type).map fun i => (f.offset, i.size)) = some [(0, 1), (1, 32), (33, 1)] := ⟨_, Tryd.underlying82, by kernel_rfl⟩
theorem fold_arr (c base : List Value) (off : Nat) (h : off + c.length ≤ base.length) :
    c.toArray.zipIdx.foldl (fun (cs : Array Value) (x : Value × Nat) => cs.setIfInBounds (off + x.2) x.1) base.toArray = (base.take off ++ c ++ base.drop (off + c.length)).toArray := by
  have hf := fold_set c 0 off base.toArray (by simpa using h)
  have e2 : c.toArray.zipIdx = (c.zipIdx).toArray := by simp
  rw [e2, List.size_toArray, List.foldl_toArray' _ _ _ (by simp)]
  apply Array.ext'
  apply List.ext_getElem?
  intro i
  have := hf.2 i
  rw [Array.getElem?_toList, this]
  simp only [Nat.add_zero, List.append_assoc]
  by_cases h1 : off ≤ i ∧ i < off + c.length
  · rw [if_pos h1, List.getElem?_append_right (by rw [List.length_take]; omega), List.getElem?_append_left (by rw [List.length_take]; omega), List.length_take, Nat.min_eq_left (by omega)]
  · rw [if_neg h1]
    by_cases h2 : i < off
    · rw [List.getElem?_append_left (by rw [List.length_take]; omega), List.getElem?_take, if_pos h2]; simp
    · rw [List.getElem?_append_right (by rw [List.length_take]; omega), List.getElem?_append_right (by rw [List.length_take]; omega), List.length_take, Nat.min_eq_left (by omega), List.getElem?_drop]
      simp only [List.getElem?_toArray]
      congr 1
      omega
theorem fill_cons (place : Nat → Option (Nat × Nat)) (base : List Value) (i off : Nat) (v : Value) (c : List Value) (rest : List (Nat × Value)) (hp : place i = some (off, c.length)) (hv : v.cells = c.toArray) (h : off + c.length ≤ base.length) :
    Instr.fill place base.toArray ((i, v) :: rest) = Instr.fill place (base.take off ++ c ++ base.drop (off + c.length)).toArray rest := by
  rw [Instr.fill, hp]
  simp only [hv]
  rw [if_neg (by simp; omega), fold_arr c base off h]
theorem built_run (M : List Value) (h : Int) (hM : M.length = 32) : Tryd.prog.built 82 [(1, .agg M.toArray), (2, .int .i64 h)] = some (.slice none 0 0 :: (M ++ [.int .i64 h])).toArray := by
  obtain ⟨fs, hu, hp⟩ := places_lrun
  unfold Program.built
  cases hi : Tryd.prog.info? 82 with
  | none => have := info_lrun; rw [hi] at this; cases this
  | some it =>
    have hz := info_lrun
    rw [hi] at hz
    simp only [Option.map_some, Option.some.injEq] at hz
    rw [hu]
    simp only [hz, hp]
    have hzl : zrun.length = 34 := by decide
    rw [show (Value.agg zrun.toArray).cells = zrun.toArray from rfl]
    rw [fill_cons _ zrun 1 1 (.agg M.toArray) M _ (by rw [hM]; rfl) rfl (by omega)]
    have e1 : zrun.take 1 ++ M ++ zrun.drop (1 + M.length) = .slice none 0 0 :: (M ++ [.int .i64 0]) := by
      rw [hM]; rfl
    rw [e1, fill_cons _ _ 2 33 (.int .i64 h) [.int .i64 h] _ rfl rfl (by simp; omega)]
    have e2 : (Value.slice none 0 0 :: (M ++ [.int .i64 0])).take 33 = .slice none 0 0 :: M := by
      rw [List.take_succ_cons, List.take_append_of_le_length (by omega), List.take_of_length_le (by omega)]
    have e3 : (Value.slice none 0 0 :: (M ++ [.int .i64 0])).drop (33 + [Value.int .i64 h].length) = [] := List.drop_eq_nil_of_le (by simp; omega)
    rw [e2, e3]
    simp [Instr.fill]
theorem wpList_build_run (M : List Value) (h : Int) {w : World} {ops : Array Oper} {rest : List Oper} {o : Oper} {a : Act} {Q : Exit → Act → World → Prop} (hgd : o.guard = none) (s x : Operand) (ho : o.op = .build 82 #[(1, s), (2, x)]) (hs : a.eval s = .agg M.toArray) (hx : a.eval x = .int .i64 h) (hM : M.length = 32)
    (hw : wpList Tryd.prog ops Q rest (a.put o.dst (.agg (.slice none 0 0 :: (M ++ [.int .i64 h])).toArray)) w) : wpList Tryd.prog ops Q (o :: rest) a w := by
  have e : Tryd.prog.built 82 ((#[(1, s), (2, x)] : Array (Nat × Operand)).map fun (i, x) => (i, a.eval x)).toList = some (.slice none 0 0 :: (M ++ [.int .i64 h])).toArray := by
    simp only [List.map_toArray, List.map_cons, List.map_nil, hs, hx]
    exact built_run M h hM
  refine wpList_build hgd 82 #[(1, s), (2, x)] ho (by rw [e]; rfl) ?_
  rw [e]
  exact hw
end Go.Proofs.YtkdihbgjeanjdaaDoor

/- A lock that is opened. -/
namespace Go.Proofs.YtkdihbgjeanjdaaDoor
open Go.RowKit
set_option linter.unusedVariables false

theorem st_new (w : World) (m : List Int) (h : Int) (hm : m.length = 32) (hmb : Sz.Byt m) : St (w.alloc (.cells (runCells (.slice none 0 0) m h).toArray 82)) w.heap.size w.heap.size m h [] := by
  have hi := Is.new w (runCells (.slice none 0 0) m h) 82
  have hh : handOf (w.alloc (.cells (runCells (.slice none 0 0) m h).toArray 82)) w.heap.size = .slice none 0 0 := by unfold handOf; rw [hi.cell]; rfl
  exact { is := by rw [hh]; exact hi, own := by rw [hh]; exact World.ownsRow_nil _ _ _ _, apart := (by rw [hh]; intro e; cases e), few := by simp, mlen := hm, mbyt := hmb, lay := Nat.le_refl _, has := fun p hp => by cases hp }

theorem HasKeys.form {w : World} {v : Value} {K : List (List Int × Value)} (h : HasKeys w v K) : ∃ a cap, v = .slice a K.length cap ∧ cap ≤ maxLen ∧ K.length ≤ maxLen ∧ ∀ k, k < K.length → ∃ b off, a = some ⟨b, off, none⟩ ∧ b < w.heap.size ∧ w.rangeAt b off (K.map Prod.snd) := by
  rcases h.1 with ⟨a, cap, rfl, rfl, hc⟩ | ⟨b, off, cap, rfl, h0, h1, h2, h3, hc⟩
  · exact ⟨a, cap, rfl, hc, by simp, fun k hk => absurd hk (by simp)⟩
  · exact ⟨_, cap, rfl, h2, by omega, fun k hk => ⟨b, off, rfl, h3, hc⟩⟩

set_option maxRecDepth 100000 in
set_option maxHeartbeats 8000000 in
theorem open_any (L : List (Lk.Op × Value)) (KS : List (List Int × Value)) (lv kv : Value) (m : List Int) (h : Int) (w : World) (hl : HasOps w lv L) (hk : HasKeys w kv KS) (hks : ∀ p ∈ KS, p.1.length ≤ 3000) (h30 : KS.length ≤ 30) (h60 : L.length ≤ 60) (hf : Lk.opsFault (opsOf L) = 0) (hm : m.length = 32) (hmb : Sz.Byt m) (ht : Tab w) (hw : 1 < w.heap.size) :
    Calls Tryd.prog 27 #[lv, kv, .agg (vals m).toArray, .int .i64 h] w fun e w' => e = .returned (errV (Lk.ending (Lk.exec m h (opsOf L) (stk KS)))) ∧ Below w.heap.size w w' := by
  obtain ⟨ka, kc, rfl, hkc, _, hkr⟩ := hk.form
  have HL := hide hl
  have HKR := hide hkr
  have HKH : Hid (∀ p ∈ KS, Has w p.2 p.1 ∧ Sm p.1) := hide (fun p hp => ⟨(hk.2 p hp).1, (hk.2 p hp).2, hks p hp⟩)
  have HF := hide hf
  have HT := hide ht
  have HW := hide hw
  have hmf : ∀ (fn : Fn) (first cap : Array Value) (w : World), (Instr.makeFunc fn first cap).run Tryd.prog w = .ok (.func fn first cap) w := fun _ _ _ _ => rfl
  have hML : (vals m).length = 32 := by rw [vals_length]; exact hm
  have HML := hide hML
  have HN0 := hide (st_new ((w.alloc (.cells (vals m).toArray 25)).alloc (.cells #[.nilIface] 28)) m h hm hmb)
  unfold runCells at HN0
  obtain ⟨O, hO⟩ : ∃ O, O = Lk.exec m h (opsOf L) (stk KS) := ⟨_, rfl⟩
  rw [← hO]
  have HO := hide hO
  clear hl hk hks hkr hf ht hw hML hO hkc
  have HIS := hide ((Is.new w (vals m) 25).alloc (.cells #[.nilIface] 28))
  generalize vals m = M at *
  generalize hn : KS.length = n at *
  have HN := hide hn
  clear hn
  go_enter_defers Tryd.func27, Tryd.ntmps27
  go_wp2_with (first
    | (refine wpList_load_arr2 25 M w.heap.size rfl (.tmp 6) rfl rfl HIS.out Tryd.underlying25 size_dig HML.out ?_)
    | (refine wpList_build_run M h rfl (.tmp 13) (.tmp 14) rfl rfl rfl HML.out ?_; generalize Value.slice none 0 0 :: (M ++ [.int .i64 h]) = ZV at *))
  go_loopw [19] (fun i wr => ∃ k : Nat, k ≤ n ∧ i = .int .i64 k ∧ St wr (w.heap.size + 2) (w.heap.size + 2) m h (KS.take k) ∧ Below (w.heap.size + 2) (((w.alloc (.cells M.toArray 25)).alloc (.cells #[.nilIface] 28)).alloc (.cells ZV.toArray 82)) wr) (fun i _ => n - (intOf i).toNat)
  case atStart => exact ⟨0, by omega, rfl, by simpa using HN0.out, Below.refl _ _⟩
  case round =>
    obtain ⟨k, hk, rfl, hs, hb⟩ := hrel
    have HSW := hide hs
    have HBW := hide hb
    have HB0 : Hid (Below w.heap.size w wr) := hide ((below_alloc3 w _ _ _).trans (hb.mono (by omega)))
    clear hs hb
    by_cases hlt : k < n
    · obtain ⟨kb, koff, rfl, hkb, hkr⟩ := HKR.out k hlt
      have hkS : k < KS.length := by rw [HN.out]; exact hlt
      have hcell : wr.cell? ⟨kb, koff + k, none⟩ = some KS[k].2 := range_keep hkr HB0.out hkb k _ (by rw [List.getElem?_map, List.getElem?_eq_getElem hkS]; rfl)
      obtain ⟨hp1, hp2⟩ := HKH.out KS[k] (List.getElem_mem hkS)
      have HP := hide (put_ok _ _ m h _ KS[k].1 KS[k].2 wr HSW.out (by rw [List.length_take]; omega) (has_under HSW.out hp1 (by omega) HB0.out) hp2)
      obtain ⟨sa, sc, hse, _, _⟩ := hp1.shape
      rw [hse] at hcell HP
      have e1 : KS.take k ++ [(KS[k].1, Value.slice sa KS[k].1.length sc)] = KS.take (k + 1) := by
        rw [List.take_succ_eq_append_getElem hkS, ← hse]
      rw [e1] at HP
      clear hkr hp1 hp2 hse e1
      generalize KS[k].1.length = kl at *
      go_wp2_with fail
      refine HP.out.mono ?_
      rintro e w1 ⟨rfl, t1, t2, t3⟩
      have HS1 := hide t1
      have HB1 := hide (HBW.out.trans t3)
      clear t1 t2 t3
      go_wp2
      go_roundw
      case rel => exact ⟨k + 1, by omega, by go_num, HS1.out, HB1.out⟩
      case measure => simp [intOf]; omega
    · have hkn : ¬ (k : Int) < n := by omega
      have hke : KS.take k = KS := List.take_of_length_le (by rw [HN.out]; omega)
      rw [hke] at HSW
      clear hke
      have HTW := hide (HT.out.below HB0.out HW.out)
      have HDA := hide (doAll_any _ _ m h KS L lv w wr HSW.out HTW.out (by have := HW.out; omega) h60 HL.out (by omega) HB0.out HF.out)
      rw [← HO.out] at HDA
      have HIE : Hid (Is (((w.alloc (.cells M.toArray 25)).alloc (.cells #[.nilIface] 28)).alloc (.cells ZV.toArray 82)) (w.heap.size + 1) [.nilIface] 28) := hide ((Is.new' (w := w.alloc (.cells M.toArray 25)) [.nilIface] 28 (by simp)).alloc _)
      have hce : wr.cell? ⟨w.heap.size + 1, 0, none⟩ = some .nilIface := by
        rw [HBW.out.cell (p := ⟨w.heap.size + 1, 0, none⟩) (by simp), HIE.out.cell]; rfl
      have hfe : wr.frozen? ⟨w.heap.size + 1, 0, none⟩ = false := by
        rw [HBW.out.frozen (p := ⟨w.heap.size + 1, 0, none⟩) (by simp)]; exact HIE.out.frozen 0
      have HCE := hide hce
      have HFE := hide hfe
      have hwR : w.heap.size + 2 < wr.heap.size := HSW.out.is.lt
      clear hce hfe
      go_wp2_with fail
      refine HDA.out.mono ?_
      intro e w1 hd
      cases O with
      | err c =>
        obtain ⟨rfl, h1⟩ := hd
        have hc3 : c = 4 ∨ c = 7 ∨ c = 8 := Lk.exec_err m h _ _ _ c (Nat.le_refl _) HO.out.symm
        have hce1 : w1.cell? ⟨w.heap.size + 1, 0, none⟩ = some .nilIface := by rw [h1.cell (p := ⟨w.heap.size + 1, 0, none⟩) (by simp)]; exact HCE.out
        have hfe1 : w1.frozen? ⟨w.heap.size + 1, 0, none⟩ = false := by rw [h1.frozen (p := ⟨w.heap.size + 1, 0, none⟩) (by simp)]; exact HFE.out
        refine leaves_cons (f := 43) (args := #[.pointer (some ⟨w.heap.size + 1, 0, none⟩)]) (by simp) (by simp [go_sem]) ?_
        refine (catch_pan c hc3 (w.heap.size + 1) .nilIface _ hce1 hfe1).mono ?_
        rintro e u' w'' ⟨rfl, hu, rfl⟩
        show Leaves _ _ _ _ _ (settle u') _
        rw [hu]
        refine ⟨errV c, ?_, rfl, (HB0.out.trans (h1.mono (by omega))).setCell (by simp) _⟩
        · simp [results, Tryd.results27, go_sem, World.cell?_setCell_same _ _ _ hce1]
      | ok s1 =>
        obtain ⟨rfl, K1, h1, h2, h3⟩ := hd
        have hce1 : w1.cell? ⟨w.heap.size + 1, 0, none⟩ = some .nilIface := by rw [h3.cell (p := ⟨w.heap.size + 1, 0, none⟩) (by simp)]; exact HCE.out
        have hfe1 : w1.frozen? ⟨w.heap.size + 1, 0, none⟩ = false := by rw [h3.frozen (p := ⟨w.heap.size + 1, 0, none⟩) (by simp)]; exact HFE.out
        have HCE1 := hide hce1
        have HFE1 := hide hfe1
        have HE := hide (end_any _ _ m h K1 w1 h1)
        rw [h2] at HE
        have HB1 := hide (HB0.out.trans (h3.mono (by omega)))
        clear h1 h2 h3 hce1 hfe1
        cases hL : Left s1 with
        | false =>
          rw [hL] at HE
          have HOE : Hid (Lk.ending (.ok s1) = 7) := hide (by rw [ending_left, hL]; rfl)
          clear hL
          go_wp2_with fail
          refine HE.out.mono ?_
          rintro e w2 ⟨rfl, hb2⟩
          have hce2 : w2.cell? ⟨w.heap.size + 1, 0, none⟩ = some .nilIface := by rw [hb2.cell (p := ⟨w.heap.size + 1, 0, none⟩) (by simp)]; exact HCE1.out
          have hfe2 : w2.frozen? ⟨w.heap.size + 1, 0, none⟩ = false := by rw [hb2.frozen (p := ⟨w.heap.size + 1, 0, none⟩) (by simp)]; exact HFE1.out
          refine leaves_cons (f := 43) (args := #[.pointer (some ⟨w.heap.size + 1, 0, none⟩)]) (by simp) (by simp [go_sem]) ?_
          refine (catch_pan 7 (.inr (.inl rfl)) (w.heap.size + 1) .nilIface _ hce2 hfe2).mono ?_
          rintro e u' w'' ⟨rfl, hu, rfl⟩
          show Leaves _ _ _ _ _ (settle u') _
          rw [hu]
          refine ⟨errV 7, ?_, by rw [HOE.out], (HB1.out.trans (hb2.mono (by omega))).setCell (by simp) _⟩
          · simp [results, Tryd.results27, go_sem, World.cell?_setCell_same _ _ _ hce2]
        | true =>
          rw [hL] at HE
          have HOE : Hid (Lk.ending (.ok s1) = 0) := hide (by rw [ending_left, hL]; rfl)
          clear hL
          go_wp2_with fail
          refine HE.out.mono ?_
          rintro e w2 ⟨rfl, hb2⟩
          have hce2 : w2.cell? ⟨w.heap.size + 1, 0, none⟩ = some .nilIface := by rw [hb2.cell (p := ⟨w.heap.size + 1, 0, none⟩) (by simp)]; exact HCE1.out
          have hfe2 : w2.frozen? ⟨w.heap.size + 1, 0, none⟩ = false := by rw [hb2.frozen (p := ⟨w.heap.size + 1, 0, none⟩) (by simp)]; exact HFE1.out
          go_wp2
          refine leaves_cons (f := 43) (args := #[.pointer (some ⟨w.heap.size + 1, 0, none⟩)]) (by simp) (by simp [go_sem]) ?_
          refine (catch_idle ⟨w.heap.size + 1, 0, none⟩ _).mono ?_
          rintro e u' w'' ⟨rfl, rfl, rfl⟩
          show Leaves _ _ _ _ _ FrameMode.returning _
          refine ⟨errV 0, ?_, by rw [HOE.out], (HB1.out.trans (hb2.mono (by omega))).setCell (by simp) _⟩
          simp [results, Tryd.results27, go_sem, World.cell?_setCell_same _ _ _ hce2, errV]
end Go.Proofs.YtkdihbgjeanjdaaDoor

/- lock.Run: any lock, any keys. -/
namespace Go.Proofs.YtkdihbgjeanjdaaDoor
open Go.RowKit
set_option linter.unusedVariables false

/-- What is wrong with keys. -/
def keysF (ks : List (List Int)) : Int := if 30 < ks.length then 4 else if ks.any (fun k => decide (3000 < k.length)) then 4 else 0

set_option maxRecDepth 100000 in
set_option maxHeartbeats 1600000 in
theorem checkKeys_any (KS : List (List Int × Value)) (kv : Value) (w : World) (hk : HasKeys w kv KS) :
    Calls Tryd.prog 26 #[kv] w fun e w' => e = .returned (errV (keysF (KS.map Prod.fst))) ∧ w = w' := by
  obtain ⟨ka, kc, rfl, hkc, hkm, hkr⟩ := hk.form
  unfold maxLen at hkm
  by_cases h30 : 30 < KS.length
  · have e : keysF (KS.map Prod.fst) = 4 := by unfold keysF; rw [List.length_map, if_pos h30]
    rw [e, errV_four']
    clear hk hkr e
    generalize KS.length = n at *
    go_enter Tryd.func26, Tryd.ntmps26
    go_wp2
    go_ret
    exact ⟨rfl, rfl⟩
  · have e : keysF (KS.map Prod.fst) = if (KS.map Prod.fst).any (fun k => decide (3000 < k.length)) then 4 else 0 := by unfold keysF; rw [List.length_map, if_neg h30]
    obtain ⟨A, hA⟩ : ∃ A, A = (KS.map Prod.fst).any (fun k => decide (3000 < k.length)) := ⟨_, rfl⟩
    rw [← hA] at e
    have HA := hide hA
    have HX := hide e
    generalize keysF (KS.map Prod.fst) = X at *
    have HKR := hide hkr
    have HKH := hide hk.2
    have h30' : ¬ (30 : Int) < (KS.length : Int) := by omega
    clear hk hkr e hA h30
    generalize hn : KS.length = n at *
    have HN := hide hn
    clear hn
    go_enter Tryd.func26, Tryd.ntmps26
    go_wp2
    go_loop [11] (fun i => ∃ k : Nat, k ≤ n ∧ i = .int .i64 k ∧ ((KS.map Prod.fst).drop k).any (fun k => decide (3000 < k.length)) = A) (fun i => n - (intOf i).toNat)
    case atStart => exact ⟨0, by omega, rfl, HA.out.symm⟩
    case round =>
      obtain ⟨k, hk, rfl, ha⟩ := hrel
      by_cases hlt : k < n
      · obtain ⟨kb, koff, rfl, hkb, hkr⟩ := HKR.out k hlt
        have hkS : k < KS.length := by rw [HN.out]; exact hlt
        have hcell : w.cell? ⟨kb, koff + k, none⟩ = some KS[k].2 := hkr k _ (by rw [List.getElem?_map, List.getElem?_eq_getElem hkS]; rfl)
        obtain ⟨hp1, hp2⟩ := HKH.out KS[k] (List.getElem_mem hkS)
        obtain ⟨sa, sc, hse, _, hsl⟩ := hp1.shape
        unfold maxLen at hsl
        rw [hse] at hcell
        have hkS2 : k < (KS.map Prod.fst).length := by rw [List.length_map]; exact hkS
        rw [List.drop_eq_getElem_cons hkS2, List.getElem_map, List.any_cons] at ha
        clear hkr hp1 hp2 hse
        generalize KS[k].1.length = kl at *
        by_cases h3 : 3000 < kl
        · rw [decide_eq_true h3, Bool.true_or] at ha
          have HF : Hid (A = true) := hide ha.symm
          clear ha
          go_wp2
          go_ret
          exact ⟨by rw [HX.out, HF.out]; rfl, rfl⟩
        · rw [decide_eq_false h3, Bool.false_or] at ha
          have HF := hide ha
          have h3' : ¬ (3000 : Int) < (kl : Int) := by omega
          clear ha
          go_wp2
          go_round
          case rel => exact ⟨k + 1, by omega, by go_num, HF.out⟩
          case measure => simp [intOf]; omega
      · have hkn : ¬ (k : Int) < n := by omega
        rw [List.drop_eq_nil_of_le (by rw [List.length_map, HN.out]; omega)] at ha
        have HF : Hid (A = false) := hide (by rw [← ha]; rfl)
        clear ha
        go_wp2
        go_ret
        exact ⟨by rw [HX.out, HF.out]; rfl, rfl⟩

theorem keysF_zero (ks : List (List Int)) : keysF ks = 0 ↔ ks.length ≤ 30 ∧ ∀ k ∈ ks, k.length ≤ 3000 := by
  unfold keysF
  by_cases h : 30 < ks.length
  · rw [if_pos h]; exact ⟨(fun h => by cases h), (fun h' => by omega)⟩
  · rw [if_neg h]
    by_cases ha : ks.any (fun k => decide (3000 < k.length)) = true
    · rw [if_pos ha]
      obtain ⟨k, hk, h3⟩ := List.any_eq_true.1 ha
      have := of_decide_eq_true h3
      exact ⟨(fun h => by cases h), (fun h' => by have := h'.2 k hk; omega)⟩
    · rw [if_neg ha]
      refine ⟨fun _ => ⟨by omega, fun k hk => ?_⟩, fun _ => rfl⟩
      apply Classical.byContradiction
      intro h3
      exact ha (List.any_eq_true.2 ⟨k, hk, decide_eq_true (by omega)⟩)
theorem run_eq (m : List Int) (h : Int) (l : List Lk.Op) (ks : List (List Int)) : Lk.run m h l ks = if Lk.check l = 0 then (if keysF ks = 0 then Lk.ending (Lk.exec m h l ks.reverse) else 4) else Lk.check l := by
  unfold Lk.run
  by_cases hc : Lk.check l = 0
  · rw [if_pos hc, if_pos hc]
    unfold keysF
    by_cases h1 : 30 < ks.length
    · rw [if_pos h1, if_pos h1]; rfl
    · rw [if_neg h1, if_neg h1]
      by_cases ha : ks.any (fun k => decide (3000 < k.length)) = true
      · rw [if_pos ha, if_pos ha]; rfl
      · rw [if_neg ha, if_neg ha, if_pos rfl]
  · rw [if_neg hc, if_neg hc]
theorem keysF_vals (ks : List (List Int)) (h : keysF ks ≠ 0) : keysF ks = 4 := by
  unfold keysF at h ⊢
  by_cases h1 : 30 < ks.length
  · rw [if_pos h1]
  · rw [if_neg h1] at h ⊢
    by_cases ha : ks.any (fun k => decide (3000 < k.length)) = true
    · rw [if_pos ha]
    · rw [if_neg ha] at h; exact absurd rfl h

set_option maxRecDepth 100000 in
set_option maxHeartbeats 1600000 in
theorem run_any (L : List (Lk.Op × Value)) (KS : List (List Int × Value)) (lv kv : Value) (m : List Int) (h : Int) (w : World) (hl : HasOps w lv L) (hk : HasKeys w kv KS) (hm : m.length = 32) (hmb : Sz.Byt m) (ht : Tab w) (hw : 1 < w.heap.size) :
    Calls Tryd.prog 12 #[lv, kv, .agg (vals m).toArray, .int .i64 h] w fun e w' => e = .returned (errV (Lk.run m h (opsOf L) (KS.map Prod.fst))) ∧ Below w.heap.size w w' := by
  have hb0 := below_alloc w (.cells (vals m).toArray 25)
  have HC := hide (check_any lv L _ (hl.below hb0))
  have HL := hide hl
  have HK := hide hk
  have HT := hide ht
  have HW := hide hw
  have HM := hide hm
  have HMB := hide hmb
  have hML : (vals m).length = 32 := by rw [vals_length]; exact hm
  have HML := hide hML
  have HB0 := hide hb0
  obtain ⟨la, lc, rfl⟩ : ∃ a c, lv = .slice a L.length c := by
    rcases hl.1 with ⟨a, cap, rfl, rfl⟩ | ⟨b, off, cap, rfl, _⟩
    · exact ⟨a, cap, rfl⟩
    · exact ⟨_, cap, rfl⟩
  obtain ⟨ka, kc, rfl, _, _, _⟩ := hk.form
  have HIS := hide (Is.new w (vals m) 25)
  obtain ⟨X, hX⟩ : ∃ X, X = Lk.run m h (opsOf L) (KS.map Prod.fst) := ⟨_, rfl⟩
  rw [← hX]
  rw [run_eq] at hX
  have HX := hide hX
  have HO : Hid (∀ W M, M = vals m → Below w.heap.size w W → Lk.check (opsOf L) = 0 → keysF (KS.map Prod.fst) = 0 → Calls Tryd.prog 27 #[.slice la L.length lc, .slice ka KS.length kc, .agg M.toArray, .int .i64 h] W fun e w' => e = .returned (errV (Lk.ending (Lk.exec m h (opsOf L) (stk KS)))) ∧ Below W.heap.size W w') := hide (fun W M hMM hW hc hkf => by
    subst hMM
    have hc' := (Lk.check_zero _).1 hc
    have hk' := (keysF_zero _).1 hkf
    exact open_any L KS _ _ m h W (HL.out.below hW) (HK.out.below hW) (fun p hp => hk'.2 p.1 (List.mem_map_of_mem hp)) (by simpa using hk'.1) (by rw [← opsOf_length]; exact hc'.1) hc'.2.1 hm hmb (ht.below hW hw) (Nat.lt_of_lt_of_le hw hW.size))
  obtain ⟨M, hM⟩ : ∃ M, M = vals m := ⟨_, rfl⟩
  rw [← hM] at HIS HML HC HB0
  rw [← hM]
  have HMM := hide hM
  clear hl hk hm hmb ht hw hX hML hb0 hM
  obtain ⟨c, hc⟩ : ∃ c, c = Lk.check (opsOf L) := ⟨_, rfl⟩
  obtain ⟨kf, hkf⟩ : ∃ kf, kf = keysF (KS.map Prod.fst) := ⟨_, rfl⟩
  rw [← hc] at HC
  have HCE := hide hc
  have HKE := hide hkf
  clear hc hkf
  by_cases h0 : c = 0
  · subst h0
    have HX2 : Hid (X = if keysF (KS.map Prod.fst) = 0 then Lk.ending (Lk.exec m h (opsOf L) (KS.map Prod.fst).reverse) else 4) := hide (by rw [HX.out, ← HCE.out, if_pos rfl])
    clear HX
    have e0 : errV 0 = .nilIface := rfl
    rw [e0] at HC
    by_cases hk0 : kf = 0
    · subst hk0
      have HX3 : Hid (X = Lk.ending (Lk.exec m h (opsOf L) (stk KS))) := hide (by rw [HX2.out, ← HKE.out, if_pos rfl]; rfl)
      clear HX2
      generalize L.length = ll at *
      generalize KS.length = kl at *
      go_enter Tryd.func12, Tryd.ntmps12
      go_wp2_with fail
      refine HC.out.mono ?_
      rintro e w1 ⟨rfl, hb1⟩
      have HB1 := hide (HB0.out.trans (hb1.mono (by simp)))
      have HIS1 := hide (HIS.out.below hb1 (by simp))
      have HCK := hide (checkKeys_any KS _ w1 (HK.out.below HB1.out))
      rw [← HKE.out, e0] at HCK
      clear hb1 e0
      go_wp2_with fail
      refine HCK.out.mono ?_
      rintro e w2 ⟨rfl, rfl⟩
      have HOP := hide (HO.out w1 M HMM.out HB1.out HCE.out.symm HKE.out.symm)
      rw [← HX3.out] at HOP
      go_wp2_with (first
        | (refine wpList_load_arr2 25 M w.heap.size rfl (.tmp 6) rfl rfl HIS1.out Tryd.underlying25 size_dig HML.out ?_)
        | (go_at_call 27; refine HOP.out.mono ?_; rintro e w2 ⟨rfl, hb2⟩))
      go_ret
      exact ⟨rfl, HB1.out.trans (hb2.mono HB1.out.size)⟩
    · have hkv : errV 4 = .iface 30 (.int .i64 4) := rfl
      have HX3 : Hid (X = 4) := hide (by rw [HX2.out, ← HKE.out, if_neg hk0])
      have HK4 : Hid (keysF (KS.map Prod.fst) = 4) := hide (keysF_vals _ (by rw [← HKE.out]; exact hk0))
      clear HX2 hk0
      generalize L.length = ll at *
      generalize KS.length = kl at *
      go_enter Tryd.func12, Tryd.ntmps12
      go_wp2_with fail
      refine HC.out.mono ?_
      rintro e w1 ⟨rfl, hb1⟩
      have HB1 := hide (HB0.out.trans (hb1.mono (by simp)))
      have HCK := hide (checkKeys_any KS _ w1 (HK.out.below HB1.out))
      rw [HK4.out, hkv] at HCK
      clear hb1 e0 hkv
      go_wp2_with fail
      refine HCK.out.mono ?_
      rintro e w2 ⟨rfl, rfl⟩
      go_wp2
      go_ret
      exact ⟨by rw [HX3.out]; rfl, HB1.out⟩
  · have HX2 : Hid (X = c) := hide (by rw [HX.out, ← HCE.out, if_neg h0])
    have hcv : errV c = .iface 30 (.int .i64 c) := by unfold errV; rw [if_neg h0]
    rw [hcv] at HC
    have HCV := hide hcv
    clear HX hcv h0
    generalize L.length = ll at *
    generalize KS.length = kl at *
    go_enter Tryd.func12, Tryd.ntmps12
    go_wp2_with fail
    refine HC.out.mono ?_
    rintro e w1 ⟨rfl, hb1⟩
    have HB1 := hide (HB0.out.trans (hb1.mono (by simp)))
    clear hb1
    go_wp2
    go_ret
    exact ⟨by rw [HX2.out, HCV.out]; rfl, HB1.out⟩
end Go.Proofs.YtkdihbgjeanjdaaDoor
