/- Slices of bytes, blocks of memory, and what a call leaves alone. -/
import Derived.Test.YtphdnbflogobfaaDoorRows
import Derived.Test.YtphdnbflogobfaaDoorZMt
import Derived.WalkKit
import Derived.ProofKit
import Derived.OpenShut
import Derived.ShutString
import Derived.ChangeOld
import Derived.Below
import Derived.Laws.BitsAllLaws
import Derived.Laws.Tables
import Derived.Laws.Rows
namespace Go.Proofs.YtphdnbflogobfaaDoor
open Go.RowKit
set_option linter.unusedVariables false

/-- A slice value whose elements are the bytes l. -/
def Has (w : World) (v : Value) (l : List Int) : Prop :=
  (∃ a cap, v = .slice a 0 cap ∧ l = [] ∧ cap ≤ maxLen ∧ (a = none → cap = 0)) ∨
  ∃ b off cap, v = .slice (some ⟨b, off, none⟩) l.length cap ∧ 0 < l.length ∧ l.length ≤ cap ∧ cap ≤ maxLen ∧ ∀ j, j < l.length → w.cell? ⟨b, off + j, none⟩ = some (.int .u8 (l.getD j 0))

theorem Has.below {w w' : World} {v : Value} {l : List Int} (h : Has w v l) (hb : Below w.heap.size w w') : Has w' v l := by
  rcases h with h | ⟨b, off, cap, hv, h0, h1, h2, hc⟩
  · exact .inl h
  · refine .inr ⟨b, off, cap, hv, h0, h1, h2, fun j hj => ?_⟩
    have hlt : b < w.heap.size := World.block_lt_of_cell? w ⟨b, off + j, none⟩ (hc j hj)
    rw [hb.cell (p := ⟨b, off + j, none⟩) hlt]
    exact hc j hj

theorem take_snoc (l : List Int) (k : Nat) (h : k < l.length) : l.take (k + 1) = l.take k ++ [l.getD k 0] := by
  rw [List.take_succ_eq_append_getElem h]; simp [List.getD, List.getElem?_eq_getElem h]

theorem hide {p : Prop} (h : p) : Hid p := h
theorem unhide {p : Prop} (h : Hid p) : p := h
theorem ret_int {k : IntKind} {a b : Int} (h : a = b) : Ending.returned (.int k a) = .returned (.int k b) := by rw [h]

def zeros (k : Nat) : Array Value := madeCells #[.int .u8 0] k
theorem zeros_get (k j : Nat) (h : j < k) : (zeros k)[j]? = some (.int .u8 0) := by simp [zeros, madeCells, h, Nat.mod_one]
theorem info_u8 : ∃ i, Tryd.prog.info? 5 = some i ∧ i.zero = some (.int .u8 0) ∧ i.size = 1 ∧ i.bytes = 1 := by
  have h : (Tryd.prog.info? 5).map (fun i => (i.zero, i.size, i.bytes)) = some (some (.int .u8 0), 1, 1) := by kernel_rfl
  cases hi : Tryd.prog.info? 5 with
  | none => rw [hi] at h; cases h
  | some i =>
    rw [hi] at h
    simp only [Option.map_some, Option.some.injEq, Prod.mk.injEq] at h
    exact ⟨i, rfl, h.1, h.2.1, h.2.2⟩
theorem make_bytes (k : Nat) (h : k ≤ 281474976710656) (w : World) : (Instr.makeSlice 23 (.int .i64 (k : Int)) (.int .i64 (k : Int))).run Tryd.prog w = .ok (.slice (some ⟨w.heap.size, 0, none⟩) k k) (w.alloc (.cells (zeros k) 5)) := by
  obtain ⟨i, hi, hz, hs, hby⟩ := info_u8
  have hr := run_make (P := Tryd.prog) w 23 5 i (.int .u8 0) Tryd.underlying23 hi hz .i64 .i64 k k (by omega) (Int.le_refl _) (by rw [hby]; omega) (by omega)
  simpa [zeros, Value.cells, hs] using hr

/-- What a store of a byte into a row of the call's own does to the row's cells. -/
theorem cell_stored {w : World} {H i j : Nat} {u x : Value} (h : w.cell? ⟨H, i, none⟩ = some u) :
    (w.setCell ⟨H, i, none⟩ x).cell? ⟨H, j, none⟩ = if j = i then some x else w.cell? ⟨H, j, none⟩ := by
  by_cases e : j = i
  · subst e; rw [if_pos rfl]; exact World.cell?_setCell_same _ _ _ h
  · rw [if_neg e]; exact World.cell?_setCell_other _ _ _ _ (by intro c; apply e; injection c with _ c2; exact c2.symm)


/-- Block b holds the cells c, of type t. -/
def Is (w : World) (b : Nat) (c : List Value) (t : TypeId) : Prop := w.heap[b]? = some (.cells c.toArray t (0, 0))

theorem Is.cell {w : World} {b : Nat} {c : List Value} {t : TypeId} (h : Is w b c t) (j : Nat) : w.cell? ⟨b, j, none⟩ = c[j]? := by
  rw [cell_of_row w b j _ t (0, 0) h]; simp
theorem Is.frozen {w : World} {b : Nat} {c : List Value} {t : TypeId} (h : Is w b c t) (j : Nat) : w.frozen? ⟨b, j, none⟩ = false := frozen_of_row w b j _ t h
theorem Is.lt {w : World} {b : Nat} {c : List Value} {t : TypeId} (h : Is w b c t) : b < w.heap.size := (Array.getElem?_eq_some_iff.1 h).1
theorem Is.set {w : World} {b : Nat} {c : List Value} {t : TypeId} (h : Is w b c t) (i : Nat) (v : Value) : Is (w.setCell ⟨b, i, none⟩ v) b (c.set i v) t := by
  have := heap_setCell_same w b i _ t v h
  unfold Is; rw [this]; simp
theorem Is.other {w : World} {b : Nat} {c : List Value} {t : TypeId} (h : Is w b c t) (a : Addr) (v : Value) (hne : a.block ≠ b) : Is (w.setCell a v) b c t := by
  unfold Is; rw [heap_setCell_other w a b v (fun e => hne e.symm)]; exact h
theorem Is.alloc {w : World} {b : Nat} {c : List Value} {t : TypeId} (h : Is w b c t) (o : Obj) : Is (w.alloc o) b c t := by
  unfold Is; rw [Below.heap_alloc w o b h.lt]; exact h
theorem Is.new (w : World) (c : List Value) (t : TypeId) : Is (w.alloc (.cells c.toArray t)) w.heap.size c t := heap_alloc_new w _
theorem Is.new' {w : World} {b : Nat} (c : List Value) (t : TypeId) (h : b = w.heap.size) : Is (w.alloc (.cells c.toArray t)) b c t := by subst h; exact heap_alloc_new w _
theorem below_alloc (w : World) (o : Obj) : Below w.heap.size w (w.alloc o) := (Below.refl _ _).alloc (Nat.le_refl _) _
theorem below_alloc2 (w : World) (o o' : Obj) : Below w.heap.size w ((w.alloc o).alloc o') := (below_alloc w o).alloc (by simp) _
theorem below_alloc3 (w : World) (o o' o'' : Obj) : Below w.heap.size w (((w.alloc o).alloc o').alloc o'') := (below_alloc2 w o o').alloc (by simp; omega) _
theorem Is.drew {w : World} {b : Nat} {c : List Value} {t : TypeId} (h : Is w b c t) : Is w.drew b c t := h
theorem Is.below {w w' : World} {b B : Nat} {c : List Value} {t : TypeId} (h : Is w b c t) (k : Below B w w') (hB : b < B) : Is w' b c t := by
  unfold Is; rw [k.block b hB]; exact h
theorem Is.row {w : World} {b : Nat} {c : List Value} {t : TypeId} (h : Is w b c t) (c' : List Value) : Is (w.setRow b c'.toArray) b c' t := setRow_heap w b _ _ t _ h

/-- Below block B nothing but block g has turned. -/
structure Only (g B : Nat) (w w' : World) : Prop where
  os : w'.os = w.os
  tape : w'.tape = w.tape
  output : w'.output = w.output
  size : w.heap.size ≤ w'.heap.size
  block : ∀ k, k < B → k ≠ g → w'.heap[k]? = w.heap[k]?
theorem Only.refl (g B : Nat) (w : World) : Only g B w w := ⟨rfl, rfl, rfl, Nat.le_refl _, fun _ _ _ => rfl⟩
theorem Only.trans {g B : Nat} {a b c : World} (h : Only g B a b) (k : Only g B b c) : Only g B a c :=
  ⟨k.os.trans h.os, k.tape.trans h.tape, k.output.trans h.output, Nat.le_trans h.size k.size, fun i hi hn => (k.block i hi hn).trans (h.block i hi hn)⟩
theorem Only.of_below {g B B' : Nat} {w w' : World} (h : Below B w w') (hB : B' ≤ B) : Only g B' w w' := ⟨h.os, h.tape, h.output, h.size, fun k hk _ => h.block k (by omega)⟩
theorem Only.below {g B B' : Nat} {w w' : World} (h : Only g B w w') (hB : B' ≤ B) (hg : B' ≤ g) : Below B' w w' := ⟨h.os, h.tape, h.output, h.size, fun k hk => h.block k (by omega) (by omega)⟩
theorem Only.mono {g B B' : Nat} {w w' : World} (h : Only g B w w') (hB : B' ≤ B) : Only g B' w w' := ⟨h.os, h.tape, h.output, h.size, fun k hk hn => h.block k (by omega) hn⟩
theorem Only.drew {g B : Nat} {a w : World} (h : Only g B a w) : Only g B a w.drew := ⟨h.os, h.tape, h.output, h.size, h.block⟩
theorem Only.alloc {g B : Nat} {a w : World} (h : Only g B a w) (hB : B ≤ w.heap.size) (o : Obj) : Only g B a (w.alloc o) :=
  h.trans (.of_below ((Below.refl B w).alloc hB o) (Nat.le_refl _))
theorem Only.setCell {g B : Nat} {a w : World} (h : Only g B a w) {p : Addr} (hp : p.block = g ∨ B ≤ p.block) (u : Value) : Only g B a (w.setCell p u) :=
  h.trans ⟨rfl, rfl, rfl, by simp [World.setCell], fun k hk hn => Below.heap_setCell _ _ _ _ (by omega)⟩
theorem Only.setRow {g B r : Nat} {a w : World} (h : Only g B a w) (hr : r = g ∨ B ≤ r) (cs : Array Value) : Only g B a (w.setRow r cs) :=
  h.trans ⟨rfl, rfl, rfl, by simp [World.setRow], fun k hk hn => setRow_other w r k cs (by omega)⟩
theorem Is.only {w w' : World} {g b B : Nat} {c : List Value} {t : TypeId} (h : Is w b c t) (k : Only g B w w') (hB : b < B) (hne : b ≠ g) : Is w' b c t := by
  unfold Is; rw [k.block b hB hne]; exact h

/-- A whole array, or struct, out of its block and into it. -/
theorem Is.load {w : World} {b : Nat} {c : List Value} {t : TypeId} {n : Nat} {e : TypeId} (h : Is w b c t) (hu : Tryd.prog.underlying t = some (.array n e)) (hi : (Tryd.prog.info? t).map (·.size) = some c.length) :
    (Instr.loadAt t (.pointer (some ⟨b, 0, none⟩))).run Tryd.prog w = .ok (.agg c.toArray) w := by
  simp only [Instr.loadAt, Instr.sureAddr, Sem.run_bind, Sem.run_pure, Result.andThen]
  exact run_loadVar_row w b t t c.toArray (0, 0) _ h hu rfl (by simpa using hi)
theorem Is.cellsOf {w : World} {b : Nat} {c : List Value} {t : TypeId} {n : Nat} {e : TypeId} (h : Is w b c t) (hu : Tryd.prog.underlying t = some (.array n e)) (hi : (Tryd.prog.info? t).map (·.size) = some c.length) :
    (loadVar t ⟨b, 0, none⟩).run Tryd.prog w = .ok (.agg c.toArray) w := run_loadVar_row w b t t c.toArray (0, 0) _ h hu rfl (by simpa using hi)
theorem Is.loadS {w : World} {b : Nat} {c : List Value} {t : TypeId} {fs : Array Field} (h : Is w b c t) (hu : Tryd.prog.underlying t = some (.struct fs)) (hi : (Tryd.prog.info? t).map (·.size) = some c.length) :
    (Instr.loadAt t (.pointer (some ⟨b, 0, none⟩))).run Tryd.prog w = .ok (.agg c.toArray) w := by
  simp only [Instr.loadAt, Instr.sureAddr, Sem.run_bind, Sem.run_pure, Result.andThen]
  exact run_loadVar_row w b t t c.toArray (0, 0) _ h hu rfl (by simpa using hi)
theorem Is.cellsOfS {w : World} {b : Nat} {c : List Value} {t : TypeId} {fs : Array Field} (h : Is w b c t) (hu : Tryd.prog.underlying t = some (.struct fs)) (hi : (Tryd.prog.info? t).map (·.size) = some c.length) :
    (loadVar t ⟨b, 0, none⟩).run Tryd.prog w = .ok (.agg c.toArray) w := run_loadVar_row w b t t c.toArray (0, 0) _ h hu rfl (by simpa using hi)
theorem Is.from {w : World} {b : Nat} {c : List Value} {t : TypeId} (h : Is w b c t) {n : Nat} (hn : c.length = n) : (loadCellsFrom ⟨b, 0, none⟩ 0 n #[]).run Tryd.prog w = .ok c.toArray w := by
  subst hn
  have := run_loadCells_list (P := Tryd.prog) w ⟨b, 0, none⟩ c (fun j v hv => by
    have hadd : (⟨b, 0, none⟩ : Addr).add j = ⟨b, j, none⟩ := by unfold Addr.add; split <;> simp_all
    rw [hadd, h.cell]; exact hv)
  simpa [loadCells] using this
theorem Is.into {w : World} {b : Nat} {c c' : List Value} {t : TypeId} (h : Is w b c t) (ho : c.length = c'.length) (h1 : ∀ v ∈ c', v.oneCell' = true) :
    (storeCells ⟨b, 0, none⟩ c' 0).run Tryd.prog w = .ok () (w.setRow b c'.toArray) := by
  have := run_storeCells_from (P := Tryd.prog) b t c' 0 c.toArray w h (by simp; omega) h1
  simpa [List.drop_eq_nil_of_le (Nat.le_of_eq ho)] using this
theorem Is.store {w : World} {b : Nat} {c c' : List Value} {t : TypeId} (h : Is w b c t) (hi : (Tryd.prog.info? t).map (·.size) = some c'.length) (ho : c.length = c'.length) (h1 : ∀ v ∈ c', v.oneCell' = true) :
    (Instr.storeAt t (.pointer (some ⟨b, 0, none⟩)) (.agg c'.toArray)).run Tryd.prog w = .ok () (w.setRow b c'.toArray) := by
  simp only [Instr.storeAt, Instr.sureAddr, Sem.run_bind, Sem.run_pure, Result.andThen]
  exact run_storeVar_row w b t t c.toArray c'.toArray h (by simpa using hi) (by simpa using ho) (by simpa using h1)
end Go.Proofs.YtphdnbflogobfaaDoor
