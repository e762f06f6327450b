/- The contracts of key.Public, key.Sign and key.Recover. -/
import Derived.Test.YtkdihbgjeanjdabDoorKeEnds
import Derived.Test.YtkdihbgjeanjdabDoorKeFns
import Derived.Test.YtkdihbgjeanjdabDoorOwnNew
namespace Go.Proofs.YtkdihbgjeanjdabDoor
open Go.RowKit
set_option linter.unusedVariables false

theorem call_recoverF (xs : Array Value) (w : World) : (callFunc 50 xs).run Tryd.prog w = .ok (.enter 50 xs) w := by
  simp [callFunc, Tryd.func50, Tryd.f50]

/-- An element of an array by value that is an array itself. -/
theorem run_index_row (t e : TypeId) (n k m : Nat) (c : List Value) (w : World) (hu : Tryd.prog.underlying t = some (.array n e)) (hz : Sized e m) (ha : ∀ w, (isAgg e).run Tryd.prog w = .ok true w) (hk : k < n) :
    (Instr.index t (.agg c.toArray) (.int .i64 (k : Int))).run Tryd.prog w = .ok (.agg ((c.drop (k * m)).take m).toArray) w := by
  have hs : ∀ w, (sizeOf e).run Tryd.prog w = .ok m w := fun w => by
    unfold Sized at hz
    cases hq : Tryd.prog.info? e with
    | none => simp [hq] at hz
    | some i => simp [hq] at hz; simp [sizeOf, typeInfo, hq, hz]
  have hun : (underlying t).run Tryd.prog w = .ok (.array n e) w := by simp [underlying, hu]
  simp [Instr.index, asIntOf, hun, hs, hk, part, ha, Result.andThen]
theorem wpList_index_row (t e : TypeId) (n k m : Nat) (c : List Value) {w : World} {ops : Array Oper} {rest : List Oper} {o : Oper} {a : Act} {Q : Exit → Act → World → Prop} (hgd : o.guard = none) (x i : Operand) (ho : o.op = .index t x i) (hx : a.eval x = .agg c.toArray) (hi : a.eval i = .int .i64 (k : Int))
    (hu : Tryd.prog.underlying t = some (.array n e)) (hz : Sized e m) (ha : ∀ w, (isAgg e).run Tryd.prog w = .ok true w) (hk : k < n) (v : List Value) (hv : (c.drop (k * m)).take m = v)
    (h : wpList Tryd.prog ops Q rest (a.put o.dst (.agg v.toArray)) w) : wpList Tryd.prog ops Q (o :: rest) a w := by
  subst hv
  refine wpList_plain hgd fun K hK => ?_
  unfold Oper.wp
  simp only [execOp, ho, hx, hi, Sem.run_bind, Sem.run_pure, Result.andThen_ok, run_index_row t e n k m c w hu hz ha hk]
  exact hK _ _ h
theorem agg_dig (w : World) : (isAgg 25).run Tryd.prog w = .ok true w := by simp [isAgg, underlying, Tryd.underlying25]
theorem vals_part (L : List Int) (k : Nat) : ((vals L).drop (k * 32)).take 32 = vals (Ky.sigAt L k) := by
  unfold Ky.sigAt vals
  rw [List.map_take, List.map_drop, Nat.mul_comm]
theorem make_room (n : Nat) (h : n ≤ 281474976710656) (w : World) : (Instr.makeSlice 31 (.int .i64 0) (.int .i64 (n : Int))).run Tryd.prog w = .ok (.slice (some ⟨w.heap.size, 0, none⟩) 0 n) (w.alloc (.cells (zeros n) 5)) := by
  obtain ⟨i, hi, hz, hs, hby⟩ := info_u8
  have hr := run_make (P := Tryd.prog) w 31 5 i (.int .u8 0) Tryd.underlying31 hi hz .i64 .i64 0 n (by omega) (by omega) (by rw [hby]; omega) (by omega)
  simpa [zeros, Value.cells, hs] using hr
theorem Own.room (w : World) (base n : Nat) (hb : base ≤ w.heap.size) (hn : n ≤ 140737488355328) : Own (w.alloc (.cells (zeros n) 5)) base (.slice (some ⟨w.heap.size, 0, none⟩) 0 n) [] :=
  ⟨rfl, .inr ⟨w.heap.size, n, zeros n, rfl, hb, heap_alloc_new w _, Nat.zero_le _, by unfold maxLen; omega, by simp [zeros, madeCells], rfl⟩⟩

end Go.Proofs.YtkdihbgjeanjdabDoor
