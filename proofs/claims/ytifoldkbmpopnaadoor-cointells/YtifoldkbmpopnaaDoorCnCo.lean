/- Copies: bytes, ops. -/
import Derived.Test.YtifoldkbmpopnaaDoorCnM
import Derived.Test.YtifoldkbmpopnaaDoorZRd
namespace Go.Proofs.YtifoldkbmpopnaaDoor
open Go.RowKit
set_option linter.unusedVariables false
set_option linter.unusedSimpArgs false

set_option maxHeartbeats 400000 in
theorem cl_bytes (v : Value) (l : List Int) (w : World) (h : Has w v l) (hn : l.length ≤ 180000000000000) :
    Calls Tryd.prog 39 #[v] w fun e w' => ∃ a n c, e = .returned (.slice a n c) ∧ Own w' w.heap.size (.slice a n c) l ∧ Below w.heap.size w w' := by
  obtain ⟨a, cap, rfl, hc, hl⟩ := h.shape
  cases a with
  | none =>
    have h0 : l = [] := by
      rcases h with ⟨a, c, e, e2, _⟩ | ⟨b, off, c, e, _⟩
      · exact e2
      · cases e
    subst h0
    have heq : ∀ w, (binOp .eql 50 (.slice none 0 cap) (.slice none 0 0)).run Tryd.prog w = .ok (.bool true) w := fun w => Go.Lib.run_eql_slice_nil w _ _ none 0 cap 0 0 Tryd.underlying50
    have hlen : (([] : List Int).length : Nat) = 0 := rfl
    rw [hlen]
    clear h
    go_enter Tryd.func39, Tryd.ntmps39
    go_wp2
    go_ret
    exact ⟨none, 0, 0, rfl, World.ownsRow_nil w w.heap.size 5 1, Below.refl _ _⟩
  | some a =>
    refine (clone_some a l.length cap l w h hn).mono ?_
    rintro e w' ⟨v, rfl, ho, hb⟩
    obtain ⟨a2, c2, rfl, _, _⟩ := ho.form
    exact ⟨a2, _, c2, rfl, ho, hb⟩
theorem cl_elem : Elem 39 64 3 := elem_of (.agg #[.int .i64 0, .int .i64 0, .slice none 0 0]) 40 Tryd.underlying39 (by kernel_rfl) (by omega) rfl (by omega)
theorem cl_empty (w : World) (base : Nat) (v : Value) (n : Nat) (xs : List Value) (hown : w.ownsRow base 64 3 v n xs) (hm : n * 10000 ≤ 140737488355328) (hbase : base ≤ w.heap.size) (a : Option Addr) (c : Nat) (ty : TypeId) :
    ∃ v' w', (Builtin.append_ #[39, 39] ty #[v, .slice a 0 c]).run Tryd.prog w = .ok v' w' ∧ w'.ownsRow base 64 3 v' n xs ∧ w.grownBy w' v.ownBlock := by
  obtain ⟨i, z, hu, hi, hz, hs, hby, hzs, hsz⟩ := cl_elem
  cases a with
  | none =>
    refine ⟨v, w, ?_, hown, ⟨rfl, rfl, rfl, Nat.le_refl _, fun _ _ _ => rfl⟩⟩
    rcases hown.2 with ⟨rfl, rfl⟩ | ⟨g, cap, cur, rfl, _, _, hnc, _⟩
    · simp [Builtin.append_, run_underlying hu, sizeOf, typeInfo, hi, Builtin.lenOf, Builtin.firstCells]
    · simp [Builtin.append_, run_underlying hu, sizeOf, typeInfo, hi, Builtin.lenOf, Builtin.firstCells, hnc, storeCells]
  | some a =>
    have hmul : (n + 0) * i.bytes ≤ n * 10000 := Nat.mul_le_mul (by omega) hby
    obtain ⟨v', w', hr, h2, h3, _⟩ := run_append_own (P := Tryd.prog) w base 39 ty 64 i z 3 i.bytes hu hi hz hs rfl hzs hsz v n xs hown a 0 c [] (by simp) (fun j u hu => by simp at hu) (fun u hu => by cases hu) (by unfold maxLen; omega) (by omega) hbase
    exact ⟨v', w', hr, by simpa using h2, h3⟩
theorem cl_ones : ∀ (L : List (Lk.Op × Value)), (∀ p ∈ L, p.2.oneCell' = true) → ∀ u ∈ opCells L, u.oneCell' = true
  | [], _, u, hu => by cases hu
  | p :: L, h, u, hu => by
    simp only [opCells, List.mem_cons] at hu
    rcases hu with rfl | rfl | rfl | hu
    · rfl
    · rfl
    · exact h p (by simp)
    · exact cl_ones L (fun q hq => h q (by simp [hq])) u hu
theorem has_one {w : World} {v : Value} {l : List Int} (h : Has w v l) : v.oneCell' = true := by
  obtain ⟨a, c, rfl, _⟩ := h.shape; rfl
theorem cl_append_by {t : TypeId} {w : World} {ops : Array Oper} {rest : List Oper} {o : Oper} {a : Act} {Q : Exit → Act → World → Prop} (P : Value → World → Prop) (hgd : o.guard = none) (s y : Operand)
    (ho : o.op = .call { callee := .builtin .append, args := #[s, y], argTypes := #[t, t] }) (v x : Value) (hs : a.eval s = v) (hy : a.eval y = x)
    (hr : ∀ ty, ∃ v' w', (Builtin.append_ #[t, t] ty #[v, x]).run Tryd.prog w = .ok v' w' ∧ P v' w')
    (h : ∀ v' w', P v' w' → wpList Tryd.prog ops Q rest (a.put o.dst v') w') : wpList Tryd.prog ops Q (o :: rest) a w := by
  refine wpList_plain hgd fun K hK => ?_
  obtain ⟨v', w', hr', h2⟩ := hr o.type
  unfold Oper.wp
  simp only [execOp, ho, resolve, invoke, builtin, Sem.run_bind, Sem.run_pure, Result.andThen_ok, List.map_toArray, List.map_cons, List.map_nil, hs, hy, hr']
  exact hK _ _ (h v' w' h2)
/-- What an append of ops onto nothing leaves. -/
def AppC (W0 : World) (L : List (Lk.Op × Value)) (v' : Value) (W' : World) : Prop := W'.ownsRow W0.heap.size 64 3 v' L.length (opCells L) ∧ Below W0.heap.size W0 W'
theorem cl_app (W : World) (v : Value) (L : List (Lk.Op × Value)) (h : HasOps W v L) (hm : L.length ≤ 1000) (ty : TypeId) :
    ∃ v' W', (Builtin.append_ #[39, 39] ty #[.slice (some ⟨W.heap.size, 0, none⟩) 0 0, v]).run Tryd.prog (W.alloc (.cells #[] 64)) = .ok v' W' ∧ AppC W L v' W' := by
  have hown : (W.alloc (.cells #[] 64)).ownsRow W.heap.size 64 3 (.slice (some ⟨W.heap.size, 0, none⟩) 0 0) 0 [] :=
    ⟨by simp, .inr ⟨W.heap.size, 0, #[], rfl, Nat.le_refl _, heap_alloc_new W _, Nat.le_refl _, Nat.zero_le _, by simp, by simp⟩⟩
  have hbl : ∀ W', (W.alloc (.cells #[] 64)).grownBy W' (Value.ownBlock (.slice (some ⟨W.heap.size, 0, none⟩) 0 0)) → Below W.heap.size W W' := fun W' hg =>
    ((Below.refl _ _).alloc (Nat.le_refl _) _).grown hg (by simp) (fun q hq => by simp [Value.ownBlock] at hq; omega)
  rcases h.1 with ⟨a, cap, rfl, rfl⟩ | ⟨b, off, cap, rfl, h0, h1, h2, h3, hc⟩
  · obtain ⟨v', W', hr, ho, hg⟩ := cl_empty _ W.heap.size _ 0 [] hown (by omega) (by simp) a cap ty
    exact ⟨_, W', hr, ho, hbl W' hg⟩
  · have hb := below_alloc W (.cells #[] 64)
    obtain ⟨v', W', hr, ho, hg, _⟩ := run_append_gen _ W.heap.size 39 64 3 cl_elem _ 0 [] hown ⟨b, off, none⟩ L.length cap h0 (opCells L) (opCells_length L) (fun j u hu => by rw [Addr.add_lit]; exact range_keep hc hb h3 j u hu) (cl_ones L (fun p hp => has_one (h.2 p hp).1)) (by omega) (by simp) ty
    rw [Nat.zero_add, List.nil_append] at ho
    exact ⟨v', W', hr, ho, hbl W' hg⟩
set_option maxHeartbeats 400000 in
theorem cloneOps_any (v : Value) (L : List (Lk.Op × Value)) (w : World) (h : HasOps w v L) (hm : L.length ≤ 1000) :
    Calls Tryd.prog 38 #[v] w fun e w' => ∃ a n c, e = .returned (.slice a n c) ∧ w'.ownsRow w.heap.size 64 3 (.slice a n c) L.length (opCells L) ∧ Below w.heap.size w w' := by
  obtain ⟨a, n, cap, hv⟩ := hasOps_slice h
  subst hv
  cases a with
  | none =>
    have h0 : L = [] ∧ n = 0 := by
      rcases h.1 with ⟨a, c, e, e2⟩ | ⟨b, off, c, e, _⟩
      · exact ⟨e2, by injection e⟩
      · cases e
    obtain ⟨rfl, rfl⟩ := h0
    have heq : ∀ w, (binOp .eql 39 (.slice none 0 cap) (.slice none 0 0)).run Tryd.prog w = .ok (.bool true) w := fun w => Go.Lib.run_eql_slice_nil w _ _ none 0 cap 0 0 Tryd.underlying39
    clear h
    go_enter Tryd.func38, Tryd.ntmps38
    go_wp2
    go_ret
    exact ⟨none, 0, 0, rfl, World.ownsRow_nil w w.heap.size 64 3, Below.refl _ _⟩
  | some a =>
    have heq : ∀ w, (binOp .eql 39 (.slice (some a) n cap) (.slice none 0 0)).run Tryd.prog w = .ok (.bool false) w := fun w => Go.Lib.run_eql_slice_nil w _ _ (some a) n cap 0 0 Tryd.underlying39
    have HA := hide (fun ty => cl_app w (.slice (some a) n cap) L h hm ty)
    clear h
    go_enter Tryd.func38, Tryd.ntmps38
    go_wp2_with (at_builtin; refine cl_append_by (AppC w L) rfl (.tmp 5) (.tmp 6) rfl (.slice (some ⟨w.heap.size, 0, none⟩) 0 0) (.slice (some a) n cap) rfl rfl (fun ty => HA.out ty) ?_; intro v2 w2 h3; obtain ⟨a2, c2, hv2⟩ := owns_form h3.1; subst hv2)
    go_ret
    exact ⟨a2, _, c2, rfl, h3.1, h3.2⟩
end Go.Proofs.YtifoldkbmpopnaaDoor
