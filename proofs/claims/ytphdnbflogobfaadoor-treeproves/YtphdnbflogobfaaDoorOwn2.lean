/- An append of bytes onto bytes of the call's own: the block stays, or is new. -/
import Derived.Test.YtphdnbflogobfaaDoorOwnNew
namespace Go.Proofs.YtphdnbflogobfaaDoor
open Go.RowKit
set_option linter.unusedVariables false

theorem nextcap_two {need old : Nat} (h : old < need) : Builtin.nextslicecap need old ≤ 2 * need + 1024 := by
  unfold Builtin.nextslicecap
  split
  · omega
  · split
    · omega
    · simp only [Builtin.growBy]
      repeat' split
      all_goals omega

theorem run_append_two (w : World) (base : Nat) (v : Value) (xs : List Int) (hown : Own w base v xs) (a : Addr) (c : Nat) (l : List Int) (h0 : 0 < l.length) (hnews : ∀ j u, (vals l)[j]? = some u → w.cell? (a.add j) = some u) (hbd : xs.length + l.length ≤ 1000000000) (hbase : base ≤ w.heap.size) (ty : TypeId) :
    ∃ v' w', (Builtin.append_ #[23, 23] ty #[v, .slice (some a) l.length c]).run Tryd.prog w = .ok v' w' ∧ Own w' base v' (xs ++ l) ∧ w.grownBy w' v.ownBlock ∧ (v'.ownBlock = v.ownBlock ∨ v'.ownBlock = some w.heap.size) := by
  obtain ⟨i, hi, hz, hs, hby⟩ := info_u8
  have hml : xs.length + l.length ≤ maxLen := by unfold maxLen; omega
  rcases hown.2 with ⟨rfl, hx0⟩ | ⟨g, cap, cur, rfl, hbg, hg, hn, hc, hsz, ht⟩
  · have hxs : xs = [] := List.eq_nil_of_length_eq_zero hx0
    subst hxs
    have hr := run_append_nil (P := Tryd.prog) w 23 ty 5 i (.int .u8 0) Tryd.underlying23 hi hz a l.length c (vals l) (by simp [vals, hs]) hnews h0 (by simp at hbd; omega) (by simp [hby] at hbd ⊢; omega)
    have ho := grown_own w base (grownCap w l.length 0 5) [] l (by simpa using grownCap_ge w l.length 0 5) (grownCap_le_maxLen w l.length 0 5 (by simpa using hml)) hbase
    simp only [vals, List.map_nil, List.length_nil, Nat.zero_add, List.nil_append, Array.empty_append] at ho hr ⊢
    exact ⟨_, _, hr, ho, grown_kept _ _ _, .inr rfl⟩
  · by_cases hroom : xs.length + l.length ≤ cap
    · obtain ⟨w', hr, h2, h3⟩ := run_append_fits (P := Tryd.prog) w base 23 ty 5 i 1 Tryd.underlying23 hi hs g xs.length cap (vals xs) hown a l.length c (vals l) (by simp [vals]) hnews (vals_one l) hroom
      exact ⟨_, w', hr, by unfold Own; rw [List.length_append, vals_append]; exact h2, h3, .inl rfl⟩
    · have holds : ∀ j u, (vals xs)[j]? = some u → w.cell? ((⟨g, 0, none⟩ : Addr).add j) = some u := World.ownsRow.cells hown (g := g) rfl
      have hnc := nextcap_two (need := xs.length + l.length) (old := cap) (by omega)
      have hr := run_append_grow (P := Tryd.prog) w 23 ty 5 i (.int .u8 0) Tryd.underlying23 hi hz ⟨g, 0, none⟩ xs.length cap (vals xs) (by simp [vals, hs]) holds a l.length c (vals l) (by simp [vals, hs]) hnews (by omega) (by omega) (by rw [hby]; omega)
      exact ⟨_, _, hr, grown_own w base _ xs l (grownCap_ge w _ cap 5) (grownCap_le_maxLen w _ cap 5 hml) hbase, grown_kept _ _ _, .inr rfl⟩

/-- One byte more: at the list of a region's operations. -/
theorem wpList_append_one (w : World) (x : Int) {ops : Array Oper} {rest : List Oper} {o : Oper} {a : Act} {Q : Exit → Act → World → Prop} (hgd : o.guard = none) (s y : Operand)
    (ho : o.op = .call { callee := .builtin .append, args := #[s, y], argTypes := #[23, 23] })
    (base : Nat) (v : Value) (xs : List Int) (hs : a.eval s = v) (hown : Own w base v xs) (b : Nat) (hy : a.eval y = .slice (some ⟨b, 0, none⟩) 1 1) (hb : Is w b [.int .u8 x] 5) (hbd : xs.length + 1 ≤ 1000000000) (hbase : base ≤ w.heap.size)
    (h : ∀ v' w', Own w' base v' (xs ++ [x]) → w.grownBy w' v.ownBlock → (v'.ownBlock = v.ownBlock ∨ v'.ownBlock = some w.heap.size) → wpList Tryd.prog ops Q rest (a.put o.dst v') w') : wpList Tryd.prog ops Q (o :: rest) a w := by
  refine wpList_plain hgd fun K hK => ?_
  obtain ⟨v', w', hr, h2, h3, h4⟩ := run_append_two w base v xs hown ⟨b, 0, none⟩ 1 [x] (by simp) (fun j u hu => by rw [Addr.add_lit, hb.cell, Nat.zero_add]; exact hu) hbd hbase o.type
  have hr' : (Builtin.append_ #[23, 23] o.type #[v, .slice (some ⟨b, 0, none⟩) 1 1]).run Tryd.prog w = .ok v' w' := hr
  unfold Oper.wp
  simp only [execOp, ho, resolve, invoke, builtin, Sem.run_bind, Sem.run_pure, Result.andThen_ok, List.map_toArray, List.map_cons, List.map_nil, hs, hy, hr']
  exact hK _ _ (h v' w' h2 h3 h4)
end Go.Proofs.YtphdnbflogobfaaDoor
