/- The texts LkN, LkQ, one behind the other. -/
import Derived.Test.YtkdihbgjeanjdaaDoorLkRun
import Derived.Test.YtkdihbgjeanjdaaDoorTold2
/- Ops and keys that are put behind each other; whether two errors have one number; the fact of a lock that a 1 opens. -/
namespace Go.Proofs.YtkdihbgjeanjdaaDoor
open Go.RowKit
set_option linter.unusedVariables false

theorem wpList_append_of {t : TypeId} {w : World} {ops : Array Oper} {rest : List Oper} {o : Oper} {a : Act} {Q : Exit → Act → World → Prop} (P : Value → World → Prop) (hgd : o.guard = none) (s y : Operand)
    (ho : o.op = .call { callee := .builtin .append, args := #[s, y], argTypes := #[t, t] }) (v x : Value) (hs : a.eval s = v) (hy : a.eval y = x)
    (hr : ∀ ty, ∃ v' w', (Builtin.append_ #[t, t] ty #[v, x]).run Tryd.prog w = .ok v' w' ∧ P v' w')
    (h : ∀ v' w', P v' w' → wpList Tryd.prog ops Q rest (a.put o.dst v') w') : wpList Tryd.prog ops Q (o :: rest) a w := by
  refine wpList_plain hgd fun K hK => ?_
  obtain ⟨v', w', hr', h2⟩ := hr o.type
  unfold Oper.wp
  simp only [execOp, ho, resolve, invoke, builtin, Sem.run_bind, Sem.run_pure, Result.andThen_ok, List.map_toArray, List.map_cons, List.map_nil, hs, hy, hr']
  exact hK _ _ (h v' w' h2)
theorem step_append_of {t : TypeId} {w : World} {ops : Array Oper} {o : Oper} {a : Act} {K : Act → World → Prop} {Q : Exit → Act → World → Prop} {E : Prop} (P : Value → World → Prop) (hgd : o.guard = none) (s y : Operand)
    (ho : o.op = .call { callee := .builtin .append, args := #[s, y], argTypes := #[t, t] }) (v x : Value) (hs : a.eval s = v) (hy : a.eval y = x)
    (hr : ∀ ty, ∃ v' w', (Builtin.append_ #[t, t] ty #[v, x]).run Tryd.prog w = .ok v' w' ∧ P v' w')
    (h : ∀ v' w', P v' w' → K (a.put o.dst v') w') :
    if Region.wanted o (yielded ops a.tmps) = true then Oper.wp Tryd.prog o a w K Q else E := by
  have hw : Region.wanted o (yielded ops a.tmps) = true := by simp [Region.wanted, hgd]
  rw [if_pos hw]
  obtain ⟨v', w', hr', h2⟩ := hr o.type
  unfold Oper.wp
  simp only [execOp, ho, resolve, invoke, builtin, Sem.run_bind, Sem.run_pure, Result.andThen_ok, List.map_toArray, List.map_cons, List.map_nil, hs, hy, hr']
  exact h v' w' h2

/-- Nothing is appended. -/
theorem run_append_empty (w : World) (base : Nat) (t e : TypeId) (size : Nat) (he : Elem t e size) (v : Value) (n : Nat) (xs : List Value) (hown : w.ownsRow base e size v n xs) (hm : n * 10000 ≤ 140737488355328) (hbase : base ≤ w.heap.size) (a : Option Addr) (c : Nat) (ty : TypeId) :
    ∃ v' w', (Builtin.append_ #[t, t] ty #[v, .slice a 0 c]).run Tryd.prog w = .ok v' w' ∧ w'.ownsRow base e size v' n xs ∧ w.grownBy w' v.ownBlock := by
  obtain ⟨i, z, hu, hi, hz, hs, hby, hzs, hsz⟩ := he
  cases a with
  | none =>
    refine ⟨v, w, ?_, hown, ⟨rfl, rfl, rfl, Nat.le_refl _, fun _ _ _ => rfl⟩⟩
    rcases hown.2 with ⟨rfl, rfl⟩ | ⟨g, cap, cur, rfl, _, _, hnc, _⟩
    · simp [Builtin.append_, run_underlying hu, sizeOf, typeInfo, hi, Builtin.lenOf, Builtin.firstCells]
    · simp [Builtin.append_, run_underlying hu, sizeOf, typeInfo, hi, Builtin.lenOf, Builtin.firstCells, hnc, storeCells]
  | some a =>
    have hmul : (n + 0) * i.bytes ≤ n * 10000 := Nat.mul_le_mul (by omega) hby
    obtain ⟨v', w', hr, h2, h3, _⟩ := run_append_own (P := Tryd.prog) w base t ty e i z size i.bytes hu hi hz hs rfl hzs hsz v n xs hown a 0 c [] (by simp) (fun j u hu => by simp at hu) (fun u hu => by cases hu) (by unfold maxLen; omega) (by omega) hbase
    exact ⟨v', w', hr, by simpa using h2, h3⟩

theorem elem_op : Elem 22 38 3 := elem_of (.agg #[.int .i64 0, .int .i64 0, .slice none 0 0]) 40 Tryd.underlying22 (by kernel_rfl) (by omega) rfl (by omega)

/-- Ops that can be read. -/
def SrcOps (w : World) (v : Value) (L : List (Lk.Op × Value)) : Prop :=
  (∃ a cap, v = .slice a 0 cap ∧ L = []) ∨ ∃ b off cap, v = .slice (some ⟨b, off, none⟩) L.length cap ∧ 0 < L.length ∧ w.rangeAt b off (opCells L)
theorem HasOps.src {w : World} {v : Value} {L : List (Lk.Op × Value)} (h : HasOps w v L) : SrcOps w v L := by
  rcases h.1 with h | ⟨b, off, cap, hv, h0, h1, h2, h3, hc⟩
  · exact .inl h
  · exact .inr ⟨b, off, cap, hv, h0, hc⟩
/-- Ops of the call's own. -/
def OwnOps (w : World) (base : Nat) (v : Value) (L : List (Lk.Op × Value)) : Prop := w.ownsRow base 38 3 v L.length (opCells L)
theorem OwnOps.src {w : World} {base : Nat} {v : Value} {L : List (Lk.Op × Value)} (h : OwnOps w base v L) : SrcOps w v L := by
  by_cases h0 : L.length = 0
  · have hL := List.eq_nil_of_length_eq_zero h0
    subst hL
    obtain ⟨a, cap, rfl⟩ := owns_form h
    exact .inl ⟨a, cap, rfl, rfl⟩
  · obtain ⟨g, cap, rfl, _, _, _, _, hr⟩ := owns_some h (by omega)
    exact .inr ⟨g, 0, cap, rfl, by omega, hr⟩
theorem OwnOps.hasOps {w : World} {base : Nat} {v : Value} {L : List (Lk.Op × Value)} (h : OwnOps w base v L) (hd : ∀ p ∈ L, Has w p.2 p.1.data ∧ Sz.Byt p.1.data) : HasOps w v L := by
  refine ⟨?_, hd⟩
  by_cases h0 : L.length = 0
  · have hL := List.eq_nil_of_length_eq_zero h0
    subst hL
    obtain ⟨a, cap, rfl⟩ := owns_form h
    exact .inl ⟨a, cap, rfl, rfl⟩
  · obtain ⟨g, cap, rfl, _, h2, h3, h4, hr⟩ := owns_some h (by omega)
    exact .inr ⟨g, 0, cap, rfl, by omega, h3, h4, h2, hr⟩
theorem OwnOps.below {w w' : World} {base : Nat} {v : Value} {L : List (Lk.Op × Value)} (h : OwnOps w base v L) (hb : Below w.heap.size w w') : OwnOps w' base v L := owns_below h hb
/-- Every op's bytes lie in a slice. -/
def Formed (L : List (Lk.Op × Value)) : Prop := ∀ p ∈ L, p.2.oneCell' = true
theorem opCells_one : ∀ (L : List (Lk.Op × Value)), Formed L → ∀ u ∈ opCells L, u.oneCell' = true
  | [], _, u, hu => by cases hu
  | p :: L, h, u, hu => by
    simp only [opCells, List.mem_cons] at hu
    rcases hu with rfl | rfl | rfl | hu
    · rfl
    · rfl
    · exact h p (by simp)
    · exact opCells_one L (fun q hq => h q (by simp [hq])) u hu
theorem HasOps.formed {w : World} {v : Value} {L : List (Lk.Op × Value)} (h : HasOps w v L) : Formed L := fun p hp => by
  obtain ⟨a, n, c, e⟩ := h.forms p hp
  rw [e]; rfl
theorem Formed.append {L M : List (Lk.Op × Value)} (h : Formed L) (k : Formed M) : Formed (L ++ M) := fun p hp => by
  rcases List.mem_append.1 hp with hp | hp
  · exact h p hp
  · exact k p hp

/-- What an append of ops leaves. -/
def AppOps (w0 W : World) (base : Nat) (vo : Value) (L : List (Lk.Op × Value)) (v' : Value) (W' : World) : Prop := OwnOps W' base v' L ∧ Below w0.heap.size w0 W' ∧ Below base W W' ∧ W.grownBy W' vo.ownBlock
theorem run_append_ops (w0 W : World) (base : Nat) (v x : Value) (R L : List (Lk.Op × Value)) (hb0 : w0.heap.size ≤ base) (hW : Below w0.heap.size w0 W) (hbW : base ≤ W.heap.size) (hown : OwnOps W base v R) (hx : SrcOps W x L) (hf : Formed L) (hbd : R.length + L.length ≤ 1000) (ty : TypeId) :
    ∃ v' W', (Builtin.append_ #[22, 22] ty #[v, x]).run Tryd.prog W = .ok v' W' ∧ AppOps w0 W base v (R ++ L) v' W' := by
  have hbg : ∀ W', W.grownBy W' v.ownBlock → Below base W W' := fun W' hg => (Below.refl base W).grown hg hbW (fun q hq => (World.ownsRow.lt hown q hq).1)
  rcases hx with ⟨a, c, rfl, rfl⟩ | ⟨b, off, c, rfl, h0, hr⟩
  · obtain ⟨v', W', h1, h2, h3⟩ := run_append_empty W base 22 38 3 elem_op v R.length (opCells R) hown (by omega) hbW a c ty
    refine ⟨v', W', h1, by rw [List.append_nil]; exact h2, hW.trans ((hbg W' h3).mono hb0), hbg W' h3, h3⟩
  · obtain ⟨v', W', h1, h2, h3, _⟩ := run_append_gen W base 22 38 3 elem_op v R.length (opCells R) hown ⟨b, off, none⟩ L.length c h0 (opCells L) (opCells_length L) (fun j u hu => by rw [Addr.add_lit]; exact hr j u hu) (opCells_one L hf) (by omega) hbW ty
    refine ⟨v', W', h1, ?_, hW.trans ((hbg W' h3).mono hb0), hbg W' h3, h3⟩
    unfold OwnOps
    rw [List.length_append, opCells_append]
    exact h2
theorem OwnOps.lit (w : World) (base : Nat) (L : List (Lk.Op × Value)) (hb : base ≤ w.heap.size) (hm : L.length ≤ 1000) (cs : Array Value) (hcs : cs = (opCells L).toArray) : OwnOps (w.alloc (.cells cs 38)) base (.slice (some ⟨w.heap.size, 0, none⟩) L.length L.length) L := by
  subst hcs
  have := World.ownsRow_lit (base := base) (e := 38) (size := 3) w (opCells L).toArray L.length hb (by unfold maxLen; omega) (by simp [opCells_length])
  simpa [OwnOps] using this

theorem told_any (c : Int) (w : World) (h : ErrVar w) : Calls Tryd.prog 21 #[errV c] w fun e w' => e = .returned (.int .i64 c) ∧ Below w.heap.size w w' := by
  by_cases hc : c = 0
  · subst hc
    refine (told_nil w).mono ?_
    rintro e w' ⟨rfl, rfl⟩
    exact ⟨rfl, Below.refl _ _⟩
  · have e : errV c = .iface 30 (.int .i64 c) := by unfold errV; rw [if_neg hc]
    rw [e]
    exact told_err c w h
theorem toldE_any (a b : Int) (w : World) (h : ErrVar w) : Calls Tryd.prog 20 #[errV a, errV b] w fun e w' => e = .returned (.bool (a == b)) ∧ Below w.heap.size w w' := by
  have H1 := hide (told_any a w h)
  have H2 : Hid (∀ W, Below w.heap.size w W → Calls Tryd.prog 21 #[errV b] W fun e w' => e = .returned (.int .i64 b) ∧ Below W.heap.size W w') := fun W hW => told_any b W (h.below hW)
  clear h
  generalize errV a = va at *
  generalize errV b = vb at *
  go_enter Tryd.func20, Tryd.ntmps20
  go_wp2_with fail
  refine H1.out.mono ?_
  rintro e w1 ⟨rfl, hb1⟩
  have HB1 := hide hb1
  clear hb1
  go_wp2_with fail
  refine (H2.out _ HB1.out).mono ?_
  rintro e w2 ⟨rfl, hb2⟩
  have HB2 := hide (HB1.out.trans (hb2.mono HB1.out.size))
  clear hb2
  go_wp2
  go_ret
  exact ⟨rfl, HB2.out⟩
end Go.Proofs.YtkdihbgjeanjdaaDoor

/- The fact of a lock that a 1 opens, and a 0 does not. -/
namespace Go.Proofs.YtkdihbgjeanjdaaDoor
open Go.RowKit
set_option linter.unusedVariables false

theorem keys_one {w : World} {g k : Nat} {x : Int} (hg : Is w g [.int .u8 x] 5) (hk : Is w k [.slice (some ⟨g, 0, none⟩) 1 1] 36) (hx : 0 ≤ x ∧ x < 256) : HasKeys w (.slice (some ⟨k, 0, none⟩) 1 1) [([x], .slice (some ⟨g, 0, none⟩) 1 1)] := by
  refine ⟨.inr ⟨k, 0, 1, rfl, by simp, by simp, by unfold maxLen; omega, hk.lt, is_range hk⟩, fun p hp => ?_⟩
  obtain rfl := List.mem_singleton.1 hp
  refine ⟨.inr ⟨g, 0, 1, rfl, by simp, by simp, by unfold maxLen; omega, fun j hj => ?_⟩, fun y hy => by obtain rfl := List.mem_singleton.1 hy; exact hx⟩
  obtain rfl : j = 0 := by simp at hj; omega
  rw [hg.cell]; rfl

set_option maxRecDepth 100000 in
set_option maxHeartbeats 1600000 in
theorem opened_any (w : World) (ht : Tab w) (hw : 1 < w.heap.size) (hE : ErrVar w) :
    Calls Tryd.prog 14 #[] w fun e w' => e = .returned (.bool true) ∧ Below w.heap.size w w' := by
  obtain ⟨Z, hZ⟩ : ∃ Z : List Int, Z = List.replicate 32 0 := ⟨_, rfl⟩
  have hzd := zero_dig
  have hZl : Z.length = 32 := by rw [hZ]; rfl
  have hZb : Sz.Byt Z := fun x hx => by rw [hZ] at hx; rw [List.eq_of_mem_replicate hx]; omega
  rw [← hZ] at hzd
  have HR : Hid (∀ (W : World) (g k : Nat) (x : Int), Below w.heap.size w W → Is W g [.int .u8 x] 5 → Is W k [.slice (some ⟨g, 0, none⟩) 1 1] 36 → 0 ≤ x ∧ x < 256 → Calls Tryd.prog 12 #[.slice none 0 0, .slice (some ⟨k, 0, none⟩) 1 1, .agg (vals Z).toArray, .int .i64 0] W fun e w' => e = .returned (errV (if Lk.isTrue [x] then 0 else 7)) ∧ Below W.heap.size W w') := fun W g k x hW hg hk hx => by
    have := run_any [] _ (.slice none 0 0) _ Z 0 W ⟨.inl ⟨none, 0, rfl, rfl⟩, fun p hp => by cases hp⟩ (keys_one hg hk hx) hZl hZb (ht.below hW hw) (Nat.lt_of_lt_of_le hw hW.size)
    rw [show Lk.run Z 0 (opsOf []) (([([x], Value.slice (some ⟨g, 0, none⟩) 1 1)] : List (List Int × Value)).map Prod.fst) = if Lk.isTrue [x] then 0 else 7 from Lk.law_bare Z 0 [x] (by simp)] at this
    exact this
  have HEV := hide hE
  have e1 : errV (if Lk.isTrue [1] then 0 else 7) = .nilIface := rfl
  have e2 : errV (if Lk.isTrue [0] then 0 else 7) = errV 7 := rfl
  have hvz : ¬ vals Z = [] := by intro h; have : (vals Z).length = 0 := by rw [h]; rfl
                                 rw [vals_length, hZl] at this; cases this
  clear ht hw hE hZ hZl hZb
  have H1 := hide (HR.out ((w.alloc (.cells #[.int .u8 1] 5)).alloc (.cells #[.slice (some ⟨w.heap.size, 0, none⟩) 1 1] 36)) w.heap.size (w.heap.size + 1) 1 (below_alloc2 w _ _) ((Is.new w [.int .u8 1] 5).alloc _) (Is.new' [.slice (some ⟨w.heap.size, 0, none⟩) 1 1] 36 (by simp)) (by omega))
  rw [e1] at H1
  generalize vals Z = M at *
  clear e1
  go_enter Tryd.func14, Tryd.ntmps14
  go_wp2_with fail
  refine H1.out.mono ?_
  rintro e w1 ⟨rfl, hb1⟩
  have HB1 : Hid (Below w.heap.size w w1) := hide ((below_alloc2 w _ _).trans (hb1.mono (by simp; omega)))
  have H2 := hide (HR.out ((w1.alloc (.cells #[.int .u8 0] 5)).alloc (.cells #[.slice (some ⟨w1.heap.size, 0, none⟩) 1 1] 36)) w1.heap.size (w1.heap.size + 1) 0 (HB1.out.trans ((below_alloc2 w1 _ _).mono HB1.out.size)) ((Is.new w1 [.int .u8 0] 5).alloc _) (Is.new' [.slice (some ⟨w1.heap.size, 0, none⟩) 1 1] 36 (by simp)) (by omega))
  rw [e2] at H2
  clear hb1 e2
  go_wp2_with fail
  refine H2.out.mono ?_
  rintro e w2 ⟨rfl, hb2⟩
  have HB2 : Hid (Below w.heap.size w w2) := hide (HB1.out.trans (((below_alloc2 w1 _ _).trans (hb2.mono (by simp; omega))).mono HB1.out.size))
  have HE := hide (error_any 7 7 w2 (HEV.out.below HB2.out))
  have e3 : ((7 : Int) == 7) = true := rfl
  rw [e3] at HE
  clear hb2 e3
  generalize errV 7 = v7 at *
  go_wp2_with fail
  refine HE.out.mono ?_
  rintro e w3 ⟨rfl, hb3⟩
  have HB3 := hide (HB2.out.trans (hb3.mono HB2.out.size))
  clear hb3
  go_wp2
  go_ret
  exact ⟨rfl, HB3.out⟩
end Go.Proofs.YtkdihbgjeanjdaaDoor
