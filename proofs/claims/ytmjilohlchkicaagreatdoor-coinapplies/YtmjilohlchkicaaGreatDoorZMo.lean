/- The texts HasI, MoSum, OwnI, MoRef, one behind the other. -/
import Derived.Test.YtmjilohlchkicaaGreatDoorOpen
import Derived.Test.YtmjilohlchkicaaGreatDoorZTc
import Derived.Test.YtmjilohlchkicaaGreatDoorTold2
/- Slices of numbers: what they hold, how an argument that is one is opened, and how many they can be. -/
namespace Go.Proofs.YtmjilohlchkicaaGreatDoor
open Go.ChangeShapes Go.WideShapes Go.ChangeAt Go.RowKit
set_option linter.unusedVariables false

/-- A slice value whose elements are the numbers l. -/
def HasI (w : World) (v : Value) (l : List Int) : Prop :=
  (∃ a cap, v = .slice a 0 cap ∧ l = [] ∧ (a = none → cap = 0)) ∨
  ∃ b off cap, v = .slice (some ⟨b, off, none⟩) l.length cap ∧ 0 < l.length ∧ l.length ≤ maxLen ∧ ∀ j, j < l.length → w.cell? ⟨b, off + j, none⟩ = some (.int .i64 (l.getD j 0))
/-- Numbers that an int can be. -/
def I64s (l : List Int) : Prop := ∀ n ∈ l, -9223372036854775808 ≤ n ∧ n ≤ 9223372036854775807
theorem I64s.getD {l : List Int} (h : I64s l) (k : Nat) (hk : k < l.length) : -9223372036854775808 ≤ l.getD k 0 ∧ l.getD k 0 ≤ 9223372036854775807 :=
  h _ (by simp [List.getD, List.getElem?_eq_getElem hk])

theorem HasI.below {w w' : World} {v : Value} {l : List Int} (h : HasI w v l) (hb : Below w.heap.size w w') : HasI w' v l := by
  rcases h with h | ⟨b, off, cap, hv, h0, h2, hc⟩
  · exact .inl h
  · refine .inr ⟨b, off, cap, hv, h0, h2, fun j hj => ?_⟩
    have hlt : b < w.heap.size := World.block_lt_of_cell? w ⟨b, off + j, none⟩ (hc j hj)
    rw [hb.cell (p := ⟨b, off + j, none⟩) hlt]
    exact hc j hj

theorem bytes_int : Tryz.prog.bytesOf 3 = 8 := by kernel_rfl

theorem open_i64s {H : Type} {enc : TypeId × Value → H} {W : World} {a0 : Option Addr} {len0 cap0 : Nat} {d0 : DataW H} {p0 : List MemPlace}
    (h0 : DataW.Trod enc Tryz.prog W 0 (fun _ => true) true 74 (.slice a0 len0 cap0) d0 p0) : ∃ l, HasI W (.slice a0 len0 cap0) l ∧ I64s l ∧ Holds d0 l := by
  obtain ⟨fuel, hf⟩ := h0
  rcases open_ints Tryz.underlying74 Tryz.underlying3 (by kernel_rfl) hf with ⟨hcs, hd⟩ | ⟨x, l, c, zs, hcs, _, hl, hm, hz, hd, hcell, hwz⟩
  · simp [Value.cells] at hcs
    obtain ⟨rfl, rfl, rfl⟩ := hcs
    simp only [Prod.mk.injEq] at hd
    exact ⟨[], .inl ⟨none, 0, rfl, rfl, fun _ => rfl⟩, (fun n hn => by cases hn), .inl ⟨hd.1, rfl⟩⟩
  · simp [Value.cells] at hcs
    obtain ⟨rfl, rfl, rfl⟩ := hcs
    simp only [Prod.mk.injEq] at hd
    obtain ⟨rfl, rfl⟩ := hd
    simp only [if_true] at hz
    have hlen : (zs.take len0).length = len0 := by rw [List.length_take]; omega
    refine ⟨zs.take len0, ?_, fun n hn => ?_, .inr ⟨_, _, rfl, by simp [lits]⟩⟩
    · by_cases hl0 : len0 = 0
      · subst hl0; exact .inl ⟨_, _, rfl, by simp, fun h => by cases h⟩
      · obtain ⟨b, off, spot⟩ := x
        have hspot : spot = none := by simpa [Addr.add] using World.cell?_spot (hcell 0 (by omega))
        subst hspot
        refine .inr ⟨b, off, cap0, by rw [hlen], by omega, by rw [hlen]; omega, fun j hj => ?_⟩
        have := hcell j (by omega)
        rw [Addr.add_lit] at this
        rw [this]
        simp only [List.getD, List.getElem?_take]
        rw [if_pos (by omega)]
    · have := hwz n (List.mem_of_mem_take hn)
      simp [Lit.wf, IntKind.min, IntKind.max, IntKind.signed, IntKind.bits] at this
      omega

theorem reach_i64s {H : Type} {ts : List TypeId} {ds : List (DataW H)} (hsz : (DataW.weightsEach Tryz.prog ts ds).all (· ≤ reachBytes) = true) {j : Nat} {d : DataW H} {l : List Int} (ht : ts[j]? = some 74) (hd : ds[j]? = some d) (h : Holds d l) :
    l.length ≤ 17592186043904 := by
  rcases h with ⟨rfl, rfl⟩ | ⟨elems, spare, rfl, hl⟩
  · simp
  · have := sized_slice hsz (j := j) (t := 74) (e := 3) ht hd Tryz.underlying74
    rw [bytes_int] at this
    simp only [reachBytes] at this
    omega
end Go.Proofs.YtmjilohlchkicaaGreatDoor

/- money.Sum: the sum of all, one by one. -/
namespace Go.Proofs.YtmjilohlchkicaaGreatDoor
open Go.RowKit
set_option linter.unusedVariables false

theorem add_step (s n : Int) (l : List Int) (h0 : 0 ≤ s) (h1 : s ≤ 1125899906842624) : Mo.tot s (n :: l) = if (Mo.add s n).2 = 0 then Mo.tot (Mo.add s n).1 l else (0, (Mo.add s n).2) := by
  rw [Mo.tot_cons_of]
  unfold Mo.add
  by_cases hn : Mo.ok n
  · rw [if_pos hn, if_pos (show Mo.ok s ∧ Mo.ok n from ⟨⟨h0, h1⟩, hn⟩)]
    by_cases hs : s + n ≤ 1125899906842624
    · rw [if_pos hs, if_pos hs]; rfl
    · rw [if_neg hs, if_neg hs]; rfl
  · rw [if_neg hn, if_neg (show ¬ (Mo.ok s ∧ Mo.ok n) from fun h => hn h.2)]; rfl
theorem add_bd (s n : Int) : 0 ≤ (Mo.add s n).1 ∧ (Mo.add s n).1 ≤ 1125899906842624 := by
  unfold Mo.add
  split
  · rename_i h
    split
    · have := h.1.1; have := h.2.1; simp only; omega
    · decide
  · decide
theorem add_bad (s n : Int) (h : (Mo.add s n).2 ≠ 0) : (Mo.add s n).1 = 0 ∧ ((Mo.add s n).2 = 2 ∨ (Mo.add s n).2 = 4) := by
  unfold Mo.add at h ⊢
  split
  · rename_i h1
    rw [if_pos h1] at h
    split
    · rename_i h2; rw [if_pos h2] at h; exact absurd rfl h
    · exact ⟨rfl, .inr rfl⟩
  · exact ⟨rfl, .inl rfl⟩

set_option maxHeartbeats 800000 in
theorem msum_any (v : Value) (l : List Int) (w : World) (h : HasI w v l) :
    Calls Tryz.prog 61 #[v] w fun e w' => e = .returned (.tuple #[.int .i64 (Mo.tot 0 l).1, errV (Mo.tot 0 l).2]) ∧ w = w' := by
  rcases h with ⟨a, cap, rfl, rfl, _⟩ | ⟨b, off, cap, rfl, h0, hm, hc⟩
  · go_enter Tryz.func61, Tryz.ntmps61
    go_wp2
    refine wp_loop_rounds 1 ?_
    rw [rounds_succ]
    go_wp2
    go_ret2
    exact ⟨rfl, rfl⟩
  · unfold maxLen at hm
    have HCC := hide hc
    clear hc
    go_enter Tryz.func61, Tryz.ntmps61
    go_wp2
    go_loop [4, 11] (fun s i => ∃ (k : Nat) (x : Int), k ≤ l.length ∧ i = .int .i64 k ∧ s = .int .i64 x ∧ 0 ≤ x ∧ x ≤ 1125899906842624 ∧ Mo.tot x (l.drop k) = Mo.tot 0 l) (fun _ i => l.length - (intOf i).toNat)
    case atStart => exact ⟨0, 0, Nat.zero_le _, rfl, rfl, by decide, by decide, by simp⟩
    case round =>
      obtain ⟨k, x, hk, rfl, rfl, hx0, hx1, ht⟩ := hrel
      by_cases hlt : k < l.length
      · have hck := HCC.out k hlt
        have e : l.drop k = l.getD k 0 :: l.drop (k + 1) := by
          rw [List.drop_eq_getElem_cons hlt]; simp [List.getD, List.getElem?_eq_getElem hlt]
        rw [e, add_step _ _ _ hx0 hx1] at ht
        have hb := add_bd x (l.getD k 0)
        have hbad := add_bad x (l.getD k 0)
        have hc1 := madd_any x (l.getD k 0) w
        clear e
        generalize l.getD k 0 = n at hck ht hb hbad hc1
        generalize (Mo.add x n).1 = y at ht hb hbad hc1
        generalize (Mo.add x n).2 = c at ht hbad hc1
        have HT := hide ht
        have HC := hide hc1
        clear hc1 ht
        by_cases hz : c = 0
        · subst hz
          have HT2 : Hid (Mo.tot y (l.drop (k + 1)) = Mo.tot 0 l) := by have := HT.out; rw [if_pos rfl] at this; exact this
          clear HT hbad
          go_wp2_with fail
          refine HC.out.mono ?_
          rintro e w1 ⟨rfl, rfl⟩
          rw [errV_nil]
          go_wp2
          go_round
          case rel => exact ⟨k + 1, y, by omega, by go_num, rfl, hb.1, hb.2, HT2.out⟩
          case measure => simp [intOf]; omega
        · obtain ⟨rfl, h24⟩ := hbad hz
          have HT2 : Hid ((0, c) = Mo.tot 0 l) := by have := HT.out; rw [if_neg hz] at this; exact this
          have hE : errV c = .iface 27 (.int .i64 c) := by unfold errV; rw [if_neg hz]
          clear HT hbad h24 hz
          go_wp2_with fail
          refine HC.out.mono ?_
          rintro e w1 ⟨rfl, rfl⟩
          rw [hE]
          go_wp2
          go_ret2
          exact ⟨by rw [← HT2.out, hE]; rfl, rfl⟩
      · have hfin : Mo.tot 0 l = (x, 0) := by rw [← ht, List.drop_eq_nil_of_le (by omega)]; rfl
        have HF := hide hfin
        clear hfin ht
        go_wp2
        go_ret2
        exact ⟨by rw [HF.out]; rfl, rfl⟩
end Go.Proofs.YtmjilohlchkicaaGreatDoor

/- Slices of numbers of the call's own: what an append makes of them. -/
namespace Go.Proofs.YtmjilohlchkicaaGreatDoor
open Go.RowKit
set_option linter.unusedVariables false

def vI (l : List Int) : List Value := l.map fun x => .int .i64 x
theorem vI_length (l : List Int) : (vI l).length = l.length := by simp [vI]
theorem vI_append (a b : List Int) : vI (a ++ b) = vI a ++ vI b := by simp [vI]
theorem vI_get (l : List Int) (j : Nat) (h : j < l.length) : (vI l)[j]? = some (.int .i64 (l.getD j 0)) := by
  simp [vI, List.getD, List.getElem?_eq_getElem h]
theorem vI_one (l : List Int) : ∀ u ∈ vI l, u.oneCell' = true := by
  intro u hu
  obtain ⟨x, _, rfl⟩ := List.mem_map.1 hu
  rfl
/-- Numbers of the call's own: a slice of a block from base on. -/
def OwnI (w : World) (base : Nat) (v : Value) (l : List Int) : Prop := w.ownsRow base 3 1 v l.length (vI l)
theorem OwnI.nil (w : World) (base : Nat) : OwnI w base (.slice none 0 0) [] := World.ownsRow_nil w base 3 1
theorem OwnI.empty (w : World) (base : Nat) (hb : base ≤ w.heap.size) : OwnI (w.alloc (.cells #[] 3)) base (.slice (some ⟨w.heap.size, 0, none⟩) 0 0) [] :=
  ⟨rfl, .inr ⟨w.heap.size, 0, #[], rfl, hb, heap_alloc_new w _, Nat.le_refl _, by unfold maxLen; omega, rfl, rfl⟩⟩
theorem OwnI.one (w : World) (base : Nat) (x : Int) (hb : base ≤ w.heap.size) : OwnI (w.alloc (.cells #[.int .i64 x] 3)) base (.slice (some ⟨w.heap.size, 0, none⟩) 1 1) [x] :=
  ⟨rfl, .inr ⟨w.heap.size, 1, #[.int .i64 x], rfl, hb, heap_alloc_new w _, Nat.le_refl _, by unfold maxLen; omega, rfl, rfl⟩⟩
theorem OwnI.two (w : World) (base : Nat) (x y : Int) (hb : base ≤ w.heap.size) : OwnI (w.alloc (.cells #[.int .i64 x, .int .i64 y] 3)) base (.slice (some ⟨w.heap.size, 0, none⟩) 2 2) [x, y] :=
  ⟨rfl, .inr ⟨w.heap.size, 2, #[.int .i64 x, .int .i64 y], rfl, hb, heap_alloc_new w _, Nat.le_refl _, by unfold maxLen; omega, rfl, rfl⟩⟩

theorem OwnI.has {w : World} {base : Nat} {v : Value} {l : List Int} (h : OwnI w base v l) : HasI w v l := by
  rcases h.2 with ⟨rfl, h0⟩ | ⟨g, cap, cur, rfl, hb, hg, hn, hc, hs, ht⟩
  · exact .inl ⟨none, 0, rfl, List.eq_nil_of_length_eq_zero h0, fun _ => rfl⟩
  · by_cases h0 : l.length = 0
    · have : l = [] := List.eq_nil_of_length_eq_zero h0
      subst this
      exact .inl ⟨_, cap, rfl, rfl, fun h => by cases h⟩
    · refine .inr ⟨g, 0, cap, rfl, by omega, by omega, fun j hj => ?_⟩
      have hcell := World.ownsRow.cells h (g := g) rfl j _ (vI_get l j hj)
      rw [Addr.add_lit] at hcell
      exact hcell
theorem OwnI.form {w : World} {base : Nat} {v : Value} {l : List Int} (h : OwnI w base v l) : ∃ a cap, v = .slice a l.length cap ∧ l.length ≤ cap ∧ cap ≤ maxLen := by
  rcases h.2 with ⟨rfl, h0⟩ | ⟨g, cap, cur, rfl, hb, hg, hn, hc, hs, ht⟩
  · exact ⟨none, 0, by rw [h0], by omega, by unfold maxLen; omega⟩
  · exact ⟨_, cap, rfl, hn, hc⟩
theorem OwnI.below {w w' : World} {base : Nat} {v : Value} {l : List Int} (h : OwnI w base v l) (hb : Below w.heap.size w w') : OwnI w' base v l := by
  refine ⟨h.1, ?_⟩
  rcases h.2 with h0 | ⟨g, cap, cur, rfl, hbg, hg, hn, hc, hs, ht⟩
  · exact .inl h0
  · have hlt : g < w.heap.size := (Array.getElem?_eq_some_iff.1 hg).1
    exact .inr ⟨g, cap, cur, rfl, hbg, by rw [hb.block g hlt]; exact hg, hn, hc, hs, ht⟩
theorem OwnI.block {w : World} {base : Nat} {v : Value} {l : List Int} (h : OwnI w base v l) : ∀ k, v.ownBlock = some k → base ≤ k ∧ k < w.heap.size := World.ownsRow.lt h

theorem info_int : ∃ i, Tryz.prog.info? 3 = some i ∧ i.zero = some (.int .i64 0) ∧ i.size = 1 ∧ i.bytes = 8 := by
  have h : (Tryz.prog.info? 3).map (fun i => (i.zero, i.size, i.bytes)) = some (some (.int .i64 0), 1, 8) := by kernel_rfl
  cases hi : Tryz.prog.info? 3 with
  | none => rw [hi] at h; cases h
  | some i =>
    rw [hi] at h
    simp only [Option.map_some, Option.some.injEq, Prod.mk.injEq] at h
    exact ⟨i, rfl, h.1, h.2.1, h.2.2⟩

/-- An append of any numbers onto numbers of the call's own. -/
theorem run_append_ints (w : World) (base : Nat) (v : Value) (xs : List Int) (hown : OwnI w base v xs) (x : Value) (l : List Int) (hx : HasI w x l) (hbd : xs.length + l.length ≤ 17592186044416) (hbase : base ≤ w.heap.size) (ty : TypeId) :
    ∃ v' w', (Builtin.append_ #[74, 74] ty #[v, x]).run Tryz.prog w = .ok v' w' ∧ OwnI w' base v' (xs ++ l) ∧ w.grownBy w' v.ownBlock := by
  obtain ⟨i, hi, hz, hs, hby⟩ := info_int
  have hml : xs.length + l.length ≤ maxLen := by unfold maxLen; omega
  have main : ∀ (a : Addr) (c : Nat), x = .slice (some a) l.length c → (∀ j u, (vI l)[j]? = some u → w.cell? (a.add j) = some u) →
      ∃ v' w', (Builtin.append_ #[74, 74] ty #[v, x]).run Tryz.prog w = .ok v' w' ∧ OwnI w' base v' (xs ++ l) ∧ w.grownBy w' v.ownBlock := by
    intro a c hxa hnews
    subst hxa
    obtain ⟨v', w', hr, h2, h3, _⟩ := run_append_own (P := Tryz.prog) w base 74 ty 3 i (.int .i64 0) 1 8 Tryz.underlying74 hi hz hs hby rfl (by decide) v xs.length (vI xs) hown a l.length c (vI l) (by simp [vI]) hnews (vI_one l) hml (by omega) hbase
    exact ⟨v', w', hr, by unfold OwnI; rw [List.length_append, vI_append]; exact h2, h3⟩
  rcases hx with ⟨a, cap, rfl, rfl, hn⟩ | ⟨b, off, cap, rfl, h0, hm, hc⟩
  · cases a with
    | none =>
      obtain rfl := hn rfl
      have hr := run_append_owned_none (P := Tryz.prog) (w := w) base 74 ty 3 i 1 Tryz.underlying74 hi v xs.length (vI xs) hown
      exact ⟨v, w, hr, by rw [List.append_nil]; exact hown, ⟨rfl, rfl, rfl, Nat.le_refl _, fun _ _ _ => rfl⟩⟩
    | some a => exact main a cap rfl (fun j u hu => by simp [vI] at hu)
  · refine main ⟨b, off, none⟩ cap rfl (fun j u hu => ?_)
    have hj : j < l.length := by
      have := List.getElem?_eq_some_iff.1 hu
      obtain ⟨h, _⟩ := this
      rwa [vI_length] at h
    rw [vI_get l j hj] at hu
    rw [Addr.add_lit, ← hu]
    exact hc j hj

theorem wpList_append_ints (w : World) {ops : Array Oper} {rest : List Oper} {o : Oper} {a : Act} {Q : Exit → Act → World → Prop} (hgd : o.guard = none) (s x : Operand)
    (ho : o.op = .call { callee := .builtin .append, args := #[s, x], argTypes := #[74, 74] })
    (base : Nat) (v : Value) (xs : List Int) (hs : a.eval s = v) (hown : OwnI w base v xs) (vx : Value) (l : List Int) (hx : a.eval x = vx) (hhas : HasI w vx l) (hbd : xs.length + l.length ≤ 17592186044416) (hbase : base ≤ w.heap.size)
    (h : ∀ v' w', OwnI w' base v' (xs ++ l) → w.grownBy w' v.ownBlock → wpList Tryz.prog ops Q rest (a.put o.dst v') w') : wpList Tryz.prog ops Q (o :: rest) a w := by
  refine wpList_plain hgd fun K hK => ?_
  obtain ⟨v', w', hr, h2, h3⟩ := run_append_ints w base v xs hown vx l hhas hbd hbase o.type
  unfold Oper.wp
  simp only [execOp, ho, resolve, invoke, builtin, Sem.run_bind, Sem.run_pure, Result.andThen_ok, List.map_toArray, List.map_cons, List.map_nil, hs, hx, hr]
  exact hK _ _ (h v' w' h2 h3)
end Go.Proofs.YtmjilohlchkicaaGreatDoor

/- The document's Money, Total and MadeAt; an error that is the one told. -/
namespace Go.Proofs.YtmjilohlchkicaaGreatDoor
open Go.RowKit
set_option linter.unusedVariables false

theorem error_hit (c k : Int) (w : World) (h : ErrVar w) (e : c = k) : Calls Tryz.prog 6 #[errV c, .int .i64 k] w fun e w' => e = .returned (.bool true) ∧ Below w.heap.size w w' := by
  have := error_any c k w h
  rw [show (c == k) = true from by simp [e]] at this
  exact this

theorem rmoney_good (n : Int) (w : World) (h : Mo.ok n) :
    Calls Tryz.prog 28 #[.int .i64 n] w fun e w' => e = .returned (.bool true) ∧ w = w' := by
  obtain ⟨h0, h1⟩ := h
  go_enter Tryz.func28, Tryz.ntmps28
  go_wp2
  go_ret
  exact ⟨rfl, rfl⟩
theorem rmoney_bad (n : Int) (w : World) (h : ¬ Mo.ok n) :
    Calls Tryz.prog 28 #[.int .i64 n] w fun e w' => e = .returned (.bool false) ∧ w = w' := by
  by_cases a : 0 ≤ n
  · have b : ¬ n ≤ 1125899906842624 := fun h1 => h ⟨a, h1⟩
    clear h
    go_enter Tryz.func28, Tryz.ntmps28
    go_wp2
    go_ret
    exact ⟨rfl, rfl⟩
  · clear h
    go_enter Tryz.func28, Tryz.ntmps28
    go_wp2
    go_ret
    exact ⟨rfl, rfl⟩

set_option maxHeartbeats 800000 in
theorem rtotal_any (v : Value) (l : List Int) (w : World) (h : HasI w v l) :
    Calls Tryz.prog 30 #[v] w fun e w' => e = .returned (.tuple #[.int .i64 (Mo.tot 0 l).1, .int .i64 (Mo.tot 0 l).2]) ∧ w = w' := by
  rcases h with ⟨a, cap, rfl, rfl, _⟩ | ⟨b, off, cap, rfl, h0, hm, hc⟩
  · go_enter Tryz.func30, Tryz.ntmps30
    go_wp2
    refine wp_loop_rounds 1 ?_
    rw [rounds_succ]
    go_wp2
    go_ret2
    exact ⟨rfl, rfl⟩
  · unfold maxLen at hm
    have HCC := hide hc
    clear hc
    go_enter Tryz.func30, Tryz.ntmps30
    go_wp2
    go_loop [4, 5] (fun s i => ∃ (k : Nat) (x : Int), k ≤ l.length ∧ i = .int .i64 k ∧ s = .int .i64 x ∧ 0 ≤ x ∧ x ≤ 1125899906842624 ∧ Mo.tot x (l.drop k) = Mo.tot 0 l) (fun _ i => l.length - (intOf i).toNat)
    case atStart => exact ⟨0, 0, Nat.zero_le _, rfl, rfl, by decide, by decide, by simp⟩
    case round =>
      obtain ⟨k, x, hk, rfl, rfl, hx0, hx1, ht⟩ := hrel
      by_cases hlt : k < l.length
      · have hck := HCC.out k hlt
        have e : l.drop k = l.getD k 0 :: l.drop (k + 1) := by
          rw [List.drop_eq_getElem_cons hlt]; simp [List.getD, List.getElem?_eq_getElem hlt]
        rw [e, Mo.tot_cons_of] at ht
        have HT := hide ht
        clear ht e
        generalize l.getD k 0 = n at *
        by_cases hn : Mo.ok n
        · have HM := hide (rmoney_good n w hn)
          have hn0 := hn.1
          have hn1 := hn.2
          by_cases hs : x + n ≤ 1125899906842624
          · have HT2 : Hid (Mo.tot (x + n) (l.drop (k + 1)) = Mo.tot 0 l) := by have := HT.out; rw [if_pos hn, if_pos hs] at this; exact this
            clear HT hn
            go_wp2_with fail
            refine HM.out.mono ?_
            rintro e w1 ⟨rfl, rfl⟩
            go_wp2
            go_round
            case rel => exact ⟨k + 1, x + n, by omega, by go_num, by go_num, by omega, hs, HT2.out⟩
            case measure => simp [intOf]; omega
          · have HT2 : Hid ((0, 4) = Mo.tot 0 l) := by have := HT.out; rw [if_pos hn, if_neg hs] at this; exact this
            clear HT hn
            go_wp2_with fail
            refine HM.out.mono ?_
            rintro e w1 ⟨rfl, rfl⟩
            go_wp2
            go_ret2
            exact ⟨by rw [← HT2.out]; rfl, rfl⟩
        · have HM := hide (rmoney_bad n w hn)
          have HT2 : Hid ((0, 2) = Mo.tot 0 l) := by have := HT.out; rw [if_neg hn] at this; exact this
          clear HT hn
          go_wp2_with fail
          refine HM.out.mono ?_
          rintro e w1 ⟨rfl, rfl⟩
          go_wp2
          go_ret2
          exact ⟨by rw [← HT2.out]; rfl, rfl⟩
      · have hfin : Mo.tot 0 l = (x, 0) := by rw [← ht, List.drop_eq_nil_of_le (by omega)]; rfl
        have HF := hide hfin
        clear hfin ht
        go_wp2
        go_ret2
        exact ⟨by rw [HF.out]; rfl, rfl⟩

theorem made_zero_on (k d : Nat) (h : Mo.made k = 0) : Mo.made (k + d) = 0 := by
  induction d with
  | zero => exact h
  | succ d ih => rw [← Nat.add_assoc, Mo.made_succ, ih]

end Go.Proofs.YtmjilohlchkicaaGreatDoor
