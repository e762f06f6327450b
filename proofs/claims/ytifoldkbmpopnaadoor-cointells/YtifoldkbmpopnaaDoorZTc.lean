/- The texts TxM, Mon, TxI, one behind the other. -/
import Derived.Test.YtifoldkbmpopnaaDoorLkK
import Derived.Test.YtifoldkbmpopnaaDoorTm
import Derived.Test.YtifoldkbmpopnaaDoorOwn3
import Derived.Test.YtifoldkbmpopnaaDoorBuild1
import Derived.Deep.MidRow
import Derived.DeepKeys4
import Derived.Maps.Own
import Derived.Maps.OwnOps
import Derived.Maps.OwnSet
import Derived.Test.YtifoldkbmpopnaaDoorAs
import Derived.Test.YtifoldkbmpopnaaDoorMo
import Derived.Laws.Shifts
import Derived.Test.YtifoldkbmpopnaaDoorOwns
/- Payments in memory: ins, outs; their places as keys. -/
namespace Go.Proofs.YtifoldkbmpopnaaDoor
open Go.RowKit Go.Maps
set_option linter.unusedVariables false

/-- What is spent, as it lies in memory: its keys by the slice that they lie in. -/
structure InV where
  tx : List Int
  at' : Int
  kv : Value
  K : List (List Int × Value)
def InV.it (x : InV) : Tm.In := ⟨x.tx, x.at', x.K.map Prod.fst⟩
structure OutV where
  amount : Int
  lv : Value
  L : List (Lk.Op × Value)
def OutV.it (x : OutV) : Tm.Out := ⟨x.amount, opsOf x.L⟩
def inCell (x : InV) : List Value := vals x.tx ++ [.int .i64 x.at', x.kv]
def outCell (x : OutV) : List Value := [.int .i64 x.amount, x.lv]
def inCells (R : List InV) : List Value := (R.map inCell).flatten
def outCells (R : List OutV) : List Value := (R.map outCell).flatten
theorem inCell_length (x : InV) (h : x.tx.length = 32) : (inCell x).length = 34 := by simp [inCell, vals_length, h]
theorem inCells_length (R : List InV) (h : ∀ x ∈ R, x.tx.length = 32) : (inCells R).length = R.length * 34 := by
  induction R with
  | nil => rfl
  | cons x R ih =>
    have := ih (fun y hy => h y (by simp [hy]))
    simp only [inCells, List.map_cons, List.flatten_cons, List.length_append, List.length_cons] at this ⊢
    rw [inCell_length x (h x (by simp)), this]; omega
theorem outCells_length (R : List OutV) : (outCells R).length = R.length * 2 := by
  induction R with
  | nil => rfl
  | cons x R ih =>
    simp only [outCells, List.map_cons, List.flatten_cons, List.length_append, List.length_cons] at ih ⊢
    rw [ih]; simp [outCell]; omega
/-- One of a row of pieces. -/
theorem range_at {w : World} {α : Type} {b off s : Nat} {f : α → List Value} {R : List α} (h : w.rangeAt b off ((R.map f).flatten)) (hs : ∀ x ∈ R, (f x).length = s) (k : Nat) (hk : k < R.length) : w.rangeAt b (off + k * s) (f R[k]) := by
  have key : ∀ (R : List α) (off k : Nat) (hk : k < R.length), (∀ x ∈ R, (f x).length = s) → w.rangeAt b off ((R.map f).flatten) → w.rangeAt b (off + k * s) (f R[k]) := by
    intro R
    induction R with
    | nil => intro off k hk; simp at hk
    | cons x R ih =>
      intro off k hk hs h
      rw [List.map_cons, List.flatten_cons] at h
      cases k with
      | zero =>
        intro j v hv
        have hj := (List.getElem?_eq_some_iff.1 hv).1
        simp only [List.getElem_cons_zero] at hv hj
        rw [Nat.zero_mul, Nat.add_zero]
        exact h j v (by rw [List.getElem?_append_left hj]; exact hv)
      | succ k =>
        have h2 : w.rangeAt b (off + s) ((R.map f).flatten) := by
          intro j v hv
          have := h (s + j) v (by rw [List.getElem?_append_right (by rw [hs x (by simp)]; omega), hs x (by simp), Nat.add_sub_cancel_left]; exact hv)
          rwa [Nat.add_assoc]
        have := ih (off + s) k (by simpa using hk) (fun y hy => hs y (by simp [hy])) h2
        rw [show off + (k + 1) * s = off + s + k * s by rw [Nat.succ_mul]; omega]
        exact this
  exact key R off k hk hs h
theorem tx_range_part {w : World} {b off : Nat} {a c : List Value} (h : w.rangeAt b off (a ++ c)) : w.rangeAt b off a ∧ w.rangeAt b (off + a.length) c := by
  refine ⟨fun j v hv => h j v ?_, fun j v hv => ?_⟩
  · rw [List.getElem?_append_left (List.getElem?_eq_some_iff.1 hv).1]; exact hv
  · rw [Nat.add_assoc]
    exact h (a.length + j) v (by rw [List.getElem?_append_right (by omega), Nat.add_sub_cancel_left]; exact hv)

def HasIns (w : World) (v : Value) (R : List InV) : Prop :=
  ((∃ a cap, v = .slice a 0 cap ∧ R = []) ∨ ∃ b off cap, v = .slice (some ⟨b, off, none⟩) R.length cap ∧ 0 < R.length ∧ R.length ≤ cap ∧ cap ≤ maxLen ∧ b < w.heap.size ∧ w.rangeAt b off (inCells R)) ∧
  ∀ x ∈ R, x.tx.length = 32 ∧ Sz.Byt x.tx ∧ HasKeys w x.kv x.K
def HasOuts (w : World) (v : Value) (R : List OutV) : Prop :=
  ((∃ a cap, v = .slice a 0 cap ∧ R = []) ∨ ∃ b off cap, v = .slice (some ⟨b, off, none⟩) R.length cap ∧ 0 < R.length ∧ R.length ≤ cap ∧ cap ≤ maxLen ∧ b < w.heap.size ∧ w.rangeAt b off (outCells R)) ∧
  ∀ x ∈ R, HasOps w x.lv x.L
theorem HasIns.below {w w' : World} {v : Value} {R : List InV} (h : HasIns w v R) (hb : Below w.heap.size w w') : HasIns w' v R := by
  refine ⟨?_, fun x hx => ⟨(h.2 x hx).1, (h.2 x hx).2.1, (h.2 x hx).2.2.below hb⟩⟩
  rcases h.1 with h | ⟨b, off, cap, hv, h0, h1, h2, h3, hc⟩
  · exact .inl h
  · exact .inr ⟨b, off, cap, hv, h0, h1, h2, Nat.lt_of_lt_of_le h3 hb.size, range_keep hc hb h3⟩
theorem HasOuts.below {w w' : World} {v : Value} {R : List OutV} (h : HasOuts w v R) (hb : Below w.heap.size w w') : HasOuts w' v R := by
  refine ⟨?_, fun x hx => (h.2 x hx).below hb⟩
  rcases h.1 with h | ⟨b, off, cap, hv, h0, h1, h2, h3, hc⟩
  · exact .inl h
  · exact .inr ⟨b, off, cap, hv, h0, h1, h2, Nat.lt_of_lt_of_le h3 hb.size, range_keep hc hb h3⟩
theorem HasIns.form {w : World} {v : Value} {R : List InV} (h : HasIns w v R) : ∃ a cap, v = .slice a R.length cap ∧ R.length ≤ maxLen ∧ ∀ k, k < R.length → ∃ b off, a = some ⟨b, off, none⟩ ∧ R.length ≤ cap ∧ cap ≤ maxLen ∧ b < w.heap.size ∧ w.rangeAt b off (inCells R) := by
  rcases h.1 with ⟨a, cap, rfl, rfl⟩ | ⟨b, off, cap, rfl, h0, h1, h2, h3, hc⟩
  · exact ⟨a, cap, rfl, by simp, fun k hk => absurd hk (by simp)⟩
  · exact ⟨_, cap, rfl, by omega, fun k hk => ⟨b, off, rfl, h1, h2, h3, hc⟩⟩
theorem HasOuts.form {w : World} {v : Value} {R : List OutV} (h : HasOuts w v R) : ∃ a cap, v = .slice a R.length cap ∧ R.length ≤ maxLen ∧ ∀ k, k < R.length → ∃ b off, a = some ⟨b, off, none⟩ ∧ R.length ≤ cap ∧ cap ≤ maxLen ∧ b < w.heap.size ∧ w.rangeAt b off (outCells R) := by
  rcases h.1 with ⟨a, cap, rfl, rfl⟩ | ⟨b, off, cap, rfl, h0, h1, h2, h3, hc⟩
  · exact ⟨a, cap, rfl, by simp, fun k hk => absurd hk (by simp)⟩
  · exact ⟨_, cap, rfl, by omega, fun k hk => ⟨b, off, rfl, h1, h2, h3, hc⟩⟩
/-- A payment. -/
structure TxV where
  iv : Value
  ins : List InV
  ov : Value
  outs : List OutV
  time : Int
def TxV.it (t : TxV) : Tm.Tx := ⟨t.ins.map InV.it, t.outs.map OutV.it, t.time⟩
def TxV.val (t : TxV) : Value := .agg #[t.iv, t.ov, .int .i64 t.time]
def HasTx (w : World) (t : TxV) : Prop := HasIns w t.iv t.ins ∧ HasOuts w t.ov t.outs
theorem HasTx.below {w w' : World} {t : TxV} (h : HasTx w t) (hb : Below w.heap.size w w') : HasTx w' t := ⟨h.1.below hb, h.2.below hb⟩

theorem size_place : Sized 25 33 := by unfold Sized; kernel_rfl
theorem size_out : Sized 41 2 := by unfold Sized; kernel_rfl
/-- A struct out of the midst of a block. -/
theorem wpList_load_part (t : TypeId) (c : List Value) (b off : Nat) {m : Nat} {d : TypeDesc} {w : World} {ops : Array Oper} {rest : List Oper} {o : Oper} {a : Act} {Q : Exit → Act → World → Prop} (hgd : o.guard = none) (s : Operand) (ho : o.op = .load t s) (hs : a.eval s = .pointer (some ⟨b, off, none⟩))
    (hr : w.rangeAt b off c) (hu : Tryd.prog.underlying t = some d) (hd : d.isRow = true) (hz : Sized t m) (hc : c.length = m)
    (h : wpList Tryd.prog ops Q rest (a.put o.dst (.agg c.toArray)) w) : wpList Tryd.prog ops Q (o :: rest) a w := by
  refine wpList_plain hgd fun K hK => ?_
  have hl := run_loadVar_mid (P := Tryd.prog) w b off t c d hr hu hd (by rw [hc]; exact hz)
  unfold Oper.wp
  simp only [execOp, ho, hs, Instr.loadAt, Instr.sureAddr, Sem.run_bind, Sem.run_pure, Result.andThen_ok, hl]
  exact hK _ _ h
/-- What a place reads as, as a key. -/
def placeKey (tx : List Int) (at' : Int) : Lit := .string (keyBytes (tx.map (Lit.int .u8) ++ [.int .i64 at']))
theorem place_laid : laidOutB Tryd.prog = true := by kernel_rfl
theorem place_row : (25 : TypeId) < Tryd.prog.types.size := of_decide_eq_true (by kernel_rfl)
set_option maxRecDepth 100000 in
theorem place_wide : (match Tryd.prog.underlying 25 with | some (.array _ _) | some (.struct _) => true | _ => false) = true := by rw [Tryd.underlying25]
set_option maxRecDepth 100000 in
theorem place_keyed : Keyed Tryd.prog 25 := Keyed.of_law (deep_law_laid place_laid (m := 6) (by omega) place_row (by kernel_rfl) place_wide)

theorem cells_place : Tryd.prog.cellsOf 25 = 33 := by kernel_rfl
theorem cells_dig : Tryd.prog.cellsOf 23 = 32 := by kernel_rfl
theorem cells_u8' : Tryd.prog.cellsOf 5 = 1 := by kernel_rfl
theorem lits_u8 (D : Nat) (x : Int) (h : 0 ≤ x ∧ x < 256) : Tryd.prog.keyLits (D + 1) 5 [.int .u8 x] = some [.int .u8 x] := by
  have hw : (Lit.int .u8 x).wf = true := by simp [Lit.wf, IntKind.min, IntKind.max, IntKind.signed, IntKind.bits]; omega
  unfold Program.keyLits
  simp [Tryd.underlying5, hw]
theorem mapM_bytes (tx : List Int) (hb : Sz.Byt tx) (D : Nat) : ∀ (n : Nat), n ≤ tx.length → (List.range n).mapM (fun i => Tryd.prog.keyLits (D + 1) 5 (((vals tx).drop (i * 1)).take 1)) = some ((tx.take n).map fun x => [Lit.int .u8 x]) := by
  intro n
  induction n with
  | zero => intro _; simp
  | succ n ih =>
    intro hn
    have hlt : n < tx.length := by omega
    rw [List.range_succ, List.mapM_append, ih (by omega)]
    have e : ((vals tx).drop (n * 1)).take 1 = [.int .u8 (tx.getD n 0)] := by
      rw [Nat.mul_one, List.drop_eq_getElem_cons (by rw [vals_length]; exact hlt), List.take_succ_cons, List.take_zero]
      simp [vals, List.getD, List.getElem?_eq_getElem hlt]
    have hm : [n].mapM (fun i => Tryd.prog.keyLits (D + 1) 5 (((vals tx).drop (i * 1)).take 1)) = some [[Lit.int .u8 (tx.getD n 0)]] := by
      simp only [List.mapM_cons, List.mapM_nil]
      rw [e, lits_u8 D _ (hb.getD n)]
      rfl
    rw [hm, take_snoc tx n hlt]
    simp
theorem flatten_bytes (tx : List Int) : (tx.map fun x => [Lit.int .u8 x]).flatten = tx.map (Lit.int .u8) := by
  induction tx with
  | nil => rfl
  | cons x r ih => simp only [List.map_cons, List.flatten_cons, ih]; rfl
theorem lits_dig (tx : List Int) (h : tx.length = 32) (hb : Sz.Byt tx) (D : Nat) : Tryd.prog.keyLits (D + 2) 23 (vals tx) = some (tx.map (Lit.int .u8)) := by
  unfold Program.keyLits
  simp only [Tryd.underlying23]
  rw [cells_dig, cells_u8', if_pos (by rw [vals_length]; exact h)]
  have := mapM_bytes tx hb D 32 (by omega)
  rw [this, List.take_of_length_le (by omega), Option.map_some, flatten_bytes]
theorem cells_int : Tryd.prog.cellsOf 3 = 1 := by kernel_rfl
theorem lits_int (D : Nat) (n : Int) (h : (Lit.int .i64 n).wf = true) : Tryd.prog.keyLits (D + 1) 3 [.int .i64 n] = some [.int .i64 n] := by
  unfold Program.keyLits
  simp [Tryd.underlying3, h]
theorem lits_place (tx : List Int) (at' : Int) (h : tx.length = 32) (hb : Sz.Byt tx) (hw : (Lit.int .i64 at').wf = true) (D : Nat) : Tryd.prog.keyLits (D + 3) 25 (vals tx ++ [.int .i64 at']) = some (tx.map (Lit.int .u8) ++ [.int .i64 at']) := by
  have hl : (vals tx).length = 32 := by rw [vals_length]; exact h
  have e1 : ((vals tx ++ [Value.int .i64 at']).drop 0).take 32 = vals tx := by rw [List.drop_zero, ← hl, List.take_left]
  have e2 : ((vals tx ++ [Value.int .i64 at']).drop 32).take 1 = [.int .i64 at'] := by rw [← hl, List.drop_left]; rfl
  unfold Program.keyLits
  simp only [Tryd.underlying25]
  rw [cells_place, if_pos ⟨by simp [hl], by kernel_rfl⟩]
  simp only [List.mapM_cons, List.mapM_nil, cells_dig, cells_int]
  rw [e1, e2, lits_dig tx h hb D, lits_int (D + 1) at' hw]
  simp
theorem key_place (tx : List Int) (at' : Int) (h : tx.length = 32) (hb : Sz.Byt tx) (h0 : 0 ≤ at') (h1 : at' < 40) : keyOf Tryd.prog 25 (.agg (vals tx ++ [Value.int .i64 at']).toArray) = some (placeKey tx at') := by
  have hw : (Lit.int .i64 at').wf = true := by simp [Lit.wf, IntKind.min, IntKind.max, IntKind.signed, IntKind.bits]; omega
  have hk : Tryd.prog.keyType 25 = true := by kernel_rfl
  have hf : Value.formed Tryd.prog 25 (.agg (vals tx ++ [Value.int .i64 at']).toArray) = true := by
    simp [Value.formed, Tryd.underlying25, cells_place, vals_length, h]
  have hn : Tryd.prog.types.size + 1 = (Tryd.prog.types.size - 2) + 3 := by have : 2 ≤ Tryd.prog.types.size := of_decide_eq_true (by kernel_rfl); omega
  unfold keyOf
  simp only [Tryd.underlying25]
  rw [hk, hf, hn]
  simp only [Bool.and_self, if_true]
  have e : (Value.agg (vals tx ++ [Value.int .i64 at']).toArray).cells.toList = vals tx ++ [Value.int .i64 at'] := by simp [Value.cells]
  rw [e, lits_place tx at' h hb hw]
  rfl
theorem place_inj {a b : List Int} {x y : Int} (ha : a.length = 32) (hab : Sz.Byt a) (hb : b.length = 32) (hbb : Sz.Byt b) (hx : 0 ≤ x ∧ x < 40) (hy : 0 ≤ y ∧ y < 40) (h : placeKey a x = placeKey b y) : a = b ∧ x = y := by
  have k1 := key_place a x ha hab hx.1 hx.2
  have k2 := key_place b y hb hbb hy.1 hy.2
  rw [← h] at k2
  have e := place_keyed.inj k1 k2
  injection e with e
  have e2 : vals a ++ [Value.int .i64 x] = vals b ++ [Value.int .i64 y] := congrArg Array.toList e
  have e3 := List.append_inj e2 (by rw [vals_length, vals_length, ha, hb])
  refine ⟨?_, by simpa using e3.2⟩
  have := congrArg (List.map (fun v : Value => match v with | .int _ n => n | _ => 0)) e3.1
  simpa [vals, Function.comp_def] using this
/-- Is a place ahead. -/
theorem place_has {H : Type} (u : DataW H) (l : List (List Int × Int)) (tx : List Int) (at' : Int) (h : tx.length = 32) (hb : Sz.Byt tx) (hx : 0 ≤ at' ∧ at' < 40) (hl : ∀ p ∈ l, p.1.length = 32 ∧ Sz.Byt p.1 ∧ 0 ≤ p.2 ∧ p.2 < 40) : Maps.has (setOf u (l.map fun p => placeKey p.1 p.2)) (placeKey tx at') = decide ((tx, at') ∈ l) := by
  rw [has_setOf u _ _ (fun x hx => by obtain ⟨p, _, rfl⟩ := List.mem_map.1 hx; trivial)]
  rw [Bool.eq_iff_iff, List.any_eq_true, decide_eq_true_iff]
  constructor
  · rintro ⟨x, hx1, hx2⟩
    obtain ⟨p, hp, rfl⟩ := List.mem_map.1 hx1
    obtain ⟨h1, h2, h3, h4⟩ := hl p hp
    have hs : placeKey p.1 p.2 = placeKey tx at' := by
      unfold placeKey at hx2 ⊢
      simpa [Lit.sameKey] using hx2
    obtain ⟨e1, e2⟩ := place_inj h1 h2 h hb ⟨h3, h4⟩ hx hs
    have : p = (tx, at') := by cases p; simp_all
    rw [← this]; exact hp
  · intro hm
    exact ⟨placeKey tx at', List.mem_map.2 ⟨(tx, at'), hm, rfl⟩, by unfold placeKey; simp [Lit.sameKey]⟩
end Go.Proofs.YtifoldkbmpopnaaDoor

/- The contracts of package money. -/
namespace Go.Proofs.YtifoldkbmpopnaaDoor
open Go.RowKit
set_option linter.unusedVariables false

theorem errV_nil : errV 0 = .nilIface := rfl
theorem errV_two : errV 2 = .iface 28 (.int .i64 2) := rfl
theorem errV_four : errV 4 = .iface 28 (.int .i64 4) := rfl

theorem mcheck_any (n : Int) (w : World) :
    Calls Tryd.prog 33 #[.int .i64 n] w fun e w' => e = .returned (errV (Mo.chk n)) ∧ w = w' := by
  by_cases a : n < 0
  · have e : Mo.chk n = 2 := Mo.chk_bad n (fun h => by have := h.1; have := h.2; omega)
    rw [e]; clear e
    go_enter Tryd.func33, Tryd.ntmps33
    go_wp2
    go_ret
    exact ⟨rfl, rfl⟩
  · by_cases b : 1125899906842624 < n
    · have e : Mo.chk n = 2 := Mo.chk_bad n (fun h => by have := h.1; have := h.2; omega)
      rw [e]; clear e
      go_enter Tryd.func33, Tryd.ntmps33
      go_wp2
      go_ret
      exact ⟨rfl, rfl⟩
    · have e : Mo.chk n = 0 := Mo.chk_good n ⟨by omega, by omega⟩
      rw [e]; clear e
      go_enter Tryd.func33, Tryd.ntmps33
      go_wp2
      go_ret
      exact ⟨rfl, rfl⟩

theorem madd_any (a b : Int) (w : World) :
    Calls Tryd.prog 48 #[.int .i64 a, .int .i64 b] w fun e w' => e = .returned (.tuple #[.int .i64 (Mo.add a b).1, errV (Mo.add a b).2]) ∧ w = w' := by
  by_cases ha : Mo.ok a
  · have ca : Mo.chk a = 0 := by unfold Mo.chk; rw [if_pos ha]
    by_cases hb : Mo.ok b
    · have cb : Mo.chk b = 0 := by unfold Mo.chk; rw [if_pos hb]
      by_cases hs : a + b ≤ 1125899906842624
      · have e : Mo.add a b = (a + b, 0) := by unfold Mo.add; rw [if_pos ⟨ha, hb⟩, if_pos hs]
        unfold Mo.ok at ha hb
        rw [e]; clear e
        go_enter Tryd.func48, Tryd.ntmps48
        go_wp2_with fail
        refine (mcheck_any a _).mono ?_
        rintro e w1 ⟨rfl, rfl⟩
        rw [ca, errV_nil]
        go_wp2_with fail
        refine (mcheck_any b _).mono ?_
        rintro e w1 ⟨rfl, rfl⟩
        rw [cb, errV_nil]
        go_wp2
        go_ret2
        exact ⟨rfl, rfl⟩
      · have e : Mo.add a b = (0, 4) := by unfold Mo.add; rw [if_pos ⟨ha, hb⟩, if_neg hs]
        unfold Mo.ok at ha hb
        rw [e]; clear e
        go_enter Tryd.func48, Tryd.ntmps48
        go_wp2_with fail
        refine (mcheck_any a _).mono ?_
        rintro e w1 ⟨rfl, rfl⟩
        rw [ca, errV_nil]
        go_wp2_with fail
        refine (mcheck_any b _).mono ?_
        rintro e w1 ⟨rfl, rfl⟩
        rw [cb, errV_nil]
        go_wp2
        go_ret2
        exact ⟨rfl, rfl⟩
    · have cb : Mo.chk b = 2 := by unfold Mo.chk; rw [if_neg hb]
      have e : Mo.add a b = (0, 2) := by unfold Mo.add; rw [if_neg (fun h => hb h.2)]
      rw [e]; clear e
      go_enter Tryd.func48, Tryd.ntmps48
      go_wp2_with fail
      refine (mcheck_any a _).mono ?_
      rintro e w1 ⟨rfl, rfl⟩
      rw [ca, errV_nil]
      go_wp2_with fail
      refine (mcheck_any b _).mono ?_
      rintro e w1 ⟨rfl, rfl⟩
      rw [cb, errV_two]
      go_wp2
      go_ret2
      exact ⟨rfl, rfl⟩
  · have ca : Mo.chk a = 2 := by unfold Mo.chk; rw [if_neg ha]
    have e : Mo.add a b = (0, 2) := by unfold Mo.add; rw [if_neg (fun h => ha h.1)]
    rw [e]; clear e
    go_enter Tryd.func48, Tryd.ntmps48
    go_wp2_with fail
    refine (mcheck_any a _).mono ?_
    rintro e w1 ⟨rfl, rfl⟩
    rw [ca, errV_two]
    go_wp2
    go_ret2
    exact ⟨rfl, rfl⟩

theorem made_shift (h : Nat) : Op.shift .shr .i64 1073741824 .i64 ((h : Int) / 1000) = pure (.int .i64 (Mo.made (h / 1000) : Nat)) := by
  have e : (h : Int) / 1000 = ((h / 1000 : Nat) : Int) := by omega
  rw [e, shift_shr_any _ _ _ _ (by omega), Int.toNat_natCast]
  generalize h / 1000 = k
  have e2 : (1073741824 : Int) / 2 ^ min k IntKind.i64.bits = (Mo.made k : Nat) := by
    have hb : IntKind.i64.bits = 64 := rfl
    rw [hb]
    have e3 : (1073741824 : Int) / 2 ^ min k 64 = (Mo.made (min k 64) : Nat) := by unfold Mo.made; simp
    rw [e3]
    by_cases hk : k ≤ 64
    · rw [Nat.min_eq_left hk]
    · rw [Nat.min_eq_right (by omega)]
      obtain ⟨i, rfl⟩ := Nat.exists_eq_add_of_le (show 31 ≤ k by omega)
      rw [Mo.made_31, show (64 : Nat) = 31 + 33 from rfl, Mo.made_31]
  rw [e2]

end Go.Proofs.YtifoldkbmpopnaaDoor

/- tx.checkIns: places that are no place, or twice the same; keys. -/
namespace Go.Proofs.YtifoldkbmpopnaaDoor
open Go.RowKit Go.Maps
set_option linter.unusedVariables false
set_option linter.unusedSimpArgs false

theorem wpList_store_any3 (t : TypeId) (c c' : List Value) (b : Nat) {m : Nat} {w : World} {ops : Array Oper} {rest : List Oper} {o : Oper} {a : Act} {Q : Exit → Act → World → Prop} (hgd : o.guard = none) (s x : Operand) (ho : o.op = .store t s x) (hs : a.eval s = .pointer (some ⟨b, 0, none⟩)) (hx : a.eval x = .agg c'.toArray) (hd : o.dst = none)
    (hi : Is w b c t) (hz : Sized t m) (hc : c.length = m) (hc' : c'.length = m) (h1 : ∀ v ∈ c', v.oneCell' = true)
    (h : ∀ w2, Is w2 b c' t → w2 = w.setRow b c'.toArray → wpList Tryd.prog ops Q rest a w2) : wpList Tryd.prog ops Q (o :: rest) a w :=
  wpList_store_row t c c' b hi hz hc hc' h1 hgd s x ho hs hx hd (h _ (hi.row c') rfl)
theorem map_below {H : Type} {w w' : World} {P : Program} {k : TypeId} {E : Value → Option (DataW H × List MemPlace)} {b n : Nat} {D : DataW H} (h : w.ownsMap P k E b n D) (hb : Below w.heap.size w w') : w'.ownsMap P k E b n D := by
  have hlt := h.lt
  obtain ⟨es, clock, h1, F, hs, hD⟩ := h
  exact ⟨es, clock, (hb.block b hlt).trans h1, F, hs, hD⟩
theorem below_row {w : World} {c c' : List Value} {t : TypeId} : Below w.heap.size w ((w.alloc (.cells c.toArray t)).setRow w.heap.size c'.toArray) :=
  (below_alloc w _).trans ⟨rfl, rfl, rfl, by simp [World.setRow], fun k hk => setRow_other _ _ k _ (by omega)⟩
theorem tx_is_grown {W W' : World} {k : Nat} {c : List Value} {t : TypeId} {r : Option Nat} (h : Is W k c t) (hg : W.grownBy W' r) (hne : r ≠ some k) : Is W' k c t := by
  unfold Is; rw [hg.block k h.lt (fun e => hne e.symm)]; exact h
theorem below_map {w wr w5 w6 : World} {o : Obj} (h : Below w.heap.size w wr) (h5 : Below wr.heap.size wr w5) (hg : (w5.alloc o).grownBy w6 (some w.heap.size)) : Below w.heap.size w w6 :=
  ((h.trans (h5.mono h.size)).alloc (Nat.le_trans h.size h5.size) o).grown hg (Nat.le_trans (Nat.le_trans h.size h5.size) (by simp)) (fun j hj => by cases hj; exact Nat.le_refl _)
/-- Places that are good. -/
def GoodP (l : List (List Int × Int)) : Prop := ∀ p ∈ l, p.1.length = 32 ∧ Sz.Byt p.1 ∧ 0 ≤ p.2 ∧ p.2 < 40
def setP (l : List (List Int × Int)) : DataW Unit := setOf (.agg []) (l.map fun p => placeKey p.1 p.2)
theorem setP_snoc (l : List (List Int × Int)) (tx : List Int) (at' : Int) : setP (l ++ [(tx, at')]) = (setP l).put (placeKey tx at') (.agg []) := by
  unfold setP; rw [List.map_append]; exact setOf_snoc _ _ _

end Go.Proofs.YtifoldkbmpopnaaDoor
