/- The texts TxM, Mon, TxI, TxC, one behind the other. -/
import Derived.Test.YtmjilohlchkicaaGreatDoorLkK
import Derived.Test.YtmjilohlchkicaaGreatDoorZKg
import Derived.Test.YtmjilohlchkicaaGreatDoorOwn3
import Derived.Test.YtmjilohlchkicaaGreatDoorBuild1
import Derived.Deep.MidRow
import Derived.DeepKeys4
import Derived.Maps.Own
import Derived.Maps.OwnOps
import Derived.Maps.OwnSet
import Derived.Test.YtmjilohlchkicaaGreatDoorAs
import Derived.Laws.Shifts
import Derived.Test.YtmjilohlchkicaaGreatDoorOwns
import Derived.Test.YtmjilohlchkicaaGreatDoorZLk
/- Payments in memory: ins, outs; their places as keys. -/
namespace Go.Proofs.YtmjilohlchkicaaGreatDoor
open Go.RowKit Go.Maps
set_option linter.unusedVariables false

/-- What is spent, as it lies in memory: its keys by the slice that they lie in. -/
structure InV where
  tx : List Int
  at' : Int
  kv : Value
  K : List (List Int × Value)
def InV.it (x : InV) : Tm.In := ⟨x.tx, x.at', x.K.map Prod.fst⟩
structure OutV where
  amount : Int
  lv : Value
  L : List (Lk.Op × Value)
def OutV.it (x : OutV) : Tm.Out := ⟨x.amount, opsOf x.L⟩
def inCell (x : InV) : List Value := vals x.tx ++ [.int .i64 x.at', x.kv]
def outCell (x : OutV) : List Value := [.int .i64 x.amount, x.lv]
def inCells (R : List InV) : List Value := (R.map inCell).flatten
def outCells (R : List OutV) : List Value := (R.map outCell).flatten
theorem inCell_length (x : InV) (h : x.tx.length = 32) : (inCell x).length = 34 := by simp [inCell, vals_length, h]
theorem inCells_length (R : List InV) (h : ∀ x ∈ R, x.tx.length = 32) : (inCells R).length = R.length * 34 := by
  induction R with
  | nil => rfl
  | cons x R ih =>
    have := ih (fun y hy => h y (by simp [hy]))
    simp only [inCells, List.map_cons, List.flatten_cons, List.length_append, List.length_cons] at this ⊢
    rw [inCell_length x (h x (by simp)), this]; omega
theorem outCells_length (R : List OutV) : (outCells R).length = R.length * 2 := by
  induction R with
  | nil => rfl
  | cons x R ih =>
    simp only [outCells, List.map_cons, List.flatten_cons, List.length_append, List.length_cons] at ih ⊢
    rw [ih]; simp [outCell]; omega
/-- One of a row of pieces. -/
theorem range_at {w : World} {α : Type} {b off s : Nat} {f : α → List Value} {R : List α} (h : w.rangeAt b off ((R.map f).flatten)) (hs : ∀ x ∈ R, (f x).length = s) (k : Nat) (hk : k < R.length) : w.rangeAt b (off + k * s) (f R[k]) := by
  have key : ∀ (R : List α) (off k : Nat) (hk : k < R.length), (∀ x ∈ R, (f x).length = s) → w.rangeAt b off ((R.map f).flatten) → w.rangeAt b (off + k * s) (f R[k]) := by
    intro R
    induction R with
    | nil => intro off k hk; simp at hk
    | cons x R ih =>
      intro off k hk hs h
      rw [List.map_cons, List.flatten_cons] at h
      cases k with
      | zero =>
        intro j v hv
        have hj := (List.getElem?_eq_some_iff.1 hv).1
        simp only [List.getElem_cons_zero] at hv hj
        rw [Nat.zero_mul, Nat.add_zero]
        exact h j v (by rw [List.getElem?_append_left hj]; exact hv)
      | succ k =>
        have h2 : w.rangeAt b (off + s) ((R.map f).flatten) := by
          intro j v hv
          have := h (s + j) v (by rw [List.getElem?_append_right (by rw [hs x (by simp)]; omega), hs x (by simp), Nat.add_sub_cancel_left]; exact hv)
          rwa [Nat.add_assoc]
        have := ih (off + s) k (by simpa using hk) (fun y hy => hs y (by simp [hy])) h2
        rw [show off + (k + 1) * s = off + s + k * s by rw [Nat.succ_mul]; omega]
        exact this
  exact key R off k hk hs h
theorem tx_range_part {w : World} {b off : Nat} {a c : List Value} (h : w.rangeAt b off (a ++ c)) : w.rangeAt b off a ∧ w.rangeAt b (off + a.length) c := by
  refine ⟨fun j v hv => h j v ?_, fun j v hv => ?_⟩
  · rw [List.getElem?_append_left (List.getElem?_eq_some_iff.1 hv).1]; exact hv
  · rw [Nat.add_assoc]
    exact h (a.length + j) v (by rw [List.getElem?_append_right (by omega), Nat.add_sub_cancel_left]; exact hv)

def HasIns (w : World) (v : Value) (R : List InV) : Prop :=
  ((∃ a cap, v = .slice a 0 cap ∧ R = []) ∨ ∃ b off cap, v = .slice (some ⟨b, off, none⟩) R.length cap ∧ 0 < R.length ∧ R.length ≤ cap ∧ cap ≤ maxLen ∧ b < w.heap.size ∧ w.rangeAt b off (inCells R)) ∧
  ∀ x ∈ R, x.tx.length = 32 ∧ Sz.Byt x.tx ∧ HasKeys w x.kv x.K
def HasOuts (w : World) (v : Value) (R : List OutV) : Prop :=
  ((∃ a cap, v = .slice a 0 cap ∧ R = []) ∨ ∃ b off cap, v = .slice (some ⟨b, off, none⟩) R.length cap ∧ 0 < R.length ∧ R.length ≤ cap ∧ cap ≤ maxLen ∧ b < w.heap.size ∧ w.rangeAt b off (outCells R)) ∧
  ∀ x ∈ R, HasOps w x.lv x.L
theorem HasIns.below {w w' : World} {v : Value} {R : List InV} (h : HasIns w v R) (hb : Below w.heap.size w w') : HasIns w' v R := by
  refine ⟨?_, fun x hx => ⟨(h.2 x hx).1, (h.2 x hx).2.1, (h.2 x hx).2.2.below hb⟩⟩
  rcases h.1 with h | ⟨b, off, cap, hv, h0, h1, h2, h3, hc⟩
  · exact .inl h
  · exact .inr ⟨b, off, cap, hv, h0, h1, h2, Nat.lt_of_lt_of_le h3 hb.size, range_keep hc hb h3⟩
theorem HasOuts.below {w w' : World} {v : Value} {R : List OutV} (h : HasOuts w v R) (hb : Below w.heap.size w w') : HasOuts w' v R := by
  refine ⟨?_, fun x hx => (h.2 x hx).below hb⟩
  rcases h.1 with h | ⟨b, off, cap, hv, h0, h1, h2, h3, hc⟩
  · exact .inl h
  · exact .inr ⟨b, off, cap, hv, h0, h1, h2, Nat.lt_of_lt_of_le h3 hb.size, range_keep hc hb h3⟩
theorem HasIns.form {w : World} {v : Value} {R : List InV} (h : HasIns w v R) : ∃ a cap, v = .slice a R.length cap ∧ R.length ≤ maxLen ∧ ∀ k, k < R.length → ∃ b off, a = some ⟨b, off, none⟩ ∧ R.length ≤ cap ∧ cap ≤ maxLen ∧ b < w.heap.size ∧ w.rangeAt b off (inCells R) := by
  rcases h.1 with ⟨a, cap, rfl, rfl⟩ | ⟨b, off, cap, rfl, h0, h1, h2, h3, hc⟩
  · exact ⟨a, cap, rfl, by simp, fun k hk => absurd hk (by simp)⟩
  · exact ⟨_, cap, rfl, by omega, fun k hk => ⟨b, off, rfl, h1, h2, h3, hc⟩⟩
theorem HasOuts.form {w : World} {v : Value} {R : List OutV} (h : HasOuts w v R) : ∃ a cap, v = .slice a R.length cap ∧ R.length ≤ maxLen ∧ ∀ k, k < R.length → ∃ b off, a = some ⟨b, off, none⟩ ∧ R.length ≤ cap ∧ cap ≤ maxLen ∧ b < w.heap.size ∧ w.rangeAt b off (outCells R) := by
  rcases h.1 with ⟨a, cap, rfl, rfl⟩ | ⟨b, off, cap, rfl, h0, h1, h2, h3, hc⟩
  · exact ⟨a, cap, rfl, by simp, fun k hk => absurd hk (by simp)⟩
  · exact ⟨_, cap, rfl, by omega, fun k hk => ⟨b, off, rfl, h1, h2, h3, hc⟩⟩
/-- A payment. -/
structure TxV where
  iv : Value
  ins : List InV
  ov : Value
  outs : List OutV
  time : Int
def TxV.it (t : TxV) : Tm.Tx := ⟨t.ins.map InV.it, t.outs.map OutV.it, t.time⟩
def TxV.val (t : TxV) : Value := .agg #[t.iv, t.ov, .int .i64 t.time]
def HasTx (w : World) (t : TxV) : Prop := HasIns w t.iv t.ins ∧ HasOuts w t.ov t.outs
theorem HasTx.below {w w' : World} {t : TxV} (h : HasTx w t) (hb : Below w.heap.size w w') : HasTx w' t := ⟨h.1.below hb, h.2.below hb⟩

theorem size_in : Sized 49 34 := by unfold Sized; kernel_rfl
theorem size_place : Sized 46 33 := by unfold Sized; kernel_rfl
theorem size_out : Sized 52 2 := by unfold Sized; kernel_rfl
theorem size_tx : Sized 26 3 := by unfold Sized; kernel_rfl
/-- A struct out of the midst of a block. -/
theorem wpList_load_part (t : TypeId) (c : List Value) (b off : Nat) {m : Nat} {d : TypeDesc} {w : World} {ops : Array Oper} {rest : List Oper} {o : Oper} {a : Act} {Q : Exit → Act → World → Prop} (hgd : o.guard = none) (s : Operand) (ho : o.op = .load t s) (hs : a.eval s = .pointer (some ⟨b, off, none⟩))
    (hr : w.rangeAt b off c) (hu : Tryz.prog.underlying t = some d) (hd : d.isRow = true) (hz : Sized t m) (hc : c.length = m)
    (h : wpList Tryz.prog ops Q rest (a.put o.dst (.agg c.toArray)) w) : wpList Tryz.prog ops Q (o :: rest) a w := by
  refine wpList_plain hgd fun K hK => ?_
  have hl := run_loadVar_mid (P := Tryz.prog) w b off t c d hr hu hd (by rw [hc]; exact hz)
  unfold Oper.wp
  simp only [execOp, ho, hs, Instr.loadAt, Instr.sureAddr, Sem.run_bind, Sem.run_pure, Result.andThen_ok, hl]
  exact hK _ _ h
theorem zero_in (w : World) : (zeroValue 49).run Tryz.prog w = .ok (.agg (vals (List.replicate 32 0) ++ ([.int .i64 0, .slice none 0 0] : List Value)).toArray) w := by kernel_rfl

/-- What a place reads as, as a key. -/
def placeKey (tx : List Int) (at' : Int) : Lit := .string (keyBytes (tx.map (Lit.int .u8) ++ [.int .i64 at']))
theorem place_laid : laidOutB Tryz.prog = true := by kernel_rfl
theorem place_row : (46 : TypeId) < Tryz.prog.types.size := of_decide_eq_true (by kernel_rfl)
set_option maxRecDepth 100000 in
theorem place_wide : (match Tryz.prog.underlying 46 with | some (.array _ _) | some (.struct _) => true | _ => false) = true := by rw [Tryz.underlying46]
set_option maxRecDepth 100000 in
theorem place_keyed : Keyed Tryz.prog 46 := Keyed.of_law (deep_law_laid place_laid (m := 6) (by omega) place_row (by kernel_rfl) place_wide)

theorem cells_place : Tryz.prog.cellsOf 46 = 33 := by kernel_rfl
theorem cells_dig : Tryz.prog.cellsOf 44 = 32 := by kernel_rfl
theorem cells_u8' : Tryz.prog.cellsOf 5 = 1 := by kernel_rfl
theorem lits_u8 (D : Nat) (x : Int) (h : 0 ≤ x ∧ x < 256) : Tryz.prog.keyLits (D + 1) 5 [.int .u8 x] = some [.int .u8 x] := by
  have hw : (Lit.int .u8 x).wf = true := by simp [Lit.wf, IntKind.min, IntKind.max, IntKind.signed, IntKind.bits]; omega
  unfold Program.keyLits
  simp [Tryz.underlying5, hw]
theorem mapM_bytes (tx : List Int) (hb : Sz.Byt tx) (D : Nat) : ∀ (n : Nat), n ≤ tx.length → (List.range n).mapM (fun i => Tryz.prog.keyLits (D + 1) 5 (((vals tx).drop (i * 1)).take 1)) = some ((tx.take n).map fun x => [Lit.int .u8 x]) := by
  intro n
  induction n with
  | zero => intro _; simp
  | succ n ih =>
    intro hn
    have hlt : n < tx.length := by omega
    rw [List.range_succ, List.mapM_append, ih (by omega)]
    have e : ((vals tx).drop (n * 1)).take 1 = [.int .u8 (tx.getD n 0)] := by
      rw [Nat.mul_one, List.drop_eq_getElem_cons (by rw [vals_length]; exact hlt), List.take_succ_cons, List.take_zero]
      simp [vals, List.getD, List.getElem?_eq_getElem hlt]
    have hm : [n].mapM (fun i => Tryz.prog.keyLits (D + 1) 5 (((vals tx).drop (i * 1)).take 1)) = some [[Lit.int .u8 (tx.getD n 0)]] := by
      simp only [List.mapM_cons, List.mapM_nil]
      rw [e, lits_u8 D _ (hb.getD n)]
      rfl
    rw [hm, take_snoc tx n hlt]
    simp
theorem flatten_bytes (tx : List Int) : (tx.map fun x => [Lit.int .u8 x]).flatten = tx.map (Lit.int .u8) := by
  induction tx with
  | nil => rfl
  | cons x r ih => simp only [List.map_cons, List.flatten_cons, ih]; rfl
theorem lits_dig (tx : List Int) (h : tx.length = 32) (hb : Sz.Byt tx) (D : Nat) : Tryz.prog.keyLits (D + 2) 44 (vals tx) = some (tx.map (Lit.int .u8)) := by
  unfold Program.keyLits
  simp only [Tryz.underlying44]
  rw [cells_dig, cells_u8', if_pos (by rw [vals_length]; exact h)]
  have := mapM_bytes tx hb D 32 (by omega)
  rw [this, List.take_of_length_le (by omega), Option.map_some, flatten_bytes]
theorem cells_int : Tryz.prog.cellsOf 3 = 1 := by kernel_rfl
theorem lits_int (D : Nat) (n : Int) (h : (Lit.int .i64 n).wf = true) : Tryz.prog.keyLits (D + 1) 3 [.int .i64 n] = some [.int .i64 n] := by
  unfold Program.keyLits
  simp [Tryz.underlying3, h]
theorem lits_place (tx : List Int) (at' : Int) (h : tx.length = 32) (hb : Sz.Byt tx) (hw : (Lit.int .i64 at').wf = true) (D : Nat) : Tryz.prog.keyLits (D + 3) 46 (vals tx ++ [.int .i64 at']) = some (tx.map (Lit.int .u8) ++ [.int .i64 at']) := by
  have hl : (vals tx).length = 32 := by rw [vals_length]; exact h
  have e1 : ((vals tx ++ [Value.int .i64 at']).drop 0).take 32 = vals tx := by rw [List.drop_zero, ← hl, List.take_left]
  have e2 : ((vals tx ++ [Value.int .i64 at']).drop 32).take 1 = [.int .i64 at'] := by rw [← hl, List.drop_left]; rfl
  unfold Program.keyLits
  simp only [Tryz.underlying46]
  rw [cells_place, if_pos ⟨by simp [hl], by kernel_rfl⟩]
  simp only [List.mapM_cons, List.mapM_nil, cells_dig, cells_int]
  rw [e1, e2, lits_dig tx h hb D, lits_int (D + 1) at' hw]
  simp
theorem key_place (tx : List Int) (at' : Int) (h : tx.length = 32) (hb : Sz.Byt tx) (h0 : 0 ≤ at') (h1 : at' < 40) : keyOf Tryz.prog 46 (.agg (vals tx ++ [Value.int .i64 at']).toArray) = some (placeKey tx at') := by
  have hw : (Lit.int .i64 at').wf = true := by simp [Lit.wf, IntKind.min, IntKind.max, IntKind.signed, IntKind.bits]; omega
  have hk : Tryz.prog.keyType 46 = true := by kernel_rfl
  have hf : Value.formed Tryz.prog 46 (.agg (vals tx ++ [Value.int .i64 at']).toArray) = true := by
    simp [Value.formed, Tryz.underlying46, cells_place, vals_length, h]
  have hn : Tryz.prog.types.size + 1 = (Tryz.prog.types.size - 2) + 3 := by have : 2 ≤ Tryz.prog.types.size := of_decide_eq_true (by kernel_rfl); omega
  unfold keyOf
  simp only [Tryz.underlying46]
  rw [hk, hf, hn]
  simp only [Bool.and_self, if_true]
  have e : (Value.agg (vals tx ++ [Value.int .i64 at']).toArray).cells.toList = vals tx ++ [Value.int .i64 at'] := by simp [Value.cells]
  rw [e, lits_place tx at' h hb hw]
  rfl
theorem place_inj {a b : List Int} {x y : Int} (ha : a.length = 32) (hab : Sz.Byt a) (hb : b.length = 32) (hbb : Sz.Byt b) (hx : 0 ≤ x ∧ x < 40) (hy : 0 ≤ y ∧ y < 40) (h : placeKey a x = placeKey b y) : a = b ∧ x = y := by
  have k1 := key_place a x ha hab hx.1 hx.2
  have k2 := key_place b y hb hbb hy.1 hy.2
  rw [← h] at k2
  have e := place_keyed.inj k1 k2
  injection e with e
  have e2 : vals a ++ [Value.int .i64 x] = vals b ++ [Value.int .i64 y] := congrArg Array.toList e
  have e3 := List.append_inj e2 (by rw [vals_length, vals_length, ha, hb])
  refine ⟨?_, by simpa using e3.2⟩
  have := congrArg (List.map (fun v : Value => match v with | .int _ n => n | _ => 0)) e3.1
  simpa [vals, Function.comp_def] using this
/-- Is a place ahead. -/
theorem place_has {H : Type} (u : DataW H) (l : List (List Int × Int)) (tx : List Int) (at' : Int) (h : tx.length = 32) (hb : Sz.Byt tx) (hx : 0 ≤ at' ∧ at' < 40) (hl : ∀ p ∈ l, p.1.length = 32 ∧ Sz.Byt p.1 ∧ 0 ≤ p.2 ∧ p.2 < 40) : Maps.has (setOf u (l.map fun p => placeKey p.1 p.2)) (placeKey tx at') = decide ((tx, at') ∈ l) := by
  rw [has_setOf u _ _ (fun x hx => by obtain ⟨p, _, rfl⟩ := List.mem_map.1 hx; trivial)]
  rw [Bool.eq_iff_iff, List.any_eq_true, decide_eq_true_iff]
  constructor
  · rintro ⟨x, hx1, hx2⟩
    obtain ⟨p, hp, rfl⟩ := List.mem_map.1 hx1
    obtain ⟨h1, h2, h3, h4⟩ := hl p hp
    have hs : placeKey p.1 p.2 = placeKey tx at' := by
      unfold placeKey at hx2 ⊢
      simpa [Lit.sameKey] using hx2
    obtain ⟨e1, e2⟩ := place_inj h1 h2 h hb ⟨h3, h4⟩ hx hs
    have : p = (tx, at') := by cases p; simp_all
    rw [← this]; exact hp
  · intro hm
    exact ⟨placeKey tx at', List.mem_map.2 ⟨(tx, at'), hm, rfl⟩, by unfold placeKey; simp [Lit.sameKey]⟩
end Go.Proofs.YtmjilohlchkicaaGreatDoor

/- The contracts of package money. -/
namespace Go.Proofs.YtmjilohlchkicaaGreatDoor
open Go.RowKit
set_option linter.unusedVariables false

theorem errV_nil : errV 0 = .nilIface := rfl
theorem errV_two : errV 2 = .iface 27 (.int .i64 2) := rfl
theorem errV_four : errV 4 = .iface 27 (.int .i64 4) := rfl

theorem mcheck_any (n : Int) (w : World) :
    Calls Tryz.prog 53 #[.int .i64 n] w fun e w' => e = .returned (errV (Mo.chk n)) ∧ w = w' := by
  by_cases a : n < 0
  · have e : Mo.chk n = 2 := Mo.chk_bad n (fun h => by have := h.1; have := h.2; omega)
    rw [e]; clear e
    go_enter Tryz.func53, Tryz.ntmps53
    go_wp2
    go_ret
    exact ⟨rfl, rfl⟩
  · by_cases b : 1125899906842624 < n
    · have e : Mo.chk n = 2 := Mo.chk_bad n (fun h => by have := h.1; have := h.2; omega)
      rw [e]; clear e
      go_enter Tryz.func53, Tryz.ntmps53
      go_wp2
      go_ret
      exact ⟨rfl, rfl⟩
    · have e : Mo.chk n = 0 := Mo.chk_good n ⟨by omega, by omega⟩
      rw [e]; clear e
      go_enter Tryz.func53, Tryz.ntmps53
      go_wp2
      go_ret
      exact ⟨rfl, rfl⟩

theorem madd_any (a b : Int) (w : World) :
    Calls Tryz.prog 87 #[.int .i64 a, .int .i64 b] w fun e w' => e = .returned (.tuple #[.int .i64 (Mo.add a b).1, errV (Mo.add a b).2]) ∧ w = w' := by
  by_cases ha : Mo.ok a
  · have ca : Mo.chk a = 0 := by unfold Mo.chk; rw [if_pos ha]
    by_cases hb : Mo.ok b
    · have cb : Mo.chk b = 0 := by unfold Mo.chk; rw [if_pos hb]
      by_cases hs : a + b ≤ 1125899906842624
      · have e : Mo.add a b = (a + b, 0) := by unfold Mo.add; rw [if_pos ⟨ha, hb⟩, if_pos hs]
        unfold Mo.ok at ha hb
        rw [e]; clear e
        go_enter Tryz.func87, Tryz.ntmps87
        go_wp2_with fail
        refine (mcheck_any a _).mono ?_
        rintro e w1 ⟨rfl, rfl⟩
        rw [ca, errV_nil]
        go_wp2_with fail
        refine (mcheck_any b _).mono ?_
        rintro e w1 ⟨rfl, rfl⟩
        rw [cb, errV_nil]
        go_wp2
        go_ret2
        exact ⟨rfl, rfl⟩
      · have e : Mo.add a b = (0, 4) := by unfold Mo.add; rw [if_pos ⟨ha, hb⟩, if_neg hs]
        unfold Mo.ok at ha hb
        rw [e]; clear e
        go_enter Tryz.func87, Tryz.ntmps87
        go_wp2_with fail
        refine (mcheck_any a _).mono ?_
        rintro e w1 ⟨rfl, rfl⟩
        rw [ca, errV_nil]
        go_wp2_with fail
        refine (mcheck_any b _).mono ?_
        rintro e w1 ⟨rfl, rfl⟩
        rw [cb, errV_nil]
        go_wp2
        go_ret2
        exact ⟨rfl, rfl⟩
    · have cb : Mo.chk b = 2 := by unfold Mo.chk; rw [if_neg hb]
      have e : Mo.add a b = (0, 2) := by unfold Mo.add; rw [if_neg (fun h => hb h.2)]
      rw [e]; clear e
      go_enter Tryz.func87, Tryz.ntmps87
      go_wp2_with fail
      refine (mcheck_any a _).mono ?_
      rintro e w1 ⟨rfl, rfl⟩
      rw [ca, errV_nil]
      go_wp2_with fail
      refine (mcheck_any b _).mono ?_
      rintro e w1 ⟨rfl, rfl⟩
      rw [cb, errV_two]
      go_wp2
      go_ret2
      exact ⟨rfl, rfl⟩
  · have ca : Mo.chk a = 2 := by unfold Mo.chk; rw [if_neg ha]
    have e : Mo.add a b = (0, 2) := by unfold Mo.add; rw [if_neg (fun h => ha h.1)]
    rw [e]; clear e
    go_enter Tryz.func87, Tryz.ntmps87
    go_wp2_with fail
    refine (mcheck_any a _).mono ?_
    rintro e w1 ⟨rfl, rfl⟩
    rw [ca, errV_two]
    go_wp2
    go_ret2
    exact ⟨rfl, rfl⟩

theorem made_shift (h : Nat) : Op.shift .shr .i64 1073741824 .i64 ((h : Int) / 1000) = pure (.int .i64 (Mo.made (h / 1000) : Nat)) := by
  have e : (h : Int) / 1000 = ((h / 1000 : Nat) : Int) := by omega
  rw [e, shift_shr_any _ _ _ _ (by omega), Int.toNat_natCast]
  generalize h / 1000 = k
  have e2 : (1073741824 : Int) / 2 ^ min k IntKind.i64.bits = (Mo.made k : Nat) := by
    have hb : IntKind.i64.bits = 64 := rfl
    rw [hb]
    have e3 : (1073741824 : Int) / 2 ^ min k 64 = (Mo.made (min k 64) : Nat) := by unfold Mo.made; simp
    rw [e3]
    by_cases hk : k ≤ 64
    · rw [Nat.min_eq_left hk]
    · rw [Nat.min_eq_right (by omega)]
      obtain ⟨i, rfl⟩ := Nat.exists_eq_add_of_le (show 31 ≤ k by omega)
      rw [Mo.made_31, show (64 : Nat) = 31 + 33 from rfl, Mo.made_31]
  rw [e2]

end Go.Proofs.YtmjilohlchkicaaGreatDoor

/- tx.checkIns: places that are no place, or twice the same; keys. -/
namespace Go.Proofs.YtmjilohlchkicaaGreatDoor
open Go.RowKit Go.Maps
set_option linter.unusedVariables false
set_option linter.unusedSimpArgs false

theorem make_seen (n : Nat) (w : World) : (Instr.makeMap 85 (some (.int .i64 (n : Int)))).run Tryz.prog w = .ok (.map (some w.heap.size)) (w.alloc (.map #[] 0)) := by
  simp [Instr.makeMap, underlying, Tryz.underlying85, asInt, go_sem]
theorem zero_unit (w : World) : (zeroValue 86).run Tryz.prog w = .ok (.agg #[]) w := by kernel_rfl
theorem wpList_store_any3 (t : TypeId) (c c' : List Value) (b : Nat) {m : Nat} {w : World} {ops : Array Oper} {rest : List Oper} {o : Oper} {a : Act} {Q : Exit → Act → World → Prop} (hgd : o.guard = none) (s x : Operand) (ho : o.op = .store t s x) (hs : a.eval s = .pointer (some ⟨b, 0, none⟩)) (hx : a.eval x = .agg c'.toArray) (hd : o.dst = none)
    (hi : Is w b c t) (hz : Sized t m) (hc : c.length = m) (hc' : c'.length = m) (h1 : ∀ v ∈ c', v.oneCell' = true)
    (h : ∀ w2, Is w2 b c' t → w2 = w.setRow b c'.toArray → wpList Tryz.prog ops Q rest a w2) : wpList Tryz.prog ops Q (o :: rest) a w :=
  wpList_store_row t c c' b hi hz hc hc' h1 hgd s x ho hs hx hd (h _ (hi.row c') rfl)
theorem map_below {H : Type} {w w' : World} {P : Program} {k : TypeId} {E : Value → Option (DataW H × List MemPlace)} {b n : Nat} {D : DataW H} (h : w.ownsMap P k E b n D) (hb : Below w.heap.size w w') : w'.ownsMap P k E b n D := by
  have hlt := h.lt
  obtain ⟨es, clock, h1, F, hs, hD⟩ := h
  exact ⟨es, clock, (hb.block b hlt).trans h1, F, hs, hD⟩
theorem below_row {w : World} {c c' : List Value} {t : TypeId} : Below w.heap.size w ((w.alloc (.cells c.toArray t)).setRow w.heap.size c'.toArray) :=
  (below_alloc w _).trans ⟨rfl, rfl, rfl, by simp [World.setRow], fun k hk => setRow_other _ _ k _ (by omega)⟩
theorem tx_is_grown {W W' : World} {k : Nat} {c : List Value} {t : TypeId} {r : Option Nat} (h : Is W k c t) (hg : W.grownBy W' r) (hne : r ≠ some k) : Is W' k c t := by
  unfold Is; rw [hg.block k h.lt (fun e => hne e.symm)]; exact h
theorem below_map {w wr w5 w6 : World} {o : Obj} (h : Below w.heap.size w wr) (h5 : Below wr.heap.size wr w5) (hg : (w5.alloc o).grownBy w6 (some w.heap.size)) : Below w.heap.size w w6 :=
  ((h.trans (h5.mono h.size)).alloc (Nat.le_trans h.size h5.size) o).grown hg (Nat.le_trans (Nat.le_trans h.size h5.size) (by simp)) (fun j hj => by cases hj; exact Nat.le_refl _)
/-- Places that are good. -/
def GoodP (l : List (List Int × Int)) : Prop := ∀ p ∈ l, p.1.length = 32 ∧ Sz.Byt p.1 ∧ 0 ≤ p.2 ∧ p.2 < 40
def setP (l : List (List Int × Int)) : DataW Unit := setOf (.agg []) (l.map fun p => placeKey p.1 p.2)
theorem setP_snoc (l : List (List Int × Int)) (tx : List Int) (at' : Int) : setP (l ++ [(tx, at')]) = (setP l).put (placeKey tx at') (.agg []) := by
  unfold setP; rw [List.map_append]; exact setOf_snoc _ _ _

set_option maxRecDepth 100000 in
set_option maxHeartbeats 4000000 in
theorem checkIns_some (R : List InV) (b off cap : Nat) (w : World) (h0 : 0 < R.length) (h40 : R.length ≤ 40) (hr : w.rangeAt b off (inCells R)) (hb : b < w.heap.size) (hd : ∀ x ∈ R, x.tx.length = 32 ∧ Sz.Byt x.tx ∧ HasKeys w x.kv x.K) :
    Calls Tryz.prog 79 #[.slice (some ⟨b, off, none⟩) R.length cap] w fun e w' => e = .returned (errV (Tm.insF [] (R.map InV.it))) ∧ Below w.heap.size w w' := by
  have hIN : ∀ k (hk : k < R.length), w.rangeAt b (off + k * 34) (inCell R[k]) := fun k hk => range_at hr (fun x hx => inCell_length x (hd x hx).1) k hk
  have HIN := hide hIN
  have HBW := hide hb
  have HD := hide hd
  have hmk := make_seen R.length w
  have hzu := zero_unit
  have hzi := zero_in
  obtain ⟨Y, hY⟩ : ∃ Y, Y = vals (List.replicate 32 0) ++ ([.int .i64 0, .slice none 0 0] : List Value) := ⟨_, rfl⟩
  rw [← hY] at hzi
  have hYl : Y.length = 34 := by rw [hY]; simp [vals]
  have hYp : ¬ Y = [] := by intro h; rw [h] at hYl; cases hYl
  have HYL := hide hYl
  obtain ⟨X, hX⟩ : ∃ X, Tm.insF [] (R.map InV.it) = X := ⟨_, rfl⟩
  have HX := hide hX
  rw [hX]
  clear hX hY hYl hIN hr hb hd
  obtain ⟨n, hn⟩ : ∃ n, n = R.length := ⟨_, rfl⟩
  rw [← hn] at hmk h0 h40 ⊢
  have HN : Hid (R.length = n) := hide hn.symm
  clear hn
  go_enter Tryz.func79, Tryz.ntmps79
  go_wp2
  go_loopw [14] (fun i wr => ∃ (k : Nat) (ah : List (List Int × Int)), k ≤ n ∧ i = .int .i64 k ∧ ah.length = k ∧ GoodP ah ∧ Below w.heap.size w wr ∧ wr.ownsMap Tryz.prog 46 (unitElem (H := Unit)) w.heap.size k (setP ah) ∧ Tm.insF ah ((R.drop k).map InV.it) = X) (fun i _ => n - (intOf i).toNat)
  case atStart => exact ⟨0, [], by omega, rfl, rfl, (fun p hp => by cases hp), (Below.refl _ _).alloc (Nat.le_refl _) _, World.ownsMap_made _ _ _ _, by rw [List.drop_zero]; exact HX.out⟩
  case round =>
    obtain ⟨k, ah, hk, rfl, hal, hag, hbel, hown, hx⟩ := hrel
    by_cases hlt : k < n
    · have hkR : k < R.length := by rw [HN.out]; exact hlt
      obtain ⟨d1, d2, d3⟩ := HD.out R[k] (List.getElem_mem hkR)
      have hin := range_keep (HIN.out k hkR) hbel HBW.out
      rw [List.drop_eq_getElem_cons hkR, List.map_cons] at hx
      have hcl := inCell_length R[k] d1
      have hc32 : (inCell R[k])[32]? = some (.int .i64 R[k].at') := by
        unfold inCell; rw [List.getElem?_append_right (by rw [vals_length, d1]; omega), vals_length, d1]; rfl
      have hc33 : (inCell R[k])[33]? = some R[k].kv := by
        unfold inCell; rw [List.getElem?_append_right (by rw [vals_length, d1]; omega), vals_length, d1]; rfl
      have hp33 : inCell R[k] = (vals R[k].tx ++ [.int .i64 R[k].at']) ++ [R[k].kv] := by unfold inCell; simp
      have hone : ∀ v ∈ inCell R[k], v.oneCell' = true := by
        intro v hv
        unfold inCell at hv
        rcases List.mem_append.1 hv with hv | hv
        · exact vals_one _ v hv
        · simp only [List.mem_cons, List.not_mem_nil, or_false] at hv
          rcases hv with rfl | rfl
          · rfl
          · obtain ⟨a, c, e, _⟩ := d3.form; rw [e]; rfl
      obtain ⟨ka, kc, hke, _, _, _⟩ := d3.form
      rw [hke] at hc33 hp33
      have hx2 : (if Tm.inF ah R[k].it = 0 then Tm.insF (ah ++ [(R[k].tx, R[k].at')]) ((R.drop (k + 1)).map InV.it) else Tm.inF ah R[k].it) = X := hx
      have hif : Tm.inF ah R[k].it = if R[k].at' < 0 ∨ 40 ≤ R[k].at' then 2 else if (R[k].tx, R[k].at') ∈ ah then 6 else keysF (R[k].K.map Prod.fst) := rfl
      obtain ⟨C, hC⟩ : ∃ C, C = inCell R[k] := ⟨_, rfl⟩
      rw [← hC] at hin hcl hc32 hc33 hp33 hone
      have HIC := hide hin
      have HCL := hide hcl
      have HONE := hide hone
      have HC32 : Hid (∀ W, Is W wr.heap.size C 49 → W.cell? ⟨wr.heap.size, 32, none⟩ = some (.int .i64 R[k].at')) := hide (fun W hi => by rw [hi.cell]; exact hc32)
      have HC33 : Hid (∀ W, Is W wr.heap.size C 49 → W.cell? ⟨wr.heap.size, 33, none⟩ = some (.slice ka R[k].K.length kc)) := hide (fun W hi => by rw [hi.cell]; exact hc33)
      have HP33 : Hid (∀ W, Is W wr.heap.size C 49 → W.rangeAt wr.heap.size 0 (vals R[k].tx ++ [.int .i64 R[k].at'])) := hide (fun W hi => by have := is_range hi; rw [hp33] at this; exact (tx_range_part this).1)
      have HPL : Hid ((vals R[k].tx ++ [Value.int .i64 R[k].at']).length = 33) := hide (by rw [List.length_append, vals_length, d1]; rfl)
      have hk3 := d3
      rw [hke] at hk3
      have HCK : Hid (∀ W, Below w.heap.size w W → Calls Tryz.prog 101 #[.slice ka R[k].K.length kc] W fun e w' => e = .returned (errV (keysF (R[k].K.map Prod.fst))) ∧ W = w') := hide (fun W hW => checkKeys_any R[k].K _ W (hk3.below hW))
      clear hk3
      have HBEL := hide hbel
      have HOWN := hide hown
      have HAG := hide hag
      have HAL := hide hal
      have HX3 := hide hx2
      have HIF := hide hif
      have HD12 : Hid (R[k].tx.length = 32 ∧ Sz.Byt R[k].tx) := hide ⟨d1, d2⟩
      have hki : (k : Int) < (n : Int) := by omega
      clear hC hin hcl hc32 hc33 hp33 hone hke d1 d2 d3 hx hx2 hif hbel hown hag hal
      generalize R[k].K.map Prod.fst = ks at *
      generalize R[k].K.length = kl at *
      generalize R[k].tx = tx at *
      generalize R[k].at' = at' at *
      generalize Tm.inF ah R[k].it = f at *
      by_cases ha : at' < 0
      · have hf2 : f = 2 := by rw [HIF.out, if_pos (Or.inl ha)]
        have HX4 : Hid (X = 2) := hide (by have := HX3.out; rw [hf2] at this; simpa using this.symm)
        clear hf2
        go_wp2_with (first
          | (refine wpList_load_part 49 C b (off + k * 34) rfl (.tmp 16) rfl rfl HIC.out Tryz.underlying49 rfl size_in HCL.out ?_)
          | (refine wpList_store_any3 49 Y C wr.heap.size rfl (.tmp 5) (.tmp 17) rfl rfl rfl rfl (Is.new wr _ _) size_in HYL.out HCL.out HONE.out ?_; intro w5 hi5 hw5; have hb5 : Below wr.heap.size wr w5 := (by rw [hw5]; exact below_row); clear hw5; have hc32 := HC32.out w5 hi5; have hc33 := HC33.out w5 hi5; have hz5 : wr.heap.size < w5.heap.size := hi5.lt))
        go_ret
        exact ⟨by rw [HX4.out]; rfl, HBEL.out.trans (hb5.mono HBEL.out.size)⟩
      by_cases ha2 : 40 ≤ at'
      · have hf2 : f = 2 := by rw [HIF.out, if_pos (Or.inr ha2)]
        have HX4 : Hid (X = 2) := hide (by have := HX3.out; rw [hf2] at this; simpa using this.symm)
        clear hf2
        go_wp2_with (first
          | (refine wpList_load_part 49 C b (off + k * 34) rfl (.tmp 16) rfl rfl HIC.out Tryz.underlying49 rfl size_in HCL.out ?_)
          | (refine wpList_store_any3 49 Y C wr.heap.size rfl (.tmp 5) (.tmp 17) rfl rfl rfl rfl (Is.new wr _ _) size_in HYL.out HCL.out HONE.out ?_; intro w5 hi5 hw5; have hb5 : Below wr.heap.size wr w5 := (by rw [hw5]; exact below_row); clear hw5; have hc32 := HC32.out w5 hi5; have hc33 := HC33.out w5 hi5; have hz5 : wr.heap.size < w5.heap.size := hi5.lt))
        go_ret
        exact ⟨by rw [HX4.out]; rfl, HBEL.out.trans (hb5.mono HBEL.out.size)⟩
      have HKEY := hide (key_place tx at' HD12.out.1 HD12.out.2 (by omega) (by omega))
      have hhas := place_has (H := Unit) (.agg []) ah tx at' HD12.out.1 HD12.out.2 (by omega) HAG.out
      have HF1 : Hid (f = if (tx, at') ∈ ah then 6 else keysF ks) := hide (by rw [HIF.out, if_neg (by omega)])
      by_cases hm : (tx, at') ∈ ah
      · have hf6 : f = 6 := by rw [HF1.out, if_pos hm]
        have HX4 : Hid (X = 6) := hide (by have := HX3.out; rw [hf6] at this; simpa using this.symm)
        clear hf6
        have hmm : Maps.has (setP ah) (placeKey tx at') = true := by unfold setP; rw [hhas]; exact decide_eq_true hm
        clear hhas hm
        go_wp2_with (first
          | (refine wpList_load_part 49 C b (off + k * 34) rfl (.tmp 16) rfl rfl HIC.out Tryz.underlying49 rfl size_in HCL.out ?_)
          | (refine wpList_store_any3 49 Y C wr.heap.size rfl (.tmp 5) (.tmp 17) rfl rfl rfl rfl (Is.new wr _ _) size_in HYL.out HCL.out HONE.out ?_; intro w5 hi5 hw5; have hb5 : Below wr.heap.size wr w5 := (by rw [hw5]; exact below_row); clear hw5; have hc32 := HC32.out w5 hi5; have hc33 := HC33.out w5 hi5; have hz5 : wr.heap.size < w5.heap.size := hi5.lt)
          | (refine wpList_load_part 46 (vals tx ++ [.int .i64 at']) wr.heap.size 0 rfl (.tmp 31) rfl rfl (HP33.out w5 hi5) Tryz.underlying46 rfl size_place HPL.out ?_)
          | (at_lookup; refine wpList_lookup_own_unit _ rfl _ _ 85 rfl 46 86 place_keyed Tryz.underlying85 (zero_unit _) w.heap.size k (setP ah) rfl (map_below HOWN.out hb5) _ _ rfl HKEY.out ?_))
        go_ret
        exact ⟨by rw [HX4.out]; rfl, (HBEL.out.trans (hb5.mono HBEL.out.size)).alloc (Nat.le_trans HBEL.out.size hb5.size) _⟩
      · have hmm : Maps.has (setP ah) (placeKey tx at') = false := by unfold setP; rw [hhas]; exact decide_eq_false hm
        have HF2 : Hid (f = keysF ks) := hide (by rw [HF1.out, if_neg hm])
        have HMNE : Hid (w.heap.size ≠ wr.heap.size) := hide (by have := HOWN.out.lt; omega)
        clear hhas hm HF1 HIF
        cases hkf : decide (keysF ks = 0) with
        | true =>
          have hk0 : keysF ks = 0 := by simpa using hkf
          have HX4 : Hid (Tm.insF (ah ++ [(tx, at')]) ((R.drop (k + 1)).map InV.it) = X) := hide (by have := HX3.out; rw [HF2.out, hk0, if_pos rfl] at this; exact this)
          rw [hk0, show errV 0 = .nilIface from rfl] at HCK
          clear hkf hk0 HX3 HF2
          go_wp2_with (first
          | (refine wpList_load_part 49 C b (off + k * 34) rfl (.tmp 16) rfl rfl HIC.out Tryz.underlying49 rfl size_in HCL.out ?_)
          | (refine wpList_store_any3 49 Y C wr.heap.size rfl (.tmp 5) (.tmp 17) rfl rfl rfl rfl (Is.new wr _ _) size_in HYL.out HCL.out HONE.out ?_; intro w5 hi5 hw5; have hb5 : Below wr.heap.size wr w5 := (by rw [hw5]; exact below_row); clear hw5; have hc32 := HC32.out w5 hi5; have hc33 := HC33.out w5 hi5; have hz5 : wr.heap.size < w5.heap.size := hi5.lt)
          | (refine wpList_load_part 46 (vals tx ++ [.int .i64 at']) wr.heap.size 0 rfl (.tmp 31) rfl rfl (HP33.out w5 hi5) Tryz.underlying46 rfl size_place HPL.out ?_)
          | (at_lookup; refine wpList_lookup_own_unit _ rfl _ _ 85 rfl 46 86 place_keyed Tryz.underlying85 (zero_unit _) w.heap.size k (setP ah) rfl (map_below HOWN.out hb5) _ _ rfl HKEY.out ?_)
          | (refine wpList_load_part 46 (vals tx ++ [.int .i64 at']) wr.heap.size 0 rfl (.tmp 39) rfl rfl (HP33.out _ (hi5.alloc _)) Tryz.underlying46 rfl size_place HPL.out ?_)
          | (at_mapUpdate; refine wpList_mapUpdate_own _ rfl _ _ _ 85 rfl 46 86 place_keyed Tryz.underlying85 _ w.heap.size k (setP ah) rfl ((map_below HOWN.out hb5).alloc _) (by unfold maxLen; omega) _ _ _ rfl rfl HKEY.out (.agg []) [] unitElem_mk ?_; intro w6 hown6 hgrow6; have hi6 := tx_is_grown (hi5.alloc (.cells #[] 86)) hgrow6 (fun e => HMNE.out (Option.some.inj e)); have hc33b := HC33.out w6 hi6; have hb6 := below_map HBEL.out hb5 hgrow6)
          | (go_at_call 101; refine (HCK.out w6 hb6).mono ?_; rintro e w7 ⟨rfl, rfl⟩))
          go_roundw
          case rel =>
            refine ⟨k + 1, ah ++ [(tx, at')], by omega, by go_num, by rw [List.length_append, HAL.out]; rfl, fun p hp => ?_, hb6, by rw [setP_snoc]; exact hown6, HX4.out⟩
            rcases List.mem_append.1 hp with hp | hp
            · exact HAG.out p hp
            · obtain rfl := List.mem_singleton.1 hp
              exact ⟨HD12.out.1, HD12.out.2, by dsimp only; omega, by dsimp only; omega⟩
          case measure => simp [intOf]; omega
        | false =>
          have hk0 : keysF ks ≠ 0 := by simpa using hkf
          have hk4 : errV (keysF ks) = .iface 27 (.int .i64 (keysF ks)) := by unfold errV; rw [if_neg hk0]
          have HX4 : Hid (X = keysF ks) := hide (by have := HX3.out; rw [HF2.out, if_neg hk0] at this; exact this.symm)
          rw [hk4] at HCK
          have HK4 := hide hk4
          clear hkf hk0 hk4 HX3 HF2
          generalize keysF ks = kf at *
          go_wp2_with (first
          | (refine wpList_load_part 49 C b (off + k * 34) rfl (.tmp 16) rfl rfl HIC.out Tryz.underlying49 rfl size_in HCL.out ?_)
          | (refine wpList_store_any3 49 Y C wr.heap.size rfl (.tmp 5) (.tmp 17) rfl rfl rfl rfl (Is.new wr _ _) size_in HYL.out HCL.out HONE.out ?_; intro w5 hi5 hw5; have hb5 : Below wr.heap.size wr w5 := (by rw [hw5]; exact below_row); clear hw5; have hc32 := HC32.out w5 hi5; have hc33 := HC33.out w5 hi5; have hz5 : wr.heap.size < w5.heap.size := hi5.lt)
          | (refine wpList_load_part 46 (vals tx ++ [.int .i64 at']) wr.heap.size 0 rfl (.tmp 31) rfl rfl (HP33.out w5 hi5) Tryz.underlying46 rfl size_place HPL.out ?_)
          | (at_lookup; refine wpList_lookup_own_unit _ rfl _ _ 85 rfl 46 86 place_keyed Tryz.underlying85 (zero_unit _) w.heap.size k (setP ah) rfl (map_below HOWN.out hb5) _ _ rfl HKEY.out ?_)
          | (refine wpList_load_part 46 (vals tx ++ [.int .i64 at']) wr.heap.size 0 rfl (.tmp 39) rfl rfl (HP33.out _ (hi5.alloc _)) Tryz.underlying46 rfl size_place HPL.out ?_)
          | (at_mapUpdate; refine wpList_mapUpdate_own _ rfl _ _ _ 85 rfl 46 86 place_keyed Tryz.underlying85 _ w.heap.size k (setP ah) rfl ((map_below HOWN.out hb5).alloc _) (by unfold maxLen; omega) _ _ _ rfl rfl HKEY.out (.agg []) [] unitElem_mk ?_; intro w6 hown6 hgrow6; have hi6 := tx_is_grown (hi5.alloc (.cells #[] 86)) hgrow6 (fun e => HMNE.out (Option.some.inj e)); have hc33b := HC33.out w6 hi6; have hb6 := below_map HBEL.out hb5 hgrow6)
          | (go_at_call 101; refine (HCK.out w6 hb6).mono ?_; rintro e w7 ⟨rfl, rfl⟩))
          go_ret
          exact ⟨by rw [HX4.out, HK4.out]; rfl, hb6⟩
    · have hke : k = n := by omega
      rw [List.drop_eq_nil_of_le (by rw [HN.out]; omega), List.map_nil] at hx
      have HX2 : Hid (X = 0) := hide hx.symm
      have HB := hide hbel
      clear hx hown hbel
      go_wp2
      go_ret
      exact ⟨by rw [HX2.out]; rfl, HB.out⟩
end Go.Proofs.YtmjilohlchkicaaGreatDoor

/- tx.checkOuts, tx.Check. -/
namespace Go.Proofs.YtmjilohlchkicaaGreatDoor
open Go.RowKit
set_option linter.unusedVariables false
set_option linter.unusedSimpArgs false

set_option maxRecDepth 100000 in
set_option maxHeartbeats 1000000 in
theorem checkIns_any (R : List InV) (v : Value) (w : World) (h : HasIns w v R) (h40 : R.length ≤ 40) :
    Calls Tryz.prog 79 #[v] w fun e w' => e = .returned (errV (Tm.insF [] (R.map InV.it))) ∧ Below w.heap.size w w' := by
  rcases h.1 with ⟨a, cap, rfl, rfl⟩ | ⟨b, off, cap, rfl, h0, h1, h2, h3, hc⟩
  · have hmk := make_seen 0 w
    have hmk2 : (Instr.makeMap 85 (some (.int .i64 0))).run Tryz.prog w = .ok (.map (some w.heap.size)) (w.alloc (.map #[] 0)) := hmk
    clear hmk
    go_enter Tryz.func79, Tryz.ntmps79
    go_wp2
    refine wp_loop_rounds 1 ?_
    rw [rounds_succ]
    go_wp2
    go_ret
    exact ⟨rfl, below_alloc w _⟩
  · exact checkIns_some R b off cap w h0 h40 hc h3 h.2

set_option maxRecDepth 100000 in
set_option maxHeartbeats 2000000 in
theorem checkOuts_any (R : List OutV) (v : Value) (w : World) (h : HasOuts w v R) (h40 : R.length ≤ 40) :
    Calls Tryz.prog 80 #[v] w fun e w' => e = .returned (errV (Tm.outsF (R.map OutV.it))) ∧ Below w.heap.size w w' := by
  rcases h.1 with ⟨a, cap, rfl, rfl⟩ | ⟨b, off, cap, rfl, h0, h1, h2, h3, hc⟩
  · go_enter Tryz.func80, Tryz.ntmps80
    go_wp2
    refine wp_loop_rounds 1 ?_
    rw [rounds_succ]
    go_wp2
    go_ret
    exact ⟨rfl, Below.refl _ _⟩
  · have hOUT : ∀ k (hk : k < R.length), w.rangeAt b (off + k * 2) (outCell R[k]) := fun k hk => range_at hc (fun x hx => rfl) k hk
    have HOUT := hide hOUT
    have HBW := hide h3
    have HD := hide h.2
    obtain ⟨X, hX⟩ : ∃ X, Tm.outsF (R.map OutV.it) = X := ⟨_, rfl⟩
    have HX := hide hX
    rw [hX]
    clear hX hOUT hc h h1 h2 h3
    obtain ⟨n, hn⟩ : ∃ n, n = R.length := ⟨_, rfl⟩
    rw [← hn] at h0 h40 ⊢
    have HN : Hid (R.length = n) := hide hn.symm
    clear hn
    go_enter Tryz.func80, Tryz.ntmps80
    go_wp2
    go_loopw [9] (fun i wr => ∃ (k : Nat), k ≤ n ∧ i = .int .i64 k ∧ Below w.heap.size w wr ∧ Tm.outsF ((R.drop k).map OutV.it) = X) (fun i _ => n - (intOf i).toNat)
    case atStart => exact ⟨0, by omega, rfl, Below.refl _ _, by rw [List.drop_zero]; exact HX.out⟩
    case round =>
      obtain ⟨k, hk, rfl, hbel, hx⟩ := hrel
      by_cases hlt : k < n
      · have hkR : k < R.length := by rw [HN.out]; exact hlt
        have hin := range_keep (HOUT.out k hkR) hbel HBW.out
        have hops := HD.out R[k] (List.getElem_mem hkR)
        rw [List.drop_eq_getElem_cons hkR, List.map_cons] at hx
        have hx2 : (if Tm.outF R[k].it = 0 then Tm.outsF ((R.drop (k + 1)).map OutV.it) else Tm.outF R[k].it) = X := hx
        have hof : Tm.outF R[k].it = if Mo.chk R[k].amount = 0 then Lk.check (opsOf R[k].L) else Mo.chk R[k].amount := rfl
        have hc0 : wr.cell? ⟨b, off + k * 2, none⟩ = some (.int .i64 R[k].amount) := hin 0 _ rfl
        have hc1 : wr.cell? ⟨b, off + k * 2 + 1, none⟩ = some R[k].lv := hin 1 _ rfl
        obtain ⟨la, lc, hle⟩ : ∃ a c, R[k].lv = .slice a R[k].L.length c := by
          rcases hops.1 with ⟨a, c, e1, e2⟩ | ⟨b, off, c, e1, _⟩
          · exact ⟨a, c, by rw [e1, e2]; rfl⟩
          · exact ⟨_, c, e1⟩
        have HLC : Hid (∀ W, Below w.heap.size w W → Calls Tryz.prog 54 #[R[k].lv] W fun e w' => e = .returned (errV (Lk.check (opsOf R[k].L))) ∧ Below W.heap.size W w') := hide (fun W hW => check_any _ _ W (hops.below hW))
        rw [hle] at hc1 HLC
        have HX3 := hide hx2
        have HOF := hide hof
        have HBEL := hide hbel
        have hki : (k : Int) < (n : Int) := by omega
        have hb2 := below_alloc wr (.cells #[.int .i64 R[k].amount, .slice la R[k].L.length lc] 52)
        have hi2 := Is.new wr [.int .i64 R[k].amount, .slice la R[k].L.length lc] 52
        have HB2 := hide (hbel.trans (hb2.mono hbel.size))
        have HI2 := hide hi2
        have HMC := hide (mcheck_any R[k].amount (wr.alloc (.cells #[.int .i64 R[k].amount, .slice la R[k].L.length lc] 52)))
        have HLC2 := hide (HLC.out _ HB2.out)
        clear hin hops hx hx2 hof hle hb2 hi2 hbel HLC
        generalize R[k].amount = am at *
        generalize Tm.outF R[k].it = f at *
        generalize Lk.check (opsOf R[k].L) = c at *
        generalize R[k].L.length = ll at *
        by_cases hm : Mo.chk am = 0
        · rw [hm, show errV 0 = .nilIface from rfl] at HMC
          have HF : Hid (f = c) := hide (by rw [HOF.out, if_pos hm])
          clear hm HOF
          by_cases hc : c = 0
          · have HX4 : Hid (Tm.outsF ((R.drop (k + 1)).map OutV.it) = X) := hide (by have := HX3.out; rw [HF.out, hc, if_pos rfl] at this; exact this)
            rw [hc, show errV 0 = .nilIface from rfl] at HLC2
            clear hc HF HX3
            go_wp2_with fail
            refine HMC.out.mono ?_
            rintro e w1 ⟨rfl, rfl⟩
            go_wp2_with fail
            refine HLC2.out.mono ?_
            rintro e w2 ⟨rfl, hb2⟩
            have HB3 := hide (HB2.out.trans (hb2.mono HB2.out.size))
            clear hb2
            go_wp2
            go_roundw
            case rel => exact ⟨k + 1, by omega, by go_num, HB3.out, HX4.out⟩
            case measure => simp [intOf]; omega
          · have HX4 : Hid (X = c) := hide (by have := HX3.out; rw [HF.out, if_neg hc] at this; exact this.symm)
            have hce : errV c = .iface 27 (.int .i64 c) := by unfold errV; rw [if_neg hc]
            rw [hce] at HLC2
            have HCE := hide hce
            clear hc HF HX3 hce
            go_wp2_with fail
            refine HMC.out.mono ?_
            rintro e w1 ⟨rfl, rfl⟩
            go_wp2_with fail
            refine HLC2.out.mono ?_
            rintro e w2 ⟨rfl, hb2⟩
            have HB3 := hide (HB2.out.trans (hb2.mono HB2.out.size))
            clear hb2
            go_wp2
            go_ret
            exact ⟨by rw [HX4.out, HCE.out]; rfl, HB3.out⟩
        · have HF : Hid (f = Mo.chk am) := hide (by rw [HOF.out, if_neg hm])
          have hce : errV (Mo.chk am) = .iface 27 (.int .i64 (Mo.chk am)) := by unfold errV; rw [if_neg hm]
          have HX4 : Hid (X = Mo.chk am) := hide (by have := HX3.out; rw [HF.out, if_neg hm] at this; exact this.symm)
          rw [hce] at HMC
          have HCE := hide hce
          clear hm HF HX3 hce HOF
          generalize Mo.chk am = mc at *
          go_wp2_with fail
          refine HMC.out.mono ?_
          rintro e w1 ⟨rfl, rfl⟩
          go_wp2
          go_ret
          exact ⟨by rw [HX4.out, HCE.out]; rfl, HB2.out⟩
      · have hke : k = n := by omega
        rw [List.drop_eq_nil_of_le (by rw [HN.out]; omega), List.map_nil] at hx
        have HX2 : Hid (X = 0) := hide hx.symm
        have HB := hide hbel
        clear hx hbel
        go_wp2
        go_ret
        exact ⟨by rw [HX2.out]; rfl, HB.out⟩

set_option maxRecDepth 100000 in
set_option maxHeartbeats 2000000 in
theorem tcheck_any (t : TxV) (w : World) (h : HasTx w t) :
    Calls Tryz.prog 55 #[t.val] w fun e w' => e = .returned (errV (Tm.check t.it)) ∧ Below w.heap.size w w' := by
  obtain ⟨iv, ins, ov, outs, time⟩ := t
  obtain ⟨hi, ho⟩ := h
  obtain ⟨ia, ic, hie, him, _⟩ := hi.form
  obtain ⟨oa, oc, hoe, hom, _⟩ := ho.form
  simp only at hi ho hie hoe
  subst hie hoe
  unfold maxLen at him hom
  have hck : Tm.check (TxV.it ⟨.slice ia ins.length ic, ins, .slice oa outs.length oc, outs, time⟩) = if 40 < ins.length ∨ 40 < outs.length then 4 else if outs.length = 0 then 5 else if time < 0 ∨ 1073741824 < time then 2 else if Tm.insF [] (ins.map InV.it) = 0 then Tm.outsF (outs.map OutV.it) else Tm.insF [] (ins.map InV.it) := by
    unfold Tm.check TxV.it; simp only [List.length_map]
  rw [hck]
  show Calls Tryz.prog 55 #[.agg #[.slice ia ins.length ic, .slice oa outs.length oc, .int .i64 time]] w _
  have HB0 := hide (below_alloc w (.cells #[.slice ia ins.length ic, .slice oa outs.length oc, .int .i64 time] 26))
  have HI0 := hide (Is.new w [.slice ia ins.length ic, .slice oa outs.length oc, .int .i64 time] 26)
  by_cases h1 : 40 < ins.length
  · rw [if_pos (.inl h1), show errV 4 = .iface 27 (.int .i64 4) from rfl]
    have hi1 : (40 : Int) < (ins.length : Int) := by omega
    clear hi ho hck
    generalize ins.length = il at *
    generalize outs.length = ol at *
    go_enter Tryz.func55, Tryz.ntmps55
    go_wp2
    go_ret
    exact ⟨rfl, HB0.out⟩
  have hi1 : ¬ (40 : Int) < (ins.length : Int) := by omega
  have hi1d : decide ((40 : Int) < (ins.length : Int)) = false := decide_eq_false hi1
  by_cases h2 : 40 < outs.length
  · rw [if_pos (.inr h2), show errV 4 = .iface 27 (.int .i64 4) from rfl]
    have hi2 : decide ((40 : Int) < (outs.length : Int)) = true := decide_eq_true (by omega)
    clear hi ho hck h1
    generalize ins.length = il at *
    generalize outs.length = ol at *
    go_enter Tryz.func55, Tryz.ntmps55
    go_wp2
    go_ret
    exact ⟨rfl, HB0.out⟩
  have hi2d : decide ((40 : Int) < (outs.length : Int)) = false := decide_eq_false (by omega)
  rw [if_neg (by omega)]
  by_cases h3 : outs.length = 0
  · rw [if_pos h3, show errV 5 = .iface 27 (.int .i64 5) from rfl]
    have hi3 : ((outs.length : Int) == 0) = true := by rw [beq_iff_eq]; omega
    clear hi ho hck h1 h2 h3
    generalize ins.length = il at *
    generalize outs.length = ol at *
    go_enter Tryz.func55, Tryz.ntmps55
    go_wp2
    go_ret
    exact ⟨rfl, HB0.out⟩
  have hi3 : ((outs.length : Int) == 0) = false := by rw [beq_eq_false_iff_ne]; omega
  rw [if_neg h3]
  by_cases h4 : time < 0
  · rw [if_pos (.inl h4), show errV 2 = .iface 27 (.int .i64 2) from rfl]
    clear hi ho hck h1 h2 h3
    generalize ins.length = il at *
    generalize outs.length = ol at *
    go_enter Tryz.func55, Tryz.ntmps55
    go_wp2
    go_ret
    exact ⟨rfl, HB0.out⟩
  have hi4 : decide (time < 0) = false := decide_eq_false h4
  by_cases h5 : 1073741824 < time
  · rw [if_pos (.inr h5), show errV 2 = .iface 27 (.int .i64 2) from rfl]
    have hi5 : decide (1073741824 < time) = true := decide_eq_true h5
    clear hi ho hck h1 h2 h3
    generalize ins.length = il at *
    generalize outs.length = ol at *
    go_enter Tryz.func55, Tryz.ntmps55
    go_wp2
    go_ret
    exact ⟨rfl, HB0.out⟩
  have hi5 : decide (1073741824 < time) = false := decide_eq_false h5
  rw [if_neg (by omega)]
  have HCI := hide (checkIns_any ins _ _ (hi.below HB0.out) (by omega))
  have HCO : Hid (∀ W, Below w.heap.size w W → Calls Tryz.prog 80 #[.slice oa outs.length oc] W fun e w' => e = .returned (errV (Tm.outsF (outs.map OutV.it))) ∧ Below W.heap.size W w') := hide (fun W hW => checkOuts_any outs _ W (ho.below hW) (by omega))
  clear hi ho hck
  generalize Tm.insF [] (ins.map InV.it) = fi at *
  generalize Tm.outsF (outs.map OutV.it) = fo at *
  generalize ins.length = il at *
  generalize outs.length = ol at *
  by_cases h6 : fi = 0
  · subst h6
    rw [show errV 0 = .nilIface from rfl] at HCI
    rw [if_pos rfl]
    generalize errV fo = vo at *
    go_enter Tryz.func55, Tryz.ntmps55
    go_wp2_with fail
    refine HCI.out.mono ?_
    rintro e w1 ⟨rfl, hb1⟩
    have HB1 := hide (HB0.out.trans (hb1.mono (by simp)))
    have hi1 := HI0.out.below hb1 (by simp)
    have hc1 := hi1.cell 1
    simp only [List.getElem?_cons_zero, List.getElem?_cons_succ] at hc1
    have HC1 := hide (HCO.out w1 HB1.out)
    clear hb1 hi1
    go_wp2_with fail
    refine HC1.out.mono ?_
    rintro e w2 ⟨rfl, hb2⟩
    have HB2 := hide (HB1.out.trans (hb2.mono HB1.out.size))
    clear hb2
    go_wp2
    go_ret
    exact ⟨rfl, HB2.out⟩
  · have hce : errV fi = .iface 27 (.int .i64 fi) := by unfold errV; rw [if_neg h6]
    rw [if_neg h6, hce]
    rw [hce] at HCI
    clear hce h6
    go_enter Tryz.func55, Tryz.ntmps55
    go_wp2_with fail
    refine HCI.out.mono ?_
    rintro e w1 ⟨rfl, hb1⟩
    have HB1 := hide (HB0.out.trans (hb1.mono (by simp)))
    clear hb1
    go_wp2
    go_ret
    exact ⟨rfl, HB1.out⟩
end Go.Proofs.YtmjilohlchkicaaGreatDoor
