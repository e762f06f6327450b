/- The texts TxK, TxIi, one behind the other. -/
import Derived.Test.YtmjilohlchkicaaGreatDoorZTf
import Derived.Test.YtmjilohlchkicaaGreatDoorTxMa
import Derived.Test.YtmjilohlchkicaaGreatDoorZTs
import Derived.Laws.MakeOwn
import Derived.Test.YtmjilohlchkicaaGreatDoorZSh
import Derived.Test.YtmjilohlchkicaaGreatDoorZTw
/- tx.withoutKeys. -/
namespace Go.Proofs.YtmjilohlchkicaaGreatDoor
open Go.RowKit
set_option linter.unusedVariables false
set_option linter.unusedSimpArgs false

theorem made_list (z : Array Value) (s : Nat) (hs : z.size = s) (h0 : 0 < s) : ∀ n, (madeCells z (n * s)).toList = (List.replicate n z.toList).flatten := by
  have hm : ∀ m, (madeCells z m).toList = (List.range m).map (fun j => z[j % z.size]!) := fun m => by simp [madeCells]
  intro n
  induction n with
  | zero => simp [hm]
  | succ n ih =>
    rw [hm] at ih
    rw [hm, Nat.succ_mul, List.range_add, List.map_append, ih, List.replicate_succ', List.flatten_append]
    congr 1
    simp only [List.flatten_cons, List.flatten_nil, List.append_nil, List.map_map]
    apply List.ext_getElem
    · simp [hs]
    · intro i h1 h2
      have hi : i < s := by simpa using h1
      simp only [List.getElem_map, Function.comp, List.getElem_range, hs]
      rw [Nat.mul_comm n s, Nat.mul_add_mod, Nat.mod_eq_of_lt hi]
      simp [hs, hi]
/-- An in of nothing. -/
def zeroV : InV := ⟨List.replicate 32 0, 0, .slice none 0 0, []⟩
def bareV (x : InV) : InV := ⟨x.tx, x.at', .slice none 0 0, []⟩
theorem bareV_it (x : InV) : (bareV x).it = Tm.bareI x.it := rfl
theorem make_ins (n : Nat) (hn : n ≤ 40) (w : World) : (Instr.makeSlice 23 (.int .i64 (n : Int)) (.int .i64 (n : Int))).run Tryz.prog w = .ok (.slice (some ⟨w.heap.size, 0, none⟩) n n) (w.alloc (.cells (inCells (List.replicate n zeroV)).toArray 49)) := by
  have h : (Tryz.prog.info? 49).map (fun i => (i.zero, i.size, i.bytes)) = some (some (.agg (inCell zeroV).toArray), 34, 64) := by kernel_rfl
  cases hi : Tryz.prog.info? 49 with
  | none => rw [hi] at h; cases h
  | some i =>
    rw [hi] at h
    simp only [Option.map_some, Option.some.injEq, Prod.mk.injEq] at h
    obtain ⟨h1, h2, h3⟩ := h
    have hr := run_make (P := Tryz.prog) w 23 49 i _ Tryz.underlying23 hi h1 .i64 .i64 n n (by omega) (Int.le_refl _) (by rw [h3]; omega) (by omega)
    have hz : (Value.agg (inCell zeroV).toArray).cells.size = 34 := by simp [Value.cells, inCell, zeroV, vals]
    have hm := made_list (Value.agg (inCell zeroV).toArray).cells 34 hz (by omega) n
    have he : madeCells (Value.agg (inCell zeroV).toArray).cells ((n : Int).toNat * i.size) = (inCells (List.replicate n zeroV)).toArray := by
      apply Array.ext'
      rw [h2, Int.toNat_natCast, hm]
      simp [inCells, Value.cells]
    rw [hr, he]
    simp
theorem inCells_cons (x : InV) (r : List InV) : inCells (x :: r) = inCell x ++ inCells r := rfl
theorem inCells_app (a b : List InV) : inCells (a ++ b) = inCells a ++ inCells b := by simp [inCells]
/-- The first k have their places. -/
def someV (R : List InV) (k : Nat) : List InV := (R.take k).map bareV ++ List.replicate (R.length - k) zeroV
theorem someV_zero (R : List InV) : someV R 0 = List.replicate R.length zeroV := by simp [someV]
theorem someV_all (R : List InV) : someV R R.length = R.map bareV := by simp [someV]
theorem someV_len (R : List InV) (h : ∀ x ∈ R, x.tx.length = 32) (k : Nat) (hk : k ≤ R.length) : (inCells (someV R k)).length = R.length * 34 := by
  rw [inCells_length]
  · unfold someV; rw [List.length_append, List.length_map, List.length_take, List.length_replicate]; congr 1; omega
  · intro x hx
    rcases List.mem_append.1 hx with hx | hx
    · obtain ⟨y, hy, rfl⟩ := List.mem_map.1 hx
      exact h y (List.mem_of_mem_take hy)
    · rw [List.eq_of_mem_replicate hx]; simp [zeroV]
theorem someV_step (R : List InV) (h : ∀ x ∈ R, x.tx.length = 32) (k : Nat) (hk : k < R.length) : (inCells (someV R k)).take (k * 34) ++ (vals R[k].tx ++ [.int .i64 R[k].at']) ++ (inCells (someV R k)).drop (k * 34 + (vals R[k].tx ++ [Value.int .i64 R[k].at']).length) = inCells (someV R (k + 1)) := by
  have hl : (inCells ((R.take k).map bareV)).length = k * 34 := by
    rw [inCells_length _ (fun x hx => by obtain ⟨y, hy, rfl⟩ := List.mem_map.1 hx; exact h y (List.mem_of_mem_take hy)), List.length_map, List.length_take, Nat.min_eq_left (by omega)]
  have h32 := h R[k] (List.getElem_mem hk)
  have hpl : (vals R[k].tx ++ [Value.int .i64 R[k].at']).length = 33 := by simp [vals_length, h32]
  have e1 : inCells (someV R k) = inCells ((R.take k).map bareV) ++ (inCell zeroV ++ inCells (List.replicate (R.length - (k + 1)) zeroV)) := by
    unfold someV
    rw [inCells_app, show R.length - k = (R.length - (k + 1)) + 1 by omega, List.replicate_succ, inCells_cons]
  have e2 : inCells (someV R (k + 1)) = inCells ((R.take k).map bareV) ++ (inCell (bareV R[k]) ++ inCells (List.replicate (R.length - (k + 1)) zeroV)) := by
    unfold someV
    rw [List.take_succ_eq_append_getElem hk, List.map_append, List.append_assoc, inCells_app]; rfl
  rw [e1, e2, hpl, ← hl, List.take_left, ← List.drop_drop, List.drop_left, List.append_assoc]
  congr 1
  have e3 : inCell (bareV R[k]) = (vals R[k].tx ++ [.int .i64 R[k].at']) ++ [.slice none 0 0] := by simp [inCell, bareV]
  have e4 : inCell zeroV = (vals (List.replicate 32 0) ++ [.int .i64 0]) ++ [.slice none 0 0] := by simp [inCell, zeroV]
  have hz : (vals (List.replicate 32 0) ++ [Value.int .i64 0]).length = 33 := by simp [vals]
  rw [e3, e4, List.append_assoc, List.append_assoc _ [Value.slice none 0 0], ← hz, List.drop_left]
  simp only [List.append_assoc]

/-- Three blocks of the call's own. -/
structure WkS (w : World) (c1 c2 c3 : List Value) (W : World) : Prop where
  below : Below w.heap.size w W
  b1 : Is W w.heap.size c1 26
  b2 : Is W (w.heap.size + 1) c2 26
  b3 : Is W (w.heap.size + 2) c3 49
theorem WkS.call {w W W' : World} {c1 c2 c3 : List Value} (h : WkS w c1 c2 c3 W) (hb : Below W.heap.size W W') : WkS w c1 c2 c3 W' :=
  ⟨h.below.trans (hb.mono h.below.size), h.b1.below hb h.b1.lt, h.b2.below hb h.b2.lt, h.b3.below hb h.b3.lt⟩
theorem setCells_only {w : World} {g : Nat} : ∀ (cs : List Value) (off : Nat) (W : World), Only g w.heap.size w W → Only g w.heap.size w (W.setCells g off cs)
  | [], _, _, h => h
  | v :: r, off, W, h => setCells_only r (off + 1) _ (h.setCell (p := ⟨g, off, none⟩) (.inl rfl) v)
theorem But.cells (w : World) (g off : Nat) (cs : List Value) : But g w (w.setCells g off cs) := setCells_only cs off w (Only.refl _ _ _)

set_option maxRecDepth 100000 in
set_option maxHeartbeats 4000000 in
theorem withoutKeys_any (t : TxV) (w : World) (ht : HasTx w t) (h40 : t.ins.length ≤ 40) :
    Calls Tryz.prog 59 #[t.val] w fun e w' => ∃ T : TxV, e = .returned T.val ∧ T.it = Tm.bare t.it ∧ HasTx w' T ∧ (∃ a n c, T.iv = .slice a n c) ∧ (∃ a n c, T.ov = .slice a n c) ∧ Below w.heap.size w w' := by
  obtain ⟨iv, ins, ov, outs, time⟩ := t
  obtain ⟨hi, ho⟩ := ht
  obtain ⟨ia, ic, hie, him, hir⟩ := hi.form
  obtain ⟨oa, oc, hoe, hom, _⟩ := ho.form
  simp only at hi ho hie hoe hir h40
  subst hie hoe
  have hD := hi.2
  have HO := hide ho
  have HID := hide hD
  have HIR := hide hir
  have HIN32 := hide (fun (x : InV) (hx : x ∈ ins) => (hD x hx).1)
  unfold maxLen at him hom
  show Calls Tryz.prog 59 #[.agg #[.slice ia ins.length ic, .slice oa outs.length oc, .int .i64 time]] w _
  have hzi := zero_in
  obtain ⟨Y, hY⟩ : ∃ Y, Y = vals (List.replicate 32 0) ++ ([.int .i64 0, .slice none 0 0] : List Value) := ⟨_, rfl⟩
  rw [← hY] at hzi
  have hYl : Y.length = 34 := by rw [hY]; simp [vals]
  have hYp : ¬ Y = [] := by intro h; rw [h] at hYl; cases hYl
  have HYL := hide hYl
  have HST := hide (fun k (hk : k < ins.length) => someV_step ins HIN32.out k hk)
  have HSL := hide (fun k (hk : k ≤ ins.length) => someV_len ins HIN32.out k hk)
  have HSA := hide (someV_all ins)
  obtain ⟨cz, hcz⟩ : ∃ c, c = inCells (List.replicate ins.length zeroV) := ⟨_, rfl⟩
  have HCZ : Hid (cz = inCells (someV ins 0)) := hide (by rw [hcz, someV_zero])
  obtain ⟨il, hil⟩ : ∃ n, n = ins.length := ⟨_, rfl⟩
  have hmk : ∀ W, (Instr.makeSlice 23 (.int .i64 (il : Int)) (.int .i64 (il : Int))).run Tryz.prog W = .ok (.slice (some ⟨W.heap.size, 0, none⟩) il il) (W.alloc (.cells cz.toArray 49)) := fun W => by rw [hcz, hil]; exact make_ins _ h40 W
  have HIL := hide hil.symm
  rw [← hil] at him h40 HSL HIR HSA ⊢
  have HW0 : Hid (WkS w [.slice ia il ic, .slice oa outs.length oc, .int .i64 time] [.slice none 0 0, .slice none 0 0, .int .i64 0] cz (((w.alloc (.cells #[.slice ia il ic, .slice oa outs.length oc, .int .i64 time] 26)).alloc (.cells #[.slice none 0 0, .slice none 0 0, .int .i64 0] 26)).alloc (.cells cz.toArray 49))) := hide
    ⟨below_alloc3 w _ _ _, ((Is.new w [.slice ia il ic, .slice oa outs.length oc, .int .i64 time] 26).alloc _).alloc _, (Is.new' (w := w.alloc _) [.slice none 0 0, .slice none 0 0, .int .i64 0] 26 (by simp)).alloc _, Is.new' cz 49 (by simp)⟩
  clear hY hYl hcz hil hi ho hir hD
  generalize outs.length = ol at *
  go_enter Tryz.func59, Tryz.ntmps59
  go_wp2
  go_loopw [13] (fun i wr => ∃ k : Nat, k ≤ il ∧ i = .int .i64 k ∧ WkS w [.slice ia il ic, .slice oa ol oc, .int .i64 time] [.slice none 0 0, .slice none 0 0, .int .i64 0] (inCells (someV ins k)) wr) (fun i _ => il - (intOf i).toNat)
  case atStart => exact ⟨0, by omega, rfl, by rw [← HCZ.out]; exact HW0.out⟩
  case round =>
    obtain ⟨k, hk, rfl, hwk⟩ := hrel
    by_cases hlt : k < il
    · have hkI : k < ins.length := by rw [HIL.out]; exact hlt
      have HWK := hide hwk
      obtain ⟨b, off, rfl, hb1, hb2, hb3, hbr⟩ := HIR.out k hlt
      obtain ⟨d1, d2, d3⟩ := HID.out ins[k] (List.getElem_mem hkI)
      have hin := range_at (range_keep hbr hwk.below hb3) (fun x hx => inCell_length x (HID.out x hx).1) k hkI
      have hcl := inCell_length ins[k] d1
      have hone : ∀ v ∈ inCell ins[k], v.oneCell' = true := by
        intro v hv
        unfold inCell at hv
        rcases List.mem_append.1 hv with hv | hv
        · exact vals_one _ v hv
        · simp only [List.mem_cons, List.not_mem_nil, or_false] at hv
          rcases hv with rfl | rfl
          · rfl
          · obtain ⟨a, c, e, _⟩ := d3.form; rw [e]; rfl
      have hki : (k : Int) < (il : Int) := by omega
      have hstep := HST.out k hkI
      have hlen := HSL.out k hk
      obtain ⟨C, hC⟩ : ∃ C, C = inCell ins[k] := ⟨_, rfl⟩
      obtain ⟨PL, hPL⟩ : ∃ PL, PL = vals ins[k].tx ++ [Value.int .i64 ins[k].at'] := ⟨_, rfl⟩
      have hpc : ∀ (W : World) b, W.rangeAt b 0 C → W.rangeAt b 0 PL := fun W b h => by
        rw [hC] at h
        have := (place_cells h d1).1
        rw [hPL]; exact this
      have hp33 : PL.length = 33 := by rw [hPL, List.length_append, vals_length, d1]; rfl
      have hp1 : ∀ v ∈ PL, v.oneCell' = true := by
        intro v hv
        rw [hPL] at hv
        rcases List.mem_append.1 hv with hv | hv
        · exact vals_one _ v hv
        · rw [List.mem_singleton.1 hv]; rfl
      rw [← hC] at hin hcl hone
      rw [← hPL] at hstep
      have HIC := hide hin
      have HCL := hide hcl
      have HONE := hide hone
      have HPC := hide hpc
      have HP33 := hide hp33
      have HP1 := hide hp1
      have HSTP := hide hstep
      have HLEN := hide hlen
      have h34 : k * 34 + 33 ≤ il * 34 := by omega
      clear hwk hbr d1 d2 d3 hin hcl hone hC hb1 hb2 hPL hpc hp33 hp1 hstep hlen
      go_wp2_with (first
        | (refine wpList_load_part 49 C b (off + k * 34) rfl (.tmp 16) rfl rfl HIC.out Tryz.underlying49 rfl size_in HCL.out ?_)
        | (refine wpList_store_any3 49 Y C wr.heap.size rfl (.tmp 5) (.tmp 17) rfl rfl rfl rfl (Is.new wr _ _) size_in HYL.out HCL.out HONE.out ?_; intro w5 hi5 hw5; have hb5 : Below wr.heap.size wr w5 := (by rw [hw5]; exact below_row); have HWK5 := hide (HWK.out.call hb5); clear hw5)
        | (refine wpList_load_part 46 PL wr.heap.size 0 rfl (.tmp 20) rfl rfl (HPC.out _ _ (is_range hi5)) Tryz.underlying46 rfl size_place HP33.out ?_)
        | (refine wpList_store_part 46 (inCells (someV ins k)) PL (w.heap.size + 2) (k * 34) rfl (.tmp 23) (.tmp 21) rfl rfl rfl rfl HWK5.out.b3 size_place HP33.out (by rw [HLEN.out]; exact h34) HP1.out ?_))
      have hbt := But.cells w5 (w.heap.size + 2) (k * 34) PL
      have hi9 := is_cells PL (k * 34) _ w5 HWK5.out.b3 (by rw [HLEN.out, HP33.out]; exact h34)
      rw [HSTP.out] at hi9
      have HW9 : Hid (WkS w [.slice (some ⟨b, off, none⟩) il ic, .slice oa ol oc, .int .i64 time] [.slice none 0 0, .slice none 0 0, .int .i64 0] (inCells (someV ins (k + 1))) (w5.setCells (w.heap.size + 2) (k * 34) PL)) := hide
        ⟨HWK5.out.below.trans (hbt.under HWK5.out.below.size (by omega)), hbt.kept HWK5.out.b1 (by omega), hbt.kept HWK5.out.b2 (by omega), hi9⟩
      clear hbt hi9 hi5 hb5
      go_wp2
      go_roundw
      case rel => exact ⟨k + 1, by omega, by go_num, HW9.out⟩
      case measure => simp [intOf]; omega
    · have hke : k = il := by omega
      rw [hke, HSA.out] at hwk
      have HWK := hide hwk
      have HFB := hwk.b1.frozen
      have hcA := hwk.b1.cell 0
      simp only [List.getElem?_cons_zero, List.getElem?_cons_succ] at hcA
      have HWX : Hid (Is (wr.setCell ⟨w.heap.size, 0, none⟩ (.slice (some ⟨w.heap.size + 2, 0, none⟩) il il)) w.heap.size [.slice (some ⟨w.heap.size + 2, 0, none⟩) il il, .slice oa ol oc, .int .i64 time] 26) := hide (hwk.b1.set 0 _)
      have HWY : Hid (Is (wr.setCell ⟨w.heap.size, 0, none⟩ (.slice (some ⟨w.heap.size + 2, 0, none⟩) il il)) (w.heap.size + 1) [.slice none 0 0, .slice none 0 0, .int .i64 0] 26) := hide (hwk.b2.other _ _ (by show w.heap.size ≠ w.heap.size + 1; omega))
      have HWZ : Hid (Is (wr.setCell ⟨w.heap.size, 0, none⟩ (.slice (some ⟨w.heap.size + 2, 0, none⟩) il il)) (w.heap.size + 2) (inCells (ins.map bareV)) 49) := hide (hwk.b3.other _ _ (by show w.heap.size ≠ w.heap.size + 2; omega))
      have HBB := hide (hwk.below.setCell (p := ⟨w.heap.size, 0, none⟩) (Nat.le_refl _) (.slice (some ⟨w.heap.size + 2, 0, none⟩) il il))
      clear hwk hke
      go_wp2_with (first
        | (refine wpList_load_part 26 [.slice (some ⟨w.heap.size + 2, 0, none⟩) il il, .slice oa ol oc, .int .i64 time] w.heap.size 0 rfl (.tmp 1) rfl rfl (is_range HWX.out) Tryz.underlying26 rfl size_tx rfl ?_)
        | (refine wpList_store_any3 26 [.slice none 0 0, .slice none 0 0, .int .i64 0] [.slice (some ⟨w.heap.size + 2, 0, none⟩) il il, .slice oa ol oc, .int .i64 time] (w.heap.size + 1) rfl (.tmp 2) (.tmp 27) rfl rfl rfl rfl HWY.out size_tx rfl rfl (by intro v hv; simp only [List.mem_cons, List.not_mem_nil, or_false] at hv; rcases hv with rfl | rfl | rfl <;> rfl) ?_; intro w9 hi9 hw9; have hbr : But (w.heap.size + 1) (wr.setCell ⟨w.heap.size, 0, none⟩ (.slice (some ⟨w.heap.size + 2, 0, none⟩) il il)) w9 := (by rw [hw9]; exact But.row _ (w.heap.size + 1) _); clear hw9))
      have hz9 := hbr.kept HWZ.out (by omega)
      have hb9 := HBB.out.trans (hbr.under HBB.out.size (by omega))
      have hins : HasIns w9 (.slice (some ⟨w.heap.size + 2, 0, none⟩) il il) (ins.map bareV) := by
        refine ⟨?_, fun x hx => ?_⟩
        · by_cases h0 : il = 0
          · have hn : ins = [] := List.eq_nil_of_length_eq_zero (by rw [HIL.out]; exact h0)
            exact .inl ⟨_, il, by rw [h0], by rw [hn]; rfl⟩
          · exact .inr ⟨w.heap.size + 2, 0, il, by rw [List.length_map, HIL.out], by rw [List.length_map, HIL.out]; omega, by rw [List.length_map, HIL.out]; exact Nat.le_refl _, by unfold maxLen; omega, hz9.lt, is_range hz9⟩
        · obtain ⟨y, hy, rfl⟩ := List.mem_map.1 hx
          obtain ⟨e1, e2, e3⟩ := HID.out y hy
          exact ⟨e1, e2, .inl ⟨none, 0, rfl, rfl, Nat.zero_le _⟩, fun p hp => by cases hp⟩
      have hot : HasOuts w9 (.slice oa ol oc) outs := HO.out.below hb9
      exact bodyPost_ret (v := .agg #[.slice (some ⟨w.heap.size + 2, 0, none⟩) il il, .slice oa ol oc, .int .i64 time]) (results_cell1 Tryz.results59 rfl (hi9.cellsOfS Tryz.underlying26 (by kernel_rfl))) rfl
        ⟨⟨.slice (some ⟨w.heap.size + 2, 0, none⟩) il il, ins.map bareV, .slice oa ol oc, outs, time⟩, rfl, by simp [TxV.it, Tm.bare, bareV_it, Function.comp_def], ⟨hins, hot⟩, ⟨_, _, _, rfl⟩, ⟨_, _, _, rfl⟩, hb9⟩
end Go.Proofs.YtmjilohlchkicaaGreatDoor

/- tx.ID. -/
namespace Go.Proofs.YtmjilohlchkicaaGreatDoor
open Go.RowKit
set_option linter.unusedVariables false
set_option linter.unusedSimpArgs false

/-- The digest that ID tells. -/
def idOf (t : Tm.Tx) : List Int := if Tm.check t = 0 then Tm.id t else List.replicate 32 0
/-- The boxes of ID, and its hasher. -/
structure IdS (w : World) (c0 z : List Value) (g : Nat) (all : List Int) (W : World) : Prop where
  below : Below w.heap.size w W
  b1 : Is W w.heap.size c0 26
  b2 : Is W (w.heap.size + 1) z 44
  hash : Hash W g all
  hg : w.heap.size + 2 ≤ g
  tab : Tab W
theorem IdS.call {w W W' : World} {c0 z : List Value} {g : Nat} {all : List Int} (h : IdS w c0 z g all W) (hw : 2 < w.heap.size) (hb : Below W.heap.size W W') : IdS w c0 z g all W' :=
  ⟨h.below.trans (hb.mono h.below.size), h.b1.below hb h.b1.lt, h.b2.below hb h.b2.lt, h.hash.below hb h.hash.lt, h.hg, h.tab.below hb (by have := h.below.size; omega)⟩
theorem IdS.wrote {w W W' : World} {c0 z : List Value} {g : Nat} {all all' : List Int} (h : IdS w c0 z g all W) (hw : 2 < w.heap.size) (ho : Only g W.heap.size W W') (hh : Hash W' g all') : IdS w c0 z g all' W' :=
  have hbw : Below w.heap.size W W' := ho.below h.below.size (by have := h.hg; omega)
  ⟨h.below.trans hbw, h.b1.only ho h.b1.lt (by have := h.hg; omega), h.b2.only ho h.b2.lt (by have := h.hg; omega), hh, h.hg, h.tab.below hbw hw⟩
theorem own_one {w : World} (x : Int) : Has (w.alloc (.cells #[.int .u8 x] 5)) (.slice (some ⟨w.heap.size, 0, none⟩) 1 1) [x] := Own.byte w x

set_option maxRecDepth 100000 in
set_option maxHeartbeats 4000000 in
theorem tid_good (t : TxV) (w : World) (ht : HasTx w t) (hc : Tm.check t.it = 0) (hT : Tab w) (hw : 2 < w.heap.size) :
    Calls Tryz.prog 35 #[t.val] w fun e w' => e = .returned (.tuple #[.agg (vals (Tm.id t.it)).toArray, .nilIface]) ∧ Below w.heap.size w w' := by
  have HC := hide (fun W (hW : Below w.heap.size w W) => ht.below hW)
  have h40 : t.ins.length ≤ 40 := by have := (Tm.check_zero _ hc).1; simpa [TxV.it] using this
  have HCK := hide (fun W (hW : Below w.heap.size w W) => tcheck_any t W (ht.below hW))
  have HWK := hide (fun W (hW : Below w.heap.size w W) => withoutKeys_any t W (ht.below hW) h40)
  rw [hc, show errV 0 = .nilIface from rfl] at HCK
  have HCB := hide (Tm.check_bare t.it hc)
  have HBY := hide (Tm.bytes_byt _ (Tm.check_bare t.it hc) (Tm.bare_byt _ ht.byt))
  have HLE := hide (bytes_le _ (Tm.check_bare t.it hc) (Tm.bare_byt _ ht.byt))
  have HSL : Hid (([21] ++ Tm.bytes (Tm.bare t.it)).length < 1152921504606846976) := hide (by have := HLE.out; simp only [List.length_append, List.length_cons, List.length_nil]; omega)
  have hsum : Tm.id t.it = Sh.sum ([21] ++ Tm.bytes (Tm.bare t.it)) := rfl
  obtain ⟨D, hD⟩ : ∃ D, D = Tm.id t.it := ⟨_, rfl⟩
  have hDl : D.length = 32 := by rw [hD, hsum]; simp [Sh.sum, Sh.digest]
  rw [← hD] at hsum ⊢
  have HDS := hide hsum
  have HDL := hide hDl
  obtain ⟨Q, hQ⟩ : ∃ Q, Q = Tm.bare t.it := ⟨_, rfl⟩
  rw [← hQ] at HWK HCB HBY HLE HDS HSL
  obtain ⟨iv, ins, ov, outs, time⟩ := t
  obtain ⟨ia, ic, hie, him, _⟩ := ht.1.form
  obtain ⟨oa, oc, hoe, hom, _⟩ := ht.2.form
  simp only at hie hoe
  subst hie hoe
  unfold maxLen at him hom
  show Calls Tryz.prog 35 #[.agg #[.slice ia ins.length ic, .slice oa outs.length oc, .int .i64 time]] w _
  have HCK2 : Hid (∀ W, Below w.heap.size w W → Calls Tryz.prog 55 #[.agg #[.slice ia ins.length ic, .slice oa outs.length oc, .int .i64 time]] W fun e w' => e = .returned .nilIface ∧ Below W.heap.size W w') := HCK
  have HWK2 : Hid (∀ W, Below w.heap.size w W → Calls Tryz.prog 59 #[.agg #[.slice ia ins.length ic, .slice oa outs.length oc, .int .i64 time]] W fun e w' => ∃ T : TxV, e = .returned T.val ∧ T.it = Q ∧ HasTx w' T ∧ (∃ a n c, T.iv = .slice a n c) ∧ (∃ a n c, T.ov = .slice a n c) ∧ Below W.heap.size W w') := HWK
  have HT := hide hT
  have hzd := zero_dig
  obtain ⟨Z, hZ⟩ : ∃ Z, Z = vals (List.replicate 32 0) := ⟨_, rfl⟩
  rw [← hZ] at hzd
  have hZl : Z.length = 32 := by rw [hZ]; simp [vals]
  have hZp : ¬ Z = [] := by intro h; rw [h] at hZl; cases hZl
  have HZL := hide hZl
  clear HC HCK HWK hD hQ hZ hZl hsum hDl ht hc h40 hT
  generalize ins.length = il at *
  generalize outs.length = ol at *
  have HB0 := hide (below_alloc2 w (.cells #[.slice ia il ic, .slice oa ol oc, .int .i64 time] 26) (.cells Z.toArray 44))
  have HI0 := hide ((Is.new w [.slice ia il ic, .slice oa ol oc, .int .i64 time] 26).alloc (.cells Z.toArray 44))
  have HJ0 : Hid (Is ((w.alloc (.cells #[.slice ia il ic, .slice oa ol oc, .int .i64 time] 26)).alloc (.cells Z.toArray 44)) (w.heap.size + 1) Z 44) := Is.new' _ 44 (by simp)
  go_enter Tryz.func35, Tryz.ntmps35
  go_wp2_with fail
  refine (HCK2.out _ HB0.out).mono ?_
  rintro e w1 ⟨rfl, hb1⟩
  have HB1 := hide (HB0.out.trans (hb1.mono HB0.out.size))
  have HI1 := hide (HI0.out.below hb1 HI0.out.lt)
  have HJ1 := hide (HJ0.out.below hb1 HJ0.out.lt)
  clear hb1
  go_wp2_with fail
  refine (new_any w1).mono ?_
  rintro e w2 ⟨rfl, hh2, hb2⟩
  obtain ⟨g, hg⟩ : ∃ g, g = w1.heap.size := ⟨_, rfl⟩
  rw [← hg] at hh2 ⊢
  have HX2 : Hid (IdS w [.slice ia il ic, .slice oa ol oc, .int .i64 time] Z g [] w2) := hide
    ⟨HB1.out.trans (hb2.mono HB1.out.size), HI1.out.below hb2 HI1.out.lt, HJ1.out.below hb2 HJ1.out.lt, hh2, by have := HJ1.out.lt; omega, HT.out.below (HB1.out.trans (hb2.mono HB1.out.size)) hw⟩
  have HGL : Hid (g < w2.heap.size) := hide hh2.lt
  clear hg hh2 hb2 HI1 HJ1 HB1
  have HX3 := hide (HX2.out.call hw (below_alloc w2 (.cells #[.int .u8 21] 5)))
  have HHW := hide (hwrite_any g _ [] [21] _ HX3.out.hash HX3.out.tab (by have := HX3.out.hg; omega) (own_one (w := w2) 21) (fun b off n c e _ => by injection e with e1; injection e1 with e1; injection e1 with e1; have := HGL.out; omega) (fun x hx => by rw [List.mem_singleton.1 hx]; omega) (by simp))
  go_wp2_with fail
  refine HHW.out.mono ?_
  rintro e w3 ⟨rfl, hh3, ho3⟩
  have HX4 := hide (HX3.out.wrote hw ho3 hh3)
  rw [List.nil_append] at HX4
  have hc0 := HX4.out.b1.cell 0
  have hc1 := HX4.out.b1.cell 1
  have hc2 := HX4.out.b1.cell 2
  simp only [List.getElem?_cons_zero, List.getElem?_cons_succ] at hc0 hc1 hc2
  clear hh3 ho3 HHW HX2 HX3 HGL
  go_wp2_with fail
  refine (HWK2.out w3 HX4.out.below).mono ?_
  rintro e w4 ⟨T, rfl, hTi, hTt, hf1, hf2, hb4⟩
  have HX5 := hide (HX4.out.call hw hb4)
  have HWR := hide (written_any T w4 hTt (by rw [hTi]; exact HCB.out))
  rw [hTi] at HWR
  obtain ⟨iv2, ins2, ov2, outs2, tm2⟩ := T
  obtain ⟨ia2, in2, ic2, e1⟩ := hf1
  obtain ⟨oa2, on2, oc2, e2⟩ := hf2
  simp only at e1 e2
  subst e1 e2
  simp only [TxV.val] at HWR ⊢
  clear hc0 hc1 hc2 hb4 hTi hTt HX4
  go_wp2_with fail
  refine HWR.out.mono ?_
  rintro e w5 ⟨v5, rfl, ho5, hb5⟩
  have HX6 := hide (HX5.out.call hw hb5)
  have HHW := hide (hwrite_any g v5 [21] _ w5 HX6.out.hash HX6.out.tab (by have := HX6.out.hg; omega) (Own.has ho5) (fun b off n c e hn => by
    have h1 := ho5.block b (by rw [e]; rfl)
    have h2 := HX5.out.hash.lt
    omega) HBY.out (by have := HLE.out; simp only [List.length_cons, List.length_nil]; omega))
  obtain ⟨va5, vc5, rfl, _, _⟩ := ho5.form
  clear hb5 ho5 HWR
  generalize (Tm.bytes Q).length = bl at *
  go_wp2_with fail
  refine HHW.out.mono ?_
  rintro e w6 ⟨rfl, hh6, ho6⟩
  have HX7 := hide (HX6.out.wrote hw ho6 hh6)
  have HSU := hide (hsum_any g _ w6 HX7.out.hash HX7.out.tab (by have := HX7.out.hg; omega) HSL.out)
  rw [← HDS.out] at HSU
  clear hh6 ho6 HHW HX5 HX6
  go_wp2_with fail
  refine HSU.out.mono ?_
  rintro e w7 ⟨rfl, hb7⟩
  have HX8 := hide (HX7.out.call hw hb7)
  clear hb7 HSU HX7
  go_wp2_with (refine wpList_store_any3 44 Z (vals D) (w.heap.size + 1) rfl (.tmp 2) (.tmp 22) rfl rfl rfl rfl HX8.out.b2 size_dig HZL.out (by rw [vals_length]; exact HDL.out) (vals_one _) ?_; intro w9 hi9 hw9; have hbr : But (w.heap.size + 1) w7 w9 := (by rw [hw9]; exact But.row _ (w.heap.size + 1) _); clear hw9)
  have hr := hi9.cellsOf Tryz.underlying44 (by rw [vals_length, HDL.out]; exact size_dig)
  exact bodyPost_ret (v := .tuple #[.agg (vals D).toArray, .nilIface]) (results_cell2 Tryz.results35 rfl hr) rfl ⟨rfl, HX8.out.below.trans (hbr.under HX8.out.below.size (by omega))⟩

set_option maxRecDepth 100000 in
set_option maxHeartbeats 4000000 in
theorem tid_bad (t : TxV) (w : World) (ht : HasTx w t) (hc : Tm.check t.it ≠ 0) :
    Calls Tryz.prog 35 #[t.val] w fun e w' => e = .returned (.tuple #[.agg (vals (List.replicate 32 0)).toArray, errV (Tm.check t.it)]) ∧ Below w.heap.size w w' := by
  have HCK := hide (fun W (hW : Below w.heap.size w W) => tcheck_any t W (ht.below hW))
  have hV : errV (Tm.check t.it) = .iface 27 (.int .i64 (Tm.check t.it)) := by unfold errV; rw [if_neg hc]
  rw [hV] at HCK ⊢
  generalize Tm.check t.it = c at *
  obtain ⟨iv, ins, ov, outs, time⟩ := t
  obtain ⟨ia, ic, hie, him, _⟩ := ht.1.form
  obtain ⟨oa, oc, hoe, hom, _⟩ := ht.2.form
  simp only at hie hoe
  subst hie hoe
  unfold maxLen at him hom
  have HCK2 : Hid (∀ W, Below w.heap.size w W → Calls Tryz.prog 55 #[.agg #[.slice ia ins.length ic, .slice oa outs.length oc, .int .i64 time]] W fun e w' => e = .returned (.iface 27 (.int .i64 c)) ∧ Below W.heap.size W w') := HCK
  have hzd := zero_dig
  obtain ⟨Z, hZ⟩ : ∃ Z, Z = vals (List.replicate 32 0) := ⟨_, rfl⟩
  rw [← hZ] at hzd ⊢
  have hZl : Z.length = 32 := by rw [hZ]; simp [vals]
  have hZp : ¬ Z = [] := by intro h; rw [h] at hZl; cases hZl
  have hZ1 : ∀ v ∈ Z, v.oneCell' = true := by rw [hZ]; exact vals_one _
  have HZL := hide hZl
  have HZ1 := hide hZ1
  show Calls Tryz.prog 35 #[.agg #[.slice ia ins.length ic, .slice oa outs.length oc, .int .i64 time]] w _
  clear HCK hZ hZl hZ1 ht hc hV
  generalize ins.length = il at *
  generalize outs.length = ol at *
  have HB0 := hide (below_alloc2 w (.cells #[.slice ia il ic, .slice oa ol oc, .int .i64 time] 26) (.cells Z.toArray 44))
  have HJ0 : Hid (Is ((w.alloc (.cells #[.slice ia il ic, .slice oa ol oc, .int .i64 time] 26)).alloc (.cells Z.toArray 44)) (w.heap.size + 1) Z 44) := Is.new' _ 44 (by simp)
  go_enter Tryz.func35, Tryz.ntmps35
  go_wp2_with fail
  refine (HCK2.out _ HB0.out).mono ?_
  rintro e w1 ⟨rfl, hb1⟩
  have HB1 := hide (HB0.out.trans (hb1.mono HB0.out.size))
  have HJ1 := hide (HJ0.out.below hb1 HJ0.out.lt)
  clear hb1
  go_wp2_with (refine wpList_store_any3 44 Z Z (w.heap.size + 1) rfl (.tmp 2) (.tmp 10) rfl rfl rfl rfl HJ1.out size_dig HZL.out HZL.out HZ1.out ?_; intro w9 hi9 hw9; have hbr : But (w.heap.size + 1) w1 w9 := (by rw [hw9]; exact But.row _ (w.heap.size + 1) _); clear hw9)
  have hr := hi9.cellsOf Tryz.underlying44 (by rw [HZL.out]; exact size_dig)
  exact bodyPost_ret (v := .tuple #[.agg Z.toArray, .iface 27 (.int .i64 c)]) (results_cell2 Tryz.results35 rfl hr) rfl ⟨rfl, HB1.out.trans (hbr.under HB1.out.size (by omega))⟩
end Go.Proofs.YtmjilohlchkicaaGreatDoor
