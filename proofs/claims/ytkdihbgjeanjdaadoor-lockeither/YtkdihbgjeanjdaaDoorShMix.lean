/- The contract of mix: a block is brought into the eight words of a state, and nothing else that was there is turned. -/
import Derived.Test.YtkdihbgjeanjdaaDoorShSpread
namespace Go.Proofs.YtkdihbgjeanjdaaDoor
open Go.RowKit
set_option linter.unusedVariables false

/-- The table of the rounds' words, as the program's text lays it. -/
def Tab (w : World) : Prop := ∀ t, t < 64 → w.cell? ⟨1, t, none⟩ = some (.int .u32 (Sh.ks.getD t 0 : Nat))
theorem Tab.only {w w' : World} {g B : Nat} (h : Tab w) (k : Only g B w w') (hB : 1 < B) (hg : 1 < g) : Tab w' := fun t ht => by
  rw [World.cell?_of_block (w := w) (k.block 1 hB (by omega))]; exact h t ht
theorem Tab.below {w w' : World} {B : Nat} (h : Tab w) (k : Below B w w') (hB : 1 < B) : Tab w' := fun t ht => by
  rw [k.cell (p := ⟨1, t, none⟩) hB]; exact h t ht

theorem size_rest : Sized 88 64 := by unfold Sized; kernel_rfl
theorem size_u32 : Sized 85 1 := by unfold Sized; kernel_rfl
theorem agg_u32 (w : World) : (isAgg 85).run Tryd.prog w = .ok false w := by simp [isAgg, underlying, Tryd.underlying85]
theorem size_w64 : Sized 118 64 := by unfold Sized; kernel_rfl

set_option maxRecDepth 100000 in
set_option maxHeartbeats 400000 in
theorem mix_any (g : Nat) (s : Sh.St) (tail : List Value) (ty : TypeId) (l : List Int) (w : World) (hs : Is w g (wvals s.list ++ tail) ty) (hok : s.Ok) (hl : l.length = 64) (hb : Sz.Byt l) (ht : Tab w) (hg : 1 < g) :
    Calls Tryd.prog 48 #[.pointer (some ⟨g, 0, none⟩), .agg (vals l).toArray] w fun e w' => e = .returned (.tuple #[]) ∧ Is w' g (wvals (Sh.mix s l).list ++ tail) ty ∧ Only g w.heap.size w w' := by
  have hlt := hs.lt
  have HS := hide hs
  have HT := hide ht
  clear hs ht
  have hsp : ∀ w', Calls Tryd.prog 68 #[.agg (vals l).toArray] w' fun e w'' => e = .returned (.agg (wvals (Sh.sched l)).toArray) ∧ Below w'.heap.size w' w'' := fun w' => spread_any l w' hl hb
  have hWl := Sh.sched_length l
  have hWb := Sh.sched_lt l hb
  have hmx : Hid (Sh.mix s l = s.add (Sh.rnds s (Sh.sched l) 64)) := rfl
  generalize Sh.sched l = W at *
  have HSP := hide hsp
  have HWL := hide hWl
  have HWB := hide hWb
  clear hsp hWl hWb
  go_enter Tryd.func48, Tryd.ntmps48
  go_wp2_with (first
    | (go_at_call 68; refine (HSP.out _).mono ?_; rintro e w1 ⟨rfl, hb1⟩)
    | (refine wpList_load_arr 88 (vals l) w.heap.size (Is.new w _ _) Tryd.underlying88 size_rest (by rw [vals_length]; exact hl) rfl (.tmp 3) rfl rfl ?_)
    | (refine wpList_store_new 118 (wvals (List.replicate 64 0)) (wvals W) w1 size_w64 (by rw [wvals_length]; rfl) (by rw [wvals_length]; exact HWL.out) (wvals_one _) rfl (.tmp 4) (.tmp 20) rfl rfl rfl rfl ?_))
  have hb2 : Below w.heap.size w w1 := (below_alloc w _).trans (hb1.mono (by simp))
  have hb3 : Below w.heap.size w (w1.alloc (Obj.cells (wvals W).toArray 118)) := hb2.alloc hb2.size _
  have hs2 := HS.out.below hb3 hlt
  have ht2 := HT.out.below hb3 (by omega)
  have ho2 : Only g w.heap.size w (w1.alloc (Obj.cells (wvals W).toArray 118)) := .of_below hb3 (Nat.le_refl _)
  have hw2 := Is.new w1 (wvals W) 118
  have hsz : w.heap.size ≤ w1.heap.size := hb2.size
  generalize w1.alloc (Obj.cells (wvals W).toArray 118) = w2 at *
  clear hb1 hb2 hb3 HS HT
  have c0 : w2.cell? ⟨g, 0, none⟩ = some (.int .u32 (s.a : Nat)) := hs2.cell 0
  have c1 : w2.cell? ⟨g, 1, none⟩ = some (.int .u32 (s.b : Nat)) := hs2.cell 1
  have c2 : w2.cell? ⟨g, 2, none⟩ = some (.int .u32 (s.c : Nat)) := hs2.cell 2
  have c3 : w2.cell? ⟨g, 3, none⟩ = some (.int .u32 (s.d : Nat)) := hs2.cell 3
  have c4 : w2.cell? ⟨g, 4, none⟩ = some (.int .u32 (s.e : Nat)) := hs2.cell 4
  have c5 : w2.cell? ⟨g, 5, none⟩ = some (.int .u32 (s.f : Nat)) := hs2.cell 5
  have c6 : w2.cell? ⟨g, 6, none⟩ = some (.int .u32 (s.g : Nat)) := hs2.cell 6
  have c7 : w2.cell? ⟨g, 7, none⟩ = some (.int .u32 (s.h : Nat)) := hs2.cell 7
  have HS := hide hs2
  have HT := hide ht2
  have HO := hide ho2
  have HW := hide hw2
  clear hs2 ht2 ho2 hw2
  go_quiet (fail)
  clear c0 c1 c2 c3 c4 c5 c6 c7
  go_wp2_with (refine wpList_load_arr 118 (wvals W) w1.heap.size (w := w2.drewN _) HW.out Tryd.underlying118 size_w64 (by rw [wvals_length]; exact HWL.out) rfl (.tmp 4) rfl rfl ?_)
  go_loopw [5, 6, 7, 8, 9, 10, 11, 12, 54] (fun a b c d e f g' h i wr => ∃ (k : Nat) (st : Sh.St), k ≤ 64 ∧ st = Sh.rnds s W k ∧ i = .int .i64 k ∧ a = .int .u32 (st.a : Nat) ∧ b = .int .u32 (st.b : Nat) ∧ c = .int .u32 (st.c : Nat) ∧ d = .int .u32 (st.d : Nat) ∧
      e = .int .u32 (st.e : Nat) ∧ f = .int .u32 (st.f : Nat) ∧ g' = .int .u32 (st.g : Nat) ∧ h = .int .u32 (st.h : Nat) ∧ Is wr g (wvals s.list ++ tail) ty ∧ Tab wr ∧ Only g w.heap.size w wr) (fun _ _ _ _ _ _ _ _ i _ => 64 - (intOf i).toNat)
  case atStart => exact ⟨0, s, by omega, rfl, rfl, rfl, rfl, rfl, rfl, rfl, rfl, rfl, rfl, HS.out, HT.out, HO.out.trans ⟨rfl, rfl, rfl, Nat.le_refl _, fun _ _ _ => rfl⟩⟩
  case round =>
    obtain ⟨k, st, hk, hst, rfl, rfl, rfl, rfl, rfl, rfl, rfl, rfl, rfl, hs3, ht3, ho3⟩ := hrel
    clear HS HT HO
    have HS := hide hs3
    have HT := hide ht3
    have HO := hide ho3
    clear hs3 ht3 ho3
    by_cases hk64 : k < 64
    · have hix := wvals_get W k (by rw [HWL.out]; exact hk64)
      have hkc := HT.out k hk64
      have lw := HWB.out k
      have lk := Sh.ks_lt k
      have hok' := Sh.rnds_ok s W hok k
      have hnx : Hid (Sh.rnds s W (k + 1) = Sh.rnd (Sh.rnds s W k) (Sh.ks.getD k 0) (W.getD k 0)) := rfl
      rw [← hst] at hok' hnx
      obtain ⟨l1, l2, l3, l4, l5, l6, l7, l8⟩ := hok'
      clear hst
      generalize Sh.ks.getD k 0 = kk at *
      generalize W.getD k 0 = wk at *
      have HI := hide hix
      clear hix
      go_wp2_with (refine wpList_index_any 118 85 64 k (wvals W) (.int .u32 (wk : Nat)) Tryd.underlying118 size_u32 agg_u32 hk64 HI.out rfl (.tmp 53) (.tmp 54) rfl rfl rfl ?_)
      go_quiet ((go_at_call 69; exact Calls.quiet_of_same (turn_q _ _ _ (by decide) (by decide) (by assumption))))
      go_wp2_with (go_at_call 69; refine (turn_int _ _ _ (by decide) (by decide) (by assumption)).mono ?_; rintro e w' ⟨rfl, rfl⟩)
      go_roundw
      case rel =>
        refine ⟨k + 1, Sh.rnd st kk wk, by omega, hnx.out.symm, by go_num, ?_, rfl, rfl, rfl, ?_, rfl, rfl, rfl, HS.out, HT.out, HO.out.trans ⟨rfl, rfl, rfl, Nat.le_refl _, fun _ _ _ => rfl⟩⟩
        · rw [S1_bits _ l5, ch_bits _ _ _ l5 l6 l7, S0_bits _ l1, maj_bits _ _ _ l1 l2 l3]
          simp only [Sh.rnd]
          congr 1
          omega
        · rw [S1_bits _ l5, ch_bits _ _ _ l5 l6 l7]
          simp only [Sh.rnd]
          congr 1
          omega
      case measure => simp [intOf]; omega
    · have hk' : k = 64 := by omega
      have hok' := Sh.rnds_ok s W hok k
      rw [← hst] at hok'
      rw [hk'] at hst
      have HST := hide hst
      have hkn : ¬ (k : Int) < 64 := by omega
      clear hst hk' hk64 hk
      obtain ⟨wA, rfl⟩ : ∃ wA, wA = wr := ⟨_, rfl⟩
      go_wp2
      go_loopw [125] (fun i wr => ∃ k : Nat, k ≤ 8 ∧ i = .int .i64 k ∧ Is wr g (wvals (Sh.padd s st k) ++ tail) ty ∧ Only g w.heap.size w wr) (fun i _ => 8 - (intOf i).toNat)
      case atStart => exact ⟨0, by omega, rfl, HS.out, HO.out⟩
      case round =>
        obtain ⟨j, hj, rfl, hs4, ho4⟩ := hrel
        by_cases hj8 : j < 8
        · have hc := hs4.cell j
          rw [List.getElem?_append_left (by rw [wvals_length, Sh.padd_length]; exact hj8), wvals_get _ _ (by rw [Sh.padd_length]; exact hj8), Sh.padd_get _ _ _ hj8] at hc
          have hf := hs4.frozen j
          have hix := wvals_get st.list j hj8
          have lx := Sh.getD_lt (Sh.list_lt s hok) (by omega) j
          have ly := Sh.getD_lt (Sh.list_lt st hok') (by omega) j
          have hstep : Hid ((Sh.padd s st j).set j ((s.list.getD j 0 + st.list.getD j 0) % 4294967296) = Sh.padd s st (j + 1)) := Sh.padd_step s st j hj8
          generalize s.list.getD j 0 = x at *
          generalize hy : st.list.getD j 0 = y at *
          have HI := hide hix
          have H4 := hide hs4
          clear hix hs4 hy HS HT HO
          go_wp2_with (refine wpList_index_any 86 85 8 j (wvals st.list) (.int .u32 (y : Nat)) Tryd.underlying86 size_u32 agg_u32 hj8 HI.out rfl (.tmp 124) (.tmp 125) rfl rfl rfl ?_)
          go_region
          go_wp2
          go_roundw
          case rel =>
            refine ⟨j + 1, by omega, by go_num, ?_, (ho4.setCell (p := ⟨g, j, none⟩) (.inl rfl) _).drew⟩
            have h5 := (H4.out.set j (.int .u32 ((((x + y) % 4294967296 : Nat)) : Int))).drew
            rw [List.set_append_left _ _ (by rw [wvals_length, Sh.padd_length]; exact hj8)] at h5
            have e : (wvals (Sh.padd s st j)).set j (.int .u32 ((((x + y) % 4294967296 : Nat)) : Int)) = wvals (Sh.padd s st (j + 1)) := by
              rw [← hstep.out]; unfold wvals; rw [← List.map_set]
            rw [e] at h5
            exact h5
          case measure => simp [intOf]; omega
        · have hj' : j = 8 := by omega
          rw [hj', Sh.padd_all] at hs4
          have H4 := hide hs4
          have hjn : ¬ (j : Int) < 8 := by omega
          clear hs4 hj' hj8 hj
          go_wp2
          go_end0
          refine ⟨rfl, ?_, ho4⟩
          rw [hmx.out, ← HST.out]
          exact H4.out
end Go.Proofs.YtkdihbgjeanjdaaDoor
