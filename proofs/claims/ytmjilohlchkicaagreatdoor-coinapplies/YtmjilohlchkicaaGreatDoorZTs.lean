/- The texts TxEq, TxSr, TxSl, TxSt, one behind the other. -/
import Derived.Test.YtmjilohlchkicaaGreatDoorZTc
import Derived.Laws.StructEq
import Derived.Test.YtmjilohlchkicaaGreatDoorLkK
import Derived.Test.YtmjilohlchkicaaGreatDoorShEq
import Derived.Test.YtmjilohlchkicaaGreatDoorBytes
import Derived.WalkLawsBesides
import Derived.Deep.RegionHeld2
import Derived.Deep.QuietTactic
import Derived.BigQuiet
/- Two places compared. -/
namespace Go.Proofs.YtmjilohlchkicaaGreatDoor
open Go.RowKit
set_option linter.unusedVariables false
set_option linter.unusedSimpArgs false

theorem dig_eqD (d D : Nat) (hD : D = d + 2) (A B : List Int) (hA : A.length = 32) (hB : B.length = 32) (w : World) : (Op.equalIn D 44 (.agg (vals A).toArray) (.agg (vals B).toArray)).run Tryz.prog w = .ok (decide (A = B)) w := by
  subst hD
  obtain ⟨i, hi, hz, hs, hby⟩ := info_u8
  rw [run_equalIn_array w (d + 1) _ _ Tryz.underlying44 hi, cells_u8, eqItems_u8 d A B w (List.range 32) (fun i hi => by simp at hi; omega), ← all_range A B (by omega), hA]
theorem int_eqD (d D : Nat) (hD : D = d + 1) (a b : Int) (w : World) : (Op.equalIn D 3 (.int .i64 a) (.int .i64 b)).run Tryz.prog w = .ok (a == b) w := by
  subst hD
  exact run_equalIn_int w d 3 .i64 .i64 a b Tryz.underlying3
theorem struct_eqD (d D : Nat) (hD : D = d + 1) (xs ys : Array Value) (w : World) : (Op.equalIn D 46 (.agg xs) (.agg ys)).run Tryz.prog w = (Op.eqFields d xs ys (Tryz.prog.fieldsOf 46).toList).run Tryz.prog w := by
  subst hD
  have hS : Tryz.prog.underlying 46 = some (.struct (Tryz.prog.fieldsOf 46)) := by kernel_rfl
  exact run_equalIn_struct w d 46 _ _ hS (by kernel_rfl)
theorem part_dig (A : List Int) (R : List Value) (hA : A.length = 32) (w : World) : (part 44 (vals A ++ R).toArray 0).run Tryz.prog w = .ok (.agg (vals A).toArray) w := by
  have hs : (Tryz.prog.info? 44).map (·.size) = some 32 := size_dig
  cases hi : Tryz.prog.info? 44 with
  | none => rw [hi] at hs; cases hs
  | some i =>
    rw [hi] at hs
    simp only [Option.map_some, Option.some.injEq] at hs
    have hz : (sizeOf 44).run Tryz.prog w = .ok 32 w := by rw [run_sizeOf w hi, ← hs]; simp [Program.cellsOf, hi]
    have he : (vals A ++ R).toArray.extract 0 (0 + 32) = (vals A).toArray := by
      apply Array.ext'
      rw [Array.toList_extract]
      simp [List.extract, vals_length, hA]
    unfold part
    simp only [Sem.run_bind]
    rw [show (isAgg 44).run Tryz.prog w = .ok true w by simp [isAgg, run_underlying Tryz.underlying44]]
    simp only [Result.andThen_ok, if_true, Sem.run_bind, hz, Sem.run_pure, he]
theorem part_at (A : List Int) (x : Int) (hA : A.length = 32) (w : World) : (part 3 (vals A ++ [Value.int .i64 x]).toArray 32).run Tryz.prog w = .ok (.int .i64 x) w := by
  have hg : (vals A ++ [Value.int .i64 x]).toArray[32]? = some (.int .i64 x) := by
    rw [List.getElem?_toArray, List.getElem?_append_right (by rw [vals_length, hA]; omega), vals_length, hA]; rfl
  simp [part, isAgg, run_underlying Tryz.underlying3, hg]
theorem place_eqD (d D : Nat) (hD : D = d + 3) (A B : List Int) (x y : Int) (hA : A.length = 32) (hB : B.length = 32) (w : World) : (Op.equalIn D 46 (.agg (vals A ++ [Value.int .i64 x]).toArray) (.agg (vals B ++ [Value.int .i64 y]).toArray)).run Tryz.prog w = .ok (decide (A = B ∧ x = y)) w := by
  obtain ⟨d1, h1⟩ : ∃ d1, d1 = d + 2 := ⟨_, rfl⟩
  obtain ⟨d2, h2⟩ : ∃ d2, d2 = d + 1 := ⟨_, rfl⟩
  rw [struct_eqD d1 D (by omega)]
  simp only [Program.fieldsOf, Tryz.underlying46]
  simp only [Op.eqFields]
  rw [if_pos (show "Tx" ≠ "_" by decide), if_pos (show "At" ≠ "_" by decide)]
  simp only [Sem.run_bind]
  rw [part_dig A [Value.int .i64 x] hA w]
  simp only [Result.andThen_ok]
  rw [part_dig B [Value.int .i64 y] hB w]
  simp only [Result.andThen_ok]
  rw [dig_eqD d d1 h1 A B hA hB w]
  simp only [Result.andThen_ok]
  by_cases hab : A = B
  · have hd : decide (A = B) = true := decide_eq_true hab
    rw [hd]
    have hxy : decide (A = B ∧ x = y) = (x == y) := by
      by_cases h2 : x = y
      · rw [decide_eq_true ⟨hab, h2⟩, beq_iff_eq.2 h2]
      · rw [decide_eq_false (fun h => h2 h.2), beq_eq_false_iff_ne.2 h2]
    rw [hxy]
    simp only [Bool.not_true, Bool.false_eq_true, if_false, Sem.run_bind]
    rw [part_at A x hA w]
    simp only [Result.andThen_ok]
    rw [part_at B y hB w]
    simp only [Result.andThen_ok]
    rw [int_eqD d2 d1 (by omega) x y w]
    simp only [Result.andThen_ok]
    cases x == y <;> simp
  · have hd : decide (A = B) = false := decide_eq_false hab
    rw [hd, decide_eq_false (fun h => hab h.1)]
    simp
/-- Two places are held against each other. -/
theorem place_eq (A B : List Int) (x y : Int) (hA : A.length = 32) (hB : B.length = 32) (w : World) : (Op.equalIn 10000 46 (.agg (vals A ++ [Value.int .i64 x]).toArray) (.agg (vals B ++ [Value.int .i64 y]).toArray)).run Tryz.prog w = .ok (decide (A = B ∧ x = y)) w :=
  place_eqD 9997 10000 rfl A B x y hA hB w
theorem guard_place : Tryz.prog.eqGuardType Tryz.prog.depth 46 = false := by kernel_rfl
end Go.Proofs.YtmjilohlchkicaaGreatDoor

/- moneyersame's Rows, Lock: whether two lists are the same. -/
namespace Go.Proofs.YtmjilohlchkicaaGreatDoor
open Go.RowKit
set_option linter.unusedVariables false
set_option linter.unusedSimpArgs false

theorem sm_cell {w w' : World} {a : Addr} {v : Value} (h : w.cell? a = some v) (hb : Below w.heap.size w w') : w'.cell? a = some v := by rw [hb.cell (p := a) (World.block_lt_of_cell? w a h)]; exact h
theorem sm_take {α : Type} {a b : List α} {k : Nat} (ha : k < a.length) (hb : k < b.length) (h : a.take k = b.take k) (hx : a[k] = b[k]) : a.take (k + 1) = b.take (k + 1) := by
  rw [List.take_succ_eq_append_getElem ha, List.take_succ_eq_append_getElem hb, h, hx]
theorem sm_end {α : Type} {a b : List α} {k : Nat} (ha : a.length = k) (hb : b.length = k) (h : a.take k = b.take k) : a = b := by
  rwa [List.take_of_length_le (by omega), List.take_of_length_le (by omega)] at h
theorem keys_form {w : World} {v : Value} {K : List (List Int × Value)} (h : HasKeys w v K) : ∃ a cap, v = .slice a K.length cap ∧ cap ≤ maxLen ∧ K.length ≤ maxLen ∧ ∀ k (hk : k < K.length), ∃ b off, a = some ⟨b, off, none⟩ ∧ K.length ≤ cap ∧ b < w.heap.size ∧ w.cell? ⟨b, off + k, none⟩ = some K[k].2 := by
  rcases h.1 with ⟨a, cap, rfl, rfl, hc⟩ | ⟨b, off, cap, rfl, h0, h1, h2, h3, hc⟩
  · exact ⟨a, cap, rfl, hc, by simp, fun k hk => absurd hk (by simp)⟩
  · exact ⟨_, cap, rfl, h2, by omega, fun k hk => ⟨b, off, rfl, h1, h3, hc k _ (by rw [List.getElem?_map, List.getElem?_eq_getElem hk]; rfl)⟩⟩
theorem ops_form {w : World} {v : Value} {L : List (Lk.Op × Value)} (h : HasOps w v L) : ∃ a cap, v = .slice a L.length cap ∧ L.length ≤ maxLen ∧ ∀ k (hk : k < L.length), ∃ b off, a = some ⟨b, off, none⟩ ∧ L.length ≤ cap ∧ cap ≤ maxLen ∧ b < w.heap.size ∧ w.cell? ⟨b, off + k * 3, none⟩ = some (.int .i64 L[k].1.op) ∧ w.cell? ⟨b, off + k * 3 + 1, none⟩ = some (.int .i64 L[k].1.n) ∧ w.cell? ⟨b, off + k * 3 + 2, none⟩ = some L[k].2 := by
  rcases h.1 with ⟨a, cap, rfl, rfl⟩ | ⟨b, off, cap, rfl, h0, h1, h2, h3, hc⟩
  · exact ⟨a, cap, rfl, by simp, fun k hk => absurd hk (by simp)⟩
  · refine ⟨_, cap, rfl, by omega, fun k hk => ?_⟩
    obtain ⟨g0, g1, g2⟩ := opCells_get L k hk
    exact ⟨b, off, rfl, h1, h2, h3, hc _ _ g0, by rw [Nat.add_assoc]; exact hc _ _ g1, by rw [Nat.add_assoc]; exact hc _ _ g2⟩

end Go.Proofs.YtmjilohlchkicaaGreatDoor

/- moneyersame's Lock: whether two locks are the same. -/
namespace Go.Proofs.YtmjilohlchkicaaGreatDoor
open Go.RowKit
set_option linter.unusedVariables false
set_option linter.unusedSimpArgs false

theorem op_same {a b : Lk.Op} : a = b ↔ a.data = b.data ∧ a.op = b.op ∧ a.n = b.n := by
  cases a; cases b
  simp only [Lk.Op.mk.injEq]
  exact ⟨fun ⟨h1, h2, h3⟩ => ⟨h3, h1, h2⟩, fun ⟨h3, h1, h2⟩ => ⟨h1, h2, h3⟩⟩

set_option maxRecDepth 100000 in
set_option maxHeartbeats 4000000 in
theorem lockSame_any (v1 v2 : Value) (K1 K2 : List (Lk.Op × Value)) (w : World) (h1 : HasOps w v1 K1) (h2 : HasOps w v2 K2) :
    Calls Tryz.prog 26 #[v1, v2] w fun e w' => ∃ b, e = .returned (.bool b) ∧ (b = true ↔ opsOf K1 = opsOf K2) ∧ Below w.heap.size w w' := by
  obtain ⟨a1, d1, rfl, l1, f1⟩ := ops_form h1
  obtain ⟨a2, d2, rfl, l2, f2⟩ := ops_form h2
  have HF1 := hide f1
  have HF2 := hide f2
  have HH1 := hide h1
  have HH2 := hide h2
  unfold maxLen at l1 l2
  clear f1 f2 h1 h2
  by_cases hl : K1.length = K2.length
  · rw [← hl] at l2 ⊢
    have HL := hide hl
    obtain ⟨n, hn⟩ : ∃ n, n = K1.length := ⟨_, rfl⟩
    rw [← hn] at l1 l2 ⊢
    have HN := hide hn.symm
    have hne : ((n : Int) != (n : Int)) = false := by simp
    clear hl hn
    go_enter Tryz.func26, Tryz.ntmps26
    go_wp2
    go_loopw [5, 6] (fun i s wr => ∃ k : Nat, k ≤ n ∧ i = .int .i64 k ∧ (opsOf K1).take k = (opsOf K2).take k ∧ Below w.heap.size w wr) (fun i _ _ => n - (intOf i).toNat)
    case atStart => exact ⟨0, Nat.zero_le _, rfl, by simp, Below.refl _ _⟩
    case round =>
      obtain ⟨k, hk, rfl, heq, hbel⟩ := hrel
      have HBEL := hide hbel
      have HEQ := hide heq
      by_cases hlt : k < n
      · have k1 : k < K1.length := by rw [HN.out]; exact hlt
        have k2 : k < K2.length := by rw [← HL.out]; exact k1
        have hki : (k : Int) < (n : Int) := by omega
        obtain ⟨b1, o1, rfl, hc1, hm1, hb1, hq1, hr1, hx1⟩ := HF1.out k k1
        obtain ⟨b2, o2, rfl, hc2, hm2, hb2, hq2, hr2, hx2⟩ := HF2.out k k2
        rw [HN.out] at hc1
        rw [← HL.out, HN.out] at hc2
        have hck1 : wr.drew.cell? ⟨b1, o1 + k * 3 + 2, none⟩ = some K1[k].2 := sm_cell hx1 hbel.drew
        have hck2 : wr.drew.cell? ⟨b2, o2 + k * 3 + 2, none⟩ = some K2[k].2 := sm_cell hx2 hbel.drew
        have HQ1 := hide hq1
        have HQ2 := hide hq2
        have HR1 := hide hr1
        have HR2 := hide hr2
        have y1 := (HH1.out.2 K1[k] (List.getElem_mem k1)).1
        have y2 := (HH2.out.2 K2[k] (List.getElem_mem k2)).1
        obtain ⟨s1, c1, e1, _, _⟩ := y1.shape
        obtain ⟨s2, c2, e2, _, _⟩ := y2.shape
        have HBC : Hid (∀ W, Below w.heap.size w W → Calls Tryz.prog 43 #[K1[k].2, K2[k].2] W fun e w' => e = .returned (.bool (sameB K1[k].1.data K2[k].1.data)) ∧ Below W.heap.size W w') := hide (fun W hW => bytes_any _ _ _ _ W (y1.below hW) (y2.below hW))
        rw [e1] at hck1 HBC
        rw [e2] at hck2 HBC
        have z1 : k < (opsOf K1).length := by rw [opsOf_length]; exact k1
        have z2 : k < (opsOf K2).length := by rw [opsOf_length]; exact k2
        have hxx : (opsOf K1)[k] = K1[k].1 := by simp [opsOf]
        have hyy : (opsOf K2)[k] = K2[k].1 := by simp [opsOf]
        have HNO : Hid (¬ K1[k].1 = K2[k].1 → ¬ opsOf K1 = opsOf K2) := hide (fun h1 h2 => h1 (by rw [← hxx, ← hyy]; simp [h2]))
        have HSO : Hid (K1[k].1 = K2[k].1 → (opsOf K1).take (k + 1) = (opsOf K2).take (k + 1)) := hide (fun h => sm_take z1 z2 HEQ.out (by rw [hxx, hyy, h]))
        have HOS := hide (@op_same K1[k].1 K2[k].1)
        clear heq hbel hb1 hb2 hx1 hx2 y1 y2 e1 e2 hxx hyy hq1 hq2 hr1 hr2 hm1 hm2
        by_cases hx : K1[k].1.data = K2[k].1.data
        · have hs : sameB K1[k].1.data K2[k].1.data = true := by unfold sameB; exact decide_eq_true hx
          rw [hs] at HBC
          have HX := hide hx
          clear hx hs
          generalize K1[k].1.data.length = n1 at *
          generalize K2[k].1.data.length = n2 at *
          by_cases hop : K1[k].1.op = K2[k].1.op
          · have hopd : (K1[k].1.op != K2[k].1.op) = false := by rw [bne_eq_false_iff_eq]; exact hop
            have HOP := hide hop
            clear hop
            by_cases hnn : K1[k].1.n = K2[k].1.n
            · have hnd : (K1[k].1.n != K2[k].1.n) = false := by rw [bne_eq_false_iff_eq]; exact hnn
              have HALL : Hid (K1[k].1 = K2[k].1) := hide (HOS.out.2 ⟨HX.out, HOP.out, hnn⟩)
              clear hnn HOS HOP HX
              have HGO := hide (HSO.out HALL.out)
              clear HSO HALL HNO
              generalize K1[k].1.op = op1 at *
              generalize K2[k].1.op = op2 at *
              generalize K1[k].1.n = no1 at *
              generalize K2[k].1.n = no2 at *
              go_wp2
              refine wp_region_held_drew (S := fun W : World => Below w.heap.size w W ∧ W.cell? ⟨b1, o1 + k * 3 + 2, none⟩ = some (.slice s1 n1 c1) ∧ W.cell? ⟨b2, o2 + k * 3 + 2, none⟩ = some (.slice s2 n2 c2)) (by kernel_rfl) ?_ (fun hHeld0 => ?_)
              · exact ⟨HBEL.out.drew, hck1, hck2⟩
              refine wpAnyH_take (i := 0) (v := ?_) rfl (by kernel_rfl) (by kernel_rfl) (by kernel_rfl) (fun _ _ _ h => h) (Or.inl ⟨by rfl, ?_⟩) hHeld0 ?_
              rotate_left
              · (intro w hSw; (try dsimp only at hSw); go_simp <;> (try with_reducible rfl))
              simp only [Act.put, List.getElem_toArray, List.getElem_cons_zero, List.getElem_cons_succ, List.setIfInBounds_toArray, List.set_cons_zero, List.set_cons_succ]
              refine wpAnyH_take (i := 1) (v := ?_) rfl (by kernel_rfl) (by kernel_rfl) (by kernel_rfl) (fun _ _ _ h => h) (Or.inl ⟨by rfl, ?_⟩) hHeld0 ?_
              rotate_left
              · (intro w hSw; (try dsimp only at hSw); go_simp <;> (try with_reducible rfl))
              simp only [Act.put, List.getElem_toArray, List.getElem_cons_zero, List.getElem_cons_succ, List.setIfInBounds_toArray, List.set_cons_zero, List.set_cons_succ]
              refine wpAnyH_take (i := 2) (v := ?_) rfl (by kernel_rfl) (by kernel_rfl) (by kernel_rfl) (fun _ _ _ h => h) (Or.inl ⟨by rfl, ?_⟩) hHeld0 ?_
              rotate_left
              · (intro w hSw; (try dsimp only at hSw); go_simp <;> (try with_reducible rfl))
              simp only [Act.put, List.getElem_toArray, List.getElem_cons_zero, List.getElem_cons_succ, List.setIfInBounds_toArray, List.set_cons_zero, List.set_cons_succ]
              refine wpAnyH_take (i := 3) (v := ?_) rfl (by kernel_rfl) (by kernel_rfl) (by kernel_rfl) (fun _ _ _ h => h) (Or.inl ⟨by rfl, ?_⟩) hHeld0 ?_
              rotate_left
              · (intro w hSw; (try dsimp only at hSw); go_simp <;> (try with_reducible rfl))
              simp only [Act.put, List.getElem_toArray, List.getElem_cons_zero, List.getElem_cons_succ, List.setIfInBounds_toArray, List.set_cons_zero, List.set_cons_succ]
              refine wpAnyH_take (i := 4) (v := ?_) rfl (by kernel_rfl) (by kernel_rfl) (by kernel_rfl) (fun _ _ _ h => h) (Or.inl ⟨by rfl, ?_⟩) hHeld0 ?_
              rotate_left
              · (intro w hSw; (try dsimp only at hSw); go_simp <;> (try with_reducible rfl))
              simp only [Act.put, List.getElem_toArray, List.getElem_cons_zero, List.getElem_cons_succ, List.setIfInBounds_toArray, List.set_cons_zero, List.set_cons_succ]
              refine wpAnyH_take (i := 5) (v := ?_) rfl (by kernel_rfl) (by kernel_rfl) (by kernel_rfl) (fun _ _ _ h => h) (Or.inl ⟨by rfl, ?_⟩) hHeld0 ?_
              rotate_left
              · (intro w hSw; (try dsimp only at hSw); go_simp <;> (try with_reducible rfl))
              simp only [Act.put, List.getElem_toArray, List.getElem_cons_zero, List.getElem_cons_succ, List.setIfInBounds_toArray, List.set_cons_zero, List.set_cons_succ]
              refine wpAnyH_take (i := 6) (v := ?_) rfl (by kernel_rfl) (by kernel_rfl) (by kernel_rfl) (fun _ _ _ h => h) (Or.inl ⟨by rfl, ?_⟩) hHeld0 ?_
              rotate_left
              · (intro w hSw; (try dsimp only at hSw); go_simp <;> (try with_reducible rfl))
              simp only [Act.put, List.getElem_toArray, List.getElem_cons_zero, List.getElem_cons_succ, List.setIfInBounds_toArray, List.set_cons_zero, List.set_cons_succ]
              refine wpAnyH_take (i := 7) (v := ?_) rfl (by kernel_rfl) (by kernel_rfl) (by kernel_rfl) (fun _ _ _ h => h) (Or.inl ⟨by rfl, ?_⟩) hHeld0 ?_
              rotate_left
              · (intro w hSw; (try dsimp only at hSw); go_simp <;> (try with_reducible rfl))
              simp only [Act.put, List.getElem_toArray, List.getElem_cons_zero, List.getElem_cons_succ, List.setIfInBounds_toArray, List.set_cons_zero, List.set_cons_succ]
              refine wpAnyH_take (i := 8) (v := ?_) rfl (by kernel_rfl) (by kernel_rfl) (by kernel_rfl) (fun _ _ _ h => h) (Or.inl ⟨by rfl, ?_⟩) hHeld0 ?_
              rotate_left
              · (intro w hSw; (try dsimp only at hSw); go_simp <;> (try with_reducible rfl))
              simp only [Act.put, List.getElem_toArray, List.getElem_cons_zero, List.getElem_cons_succ, List.setIfInBounds_toArray, List.set_cons_zero, List.set_cons_succ]
              refine wpAnyH_take (i := 9) (v := ?_) rfl (by kernel_rfl) (by kernel_rfl) (by kernel_rfl) (fun _ _ _ h => h) (Or.inl ⟨by rfl, ?_⟩) hHeld0 ?_
              rotate_left
              · (intro w hSw; (try dsimp only at hSw); go_simp <;> (try with_reducible rfl))
              simp only [Act.put, List.getElem_toArray, List.getElem_cons_zero, List.getElem_cons_succ, List.setIfInBounds_toArray, List.set_cons_zero, List.set_cons_succ]
              refine wpAnyH_ready (rs := [10]) (by kernel_rfl) (by simp) ?_
              refine AllReadyH.cons rfl (fun K hK => ?_) AllReadyH.nil
              go_simp
              go_wp2_with ((go_at_call 43; refine (HBC.out _ hHeld0.1).mono ?_; rintro e W1 ⟨rfl, hb1⟩))
              refine hK.out _ _ (by exact ⟨hHeld0.1.trans (hb1.mono hHeld0.1.size), sm_cell hHeld0.2.1 hb1, sm_cell hHeld0.2.2 hb1⟩) (fun hHeld1 => ?_)
              clear hK K hHeld0
              try simp only [Act.put, List.getElem_toArray, List.getElem_cons_zero, List.getElem_cons_succ, List.setIfInBounds_toArray, List.set_cons_zero, List.set_cons_succ]
              refine wpAnyH_take (i := 11) (v := ?_) rfl (by kernel_rfl) (by kernel_rfl) (by kernel_rfl) (fun _ _ _ h => h) (Or.inl ⟨by rfl, ?_⟩) hHeld1 ?_
              rotate_left
              · (intro w hSw; (try dsimp only at hSw); go_simp <;> (try with_reducible rfl))
              simp only [Act.put, List.getElem_toArray, List.getElem_cons_zero, List.getElem_cons_succ, List.setIfInBounds_toArray, List.set_cons_zero, List.set_cons_succ]
              refine wpAnyH_done (by kernel_rfl) ?_ _
              have HB2 := hide hHeld1.1
              have hp1 := sm_cell HQ1.out hHeld1.1
              have hp2 := sm_cell HQ2.out hHeld1.1
              have hr1 := sm_cell HR1.out hHeld1.1
              have hr2 := sm_cell HR2.out hHeld1.1
              clear hHeld1 hck1 hck2
              go_wp2
              go_quiet (fail)
              go_wp2
              go_roundw
              case rel => exact ⟨k + 1, by omega, by go_num, HGO.out, HB2.out.trans ((quietBelow _ _).mono HB2.out.size)⟩
              case measure => simp [intOf]; omega
            · have hnd : (K1[k].1.n != K2[k].1.n) = true := by rw [bne_iff_ne]; exact hnn
              have HALL : Hid (¬ opsOf K1 = opsOf K2) := hide (HNO.out (fun h => hnn (HOS.out.1 h).2.2))
              clear hnn HOS HOP HX HSO HNO
              generalize K1[k].1.op = op1 at *
              generalize K2[k].1.op = op2 at *
              generalize K1[k].1.n = no1 at *
              generalize K2[k].1.n = no2 at *
              go_wp2
              refine wp_region_held_drew (S := fun W : World => Below w.heap.size w W ∧ W.cell? ⟨b1, o1 + k * 3 + 2, none⟩ = some (.slice s1 n1 c1) ∧ W.cell? ⟨b2, o2 + k * 3 + 2, none⟩ = some (.slice s2 n2 c2)) (by kernel_rfl) ?_ (fun hHeld0 => ?_)
              · exact ⟨HBEL.out.drew, hck1, hck2⟩
              refine wpAnyH_take (i := 0) (v := ?_) rfl (by kernel_rfl) (by kernel_rfl) (by kernel_rfl) (fun _ _ _ h => h) (Or.inl ⟨by rfl, ?_⟩) hHeld0 ?_
              rotate_left
              · (intro w hSw; (try dsimp only at hSw); go_simp <;> (try with_reducible rfl))
              simp only [Act.put, List.getElem_toArray, List.getElem_cons_zero, List.getElem_cons_succ, List.setIfInBounds_toArray, List.set_cons_zero, List.set_cons_succ]
              refine wpAnyH_take (i := 1) (v := ?_) rfl (by kernel_rfl) (by kernel_rfl) (by kernel_rfl) (fun _ _ _ h => h) (Or.inl ⟨by rfl, ?_⟩) hHeld0 ?_
              rotate_left
              · (intro w hSw; (try dsimp only at hSw); go_simp <;> (try with_reducible rfl))
              simp only [Act.put, List.getElem_toArray, List.getElem_cons_zero, List.getElem_cons_succ, List.setIfInBounds_toArray, List.set_cons_zero, List.set_cons_succ]
              refine wpAnyH_take (i := 2) (v := ?_) rfl (by kernel_rfl) (by kernel_rfl) (by kernel_rfl) (fun _ _ _ h => h) (Or.inl ⟨by rfl, ?_⟩) hHeld0 ?_
              rotate_left
              · (intro w hSw; (try dsimp only at hSw); go_simp <;> (try with_reducible rfl))
              simp only [Act.put, List.getElem_toArray, List.getElem_cons_zero, List.getElem_cons_succ, List.setIfInBounds_toArray, List.set_cons_zero, List.set_cons_succ]
              refine wpAnyH_take (i := 3) (v := ?_) rfl (by kernel_rfl) (by kernel_rfl) (by kernel_rfl) (fun _ _ _ h => h) (Or.inl ⟨by rfl, ?_⟩) hHeld0 ?_
              rotate_left
              · (intro w hSw; (try dsimp only at hSw); go_simp <;> (try with_reducible rfl))
              simp only [Act.put, List.getElem_toArray, List.getElem_cons_zero, List.getElem_cons_succ, List.setIfInBounds_toArray, List.set_cons_zero, List.set_cons_succ]
              refine wpAnyH_take (i := 4) (v := ?_) rfl (by kernel_rfl) (by kernel_rfl) (by kernel_rfl) (fun _ _ _ h => h) (Or.inl ⟨by rfl, ?_⟩) hHeld0 ?_
              rotate_left
              · (intro w hSw; (try dsimp only at hSw); go_simp <;> (try with_reducible rfl))
              simp only [Act.put, List.getElem_toArray, List.getElem_cons_zero, List.getElem_cons_succ, List.setIfInBounds_toArray, List.set_cons_zero, List.set_cons_succ]
              refine wpAnyH_take (i := 5) (v := ?_) rfl (by kernel_rfl) (by kernel_rfl) (by kernel_rfl) (fun _ _ _ h => h) (Or.inl ⟨by rfl, ?_⟩) hHeld0 ?_
              rotate_left
              · (intro w hSw; (try dsimp only at hSw); go_simp <;> (try with_reducible rfl))
              simp only [Act.put, List.getElem_toArray, List.getElem_cons_zero, List.getElem_cons_succ, List.setIfInBounds_toArray, List.set_cons_zero, List.set_cons_succ]
              refine wpAnyH_take (i := 6) (v := ?_) rfl (by kernel_rfl) (by kernel_rfl) (by kernel_rfl) (fun _ _ _ h => h) (Or.inl ⟨by rfl, ?_⟩) hHeld0 ?_
              rotate_left
              · (intro w hSw; (try dsimp only at hSw); go_simp <;> (try with_reducible rfl))
              simp only [Act.put, List.getElem_toArray, List.getElem_cons_zero, List.getElem_cons_succ, List.setIfInBounds_toArray, List.set_cons_zero, List.set_cons_succ]
              refine wpAnyH_take (i := 7) (v := ?_) rfl (by kernel_rfl) (by kernel_rfl) (by kernel_rfl) (fun _ _ _ h => h) (Or.inl ⟨by rfl, ?_⟩) hHeld0 ?_
              rotate_left
              · (intro w hSw; (try dsimp only at hSw); go_simp <;> (try with_reducible rfl))
              simp only [Act.put, List.getElem_toArray, List.getElem_cons_zero, List.getElem_cons_succ, List.setIfInBounds_toArray, List.set_cons_zero, List.set_cons_succ]
              refine wpAnyH_take (i := 8) (v := ?_) rfl (by kernel_rfl) (by kernel_rfl) (by kernel_rfl) (fun _ _ _ h => h) (Or.inl ⟨by rfl, ?_⟩) hHeld0 ?_
              rotate_left
              · (intro w hSw; (try dsimp only at hSw); go_simp <;> (try with_reducible rfl))
              simp only [Act.put, List.getElem_toArray, List.getElem_cons_zero, List.getElem_cons_succ, List.setIfInBounds_toArray, List.set_cons_zero, List.set_cons_succ]
              refine wpAnyH_take (i := 9) (v := ?_) rfl (by kernel_rfl) (by kernel_rfl) (by kernel_rfl) (fun _ _ _ h => h) (Or.inl ⟨by rfl, ?_⟩) hHeld0 ?_
              rotate_left
              · (intro w hSw; (try dsimp only at hSw); go_simp <;> (try with_reducible rfl))
              simp only [Act.put, List.getElem_toArray, List.getElem_cons_zero, List.getElem_cons_succ, List.setIfInBounds_toArray, List.set_cons_zero, List.set_cons_succ]
              refine wpAnyH_ready (rs := [10]) (by kernel_rfl) (by simp) ?_
              refine AllReadyH.cons rfl (fun K hK => ?_) AllReadyH.nil
              go_simp
              go_wp2_with ((go_at_call 43; refine (HBC.out _ hHeld0.1).mono ?_; rintro e W1 ⟨rfl, hb1⟩))
              refine hK.out _ _ (by exact ⟨hHeld0.1.trans (hb1.mono hHeld0.1.size), sm_cell hHeld0.2.1 hb1, sm_cell hHeld0.2.2 hb1⟩) (fun hHeld1 => ?_)
              clear hK K hHeld0
              try simp only [Act.put, List.getElem_toArray, List.getElem_cons_zero, List.getElem_cons_succ, List.setIfInBounds_toArray, List.set_cons_zero, List.set_cons_succ]
              refine wpAnyH_take (i := 11) (v := ?_) rfl (by kernel_rfl) (by kernel_rfl) (by kernel_rfl) (fun _ _ _ h => h) (Or.inl ⟨by rfl, ?_⟩) hHeld1 ?_
              rotate_left
              · (intro w hSw; (try dsimp only at hSw); go_simp <;> (try with_reducible rfl))
              simp only [Act.put, List.getElem_toArray, List.getElem_cons_zero, List.getElem_cons_succ, List.setIfInBounds_toArray, List.set_cons_zero, List.set_cons_succ]
              refine wpAnyH_done (by kernel_rfl) ?_ _
              have HB2 := hide hHeld1.1
              have hp1 := sm_cell HQ1.out hHeld1.1
              have hp2 := sm_cell HQ2.out hHeld1.1
              have hr1 := sm_cell HR1.out hHeld1.1
              have hr2 := sm_cell HR2.out hHeld1.1
              clear hHeld1 hck1 hck2
              go_wp2
              go_quiet (fail)
              go_wp2
              go_ret
              exact ⟨false, rfl, ⟨fun h => absurd h (by simp), fun h => absurd h HALL.out⟩, HB2.out.trans ((quietBelow _ _).mono HB2.out.size)⟩
          · have hopd : (K1[k].1.op != K2[k].1.op) = true := by rw [bne_iff_ne]; exact hop
            have HALL : Hid (¬ opsOf K1 = opsOf K2) := hide (HNO.out (fun h => hop (HOS.out.1 h).2.1))
            clear hop HOS HX HSO HNO
            generalize K1[k].1.op = op1 at *
            generalize K2[k].1.op = op2 at *
            generalize K1[k].1.n = no1 at *
            generalize K2[k].1.n = no2 at *
            go_wp2
            refine wp_region_held_drew (S := fun W : World => Below w.heap.size w W ∧ W.cell? ⟨b1, o1 + k * 3 + 2, none⟩ = some (.slice s1 n1 c1) ∧ W.cell? ⟨b2, o2 + k * 3 + 2, none⟩ = some (.slice s2 n2 c2)) (by kernel_rfl) ?_ (fun hHeld0 => ?_)
            · exact ⟨HBEL.out.drew, hck1, hck2⟩
            refine wpAnyH_take (i := 0) (v := ?_) rfl (by kernel_rfl) (by kernel_rfl) (by kernel_rfl) (fun _ _ _ h => h) (Or.inl ⟨by rfl, ?_⟩) hHeld0 ?_
            rotate_left
            · (intro w hSw; (try dsimp only at hSw); go_simp <;> (try with_reducible rfl))
            simp only [Act.put, List.getElem_toArray, List.getElem_cons_zero, List.getElem_cons_succ, List.setIfInBounds_toArray, List.set_cons_zero, List.set_cons_succ]
            refine wpAnyH_take (i := 1) (v := ?_) rfl (by kernel_rfl) (by kernel_rfl) (by kernel_rfl) (fun _ _ _ h => h) (Or.inl ⟨by rfl, ?_⟩) hHeld0 ?_
            rotate_left
            · (intro w hSw; (try dsimp only at hSw); go_simp <;> (try with_reducible rfl))
            simp only [Act.put, List.getElem_toArray, List.getElem_cons_zero, List.getElem_cons_succ, List.setIfInBounds_toArray, List.set_cons_zero, List.set_cons_succ]
            refine wpAnyH_take (i := 2) (v := ?_) rfl (by kernel_rfl) (by kernel_rfl) (by kernel_rfl) (fun _ _ _ h => h) (Or.inl ⟨by rfl, ?_⟩) hHeld0 ?_
            rotate_left
            · (intro w hSw; (try dsimp only at hSw); go_simp <;> (try with_reducible rfl))
            simp only [Act.put, List.getElem_toArray, List.getElem_cons_zero, List.getElem_cons_succ, List.setIfInBounds_toArray, List.set_cons_zero, List.set_cons_succ]
            refine wpAnyH_take (i := 3) (v := ?_) rfl (by kernel_rfl) (by kernel_rfl) (by kernel_rfl) (fun _ _ _ h => h) (Or.inl ⟨by rfl, ?_⟩) hHeld0 ?_
            rotate_left
            · (intro w hSw; (try dsimp only at hSw); go_simp <;> (try with_reducible rfl))
            simp only [Act.put, List.getElem_toArray, List.getElem_cons_zero, List.getElem_cons_succ, List.setIfInBounds_toArray, List.set_cons_zero, List.set_cons_succ]
            refine wpAnyH_take (i := 4) (v := ?_) rfl (by kernel_rfl) (by kernel_rfl) (by kernel_rfl) (fun _ _ _ h => h) (Or.inl ⟨by rfl, ?_⟩) hHeld0 ?_
            rotate_left
            · (intro w hSw; (try dsimp only at hSw); go_simp <;> (try with_reducible rfl))
            simp only [Act.put, List.getElem_toArray, List.getElem_cons_zero, List.getElem_cons_succ, List.setIfInBounds_toArray, List.set_cons_zero, List.set_cons_succ]
            refine wpAnyH_take (i := 5) (v := ?_) rfl (by kernel_rfl) (by kernel_rfl) (by kernel_rfl) (fun _ _ _ h => h) (Or.inl ⟨by rfl, ?_⟩) hHeld0 ?_
            rotate_left
            · (intro w hSw; (try dsimp only at hSw); go_simp <;> (try with_reducible rfl))
            simp only [Act.put, List.getElem_toArray, List.getElem_cons_zero, List.getElem_cons_succ, List.setIfInBounds_toArray, List.set_cons_zero, List.set_cons_succ]
            refine wpAnyH_take (i := 6) (v := ?_) rfl (by kernel_rfl) (by kernel_rfl) (by kernel_rfl) (fun _ _ _ h => h) (Or.inl ⟨by rfl, ?_⟩) hHeld0 ?_
            rotate_left
            · (intro w hSw; (try dsimp only at hSw); go_simp <;> (try with_reducible rfl))
            simp only [Act.put, List.getElem_toArray, List.getElem_cons_zero, List.getElem_cons_succ, List.setIfInBounds_toArray, List.set_cons_zero, List.set_cons_succ]
            refine wpAnyH_take (i := 7) (v := ?_) rfl (by kernel_rfl) (by kernel_rfl) (by kernel_rfl) (fun _ _ _ h => h) (Or.inl ⟨by rfl, ?_⟩) hHeld0 ?_
            rotate_left
            · (intro w hSw; (try dsimp only at hSw); go_simp <;> (try with_reducible rfl))
            simp only [Act.put, List.getElem_toArray, List.getElem_cons_zero, List.getElem_cons_succ, List.setIfInBounds_toArray, List.set_cons_zero, List.set_cons_succ]
            refine wpAnyH_take (i := 8) (v := ?_) rfl (by kernel_rfl) (by kernel_rfl) (by kernel_rfl) (fun _ _ _ h => h) (Or.inl ⟨by rfl, ?_⟩) hHeld0 ?_
            rotate_left
            · (intro w hSw; (try dsimp only at hSw); go_simp <;> (try with_reducible rfl))
            simp only [Act.put, List.getElem_toArray, List.getElem_cons_zero, List.getElem_cons_succ, List.setIfInBounds_toArray, List.set_cons_zero, List.set_cons_succ]
            refine wpAnyH_take (i := 9) (v := ?_) rfl (by kernel_rfl) (by kernel_rfl) (by kernel_rfl) (fun _ _ _ h => h) (Or.inl ⟨by rfl, ?_⟩) hHeld0 ?_
            rotate_left
            · (intro w hSw; (try dsimp only at hSw); go_simp <;> (try with_reducible rfl))
            simp only [Act.put, List.getElem_toArray, List.getElem_cons_zero, List.getElem_cons_succ, List.setIfInBounds_toArray, List.set_cons_zero, List.set_cons_succ]
            refine wpAnyH_ready (rs := [10]) (by kernel_rfl) (by simp) ?_
            refine AllReadyH.cons rfl (fun K hK => ?_) AllReadyH.nil
            go_simp
            go_wp2_with ((go_at_call 43; refine (HBC.out _ hHeld0.1).mono ?_; rintro e W1 ⟨rfl, hb1⟩))
            refine hK.out _ _ (by exact ⟨hHeld0.1.trans (hb1.mono hHeld0.1.size), sm_cell hHeld0.2.1 hb1, sm_cell hHeld0.2.2 hb1⟩) (fun hHeld1 => ?_)
            clear hK K hHeld0
            try simp only [Act.put, List.getElem_toArray, List.getElem_cons_zero, List.getElem_cons_succ, List.setIfInBounds_toArray, List.set_cons_zero, List.set_cons_succ]
            refine wpAnyH_take (i := 11) (v := ?_) rfl (by kernel_rfl) (by kernel_rfl) (by kernel_rfl) (fun _ _ _ h => h) (Or.inl ⟨by rfl, ?_⟩) hHeld1 ?_
            rotate_left
            · (intro w hSw; (try dsimp only at hSw); go_simp <;> (try with_reducible rfl))
            simp only [Act.put, List.getElem_toArray, List.getElem_cons_zero, List.getElem_cons_succ, List.setIfInBounds_toArray, List.set_cons_zero, List.set_cons_succ]
            refine wpAnyH_done (by kernel_rfl) ?_ _
            have HB2 := hide hHeld1.1
            have hp1 := sm_cell HQ1.out hHeld1.1
            have hp2 := sm_cell HQ2.out hHeld1.1
            have hr1 := sm_cell HR1.out hHeld1.1
            have hr2 := sm_cell HR2.out hHeld1.1
            clear hHeld1 hck1 hck2
            go_wp2
            go_quiet (fail)
            go_wp2
            go_ret
            exact ⟨false, rfl, ⟨fun h => absurd h (by simp), fun h => absurd h HALL.out⟩, HB2.out.trans ((quietBelow _ _).mono HB2.out.size)⟩
        · have hs : sameB K1[k].1.data K2[k].1.data = false := by unfold sameB; exact decide_eq_false hx
          rw [hs] at HBC
          have HALL : Hid (¬ opsOf K1 = opsOf K2) := hide (HNO.out (fun h => hx (HOS.out.1 h).1))
          clear hx hs HOS HSO HNO
          generalize K1[k].1.data.length = n1 at *
          generalize K2[k].1.data.length = n2 at *
          go_wp2
          refine wp_region_held_drew (S := fun W : World => Below w.heap.size w W ∧ W.cell? ⟨b1, o1 + k * 3 + 2, none⟩ = some (.slice s1 n1 c1) ∧ W.cell? ⟨b2, o2 + k * 3 + 2, none⟩ = some (.slice s2 n2 c2)) (by kernel_rfl) ?_ (fun hHeld0 => ?_)
          · exact ⟨HBEL.out.drew, hck1, hck2⟩
          refine wpAnyH_take (i := 0) (v := ?_) rfl (by kernel_rfl) (by kernel_rfl) (by kernel_rfl) (fun _ _ _ h => h) (Or.inl ⟨by rfl, ?_⟩) hHeld0 ?_
          rotate_left
          · (intro w hSw; (try dsimp only at hSw); go_simp <;> (try with_reducible rfl))
          simp only [Act.put, List.getElem_toArray, List.getElem_cons_zero, List.getElem_cons_succ, List.setIfInBounds_toArray, List.set_cons_zero, List.set_cons_succ]
          refine wpAnyH_take (i := 1) (v := ?_) rfl (by kernel_rfl) (by kernel_rfl) (by kernel_rfl) (fun _ _ _ h => h) (Or.inl ⟨by rfl, ?_⟩) hHeld0 ?_
          rotate_left
          · (intro w hSw; (try dsimp only at hSw); go_simp <;> (try with_reducible rfl))
          simp only [Act.put, List.getElem_toArray, List.getElem_cons_zero, List.getElem_cons_succ, List.setIfInBounds_toArray, List.set_cons_zero, List.set_cons_succ]
          refine wpAnyH_take (i := 2) (v := ?_) rfl (by kernel_rfl) (by kernel_rfl) (by kernel_rfl) (fun _ _ _ h => h) (Or.inl ⟨by rfl, ?_⟩) hHeld0 ?_
          rotate_left
          · (intro w hSw; (try dsimp only at hSw); go_simp <;> (try with_reducible rfl))
          simp only [Act.put, List.getElem_toArray, List.getElem_cons_zero, List.getElem_cons_succ, List.setIfInBounds_toArray, List.set_cons_zero, List.set_cons_succ]
          refine wpAnyH_take (i := 3) (v := ?_) rfl (by kernel_rfl) (by kernel_rfl) (by kernel_rfl) (fun _ _ _ h => h) (Or.inl ⟨by rfl, ?_⟩) hHeld0 ?_
          rotate_left
          · (intro w hSw; (try dsimp only at hSw); go_simp <;> (try with_reducible rfl))
          simp only [Act.put, List.getElem_toArray, List.getElem_cons_zero, List.getElem_cons_succ, List.setIfInBounds_toArray, List.set_cons_zero, List.set_cons_succ]
          refine wpAnyH_take (i := 4) (v := ?_) rfl (by kernel_rfl) (by kernel_rfl) (by kernel_rfl) (fun _ _ _ h => h) (Or.inl ⟨by rfl, ?_⟩) hHeld0 ?_
          rotate_left
          · (intro w hSw; (try dsimp only at hSw); go_simp <;> (try with_reducible rfl))
          simp only [Act.put, List.getElem_toArray, List.getElem_cons_zero, List.getElem_cons_succ, List.setIfInBounds_toArray, List.set_cons_zero, List.set_cons_succ]
          refine wpAnyH_take (i := 5) (v := ?_) rfl (by kernel_rfl) (by kernel_rfl) (by kernel_rfl) (fun _ _ _ h => h) (Or.inl ⟨by rfl, ?_⟩) hHeld0 ?_
          rotate_left
          · (intro w hSw; (try dsimp only at hSw); go_simp <;> (try with_reducible rfl))
          simp only [Act.put, List.getElem_toArray, List.getElem_cons_zero, List.getElem_cons_succ, List.setIfInBounds_toArray, List.set_cons_zero, List.set_cons_succ]
          refine wpAnyH_take (i := 6) (v := ?_) rfl (by kernel_rfl) (by kernel_rfl) (by kernel_rfl) (fun _ _ _ h => h) (Or.inl ⟨by rfl, ?_⟩) hHeld0 ?_
          rotate_left
          · (intro w hSw; (try dsimp only at hSw); go_simp <;> (try with_reducible rfl))
          simp only [Act.put, List.getElem_toArray, List.getElem_cons_zero, List.getElem_cons_succ, List.setIfInBounds_toArray, List.set_cons_zero, List.set_cons_succ]
          refine wpAnyH_take (i := 7) (v := ?_) rfl (by kernel_rfl) (by kernel_rfl) (by kernel_rfl) (fun _ _ _ h => h) (Or.inl ⟨by rfl, ?_⟩) hHeld0 ?_
          rotate_left
          · (intro w hSw; (try dsimp only at hSw); go_simp <;> (try with_reducible rfl))
          simp only [Act.put, List.getElem_toArray, List.getElem_cons_zero, List.getElem_cons_succ, List.setIfInBounds_toArray, List.set_cons_zero, List.set_cons_succ]
          refine wpAnyH_take (i := 8) (v := ?_) rfl (by kernel_rfl) (by kernel_rfl) (by kernel_rfl) (fun _ _ _ h => h) (Or.inl ⟨by rfl, ?_⟩) hHeld0 ?_
          rotate_left
          · (intro w hSw; (try dsimp only at hSw); go_simp <;> (try with_reducible rfl))
          simp only [Act.put, List.getElem_toArray, List.getElem_cons_zero, List.getElem_cons_succ, List.setIfInBounds_toArray, List.set_cons_zero, List.set_cons_succ]
          refine wpAnyH_take (i := 9) (v := ?_) rfl (by kernel_rfl) (by kernel_rfl) (by kernel_rfl) (fun _ _ _ h => h) (Or.inl ⟨by rfl, ?_⟩) hHeld0 ?_
          rotate_left
          · (intro w hSw; (try dsimp only at hSw); go_simp <;> (try with_reducible rfl))
          simp only [Act.put, List.getElem_toArray, List.getElem_cons_zero, List.getElem_cons_succ, List.setIfInBounds_toArray, List.set_cons_zero, List.set_cons_succ]
          refine wpAnyH_ready (rs := [10]) (by kernel_rfl) (by simp) ?_
          refine AllReadyH.cons rfl (fun K hK => ?_) AllReadyH.nil
          go_simp
          go_wp2_with ((go_at_call 43; refine (HBC.out _ hHeld0.1).mono ?_; rintro e W1 ⟨rfl, hb1⟩))
          refine hK.out _ _ (by exact ⟨hHeld0.1.trans (hb1.mono hHeld0.1.size), sm_cell hHeld0.2.1 hb1, sm_cell hHeld0.2.2 hb1⟩) (fun hHeld1 => ?_)
          clear hK K hHeld0
          try simp only [Act.put, List.getElem_toArray, List.getElem_cons_zero, List.getElem_cons_succ, List.setIfInBounds_toArray, List.set_cons_zero, List.set_cons_succ]
          refine wpAnyH_take (i := 11) (v := ?_) rfl (by kernel_rfl) (by kernel_rfl) (by kernel_rfl) (fun _ _ _ h => h) (Or.inl ⟨by rfl, ?_⟩) hHeld1 ?_
          rotate_left
          · (intro w hSw; (try dsimp only at hSw); go_simp <;> (try with_reducible rfl))
          simp only [Act.put, List.getElem_toArray, List.getElem_cons_zero, List.getElem_cons_succ, List.setIfInBounds_toArray, List.set_cons_zero, List.set_cons_succ]
          refine wpAnyH_done (by kernel_rfl) ?_ _
          have HB2 := hide hHeld1.1
          have hp1 := sm_cell HQ1.out hHeld1.1
          have hp2 := sm_cell HQ2.out hHeld1.1
          have hr1 := sm_cell HR1.out hHeld1.1
          have hr2 := sm_cell HR2.out hHeld1.1
          clear hHeld1 hck1 hck2
          go_wp2
          go_quiet (fail)
          go_wp2
          go_ret
          exact ⟨false, rfl, ⟨fun h => absurd h (by simp), fun h => absurd h HALL.out⟩, HB2.out.trans ((quietBelow _ _).mono HB2.out.size)⟩
      · have hke : k = n := by omega
        have hall := sm_end (by rw [opsOf_length, HN.out, hke]) (by rw [opsOf_length, ← HL.out, HN.out, hke]) heq
        have HALL := hide hall
        clear heq hbel hall HEQ
        go_wp2
        go_ret
        exact ⟨true, rfl, ⟨fun _ => HALL.out, fun _ => rfl⟩, HBEL.out⟩
  · have hne : ((K1.length : Int) != (K2.length : Int)) = true := by simp; omega
    clear HF1 HF2 HH1 HH2
    have HNE : Hid (¬ opsOf K1 = opsOf K2) := hide (fun h => hl (by have := congrArg List.length h; simpa [opsOf_length] using this))
    generalize K1.length = n1 at *
    generalize K2.length = n2 at *
    clear hl
    go_enter Tryz.func26, Tryz.ntmps26
    go_wp2
    go_ret
    exact ⟨false, rfl, ⟨fun h => absurd h (by simp), fun h => absurd h HNE.out⟩, Below.refl _ _⟩
end Go.Proofs.YtmjilohlchkicaaGreatDoor

/- moneyersame's Tx: whether two payments are the same. -/
namespace Go.Proofs.YtmjilohlchkicaaGreatDoor
open Go.RowKit
set_option linter.unusedVariables false
set_option linter.unusedSimpArgs false

/-- Two payments in boxes of their own. -/
structure BoxT (w : World) (c1 c2 : List Value) (W : World) : Prop where
  below : Below w.heap.size w W
  b1 : Is W w.heap.size c1 26
  b2 : Is W (w.heap.size + 1) c2 26
theorem BoxT.call {w W W' : World} {c1 c2 : List Value} (h : BoxT w c1 c2 W) (hb : Below W.heap.size W W') : BoxT w c1 c2 W' :=
  ⟨h.below.trans (hb.mono h.below.size), h.b1.below hb h.b1.lt, h.b2.below hb h.b2.lt⟩
theorem BoxT.drew {w W : World} {c1 c2 : List Value} (h : BoxT w c1 c2 W) : BoxT w c1 c2 W.drew := ⟨h.below.drew, h.b1.drew, h.b2.drew⟩
theorem BoxT.start (w : World) (x0 x1 x2 y0 y1 y2 : Value) : BoxT w [x0, x1, x2] [y0, y1, y2] ((w.alloc (.cells #[x0, x1, x2] 26)).alloc (.cells #[y0, y1, y2] 26)) :=
  ⟨below_alloc2 w _ _, (Is.new w [x0, x1, x2] 26).alloc _, Is.new' [y0, y1, y2] 26 (by simp)⟩
/-- A truth: whether P holds. -/
def TellsB (P : Prop) (e : Ending) : Prop := ∃ b, e = .returned (.bool b) ∧ (b = true ↔ P)
theorem TellsB.yes {P : Prop} (h : P) : TellsB P (.returned (.bool true)) := ⟨true, rfl, fun _ => h, fun _ => rfl⟩
theorem TellsB.no {P : Prop} (h : ¬ P) : TellsB P (.returned (.bool false)) := ⟨false, rfl, fun h => absurd h (by simp), fun k => absurd k h⟩
theorem in_same {a b : Tm.In} : a = b ↔ a.keys = b.keys ∧ a.tx = b.tx ∧ a.at' = b.at' := by
  cases a; cases b
  simp only [Tm.In.mk.injEq]
  exact ⟨fun ⟨h1, h2, h3⟩ => ⟨h3, h1, h2⟩, fun ⟨h3, h1, h2⟩ => ⟨h1, h2, h3⟩⟩
theorem out_same {a b : Tm.Out} : a = b ↔ a.lock = b.lock ∧ a.amount = b.amount := by
  cases a; cases b
  simp only [Tm.Out.mk.injEq]
  exact ⟨fun ⟨h1, h2⟩ => ⟨h2, h1⟩, fun ⟨h2, h1⟩ => ⟨h1, h2⟩⟩
theorem tx_same {a b : Tm.Tx} : a = b ↔ a.time = b.time ∧ a.ins = b.ins ∧ a.outs = b.outs := by
  cases a; cases b
  simp only [Tm.Tx.mk.injEq]
  exact ⟨fun ⟨h1, h2, h3⟩ => ⟨h3, h1, h2⟩, fun ⟨h3, h1, h2⟩ => ⟨h1, h2, h3⟩⟩
theorem place_cells {x : InV} {w : World} {b o : Nat} (h : w.rangeAt b o (inCell x)) (h32 : x.tx.length = 32) : w.rangeAt b o (vals x.tx ++ [.int .i64 x.at']) ∧ w.cell? ⟨b, o + 33, none⟩ = some x.kv := by
  have e : inCell x = (vals x.tx ++ [.int .i64 x.at']) ++ [x.kv] := by simp [inCell]
  rw [e] at h
  have h2 := tx_range_part h
  refine ⟨h2.1, ?_⟩
  have := h2.2 0 _ rfl
  rwa [List.length_append, vals_length, h32] at this
theorem ins_form {w : World} {v : Value} {R : List InV} (h : HasIns w v R) : ∃ a cap, v = .slice a R.length cap ∧ R.length ≤ maxLen ∧ ∀ k (hk : k < R.length), ∃ b off, a = some ⟨b, off, none⟩ ∧ R.length ≤ cap ∧ cap ≤ maxLen ∧ b < w.heap.size ∧ w.rangeAt b (off + k * 34) (vals R[k].tx ++ [.int .i64 R[k].at']) ∧ w.cell? ⟨b, off + k * 34 + 33, none⟩ = some R[k].kv := by
  obtain ⟨a, cap, e, hm, hf⟩ := h.form
  refine ⟨a, cap, e, hm, fun k hk => ?_⟩
  obtain ⟨b, off, ea, h1, h2, h3, hr⟩ := hf k hk
  have h4 := range_at (f := inCell) (s := 34) hr (fun x hx => inCell_length x (h.2 x hx).1) k hk
  obtain ⟨h5, h6⟩ := place_cells h4 (h.2 R[k] (List.getElem_mem hk)).1
  exact ⟨b, off, ea, h1, h2, h3, h5, h6⟩
theorem outs_form {w : World} {v : Value} {R : List OutV} (h : HasOuts w v R) : ∃ a cap, v = .slice a R.length cap ∧ R.length ≤ maxLen ∧ ∀ k (hk : k < R.length), ∃ b off, a = some ⟨b, off, none⟩ ∧ R.length ≤ cap ∧ cap ≤ maxLen ∧ b < w.heap.size ∧ w.cell? ⟨b, off + k * 2, none⟩ = some (.int .i64 R[k].amount) ∧ w.cell? ⟨b, off + k * 2 + 1, none⟩ = some R[k].lv := by
  obtain ⟨a, cap, e, hm, hf⟩ := h.form
  refine ⟨a, cap, e, hm, fun k hk => ?_⟩
  obtain ⟨b, off, ea, h1, h2, h3, hr⟩ := hf k hk
  have h4 := range_at (f := outCell) (s := 2) hr (fun x hx => rfl) k hk
  exact ⟨b, off, ea, h1, h2, h3, h4 0 _ rfl, h4 1 _ rfl⟩

end Go.Proofs.YtmjilohlchkicaaGreatDoor
