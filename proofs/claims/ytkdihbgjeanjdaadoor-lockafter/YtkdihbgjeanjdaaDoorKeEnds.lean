/- The contract of key.endsBy: what a function tells, place by place, in one array. -/
import Derived.Test.YtkdihbgjeanjdaaDoorKeSum
namespace Go.Proofs.YtkdihbgjeanjdaaDoor
open Go.RowKit
set_option linter.unusedVariables false

theorem size_ends : Sized 67 2144 := by unfold Sized; kernel_rfl
theorem zero_ends (w : World) : (zeroValue 67).run Tryd.prog w = .ok (.agg (vals (List.replicate 2144 0)).toArray) w := by
  have h : (Tryd.prog.info? 67).map (fun i => (i.zero, i.size)) = some (some (.agg (vals (List.replicate 2144 0)).toArray), 2144) := by kernel_rfl
  exact (zero_of_info h).1 w

/-- A block in which some cells were stored. -/
theorem Is.setCells {b : Nat} {t : TypeId} : ∀ (cs : List Value) (off : Nat) (c : List Value) (w : World), Is w b c t → off + cs.length ≤ c.length → Is (w.setCells b off cs) b (c.take off ++ cs ++ c.drop (off + cs.length)) t
  | [], off, c, w, h, _ => by
    simp only [List.append_nil, List.length_nil, Nat.add_zero, List.take_append_drop]
    exact h
  | v :: r, off, c, w, h, hl => by
    rw [List.length_cons] at hl
    have h2 := Is.setCells r (off + 1) (c.set off v) _ (h.set off v) (by rw [List.length_set]; omega)
    have e : (c.set off v).take (off + 1) ++ r ++ (c.set off v).drop (off + 1 + r.length) = c.take off ++ (v :: r) ++ c.drop (off + (v :: r).length) := by
      rw [List.drop_set_of_lt (by omega), List.length_cons, show off + 1 + r.length = off + (r.length + 1) by omega]
      congr 1
      rw [List.take_succ_eq_append_getElem (by rw [List.length_set]; omega), List.getElem_set_self, List.take_set_of_le (Nat.le_refl _)]
      simp
    rw [e] at h2
    exact h2

theorem there_part {w : World} {b : Nat} {c : List Value} {t : TypeId} (h : Is w b c t) (off : Nat) {n : Nat} (hn : off + n ≤ c.length) : w.there b off n := fun j hj => by
  rw [h.cell, h.frozen, List.getElem?_eq_getElem (by omega)]
  exact ⟨rfl, rfl⟩

set_option maxRecDepth 100000 in
set_option maxHeartbeats 4000000 in
theorem ends_any (F : Nat) (caps : Array Value) (f : Nat → List Int) (w : World) (hf : ∀ k, (f k).length = 32) (hcall : ∀ xs W, (callFunc F xs).run Tryd.prog W = .ok (.enter F xs) W)
    (hF : ∀ W k, Below w.heap.size w W → k < 67 → Calls Tryd.prog F (#[.int .i64 (k : Nat)] ++ caps) W fun e w' => e = .returned (.agg (vals (f k)).toArray) ∧ Below W.heap.size W w') :
    Calls Tryd.prog 32 #[.func (.func F) #[] caps] w fun e w' => e = .returned (.agg (vals (Ky.rowsOf f 67)).toArray) ∧ Below w.heap.size w w' := by
  obtain ⟨Z, hZ⟩ : ∃ Z, Z = vals (List.replicate 2144 0) := ⟨_, rfl⟩
  have hz := zero_ends
  rw [← hZ] at hz
  have hZl : Z.length = 2144 := by rw [hZ, vals_length, List.length_replicate]
  have hZp : ¬ Z = [] := by intro h; rw [h] at hZl; cases hZl
  have HFF := hide hF
  have HFL := hide hf
  have HZL := hide hZl
  have HZ := hide hZ
  clear hF hf hZl hZ
  go_enter Tryd.func32, Tryd.ntmps32
  go_wp2
  go_loopw [5] (fun i wr => ∃ k : Nat, k ≤ 67 ∧ i = .int .i64 k ∧ Is wr (w.heap.size + 1) (vals (Ky.rowsOf f k) ++ Z.drop (32 * k)) 67 ∧ Is wr w.heap.size Z 67 ∧ Below w.heap.size w wr) (fun i _ => 67 - (intOf i).toNat)
  case atStart => exact ⟨0, by omega, rfl, Is.new' (Z : List Value) 67 (by simp), (Is.new w Z 67).alloc _, below_alloc2 _ _ _⟩
  case round =>
    obtain ⟨k, hk, rfl, hi, hj, hb⟩ := hrel
    by_cases hkl : k < 67
    · have hki : (k : Int) < 67 := by omega
      have hrl := Ky.rowsOf_length f HFL.out k
      have hcl : (vals (Ky.rowsOf f k) ++ Z.drop (32 * k)).length = 2144 := by rw [List.length_append, vals_length, hrl, List.length_drop, HZL.out]; omega
      have HNX : Hid ((vals (Ky.rowsOf f k) ++ Z.drop (32 * k)).take (k * 32) ++ vals (f k) ++ (vals (Ky.rowsOf f k) ++ Z.drop (32 * k)).drop (k * 32 + (vals (f k)).length) = vals (Ky.rowsOf f (k + 1)) ++ Z.drop (32 * (k + 1))) := by
        show _ = _
        rw [Ky.rowsOf_succ, vals_append, List.take_left' (by rw [vals_length, hrl]; omega), vals_length (f k), HFL.out, List.drop_append, vals_length, hrl, List.drop_eq_nil_of_le (by rw [vals_length, hrl]; omega), List.nil_append, List.drop_drop]
        congr 2
        omega
      have hfl := HFL.out k
      have HC : Hid (∀ W, Below w.heap.size w W → Calls Tryd.prog F (#[.int .i64 (k : Nat)] ++ caps) W fun e w' => e = .returned (.agg (vals (f k)).toArray) ∧ Below W.heap.size W w') := fun W hW => HFF.out W k hW hkl
      generalize f k = D at *
      generalize vals (Ky.rowsOf f k) ++ Z.drop (32 * k) = C at *
      have HCL := hide hcl
      have HDL := hide hfl
      have HI := hide hi
      have HJ := hide hj
      clear hrl hcl hfl hi hj HFF HFL
      obtain ⟨wA, hwA⟩ : ∃ wA, wA = wr := ⟨_, rfl⟩
      subst hwA
      have HTH : Hid (w.heap.size + 1 < wA.heap.size) := HI.out.lt
      go_wp2_with (first
        | (refine (HC.out _ hb).mono ?_; rintro e w5 ⟨rfl, hb5⟩; have hi5 := HI.out.below hb5 HI.out.lt)
        | (refine wpList_store_mid (P := Tryd.prog) rfl 25 (.tmp 12) (.tmp 11) rfl (w.heap.size + 1) (k * 32) (vals D).toArray rfl rfl (there_part hi5 (k * 32) (by rw [List.size_toArray, vals_length, HDL.out, HCL.out]; omega)) (by rw [List.size_toArray, vals_length, HDL.out]; exact size_dig) (all_oneCell_toArray (vals_one _)) ?_))
      go_roundw
      case rel =>
        have hs5 := Is.setCells (vals D) (k * 32) C w5 hi5 (by rw [vals_length, HDL.out, HCL.out]; omega)
        rw [HNX.out] at hs5
        have hj5 := HJ.out.below hb5 HJ.out.lt
        exact ⟨k + 1, by omega, by go_num, hs5, setCells_is (by omega) _ _ _ hj5, setCells_below (Nat.le_succ _) _ _ _ (hb.trans (hb5.mono hb.size))⟩
      case measure => simp [intOf]; omega
    · have hki : ¬ (k : Int) < 67 := by omega
      have hke : k = 67 := by omega
      have hce : vals (Ky.rowsOf f k) ++ Z.drop (32 * k) = vals (Ky.rowsOf f 67) := by rw [hke, List.drop_eq_nil_of_le (by rw [HZL.out]; omega), List.append_nil]
      rw [hce] at hi
      have hnl : (Ky.rowsOf f 67).length = 2144 := Ky.rowsOf_length f HFL.out 67
      obtain ⟨N, hN⟩ : ∃ N, N = Ky.rowsOf f 67 := ⟨_, rfl⟩
      rw [← hN] at hi hnl
      have HN := hide hN
      have HI := hide hi
      have HJ := hide hj
      have HNL := hide hnl
      clear hi hj hnl hN hce hke HFF HFL
      go_wp2_with (first
        | (refine wpList_load_arr2 67 (vals N) (w.heap.size + 1) rfl (.tmp 3) rfl rfl HI.out Tryd.underlying67 size_ends (by rw [vals_length]; exact HNL.out) ?_)
        | (refine wpList_store_any2 67 Z (vals N) w.heap.size rfl (.tmp 2) (.tmp 14) rfl rfl rfl rfl HJ.out size_ends HZL.out (by rw [vals_length]; exact HNL.out) (vals_one _) ?_; intro w7 hi7 hb7 hk7 hz7))
      have hr := hi7.cellsOf Tryd.underlying67 (by rw [vals_length, HNL.out]; exact size_ends)
      exact bodyPost_ret (v := .agg (vals N).toArray) (results_cell1 Tryd.results32 rfl hr) rfl ⟨by rw [HN.out], hb7 _ _ hb (Nat.le_refl _)⟩
end Go.Proofs.YtkdihbgjeanjdaaDoor
