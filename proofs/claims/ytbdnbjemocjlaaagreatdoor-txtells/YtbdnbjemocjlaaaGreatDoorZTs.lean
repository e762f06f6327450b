/- The texts TxSr, TxSl, TxEq, TxSt, one behind the other. -/
import Derived.Test.YtbdnbjemocjlaaaGreatDoorLkK
import Derived.Test.YtbdnbjemocjlaaaGreatDoorShEq
import Derived.Test.YtbdnbjemocjlaaaGreatDoorBytes
import Derived.WalkLawsBesides
import Derived.Deep.RegionHeld2
import Derived.Deep.QuietTactic
import Derived.BigQuiet
import Derived.Test.YtbdnbjemocjlaaaGreatDoorZTc
import Derived.Laws.StructEq
/- moneyersame's Rows, Lock: whether two lists are the same. -/
namespace Go.Proofs.YtbdnbjemocjlaaaGreatDoor
open Go.RowKit
set_option linter.unusedVariables false
set_option linter.unusedSimpArgs false

theorem sm_cell {w w' : World} {a : Addr} {v : Value} (h : w.cell? a = some v) (hb : Below w.heap.size w w') : w'.cell? a = some v := by rw [hb.cell (p := a) (World.block_lt_of_cell? w a h)]; exact h
theorem sm_take {α : Type} {a b : List α} {k : Nat} (ha : k < a.length) (hb : k < b.length) (h : a.take k = b.take k) (hx : a[k] = b[k]) : a.take (k + 1) = b.take (k + 1) := by
  rw [List.take_succ_eq_append_getElem ha, List.take_succ_eq_append_getElem hb, h, hx]
theorem sm_end {α : Type} {a b : List α} {k : Nat} (ha : a.length = k) (hb : b.length = k) (h : a.take k = b.take k) : a = b := by
  rwa [List.take_of_length_le (by omega), List.take_of_length_le (by omega)] at h
theorem keys_form {w : World} {v : Value} {K : List (List Int × Value)} (h : HasKeys w v K) : ∃ a cap, v = .slice a K.length cap ∧ cap ≤ maxLen ∧ K.length ≤ maxLen ∧ ∀ k (hk : k < K.length), ∃ b off, a = some ⟨b, off, none⟩ ∧ K.length ≤ cap ∧ b < w.heap.size ∧ w.cell? ⟨b, off + k, none⟩ = some K[k].2 := by
  rcases h.1 with ⟨a, cap, rfl, rfl, hc⟩ | ⟨b, off, cap, rfl, h0, h1, h2, h3, hc⟩
  · exact ⟨a, cap, rfl, hc, by simp, fun k hk => absurd hk (by simp)⟩
  · exact ⟨_, cap, rfl, h2, by omega, fun k hk => ⟨b, off, rfl, h1, h3, hc k _ (by rw [List.getElem?_map, List.getElem?_eq_getElem hk]; rfl)⟩⟩
theorem ops_form {w : World} {v : Value} {L : List (Lk.Op × Value)} (h : HasOps w v L) : ∃ a cap, v = .slice a L.length cap ∧ L.length ≤ maxLen ∧ ∀ k (hk : k < L.length), ∃ b off, a = some ⟨b, off, none⟩ ∧ L.length ≤ cap ∧ cap ≤ maxLen ∧ b < w.heap.size ∧ w.cell? ⟨b, off + k * 3, none⟩ = some (.int .i64 L[k].1.op) ∧ w.cell? ⟨b, off + k * 3 + 1, none⟩ = some (.int .i64 L[k].1.n) ∧ w.cell? ⟨b, off + k * 3 + 2, none⟩ = some L[k].2 := by
  rcases h.1 with ⟨a, cap, rfl, rfl⟩ | ⟨b, off, cap, rfl, h0, h1, h2, h3, hc⟩
  · exact ⟨a, cap, rfl, by simp, fun k hk => absurd hk (by simp)⟩
  · refine ⟨_, cap, rfl, by omega, fun k hk => ?_⟩
    obtain ⟨g0, g1, g2⟩ := opCells_get L k hk
    exact ⟨b, off, rfl, h1, h2, h3, hc _ _ g0, by rw [Nat.add_assoc]; exact hc _ _ g1, by rw [Nat.add_assoc]; exact hc _ _ g2⟩

set_option maxRecDepth 100000 in
set_option maxHeartbeats 4000000 in
theorem rows_any (v1 v2 : Value) (K1 K2 : List (List Int × Value)) (w : World) (h1 : HasKeys w v1 K1) (h2 : HasKeys w v2 K2) :
    Calls Tryz.prog 37 #[v1, v2] w fun e w' => ∃ b, e = .returned (.bool b) ∧ (b = true ↔ K1.map Prod.fst = K2.map Prod.fst) ∧ Below w.heap.size w w' := by
  obtain ⟨a1, d1, rfl, m1, l1, f1⟩ := keys_form h1
  obtain ⟨a2, d2, rfl, m2, l2, f2⟩ := keys_form h2
  have HF1 := hide f1
  have HF2 := hide f2
  have HH1 := hide h1
  have HH2 := hide h2
  unfold maxLen at l1 l2
  clear f1 f2 h1 h2 m1 m2
  by_cases hl : K1.length = K2.length
  · rw [← hl] at l2 ⊢
    have HL := hide hl
    obtain ⟨n, hn⟩ : ∃ n, n = K1.length := ⟨_, rfl⟩
    rw [← hn] at l1 l2 ⊢
    have HN := hide hn.symm
    have hne : ((n : Int) != (n : Int)) = false := by simp
    clear hl hn
    go_enter Tryz.func37, Tryz.ntmps37
    go_wp2
    go_loopw [5, 6] (fun i s wr => ∃ k : Nat, k ≤ n ∧ i = .int .i64 k ∧ (K1.map Prod.fst).take k = (K2.map Prod.fst).take k ∧ Below w.heap.size w wr) (fun i _ _ => n - (intOf i).toNat)
    case atStart => exact ⟨0, Nat.zero_le _, rfl, by simp, Below.refl _ _⟩
    case round =>
      obtain ⟨k, hk, rfl, heq, hbel⟩ := hrel
      have HBEL := hide hbel
      have HEQ := hide heq
      by_cases hlt : k < n
      · have k1 : k < K1.length := by rw [HN.out]; exact hlt
        have k2 : k < K2.length := by rw [← HL.out]; exact k1
        have hki : (k : Int) < (n : Int) := by omega
        obtain ⟨b1, o1, rfl, hc1, hb1, hx1⟩ := HF1.out k k1
        obtain ⟨b2, o2, rfl, hc2, hb2, hx2⟩ := HF2.out k k2
        rw [HN.out] at hc1
        rw [← HL.out, HN.out] at hc2
        have hck1 : wr.drew.cell? ⟨b1, o1 + k, none⟩ = some K1[k].2 := by show wr.cell? _ = _; rw [hbel.cell (p := ⟨b1, o1 + k, none⟩) hb1]; exact hx1
        have hck2 : wr.drew.cell? ⟨b2, o2 + k, none⟩ = some K2[k].2 := by show wr.cell? _ = _; rw [hbel.cell (p := ⟨b2, o2 + k, none⟩) hb2]; exact hx2
        have y1 := (HH1.out.2 K1[k] (List.getElem_mem k1)).1
        have y2 := (HH2.out.2 K2[k] (List.getElem_mem k2)).1
        obtain ⟨s1, c1, e1, _, _⟩ := y1.shape
        obtain ⟨s2, c2, e2, _, _⟩ := y2.shape
        have HBC : Hid (∀ W, Below w.heap.size w W → Calls Tryz.prog 11 #[K1[k].2, K2[k].2] W fun e w' => e = .returned (.bool (sameB K1[k].1 K2[k].1)) ∧ Below W.heap.size W w') := hide (fun W hW => bytes_any _ _ _ _ W (y1.below hW) (y2.below hW))
        rw [e1] at hck1 HBC
        rw [e2] at hck2 HBC
        have hxx : (K1.map Prod.fst)[k]'(by simpa using k1) = K1[k].1 := by simp
        have hyy : (K2.map Prod.fst)[k]'(by simpa using k2) = K2[k].1 := by simp
        have HXX := hide hxx
        have HYY := hide hyy
        clear heq hbel hb1 hb2 hx1 hx2 y1 y2 e1 e2 hxx hyy
        by_cases hx : K1[k].1 = K2[k].1
        · have hs : sameB K1[k].1 K2[k].1 = true := by unfold sameB; exact decide_eq_true hx
          rw [hs] at HBC
          have HX := hide hx
          clear hx hs
          generalize K1[k].1.length = n1 at *
          generalize K2[k].1.length = n2 at *
          go_wp2
          refine wp_region_held_drew (S := fun W : World => Below w.heap.size w W ∧ W.cell? ⟨b1, o1 + k, none⟩ = some (.slice s1 n1 c1) ∧ W.cell? ⟨b2, o2 + k, none⟩ = some (.slice s2 n2 c2)) (by kernel_rfl) ?_ (fun hHeld0 => ?_)
          · exact ⟨HBEL.out.drew, hck1, hck2⟩
          refine wpAnyH_take (i := 0) (v := ?_) rfl (by kernel_rfl) (by kernel_rfl) (by kernel_rfl) (fun _ _ _ h => h) (Or.inl ⟨by rfl, ?_⟩) hHeld0 ?_
          rotate_left
          · (intro w hSw; (try dsimp only at hSw); go_simp <;> (try with_reducible rfl))
          simp only [Act.put, List.getElem_toArray, List.getElem_cons_zero, List.getElem_cons_succ, List.setIfInBounds_toArray, List.set_cons_zero, List.set_cons_succ]
          refine wpAnyH_take (i := 1) (v := ?_) rfl (by kernel_rfl) (by kernel_rfl) (by kernel_rfl) (fun _ _ _ h => h) (Or.inl ⟨by rfl, ?_⟩) hHeld0 ?_
          rotate_left
          · (intro w hSw; (try dsimp only at hSw); go_simp <;> (try with_reducible rfl))
          simp only [Act.put, List.getElem_toArray, List.getElem_cons_zero, List.getElem_cons_succ, List.setIfInBounds_toArray, List.set_cons_zero, List.set_cons_succ]
          refine wpAnyH_take (i := 2) (v := ?_) rfl (by kernel_rfl) (by kernel_rfl) (by kernel_rfl) (fun _ _ _ h => h) (Or.inl ⟨by rfl, ?_⟩) hHeld0 ?_
          rotate_left
          · (intro w hSw; (try dsimp only at hSw); go_simp <;> (try with_reducible rfl))
          simp only [Act.put, List.getElem_toArray, List.getElem_cons_zero, List.getElem_cons_succ, List.setIfInBounds_toArray, List.set_cons_zero, List.set_cons_succ]
          refine wpAnyH_take (i := 3) (v := ?_) rfl (by kernel_rfl) (by kernel_rfl) (by kernel_rfl) (fun _ _ _ h => h) (Or.inl ⟨by rfl, ?_⟩) hHeld0 ?_
          rotate_left
          · (intro w hSw; (try dsimp only at hSw); go_simp <;> (try with_reducible rfl))
          simp only [Act.put, List.getElem_toArray, List.getElem_cons_zero, List.getElem_cons_succ, List.setIfInBounds_toArray, List.set_cons_zero, List.set_cons_succ]
          refine wpAnyH_take (i := 4) (v := ?_) rfl (by kernel_rfl) (by kernel_rfl) (by kernel_rfl) (fun _ _ _ h => h) (Or.inl ⟨by rfl, ?_⟩) hHeld0 ?_
          rotate_left
          · (intro w hSw; (try dsimp only at hSw); go_simp <;> (try with_reducible rfl))
          simp only [Act.put, List.getElem_toArray, List.getElem_cons_zero, List.getElem_cons_succ, List.setIfInBounds_toArray, List.set_cons_zero, List.set_cons_succ]
          refine wpAnyH_take (i := 5) (v := ?_) rfl (by kernel_rfl) (by kernel_rfl) (by kernel_rfl) (fun _ _ _ h => h) (Or.inl ⟨by rfl, ?_⟩) hHeld0 ?_
          rotate_left
          · (intro w hSw; (try dsimp only at hSw); go_simp <;> (try with_reducible rfl))
          simp only [Act.put, List.getElem_toArray, List.getElem_cons_zero, List.getElem_cons_succ, List.setIfInBounds_toArray, List.set_cons_zero, List.set_cons_succ]
          refine wpAnyH_take (i := 6) (v := ?_) rfl (by kernel_rfl) (by kernel_rfl) (by kernel_rfl) (fun _ _ _ h => h) (Or.inl ⟨by rfl, ?_⟩) hHeld0 ?_
          rotate_left
          · (intro w hSw; (try dsimp only at hSw); go_simp <;> (try with_reducible rfl))
          simp only [Act.put, List.getElem_toArray, List.getElem_cons_zero, List.getElem_cons_succ, List.setIfInBounds_toArray, List.set_cons_zero, List.set_cons_succ]
          refine wpAnyH_take (i := 7) (v := ?_) rfl (by kernel_rfl) (by kernel_rfl) (by kernel_rfl) (fun _ _ _ h => h) (Or.inl ⟨by rfl, ?_⟩) hHeld0 ?_
          rotate_left
          · (intro w hSw; (try dsimp only at hSw); go_simp <;> (try with_reducible rfl))
          simp only [Act.put, List.getElem_toArray, List.getElem_cons_zero, List.getElem_cons_succ, List.setIfInBounds_toArray, List.set_cons_zero, List.set_cons_succ]
          refine wpAnyH_ready (rs := [8]) (by kernel_rfl) (by simp) ?_
          refine AllReadyH.cons rfl (fun K hK => ?_) AllReadyH.nil
          go_simp
          go_wp2_with ((go_at_call 11; refine (HBC.out _ hHeld0.1).mono ?_; rintro e W1 ⟨rfl, hb1⟩))
          refine hK.out _ _ (by exact ⟨hHeld0.1.trans (hb1.mono hHeld0.1.size), sm_cell hHeld0.2.1 hb1, sm_cell hHeld0.2.2 hb1⟩) (fun hHeld1 => ?_)
          clear hK K hHeld0
          try simp only [Act.put, List.getElem_toArray, List.getElem_cons_zero, List.getElem_cons_succ, List.setIfInBounds_toArray, List.set_cons_zero, List.set_cons_succ]
          refine wpAnyH_take (i := 9) (v := ?_) rfl (by kernel_rfl) (by kernel_rfl) (by kernel_rfl) (fun _ _ _ h => h) (Or.inl ⟨by rfl, ?_⟩) hHeld1 ?_
          rotate_left
          · (intro w hSw; (try dsimp only at hSw); go_simp <;> (try with_reducible rfl))
          simp only [Act.put, List.getElem_toArray, List.getElem_cons_zero, List.getElem_cons_succ, List.setIfInBounds_toArray, List.set_cons_zero, List.set_cons_succ]
          refine wpAnyH_done (by kernel_rfl) ?_ _
          have HB2 := hide hHeld1.1
          clear hHeld1 hck1 hck2
          go_wp2
          go_roundw
          case rel => exact ⟨k + 1, by omega, by go_num, sm_take (by simpa using k1) (by simpa using k2) HEQ.out (by rw [HXX.out, HYY.out, HX.out]), HB2.out⟩
          case measure => simp [intOf]; omega
        · have hs : sameB K1[k].1 K2[k].1 = false := by unfold sameB; exact decide_eq_false hx
          rw [hs] at HBC
          have HX := hide hx
          clear hx hs
          generalize K1[k].1.length = n1 at *
          generalize K2[k].1.length = n2 at *
          go_wp2
          refine wp_region_held_drew (S := fun W : World => Below w.heap.size w W ∧ W.cell? ⟨b1, o1 + k, none⟩ = some (.slice s1 n1 c1) ∧ W.cell? ⟨b2, o2 + k, none⟩ = some (.slice s2 n2 c2)) (by kernel_rfl) ?_ (fun hHeld0 => ?_)
          · exact ⟨HBEL.out.drew, hck1, hck2⟩
          refine wpAnyH_take (i := 0) (v := ?_) rfl (by kernel_rfl) (by kernel_rfl) (by kernel_rfl) (fun _ _ _ h => h) (Or.inl ⟨by rfl, ?_⟩) hHeld0 ?_
          rotate_left
          · (intro w hSw; (try dsimp only at hSw); go_simp <;> (try with_reducible rfl))
          simp only [Act.put, List.getElem_toArray, List.getElem_cons_zero, List.getElem_cons_succ, List.setIfInBounds_toArray, List.set_cons_zero, List.set_cons_succ]
          refine wpAnyH_take (i := 1) (v := ?_) rfl (by kernel_rfl) (by kernel_rfl) (by kernel_rfl) (fun _ _ _ h => h) (Or.inl ⟨by rfl, ?_⟩) hHeld0 ?_
          rotate_left
          · (intro w hSw; (try dsimp only at hSw); go_simp <;> (try with_reducible rfl))
          simp only [Act.put, List.getElem_toArray, List.getElem_cons_zero, List.getElem_cons_succ, List.setIfInBounds_toArray, List.set_cons_zero, List.set_cons_succ]
          refine wpAnyH_take (i := 2) (v := ?_) rfl (by kernel_rfl) (by kernel_rfl) (by kernel_rfl) (fun _ _ _ h => h) (Or.inl ⟨by rfl, ?_⟩) hHeld0 ?_
          rotate_left
          · (intro w hSw; (try dsimp only at hSw); go_simp <;> (try with_reducible rfl))
          simp only [Act.put, List.getElem_toArray, List.getElem_cons_zero, List.getElem_cons_succ, List.setIfInBounds_toArray, List.set_cons_zero, List.set_cons_succ]
          refine wpAnyH_take (i := 3) (v := ?_) rfl (by kernel_rfl) (by kernel_rfl) (by kernel_rfl) (fun _ _ _ h => h) (Or.inl ⟨by rfl, ?_⟩) hHeld0 ?_
          rotate_left
          · (intro w hSw; (try dsimp only at hSw); go_simp <;> (try with_reducible rfl))
          simp only [Act.put, List.getElem_toArray, List.getElem_cons_zero, List.getElem_cons_succ, List.setIfInBounds_toArray, List.set_cons_zero, List.set_cons_succ]
          refine wpAnyH_take (i := 4) (v := ?_) rfl (by kernel_rfl) (by kernel_rfl) (by kernel_rfl) (fun _ _ _ h => h) (Or.inl ⟨by rfl, ?_⟩) hHeld0 ?_
          rotate_left
          · (intro w hSw; (try dsimp only at hSw); go_simp <;> (try with_reducible rfl))
          simp only [Act.put, List.getElem_toArray, List.getElem_cons_zero, List.getElem_cons_succ, List.setIfInBounds_toArray, List.set_cons_zero, List.set_cons_succ]
          refine wpAnyH_take (i := 5) (v := ?_) rfl (by kernel_rfl) (by kernel_rfl) (by kernel_rfl) (fun _ _ _ h => h) (Or.inl ⟨by rfl, ?_⟩) hHeld0 ?_
          rotate_left
          · (intro w hSw; (try dsimp only at hSw); go_simp <;> (try with_reducible rfl))
          simp only [Act.put, List.getElem_toArray, List.getElem_cons_zero, List.getElem_cons_succ, List.setIfInBounds_toArray, List.set_cons_zero, List.set_cons_succ]
          refine wpAnyH_take (i := 6) (v := ?_) rfl (by kernel_rfl) (by kernel_rfl) (by kernel_rfl) (fun _ _ _ h => h) (Or.inl ⟨by rfl, ?_⟩) hHeld0 ?_
          rotate_left
          · (intro w hSw; (try dsimp only at hSw); go_simp <;> (try with_reducible rfl))
          simp only [Act.put, List.getElem_toArray, List.getElem_cons_zero, List.getElem_cons_succ, List.setIfInBounds_toArray, List.set_cons_zero, List.set_cons_succ]
          refine wpAnyH_take (i := 7) (v := ?_) rfl (by kernel_rfl) (by kernel_rfl) (by kernel_rfl) (fun _ _ _ h => h) (Or.inl ⟨by rfl, ?_⟩) hHeld0 ?_
          rotate_left
          · (intro w hSw; (try dsimp only at hSw); go_simp <;> (try with_reducible rfl))
          simp only [Act.put, List.getElem_toArray, List.getElem_cons_zero, List.getElem_cons_succ, List.setIfInBounds_toArray, List.set_cons_zero, List.set_cons_succ]
          refine wpAnyH_ready (rs := [8]) (by kernel_rfl) (by simp) ?_
          refine AllReadyH.cons rfl (fun K hK => ?_) AllReadyH.nil
          go_simp
          go_wp2_with ((go_at_call 11; refine (HBC.out _ hHeld0.1).mono ?_; rintro e W1 ⟨rfl, hb1⟩))
          refine hK.out _ _ (by exact ⟨hHeld0.1.trans (hb1.mono hHeld0.1.size), sm_cell hHeld0.2.1 hb1, sm_cell hHeld0.2.2 hb1⟩) (fun hHeld1 => ?_)
          clear hK K hHeld0
          try simp only [Act.put, List.getElem_toArray, List.getElem_cons_zero, List.getElem_cons_succ, List.setIfInBounds_toArray, List.set_cons_zero, List.set_cons_succ]
          refine wpAnyH_take (i := 9) (v := ?_) rfl (by kernel_rfl) (by kernel_rfl) (by kernel_rfl) (fun _ _ _ h => h) (Or.inl ⟨by rfl, ?_⟩) hHeld1 ?_
          rotate_left
          · (intro w hSw; (try dsimp only at hSw); go_simp <;> (try with_reducible rfl))
          simp only [Act.put, List.getElem_toArray, List.getElem_cons_zero, List.getElem_cons_succ, List.setIfInBounds_toArray, List.set_cons_zero, List.set_cons_succ]
          refine wpAnyH_done (by kernel_rfl) ?_ _
          have HB2 := hide hHeld1.1
          clear hHeld1 hck1 hck2
          go_wp2
          go_ret
          exact ⟨false, rfl, ⟨fun h => absurd h (by simp), fun h => absurd (by have h2 := congrArg (fun l : List (List Int) => l[k]?) h; simpa [List.getElem?_eq_getElem k1, List.getElem?_eq_getElem k2] using h2) HX.out⟩, HB2.out⟩
      · have hke : k = n := by omega
        have hall := sm_end (by rw [List.length_map, HN.out, hke]) (by rw [List.length_map, ← HL.out, HN.out, hke]) heq
        have HALL := hide hall
        clear heq hbel hall HEQ
        go_wp2
        go_ret
        exact ⟨true, rfl, ⟨fun _ => HALL.out, fun _ => rfl⟩, HBEL.out⟩
  · have hne : ((K1.length : Int) != (K2.length : Int)) = true := by simp; omega
    clear HF1 HF2 HH1 HH2
    have HNE : Hid (¬ K1.map Prod.fst = K2.map Prod.fst) := hide (fun h => hl (by have := congrArg List.length h; simpa using this))
    generalize K1.length = n1 at *
    generalize K2.length = n2 at *
    clear hl
    go_enter Tryz.func37, Tryz.ntmps37
    go_wp2
    go_ret
    exact ⟨false, rfl, ⟨fun h => absurd h (by simp), fun h => absurd h HNE.out⟩, Below.refl _ _⟩
end Go.Proofs.YtbdnbjemocjlaaaGreatDoor

/- moneyersame's Lock: whether two locks are the same. -/
namespace Go.Proofs.YtbdnbjemocjlaaaGreatDoor
open Go.RowKit
set_option linter.unusedVariables false
set_option linter.unusedSimpArgs false

theorem op_same {a b : Lk.Op} : a = b ↔ a.data = b.data ∧ a.op = b.op ∧ a.n = b.n := by
  cases a; cases b
  simp only [Lk.Op.mk.injEq]
  exact ⟨fun ⟨h1, h2, h3⟩ => ⟨h3, h1, h2⟩, fun ⟨h3, h1, h2⟩ => ⟨h1, h2, h3⟩⟩

set_option maxRecDepth 100000 in
set_option maxHeartbeats 4000000 in
theorem lockSame_any (v1 v2 : Value) (K1 K2 : List (Lk.Op × Value)) (w : World) (h1 : HasOps w v1 K1) (h2 : HasOps w v2 K2) :
    Calls Tryz.prog 38 #[v1, v2] w fun e w' => ∃ b, e = .returned (.bool b) ∧ (b = true ↔ opsOf K1 = opsOf K2) ∧ Below w.heap.size w w' := by
  obtain ⟨a1, d1, rfl, l1, f1⟩ := ops_form h1
  obtain ⟨a2, d2, rfl, l2, f2⟩ := ops_form h2
  have HF1 := hide f1
  have HF2 := hide f2
  have HH1 := hide h1
  have HH2 := hide h2
  unfold maxLen at l1 l2
  clear f1 f2 h1 h2
  by_cases hl : K1.length = K2.length
  · rw [← hl] at l2 ⊢
    have HL := hide hl
    obtain ⟨n, hn⟩ : ∃ n, n = K1.length := ⟨_, rfl⟩
    rw [← hn] at l1 l2 ⊢
    have HN := hide hn.symm
    have hne : ((n : Int) != (n : Int)) = false := by simp
    clear hl hn
    go_enter Tryz.func38, Tryz.ntmps38
    go_wp2
    go_loopw [5, 6] (fun i s wr => ∃ k : Nat, k ≤ n ∧ i = .int .i64 k ∧ (opsOf K1).take k = (opsOf K2).take k ∧ Below w.heap.size w wr) (fun i _ _ => n - (intOf i).toNat)
    case atStart => exact ⟨0, Nat.zero_le _, rfl, by simp, Below.refl _ _⟩
    case round =>
      obtain ⟨k, hk, rfl, heq, hbel⟩ := hrel
      have HBEL := hide hbel
      have HEQ := hide heq
      by_cases hlt : k < n
      · have k1 : k < K1.length := by rw [HN.out]; exact hlt
        have k2 : k < K2.length := by rw [← HL.out]; exact k1
        have hki : (k : Int) < (n : Int) := by omega
        obtain ⟨b1, o1, rfl, hc1, hm1, hb1, hq1, hr1, hx1⟩ := HF1.out k k1
        obtain ⟨b2, o2, rfl, hc2, hm2, hb2, hq2, hr2, hx2⟩ := HF2.out k k2
        rw [HN.out] at hc1
        rw [← HL.out, HN.out] at hc2
        have hck1 : wr.drew.cell? ⟨b1, o1 + k * 3 + 2, none⟩ = some K1[k].2 := sm_cell hx1 hbel.drew
        have hck2 : wr.drew.cell? ⟨b2, o2 + k * 3 + 2, none⟩ = some K2[k].2 := sm_cell hx2 hbel.drew
        have HQ1 := hide hq1
        have HQ2 := hide hq2
        have HR1 := hide hr1
        have HR2 := hide hr2
        have y1 := (HH1.out.2 K1[k] (List.getElem_mem k1)).1
        have y2 := (HH2.out.2 K2[k] (List.getElem_mem k2)).1
        obtain ⟨s1, c1, e1, _, _⟩ := y1.shape
        obtain ⟨s2, c2, e2, _, _⟩ := y2.shape
        have HBC : Hid (∀ W, Below w.heap.size w W → Calls Tryz.prog 11 #[K1[k].2, K2[k].2] W fun e w' => e = .returned (.bool (sameB K1[k].1.data K2[k].1.data)) ∧ Below W.heap.size W w') := hide (fun W hW => bytes_any _ _ _ _ W (y1.below hW) (y2.below hW))
        rw [e1] at hck1 HBC
        rw [e2] at hck2 HBC
        have z1 : k < (opsOf K1).length := by rw [opsOf_length]; exact k1
        have z2 : k < (opsOf K2).length := by rw [opsOf_length]; exact k2
        have hxx : (opsOf K1)[k] = K1[k].1 := by simp [opsOf]
        have hyy : (opsOf K2)[k] = K2[k].1 := by simp [opsOf]
        have HNO : Hid (¬ K1[k].1 = K2[k].1 → ¬ opsOf K1 = opsOf K2) := hide (fun h1 h2 => h1 (by rw [← hxx, ← hyy]; simp [h2]))
        have HSO : Hid (K1[k].1 = K2[k].1 → (opsOf K1).take (k + 1) = (opsOf K2).take (k + 1)) := hide (fun h => sm_take z1 z2 HEQ.out (by rw [hxx, hyy, h]))
        have HOS := hide (@op_same K1[k].1 K2[k].1)
        clear heq hbel hb1 hb2 hx1 hx2 y1 y2 e1 e2 hxx hyy hq1 hq2 hr1 hr2 hm1 hm2
        by_cases hx : K1[k].1.data = K2[k].1.data
        · have hs : sameB K1[k].1.data K2[k].1.data = true := by unfold sameB; exact decide_eq_true hx
          rw [hs] at HBC
          have HX := hide hx
          clear hx hs
          generalize K1[k].1.data.length = n1 at *
          generalize K2[k].1.data.length = n2 at *
          by_cases hop : K1[k].1.op = K2[k].1.op
          · have hopd : (K1[k].1.op != K2[k].1.op) = false := by rw [bne_eq_false_iff_eq]; exact hop
            have HOP := hide hop
            clear hop
            by_cases hnn : K1[k].1.n = K2[k].1.n
            · have hnd : (K1[k].1.n != K2[k].1.n) = false := by rw [bne_eq_false_iff_eq]; exact hnn
              have HALL : Hid (K1[k].1 = K2[k].1) := hide (HOS.out.2 ⟨HX.out, HOP.out, hnn⟩)
              clear hnn HOS HOP HX
              have HGO := hide (HSO.out HALL.out)
              clear HSO HALL HNO
              generalize K1[k].1.op = op1 at *
              generalize K2[k].1.op = op2 at *
              generalize K1[k].1.n = no1 at *
              generalize K2[k].1.n = no2 at *
              go_wp2
              refine wp_region_held_drew (S := fun W : World => Below w.heap.size w W ∧ W.cell? ⟨b1, o1 + k * 3 + 2, none⟩ = some (.slice s1 n1 c1) ∧ W.cell? ⟨b2, o2 + k * 3 + 2, none⟩ = some (.slice s2 n2 c2)) (by kernel_rfl) ?_ (fun hHeld0 => ?_)
              · exact ⟨HBEL.out.drew, hck1, hck2⟩
              refine wpAnyH_take (i := 0) (v := ?_) rfl (by kernel_rfl) (by kernel_rfl) (by kernel_rfl) (fun _ _ _ h => h) (Or.inl ⟨by rfl, ?_⟩) hHeld0 ?_
              rotate_left
              · (intro w hSw; (try dsimp only at hSw); go_simp <;> (try with_reducible rfl))
              simp only [Act.put, List.getElem_toArray, List.getElem_cons_zero, List.getElem_cons_succ, List.setIfInBounds_toArray, List.set_cons_zero, List.set_cons_succ]
              refine wpAnyH_take (i := 1) (v := ?_) rfl (by kernel_rfl) (by kernel_rfl) (by kernel_rfl) (fun _ _ _ h => h) (Or.inl ⟨by rfl, ?_⟩) hHeld0 ?_
              rotate_left
              · (intro w hSw; (try dsimp only at hSw); go_simp <;> (try with_reducible rfl))
              simp only [Act.put, List.getElem_toArray, List.getElem_cons_zero, List.getElem_cons_succ, List.setIfInBounds_toArray, List.set_cons_zero, List.set_cons_succ]
              refine wpAnyH_take (i := 2) (v := ?_) rfl (by kernel_rfl) (by kernel_rfl) (by kernel_rfl) (fun _ _ _ h => h) (Or.inl ⟨by rfl, ?_⟩) hHeld0 ?_
              rotate_left
              · (intro w hSw; (try dsimp only at hSw); go_simp <;> (try with_reducible rfl))
              simp only [Act.put, List.getElem_toArray, List.getElem_cons_zero, List.getElem_cons_succ, List.setIfInBounds_toArray, List.set_cons_zero, List.set_cons_succ]
              refine wpAnyH_take (i := 3) (v := ?_) rfl (by kernel_rfl) (by kernel_rfl) (by kernel_rfl) (fun _ _ _ h => h) (Or.inl ⟨by rfl, ?_⟩) hHeld0 ?_
              rotate_left
              · (intro w hSw; (try dsimp only at hSw); go_simp <;> (try with_reducible rfl))
              simp only [Act.put, List.getElem_toArray, List.getElem_cons_zero, List.getElem_cons_succ, List.setIfInBounds_toArray, List.set_cons_zero, List.set_cons_succ]
              refine wpAnyH_take (i := 4) (v := ?_) rfl (by kernel_rfl) (by kernel_rfl) (by kernel_rfl) (fun _ _ _ h => h) (Or.inl ⟨by rfl, ?_⟩) hHeld0 ?_
              rotate_left
              · (intro w hSw; (try dsimp only at hSw); go_simp <;> (try with_reducible rfl))
              simp only [Act.put, List.getElem_toArray, List.getElem_cons_zero, List.getElem_cons_succ, List.setIfInBounds_toArray, List.set_cons_zero, List.set_cons_succ]
              refine wpAnyH_take (i := 5) (v := ?_) rfl (by kernel_rfl) (by kernel_rfl) (by kernel_rfl) (fun _ _ _ h => h) (Or.inl ⟨by rfl, ?_⟩) hHeld0 ?_
              rotate_left
              · (intro w hSw; (try dsimp only at hSw); go_simp <;> (try with_reducible rfl))
              simp only [Act.put, List.getElem_toArray, List.getElem_cons_zero, List.getElem_cons_succ, List.setIfInBounds_toArray, List.set_cons_zero, List.set_cons_succ]
              refine wpAnyH_take (i := 6) (v := ?_) rfl (by kernel_rfl) (by kernel_rfl) (by kernel_rfl) (fun _ _ _ h => h) (Or.inl ⟨by rfl, ?_⟩) hHeld0 ?_
              rotate_left
              · (intro w hSw; (try dsimp only at hSw); go_simp <;> (try with_reducible rfl))
              simp only [Act.put, List.getElem_toArray, List.getElem_cons_zero, List.getElem_cons_succ, List.setIfInBounds_toArray, List.set_cons_zero, List.set_cons_succ]
              refine wpAnyH_take (i := 7) (v := ?_) rfl (by kernel_rfl) (by kernel_rfl) (by kernel_rfl) (fun _ _ _ h => h) (Or.inl ⟨by rfl, ?_⟩) hHeld0 ?_
              rotate_left
              · (intro w hSw; (try dsimp only at hSw); go_simp <;> (try with_reducible rfl))
              simp only [Act.put, List.getElem_toArray, List.getElem_cons_zero, List.getElem_cons_succ, List.setIfInBounds_toArray, List.set_cons_zero, List.set_cons_succ]
              refine wpAnyH_take (i := 8) (v := ?_) rfl (by kernel_rfl) (by kernel_rfl) (by kernel_rfl) (fun _ _ _ h => h) (Or.inl ⟨by rfl, ?_⟩) hHeld0 ?_
              rotate_left
              · (intro w hSw; (try dsimp only at hSw); go_simp <;> (try with_reducible rfl))
              simp only [Act.put, List.getElem_toArray, List.getElem_cons_zero, List.getElem_cons_succ, List.setIfInBounds_toArray, List.set_cons_zero, List.set_cons_succ]
              refine wpAnyH_take (i := 9) (v := ?_) rfl (by kernel_rfl) (by kernel_rfl) (by kernel_rfl) (fun _ _ _ h => h) (Or.inl ⟨by rfl, ?_⟩) hHeld0 ?_
              rotate_left
              · (intro w hSw; (try dsimp only at hSw); go_simp <;> (try with_reducible rfl))
              simp only [Act.put, List.getElem_toArray, List.getElem_cons_zero, List.getElem_cons_succ, List.setIfInBounds_toArray, List.set_cons_zero, List.set_cons_succ]
              refine wpAnyH_ready (rs := [10]) (by kernel_rfl) (by simp) ?_
              refine AllReadyH.cons rfl (fun K hK => ?_) AllReadyH.nil
              go_simp
              go_wp2_with ((go_at_call 11; refine (HBC.out _ hHeld0.1).mono ?_; rintro e W1 ⟨rfl, hb1⟩))
              refine hK.out _ _ (by exact ⟨hHeld0.1.trans (hb1.mono hHeld0.1.size), sm_cell hHeld0.2.1 hb1, sm_cell hHeld0.2.2 hb1⟩) (fun hHeld1 => ?_)
              clear hK K hHeld0
              try simp only [Act.put, List.getElem_toArray, List.getElem_cons_zero, List.getElem_cons_succ, List.setIfInBounds_toArray, List.set_cons_zero, List.set_cons_succ]
              refine wpAnyH_take (i := 11) (v := ?_) rfl (by kernel_rfl) (by kernel_rfl) (by kernel_rfl) (fun _ _ _ h => h) (Or.inl ⟨by rfl, ?_⟩) hHeld1 ?_
              rotate_left
              · (intro w hSw; (try dsimp only at hSw); go_simp <;> (try with_reducible rfl))
              simp only [Act.put, List.getElem_toArray, List.getElem_cons_zero, List.getElem_cons_succ, List.setIfInBounds_toArray, List.set_cons_zero, List.set_cons_succ]
              refine wpAnyH_done (by kernel_rfl) ?_ _
              have HB2 := hide hHeld1.1
              have hp1 := sm_cell HQ1.out hHeld1.1
              have hp2 := sm_cell HQ2.out hHeld1.1
              have hr1 := sm_cell HR1.out hHeld1.1
              have hr2 := sm_cell HR2.out hHeld1.1
              clear hHeld1 hck1 hck2
              go_wp2
              go_quiet (fail)
              go_wp2
              go_roundw
              case rel => exact ⟨k + 1, by omega, by go_num, HGO.out, HB2.out.trans ((quietBelow _ _).mono HB2.out.size)⟩
              case measure => simp [intOf]; omega
            · have hnd : (K1[k].1.n != K2[k].1.n) = true := by rw [bne_iff_ne]; exact hnn
              have HALL : Hid (¬ opsOf K1 = opsOf K2) := hide (HNO.out (fun h => hnn (HOS.out.1 h).2.2))
              clear hnn HOS HOP HX HSO HNO
              generalize K1[k].1.op = op1 at *
              generalize K2[k].1.op = op2 at *
              generalize K1[k].1.n = no1 at *
              generalize K2[k].1.n = no2 at *
              go_wp2
              refine wp_region_held_drew (S := fun W : World => Below w.heap.size w W ∧ W.cell? ⟨b1, o1 + k * 3 + 2, none⟩ = some (.slice s1 n1 c1) ∧ W.cell? ⟨b2, o2 + k * 3 + 2, none⟩ = some (.slice s2 n2 c2)) (by kernel_rfl) ?_ (fun hHeld0 => ?_)
              · exact ⟨HBEL.out.drew, hck1, hck2⟩
              refine wpAnyH_take (i := 0) (v := ?_) rfl (by kernel_rfl) (by kernel_rfl) (by kernel_rfl) (fun _ _ _ h => h) (Or.inl ⟨by rfl, ?_⟩) hHeld0 ?_
              rotate_left
              · (intro w hSw; (try dsimp only at hSw); go_simp <;> (try with_reducible rfl))
              simp only [Act.put, List.getElem_toArray, List.getElem_cons_zero, List.getElem_cons_succ, List.setIfInBounds_toArray, List.set_cons_zero, List.set_cons_succ]
              refine wpAnyH_take (i := 1) (v := ?_) rfl (by kernel_rfl) (by kernel_rfl) (by kernel_rfl) (fun _ _ _ h => h) (Or.inl ⟨by rfl, ?_⟩) hHeld0 ?_
              rotate_left
              · (intro w hSw; (try dsimp only at hSw); go_simp <;> (try with_reducible rfl))
              simp only [Act.put, List.getElem_toArray, List.getElem_cons_zero, List.getElem_cons_succ, List.setIfInBounds_toArray, List.set_cons_zero, List.set_cons_succ]
              refine wpAnyH_take (i := 2) (v := ?_) rfl (by kernel_rfl) (by kernel_rfl) (by kernel_rfl) (fun _ _ _ h => h) (Or.inl ⟨by rfl, ?_⟩) hHeld0 ?_
              rotate_left
              · (intro w hSw; (try dsimp only at hSw); go_simp <;> (try with_reducible rfl))
              simp only [Act.put, List.getElem_toArray, List.getElem_cons_zero, List.getElem_cons_succ, List.setIfInBounds_toArray, List.set_cons_zero, List.set_cons_succ]
              refine wpAnyH_take (i := 3) (v := ?_) rfl (by kernel_rfl) (by kernel_rfl) (by kernel_rfl) (fun _ _ _ h => h) (Or.inl ⟨by rfl, ?_⟩) hHeld0 ?_
              rotate_left
              · (intro w hSw; (try dsimp only at hSw); go_simp <;> (try with_reducible rfl))
              simp only [Act.put, List.getElem_toArray, List.getElem_cons_zero, List.getElem_cons_succ, List.setIfInBounds_toArray, List.set_cons_zero, List.set_cons_succ]
              refine wpAnyH_take (i := 4) (v := ?_) rfl (by kernel_rfl) (by kernel_rfl) (by kernel_rfl) (fun _ _ _ h => h) (Or.inl ⟨by rfl, ?_⟩) hHeld0 ?_
              rotate_left
              · (intro w hSw; (try dsimp only at hSw); go_simp <;> (try with_reducible rfl))
              simp only [Act.put, List.getElem_toArray, List.getElem_cons_zero, List.getElem_cons_succ, List.setIfInBounds_toArray, List.set_cons_zero, List.set_cons_succ]
              refine wpAnyH_take (i := 5) (v := ?_) rfl (by kernel_rfl) (by kernel_rfl) (by kernel_rfl) (fun _ _ _ h => h) (Or.inl ⟨by rfl, ?_⟩) hHeld0 ?_
              rotate_left
              · (intro w hSw; (try dsimp only at hSw); go_simp <;> (try with_reducible rfl))
              simp only [Act.put, List.getElem_toArray, List.getElem_cons_zero, List.getElem_cons_succ, List.setIfInBounds_toArray, List.set_cons_zero, List.set_cons_succ]
              refine wpAnyH_take (i := 6) (v := ?_) rfl (by kernel_rfl) (by kernel_rfl) (by kernel_rfl) (fun _ _ _ h => h) (Or.inl ⟨by rfl, ?_⟩) hHeld0 ?_
              rotate_left
              · (intro w hSw; (try dsimp only at hSw); go_simp <;> (try with_reducible rfl))
              simp only [Act.put, List.getElem_toArray, List.getElem_cons_zero, List.getElem_cons_succ, List.setIfInBounds_toArray, List.set_cons_zero, List.set_cons_succ]
              refine wpAnyH_take (i := 7) (v := ?_) rfl (by kernel_rfl) (by kernel_rfl) (by kernel_rfl) (fun _ _ _ h => h) (Or.inl ⟨by rfl, ?_⟩) hHeld0 ?_
              rotate_left
              · (intro w hSw; (try dsimp only at hSw); go_simp <;> (try with_reducible rfl))
              simp only [Act.put, List.getElem_toArray, List.getElem_cons_zero, List.getElem_cons_succ, List.setIfInBounds_toArray, List.set_cons_zero, List.set_cons_succ]
              refine wpAnyH_take (i := 8) (v := ?_) rfl (by kernel_rfl) (by kernel_rfl) (by kernel_rfl) (fun _ _ _ h => h) (Or.inl ⟨by rfl, ?_⟩) hHeld0 ?_
              rotate_left
              · (intro w hSw; (try dsimp only at hSw); go_simp <;> (try with_reducible rfl))
              simp only [Act.put, List.getElem_toArray, List.getElem_cons_zero, List.getElem_cons_succ, List.setIfInBounds_toArray, List.set_cons_zero, List.set_cons_succ]
              refine wpAnyH_take (i := 9) (v := ?_) rfl (by kernel_rfl) (by kernel_rfl) (by kernel_rfl) (fun _ _ _ h => h) (Or.inl ⟨by rfl, ?_⟩) hHeld0 ?_
              rotate_left
              · (intro w hSw; (try dsimp only at hSw); go_simp <;> (try with_reducible rfl))
              simp only [Act.put, List.getElem_toArray, List.getElem_cons_zero, List.getElem_cons_succ, List.setIfInBounds_toArray, List.set_cons_zero, List.set_cons_succ]
              refine wpAnyH_ready (rs := [10]) (by kernel_rfl) (by simp) ?_
              refine AllReadyH.cons rfl (fun K hK => ?_) AllReadyH.nil
              go_simp
              go_wp2_with ((go_at_call 11; refine (HBC.out _ hHeld0.1).mono ?_; rintro e W1 ⟨rfl, hb1⟩))
              refine hK.out _ _ (by exact ⟨hHeld0.1.trans (hb1.mono hHeld0.1.size), sm_cell hHeld0.2.1 hb1, sm_cell hHeld0.2.2 hb1⟩) (fun hHeld1 => ?_)
              clear hK K hHeld0
              try simp only [Act.put, List.getElem_toArray, List.getElem_cons_zero, List.getElem_cons_succ, List.setIfInBounds_toArray, List.set_cons_zero, List.set_cons_succ]
              refine wpAnyH_take (i := 11) (v := ?_) rfl (by kernel_rfl) (by kernel_rfl) (by kernel_rfl) (fun _ _ _ h => h) (Or.inl ⟨by rfl, ?_⟩) hHeld1 ?_
              rotate_left
              · (intro w hSw; (try dsimp only at hSw); go_simp <;> (try with_reducible rfl))
              simp only [Act.put, List.getElem_toArray, List.getElem_cons_zero, List.getElem_cons_succ, List.setIfInBounds_toArray, List.set_cons_zero, List.set_cons_succ]
              refine wpAnyH_done (by kernel_rfl) ?_ _
              have HB2 := hide hHeld1.1
              have hp1 := sm_cell HQ1.out hHeld1.1
              have hp2 := sm_cell HQ2.out hHeld1.1
              have hr1 := sm_cell HR1.out hHeld1.1
              have hr2 := sm_cell HR2.out hHeld1.1
              clear hHeld1 hck1 hck2
              go_wp2
              go_quiet (fail)
              go_wp2
              go_ret
              exact ⟨false, rfl, ⟨fun h => absurd h (by simp), fun h => absurd h HALL.out⟩, HB2.out.trans ((quietBelow _ _).mono HB2.out.size)⟩
          · have hopd : (K1[k].1.op != K2[k].1.op) = true := by rw [bne_iff_ne]; exact hop
            have HALL : Hid (¬ opsOf K1 = opsOf K2) := hide (HNO.out (fun h => hop (HOS.out.1 h).2.1))
            clear hop HOS HX HSO HNO
            generalize K1[k].1.op = op1 at *
            generalize K2[k].1.op = op2 at *
            generalize K1[k].1.n = no1 at *
            generalize K2[k].1.n = no2 at *
            go_wp2
            refine wp_region_held_drew (S := fun W : World => Below w.heap.size w W ∧ W.cell? ⟨b1, o1 + k * 3 + 2, none⟩ = some (.slice s1 n1 c1) ∧ W.cell? ⟨b2, o2 + k * 3 + 2, none⟩ = some (.slice s2 n2 c2)) (by kernel_rfl) ?_ (fun hHeld0 => ?_)
            · exact ⟨HBEL.out.drew, hck1, hck2⟩
            refine wpAnyH_take (i := 0) (v := ?_) rfl (by kernel_rfl) (by kernel_rfl) (by kernel_rfl) (fun _ _ _ h => h) (Or.inl ⟨by rfl, ?_⟩) hHeld0 ?_
            rotate_left
            · (intro w hSw; (try dsimp only at hSw); go_simp <;> (try with_reducible rfl))
            simp only [Act.put, List.getElem_toArray, List.getElem_cons_zero, List.getElem_cons_succ, List.setIfInBounds_toArray, List.set_cons_zero, List.set_cons_succ]
            refine wpAnyH_take (i := 1) (v := ?_) rfl (by kernel_rfl) (by kernel_rfl) (by kernel_rfl) (fun _ _ _ h => h) (Or.inl ⟨by rfl, ?_⟩) hHeld0 ?_
            rotate_left
            · (intro w hSw; (try dsimp only at hSw); go_simp <;> (try with_reducible rfl))
            simp only [Act.put, List.getElem_toArray, List.getElem_cons_zero, List.getElem_cons_succ, List.setIfInBounds_toArray, List.set_cons_zero, List.set_cons_succ]
            refine wpAnyH_take (i := 2) (v := ?_) rfl (by kernel_rfl) (by kernel_rfl) (by kernel_rfl) (fun _ _ _ h => h) (Or.inl ⟨by rfl, ?_⟩) hHeld0 ?_
            rotate_left
            · (intro w hSw; (try dsimp only at hSw); go_simp <;> (try with_reducible rfl))
            simp only [Act.put, List.getElem_toArray, List.getElem_cons_zero, List.getElem_cons_succ, List.setIfInBounds_toArray, List.set_cons_zero, List.set_cons_succ]
            refine wpAnyH_take (i := 3) (v := ?_) rfl (by kernel_rfl) (by kernel_rfl) (by kernel_rfl) (fun _ _ _ h => h) (Or.inl ⟨by rfl, ?_⟩) hHeld0 ?_
            rotate_left
            · (intro w hSw; (try dsimp only at hSw); go_simp <;> (try with_reducible rfl))
            simp only [Act.put, List.getElem_toArray, List.getElem_cons_zero, List.getElem_cons_succ, List.setIfInBounds_toArray, List.set_cons_zero, List.set_cons_succ]
            refine wpAnyH_take (i := 4) (v := ?_) rfl (by kernel_rfl) (by kernel_rfl) (by kernel_rfl) (fun _ _ _ h => h) (Or.inl ⟨by rfl, ?_⟩) hHeld0 ?_
            rotate_left
            · (intro w hSw; (try dsimp only at hSw); go_simp <;> (try with_reducible rfl))
            simp only [Act.put, List.getElem_toArray, List.getElem_cons_zero, List.getElem_cons_succ, List.setIfInBounds_toArray, List.set_cons_zero, List.set_cons_succ]
            refine wpAnyH_take (i := 5) (v := ?_) rfl (by kernel_rfl) (by kernel_rfl) (by kernel_rfl) (fun _ _ _ h => h) (Or.inl ⟨by rfl, ?_⟩) hHeld0 ?_
            rotate_left
            · (intro w hSw; (try dsimp only at hSw); go_simp <;> (try with_reducible rfl))
            simp only [Act.put, List.getElem_toArray, List.getElem_cons_zero, List.getElem_cons_succ, List.setIfInBounds_toArray, List.set_cons_zero, List.set_cons_succ]
            refine wpAnyH_take (i := 6) (v := ?_) rfl (by kernel_rfl) (by kernel_rfl) (by kernel_rfl) (fun _ _ _ h => h) (Or.inl ⟨by rfl, ?_⟩) hHeld0 ?_
            rotate_left
            · (intro w hSw; (try dsimp only at hSw); go_simp <;> (try with_reducible rfl))
            simp only [Act.put, List.getElem_toArray, List.getElem_cons_zero, List.getElem_cons_succ, List.setIfInBounds_toArray, List.set_cons_zero, List.set_cons_succ]
            refine wpAnyH_take (i := 7) (v := ?_) rfl (by kernel_rfl) (by kernel_rfl) (by kernel_rfl) (fun _ _ _ h => h) (Or.inl ⟨by rfl, ?_⟩) hHeld0 ?_
            rotate_left
            · (intro w hSw; (try dsimp only at hSw); go_simp <;> (try with_reducible rfl))
            simp only [Act.put, List.getElem_toArray, List.getElem_cons_zero, List.getElem_cons_succ, List.setIfInBounds_toArray, List.set_cons_zero, List.set_cons_succ]
            refine wpAnyH_take (i := 8) (v := ?_) rfl (by kernel_rfl) (by kernel_rfl) (by kernel_rfl) (fun _ _ _ h => h) (Or.inl ⟨by rfl, ?_⟩) hHeld0 ?_
            rotate_left
            · (intro w hSw; (try dsimp only at hSw); go_simp <;> (try with_reducible rfl))
            simp only [Act.put, List.getElem_toArray, List.getElem_cons_zero, List.getElem_cons_succ, List.setIfInBounds_toArray, List.set_cons_zero, List.set_cons_succ]
            refine wpAnyH_take (i := 9) (v := ?_) rfl (by kernel_rfl) (by kernel_rfl) (by kernel_rfl) (fun _ _ _ h => h) (Or.inl ⟨by rfl, ?_⟩) hHeld0 ?_
            rotate_left
            · (intro w hSw; (try dsimp only at hSw); go_simp <;> (try with_reducible rfl))
            simp only [Act.put, List.getElem_toArray, List.getElem_cons_zero, List.getElem_cons_succ, List.setIfInBounds_toArray, List.set_cons_zero, List.set_cons_succ]
            refine wpAnyH_ready (rs := [10]) (by kernel_rfl) (by simp) ?_
            refine AllReadyH.cons rfl (fun K hK => ?_) AllReadyH.nil
            go_simp
            go_wp2_with ((go_at_call 11; refine (HBC.out _ hHeld0.1).mono ?_; rintro e W1 ⟨rfl, hb1⟩))
            refine hK.out _ _ (by exact ⟨hHeld0.1.trans (hb1.mono hHeld0.1.size), sm_cell hHeld0.2.1 hb1, sm_cell hHeld0.2.2 hb1⟩) (fun hHeld1 => ?_)
            clear hK K hHeld0
            try simp only [Act.put, List.getElem_toArray, List.getElem_cons_zero, List.getElem_cons_succ, List.setIfInBounds_toArray, List.set_cons_zero, List.set_cons_succ]
            refine wpAnyH_take (i := 11) (v := ?_) rfl (by kernel_rfl) (by kernel_rfl) (by kernel_rfl) (fun _ _ _ h => h) (Or.inl ⟨by rfl, ?_⟩) hHeld1 ?_
            rotate_left
            · (intro w hSw; (try dsimp only at hSw); go_simp <;> (try with_reducible rfl))
            simp only [Act.put, List.getElem_toArray, List.getElem_cons_zero, List.getElem_cons_succ, List.setIfInBounds_toArray, List.set_cons_zero, List.set_cons_succ]
            refine wpAnyH_done (by kernel_rfl) ?_ _
            have HB2 := hide hHeld1.1
            have hp1 := sm_cell HQ1.out hHeld1.1
            have hp2 := sm_cell HQ2.out hHeld1.1
            have hr1 := sm_cell HR1.out hHeld1.1
            have hr2 := sm_cell HR2.out hHeld1.1
            clear hHeld1 hck1 hck2
            go_wp2
            go_quiet (fail)
            go_wp2
            go_ret
            exact ⟨false, rfl, ⟨fun h => absurd h (by simp), fun h => absurd h HALL.out⟩, HB2.out.trans ((quietBelow _ _).mono HB2.out.size)⟩
        · have hs : sameB K1[k].1.data K2[k].1.data = false := by unfold sameB; exact decide_eq_false hx
          rw [hs] at HBC
          have HALL : Hid (¬ opsOf K1 = opsOf K2) := hide (HNO.out (fun h => hx (HOS.out.1 h).1))
          clear hx hs HOS HSO HNO
          generalize K1[k].1.data.length = n1 at *
          generalize K2[k].1.data.length = n2 at *
          go_wp2
          refine wp_region_held_drew (S := fun W : World => Below w.heap.size w W ∧ W.cell? ⟨b1, o1 + k * 3 + 2, none⟩ = some (.slice s1 n1 c1) ∧ W.cell? ⟨b2, o2 + k * 3 + 2, none⟩ = some (.slice s2 n2 c2)) (by kernel_rfl) ?_ (fun hHeld0 => ?_)
          · exact ⟨HBEL.out.drew, hck1, hck2⟩
          refine wpAnyH_take (i := 0) (v := ?_) rfl (by kernel_rfl) (by kernel_rfl) (by kernel_rfl) (fun _ _ _ h => h) (Or.inl ⟨by rfl, ?_⟩) hHeld0 ?_
          rotate_left
          · (intro w hSw; (try dsimp only at hSw); go_simp <;> (try with_reducible rfl))
          simp only [Act.put, List.getElem_toArray, List.getElem_cons_zero, List.getElem_cons_succ, List.setIfInBounds_toArray, List.set_cons_zero, List.set_cons_succ]
          refine wpAnyH_take (i := 1) (v := ?_) rfl (by kernel_rfl) (by kernel_rfl) (by kernel_rfl) (fun _ _ _ h => h) (Or.inl ⟨by rfl, ?_⟩) hHeld0 ?_
          rotate_left
          · (intro w hSw; (try dsimp only at hSw); go_simp <;> (try with_reducible rfl))
          simp only [Act.put, List.getElem_toArray, List.getElem_cons_zero, List.getElem_cons_succ, List.setIfInBounds_toArray, List.set_cons_zero, List.set_cons_succ]
          refine wpAnyH_take (i := 2) (v := ?_) rfl (by kernel_rfl) (by kernel_rfl) (by kernel_rfl) (fun _ _ _ h => h) (Or.inl ⟨by rfl, ?_⟩) hHeld0 ?_
          rotate_left
          · (intro w hSw; (try dsimp only at hSw); go_simp <;> (try with_reducible rfl))
          simp only [Act.put, List.getElem_toArray, List.getElem_cons_zero, List.getElem_cons_succ, List.setIfInBounds_toArray, List.set_cons_zero, List.set_cons_succ]
          refine wpAnyH_take (i := 3) (v := ?_) rfl (by kernel_rfl) (by kernel_rfl) (by kernel_rfl) (fun _ _ _ h => h) (Or.inl ⟨by rfl, ?_⟩) hHeld0 ?_
          rotate_left
          · (intro w hSw; (try dsimp only at hSw); go_simp <;> (try with_reducible rfl))
          simp only [Act.put, List.getElem_toArray, List.getElem_cons_zero, List.getElem_cons_succ, List.setIfInBounds_toArray, List.set_cons_zero, List.set_cons_succ]
          refine wpAnyH_take (i := 4) (v := ?_) rfl (by kernel_rfl) (by kernel_rfl) (by kernel_rfl) (fun _ _ _ h => h) (Or.inl ⟨by rfl, ?_⟩) hHeld0 ?_
          rotate_left
          · (intro w hSw; (try dsimp only at hSw); go_simp <;> (try with_reducible rfl))
          simp only [Act.put, List.getElem_toArray, List.getElem_cons_zero, List.getElem_cons_succ, List.setIfInBounds_toArray, List.set_cons_zero, List.set_cons_succ]
          refine wpAnyH_take (i := 5) (v := ?_) rfl (by kernel_rfl) (by kernel_rfl) (by kernel_rfl) (fun _ _ _ h => h) (Or.inl ⟨by rfl, ?_⟩) hHeld0 ?_
          rotate_left
          · (intro w hSw; (try dsimp only at hSw); go_simp <;> (try with_reducible rfl))
          simp only [Act.put, List.getElem_toArray, List.getElem_cons_zero, List.getElem_cons_succ, List.setIfInBounds_toArray, List.set_cons_zero, List.set_cons_succ]
          refine wpAnyH_take (i := 6) (v := ?_) rfl (by kernel_rfl) (by kernel_rfl) (by kernel_rfl) (fun _ _ _ h => h) (Or.inl ⟨by rfl, ?_⟩) hHeld0 ?_
          rotate_left
          · (intro w hSw; (try dsimp only at hSw); go_simp <;> (try with_reducible rfl))
          simp only [Act.put, List.getElem_toArray, List.getElem_cons_zero, List.getElem_cons_succ, List.setIfInBounds_toArray, List.set_cons_zero, List.set_cons_succ]
          refine wpAnyH_take (i := 7) (v := ?_) rfl (by kernel_rfl) (by kernel_rfl) (by kernel_rfl) (fun _ _ _ h => h) (Or.inl ⟨by rfl, ?_⟩) hHeld0 ?_
          rotate_left
          · (intro w hSw; (try dsimp only at hSw); go_simp <;> (try with_reducible rfl))
          simp only [Act.put, List.getElem_toArray, List.getElem_cons_zero, List.getElem_cons_succ, List.setIfInBounds_toArray, List.set_cons_zero, List.set_cons_succ]
          refine wpAnyH_take (i := 8) (v := ?_) rfl (by kernel_rfl) (by kernel_rfl) (by kernel_rfl) (fun _ _ _ h => h) (Or.inl ⟨by rfl, ?_⟩) hHeld0 ?_
          rotate_left
          · (intro w hSw; (try dsimp only at hSw); go_simp <;> (try with_reducible rfl))
          simp only [Act.put, List.getElem_toArray, List.getElem_cons_zero, List.getElem_cons_succ, List.setIfInBounds_toArray, List.set_cons_zero, List.set_cons_succ]
          refine wpAnyH_take (i := 9) (v := ?_) rfl (by kernel_rfl) (by kernel_rfl) (by kernel_rfl) (fun _ _ _ h => h) (Or.inl ⟨by rfl, ?_⟩) hHeld0 ?_
          rotate_left
          · (intro w hSw; (try dsimp only at hSw); go_simp <;> (try with_reducible rfl))
          simp only [Act.put, List.getElem_toArray, List.getElem_cons_zero, List.getElem_cons_succ, List.setIfInBounds_toArray, List.set_cons_zero, List.set_cons_succ]
          refine wpAnyH_ready (rs := [10]) (by kernel_rfl) (by simp) ?_
          refine AllReadyH.cons rfl (fun K hK => ?_) AllReadyH.nil
          go_simp
          go_wp2_with ((go_at_call 11; refine (HBC.out _ hHeld0.1).mono ?_; rintro e W1 ⟨rfl, hb1⟩))
          refine hK.out _ _ (by exact ⟨hHeld0.1.trans (hb1.mono hHeld0.1.size), sm_cell hHeld0.2.1 hb1, sm_cell hHeld0.2.2 hb1⟩) (fun hHeld1 => ?_)
          clear hK K hHeld0
          try simp only [Act.put, List.getElem_toArray, List.getElem_cons_zero, List.getElem_cons_succ, List.setIfInBounds_toArray, List.set_cons_zero, List.set_cons_succ]
          refine wpAnyH_take (i := 11) (v := ?_) rfl (by kernel_rfl) (by kernel_rfl) (by kernel_rfl) (fun _ _ _ h => h) (Or.inl ⟨by rfl, ?_⟩) hHeld1 ?_
          rotate_left
          · (intro w hSw; (try dsimp only at hSw); go_simp <;> (try with_reducible rfl))
          simp only [Act.put, List.getElem_toArray, List.getElem_cons_zero, List.getElem_cons_succ, List.setIfInBounds_toArray, List.set_cons_zero, List.set_cons_succ]
          refine wpAnyH_done (by kernel_rfl) ?_ _
          have HB2 := hide hHeld1.1
          have hp1 := sm_cell HQ1.out hHeld1.1
          have hp2 := sm_cell HQ2.out hHeld1.1
          have hr1 := sm_cell HR1.out hHeld1.1
          have hr2 := sm_cell HR2.out hHeld1.1
          clear hHeld1 hck1 hck2
          go_wp2
          go_quiet (fail)
          go_wp2
          go_ret
          exact ⟨false, rfl, ⟨fun h => absurd h (by simp), fun h => absurd h HALL.out⟩, HB2.out.trans ((quietBelow _ _).mono HB2.out.size)⟩
      · have hke : k = n := by omega
        have hall := sm_end (by rw [opsOf_length, HN.out, hke]) (by rw [opsOf_length, ← HL.out, HN.out, hke]) heq
        have HALL := hide hall
        clear heq hbel hall HEQ
        go_wp2
        go_ret
        exact ⟨true, rfl, ⟨fun _ => HALL.out, fun _ => rfl⟩, HBEL.out⟩
  · have hne : ((K1.length : Int) != (K2.length : Int)) = true := by simp; omega
    clear HF1 HF2 HH1 HH2
    have HNE : Hid (¬ opsOf K1 = opsOf K2) := hide (fun h => hl (by have := congrArg List.length h; simpa [opsOf_length] using this))
    generalize K1.length = n1 at *
    generalize K2.length = n2 at *
    clear hl
    go_enter Tryz.func38, Tryz.ntmps38
    go_wp2
    go_ret
    exact ⟨false, rfl, ⟨fun h => absurd h (by simp), fun h => absurd h HNE.out⟩, Below.refl _ _⟩
end Go.Proofs.YtbdnbjemocjlaaaGreatDoor

/- Two places compared. -/
namespace Go.Proofs.YtbdnbjemocjlaaaGreatDoor
open Go.RowKit
set_option linter.unusedVariables false
set_option linter.unusedSimpArgs false

theorem dig_eqD (d D : Nat) (hD : D = d + 2) (A B : List Int) (hA : A.length = 32) (hB : B.length = 32) (w : World) : (Op.equalIn D 34 (.agg (vals A).toArray) (.agg (vals B).toArray)).run Tryz.prog w = .ok (decide (A = B)) w := by
  subst hD
  obtain ⟨i, hi, hz, hs, hby⟩ := info_u8
  rw [run_equalIn_array w (d + 1) _ _ Tryz.underlying34 hi, cells_u8, eqItems_u8 d A B w (List.range 32) (fun i hi => by simp at hi; omega), ← all_range A B (by omega), hA]
theorem int_eqD (d D : Nat) (hD : D = d + 1) (a b : Int) (w : World) : (Op.equalIn D 3 (.int .i64 a) (.int .i64 b)).run Tryz.prog w = .ok (a == b) w := by
  subst hD
  exact run_equalIn_int w d 3 .i64 .i64 a b Tryz.underlying3
theorem struct_eqD (d D : Nat) (hD : D = d + 1) (xs ys : Array Value) (w : World) : (Op.equalIn D 51 (.agg xs) (.agg ys)).run Tryz.prog w = (Op.eqFields d xs ys (Tryz.prog.fieldsOf 51).toList).run Tryz.prog w := by
  subst hD
  have hS : Tryz.prog.underlying 51 = some (.struct (Tryz.prog.fieldsOf 51)) := by kernel_rfl
  exact run_equalIn_struct w d 51 _ _ hS (by kernel_rfl)
theorem part_dig (A : List Int) (R : List Value) (hA : A.length = 32) (w : World) : (part 34 (vals A ++ R).toArray 0).run Tryz.prog w = .ok (.agg (vals A).toArray) w := by
  have hs : (Tryz.prog.info? 34).map (·.size) = some 32 := size_dig
  cases hi : Tryz.prog.info? 34 with
  | none => rw [hi] at hs; cases hs
  | some i =>
    rw [hi] at hs
    simp only [Option.map_some, Option.some.injEq] at hs
    have hz : (sizeOf 34).run Tryz.prog w = .ok 32 w := by rw [run_sizeOf w hi, ← hs]; simp [Program.cellsOf, hi]
    have he : (vals A ++ R).toArray.extract 0 (0 + 32) = (vals A).toArray := by
      apply Array.ext'
      rw [Array.toList_extract]
      simp [List.extract, vals_length, hA]
    unfold part
    simp only [Sem.run_bind]
    rw [show (isAgg 34).run Tryz.prog w = .ok true w by simp [isAgg, run_underlying Tryz.underlying34]]
    simp only [Result.andThen_ok, if_true, Sem.run_bind, hz, Sem.run_pure, he]
theorem part_at (A : List Int) (x : Int) (hA : A.length = 32) (w : World) : (part 3 (vals A ++ [Value.int .i64 x]).toArray 32).run Tryz.prog w = .ok (.int .i64 x) w := by
  have hg : (vals A ++ [Value.int .i64 x]).toArray[32]? = some (.int .i64 x) := by
    rw [List.getElem?_toArray, List.getElem?_append_right (by rw [vals_length, hA]; omega), vals_length, hA]; rfl
  simp [part, isAgg, run_underlying Tryz.underlying3, hg]
theorem place_eqD (d D : Nat) (hD : D = d + 3) (A B : List Int) (x y : Int) (hA : A.length = 32) (hB : B.length = 32) (w : World) : (Op.equalIn D 51 (.agg (vals A ++ [Value.int .i64 x]).toArray) (.agg (vals B ++ [Value.int .i64 y]).toArray)).run Tryz.prog w = .ok (decide (A = B ∧ x = y)) w := by
  obtain ⟨d1, h1⟩ : ∃ d1, d1 = d + 2 := ⟨_, rfl⟩
  obtain ⟨d2, h2⟩ : ∃ d2, d2 = d + 1 := ⟨_, rfl⟩
  rw [struct_eqD d1 D (by omega)]
  simp only [Program.fieldsOf, Tryz.underlying51]
  simp only [Op.eqFields]
  rw [if_pos (show "Tx" ≠ "_" by decide), if_pos (show "At" ≠ "_" by decide)]
  simp only [Sem.run_bind]
  rw [part_dig A [Value.int .i64 x] hA w]
  simp only [Result.andThen_ok]
  rw [part_dig B [Value.int .i64 y] hB w]
  simp only [Result.andThen_ok]
  rw [dig_eqD d d1 h1 A B hA hB w]
  simp only [Result.andThen_ok]
  by_cases hab : A = B
  · have hd : decide (A = B) = true := decide_eq_true hab
    rw [hd]
    have hxy : decide (A = B ∧ x = y) = (x == y) := by
      by_cases h2 : x = y
      · rw [decide_eq_true ⟨hab, h2⟩, beq_iff_eq.2 h2]
      · rw [decide_eq_false (fun h => h2 h.2), beq_eq_false_iff_ne.2 h2]
    rw [hxy]
    simp only [Bool.not_true, Bool.false_eq_true, if_false, Sem.run_bind]
    rw [part_at A x hA w]
    simp only [Result.andThen_ok]
    rw [part_at B y hB w]
    simp only [Result.andThen_ok]
    rw [int_eqD d2 d1 (by omega) x y w]
    simp only [Result.andThen_ok]
    cases x == y <;> simp
  · have hd : decide (A = B) = false := decide_eq_false hab
    rw [hd, decide_eq_false (fun h => hab h.1)]
    simp
/-- Two places are held against each other. -/
theorem place_eq (A B : List Int) (x y : Int) (hA : A.length = 32) (hB : B.length = 32) (w : World) : (Op.equalIn 10000 51 (.agg (vals A ++ [Value.int .i64 x]).toArray) (.agg (vals B ++ [Value.int .i64 y]).toArray)).run Tryz.prog w = .ok (decide (A = B ∧ x = y)) w :=
  place_eqD 9997 10000 rfl A B x y hA hB w
theorem guard_place : Tryz.prog.eqGuardType Tryz.prog.depth 51 = false := by kernel_rfl
end Go.Proofs.YtbdnbjemocjlaaaGreatDoor

/- moneyersame's Tx: whether two payments are the same. -/
namespace Go.Proofs.YtbdnbjemocjlaaaGreatDoor
open Go.RowKit
set_option linter.unusedVariables false
set_option linter.unusedSimpArgs false

/-- Two payments in boxes of their own. -/
structure BoxT (w : World) (c1 c2 : List Value) (W : World) : Prop where
  below : Below w.heap.size w W
  b1 : Is W w.heap.size c1 25
  b2 : Is W (w.heap.size + 1) c2 25
theorem BoxT.call {w W W' : World} {c1 c2 : List Value} (h : BoxT w c1 c2 W) (hb : Below W.heap.size W W') : BoxT w c1 c2 W' :=
  ⟨h.below.trans (hb.mono h.below.size), h.b1.below hb h.b1.lt, h.b2.below hb h.b2.lt⟩
theorem BoxT.drew {w W : World} {c1 c2 : List Value} (h : BoxT w c1 c2 W) : BoxT w c1 c2 W.drew := ⟨h.below.drew, h.b1.drew, h.b2.drew⟩
theorem BoxT.start (w : World) (x0 x1 x2 y0 y1 y2 : Value) : BoxT w [x0, x1, x2] [y0, y1, y2] ((w.alloc (.cells #[x0, x1, x2] 25)).alloc (.cells #[y0, y1, y2] 25)) :=
  ⟨below_alloc2 w _ _, (Is.new w [x0, x1, x2] 25).alloc _, Is.new' [y0, y1, y2] 25 (by simp)⟩
/-- A truth: whether P holds. -/
def TellsB (P : Prop) (e : Ending) : Prop := ∃ b, e = .returned (.bool b) ∧ (b = true ↔ P)
theorem TellsB.yes {P : Prop} (h : P) : TellsB P (.returned (.bool true)) := ⟨true, rfl, fun _ => h, fun _ => rfl⟩
theorem TellsB.no {P : Prop} (h : ¬ P) : TellsB P (.returned (.bool false)) := ⟨false, rfl, fun h => absurd h (by simp), fun k => absurd k h⟩
theorem in_same {a b : Tm.In} : a = b ↔ a.keys = b.keys ∧ a.tx = b.tx ∧ a.at' = b.at' := by
  cases a; cases b
  simp only [Tm.In.mk.injEq]
  exact ⟨fun ⟨h1, h2, h3⟩ => ⟨h3, h1, h2⟩, fun ⟨h3, h1, h2⟩ => ⟨h1, h2, h3⟩⟩
theorem out_same {a b : Tm.Out} : a = b ↔ a.lock = b.lock ∧ a.amount = b.amount := by
  cases a; cases b
  simp only [Tm.Out.mk.injEq]
  exact ⟨fun ⟨h1, h2⟩ => ⟨h2, h1⟩, fun ⟨h2, h1⟩ => ⟨h1, h2⟩⟩
theorem tx_same {a b : Tm.Tx} : a = b ↔ a.time = b.time ∧ a.ins = b.ins ∧ a.outs = b.outs := by
  cases a; cases b
  simp only [Tm.Tx.mk.injEq]
  exact ⟨fun ⟨h1, h2, h3⟩ => ⟨h3, h1, h2⟩, fun ⟨h3, h1, h2⟩ => ⟨h1, h2, h3⟩⟩
theorem place_cells {x : InV} {w : World} {b o : Nat} (h : w.rangeAt b o (inCell x)) (h32 : x.tx.length = 32) : w.rangeAt b o (vals x.tx ++ [.int .i64 x.at']) ∧ w.cell? ⟨b, o + 33, none⟩ = some x.kv := by
  have e : inCell x = (vals x.tx ++ [.int .i64 x.at']) ++ [x.kv] := by simp [inCell]
  rw [e] at h
  have h2 := tx_range_part h
  refine ⟨h2.1, ?_⟩
  have := h2.2 0 _ rfl
  rwa [List.length_append, vals_length, h32] at this
theorem ins_form {w : World} {v : Value} {R : List InV} (h : HasIns w v R) : ∃ a cap, v = .slice a R.length cap ∧ R.length ≤ maxLen ∧ ∀ k (hk : k < R.length), ∃ b off, a = some ⟨b, off, none⟩ ∧ R.length ≤ cap ∧ cap ≤ maxLen ∧ b < w.heap.size ∧ w.rangeAt b (off + k * 34) (vals R[k].tx ++ [.int .i64 R[k].at']) ∧ w.cell? ⟨b, off + k * 34 + 33, none⟩ = some R[k].kv := by
  obtain ⟨a, cap, e, hm, hf⟩ := h.form
  refine ⟨a, cap, e, hm, fun k hk => ?_⟩
  obtain ⟨b, off, ea, h1, h2, h3, hr⟩ := hf k hk
  have h4 := range_at (f := inCell) (s := 34) hr (fun x hx => inCell_length x (h.2 x hx).1) k hk
  obtain ⟨h5, h6⟩ := place_cells h4 (h.2 R[k] (List.getElem_mem hk)).1
  exact ⟨b, off, ea, h1, h2, h3, h5, h6⟩
theorem outs_form {w : World} {v : Value} {R : List OutV} (h : HasOuts w v R) : ∃ a cap, v = .slice a R.length cap ∧ R.length ≤ maxLen ∧ ∀ k (hk : k < R.length), ∃ b off, a = some ⟨b, off, none⟩ ∧ R.length ≤ cap ∧ cap ≤ maxLen ∧ b < w.heap.size ∧ w.cell? ⟨b, off + k * 2, none⟩ = some (.int .i64 R[k].amount) ∧ w.cell? ⟨b, off + k * 2 + 1, none⟩ = some R[k].lv := by
  obtain ⟨a, cap, e, hm, hf⟩ := h.form
  refine ⟨a, cap, e, hm, fun k hk => ?_⟩
  obtain ⟨b, off, ea, h1, h2, h3, hr⟩ := hf k hk
  have h4 := range_at (f := outCell) (s := 2) hr (fun x hx => rfl) k hk
  exact ⟨b, off, ea, h1, h2, h3, h4 0 _ rfl, h4 1 _ rfl⟩

set_option maxRecDepth 100000 in
set_option maxHeartbeats 8000000 in
theorem txSame_any (t1 t2 : TxV) (w : World) (h1 : HasTx w t1) (h2 : HasTx w t2) :
    Calls Tryz.prog 15 #[t1.val, t2.val] w fun e w' => TellsB (t1.it = t2.it) e ∧ Below w.heap.size w w' := by
  obtain ⟨iv1, I1, ov1, O1, tm⟩ := t1
  obtain ⟨iv2, I2, ov2, O2, tm2⟩ := t2
  obtain ⟨hi1, ho1⟩ := h1
  obtain ⟨hi2, ho2⟩ := h2
  obtain ⟨ia1, ic1, e1, li1, fi1⟩ := ins_form hi1
  obtain ⟨ia2, ic2, e2, li2, fi2⟩ := ins_form hi2
  obtain ⟨oa1, oc1, e3, lo1, fo1⟩ := outs_form ho1
  obtain ⟨oa2, oc2, e4, lo2, fo2⟩ := outs_form ho2
  simp only at hi1 hi2 ho1 ho2 e1 e2 e3 e4
  subst e1 e2 e3 e4
  unfold maxLen at li1 li2 lo1 lo2
  have HI1 := hide hi1.2
  have HI2 := hide hi2.2
  have HO1 := hide ho1.2
  have HO2 := hide ho2.2
  have HF1 := hide fi1
  have HF2 := hide fi2
  have HG1 := hide fo1
  have HG2 := hide fo2
  clear hi1 hi2 ho1 ho2 fi1 fi2 fo1 fo2
  show Calls Tryz.prog 15 #[.agg #[.slice ia1 I1.length ic1, .slice oa1 O1.length oc1, .int .i64 tm], .agg #[.slice ia2 I2.length ic2, .slice oa2 O2.length oc2, .int .i64 tm2]] w fun e w' => TellsB ((⟨I1.map InV.it, O1.map OutV.it, tm⟩ : Tm.Tx) = (⟨I2.map InV.it, O2.map OutV.it, tm2⟩ : Tm.Tx)) e ∧ Below w.heap.size w w'
  have hsm := @tx_same (⟨I1.map InV.it, O1.map OutV.it, tm⟩ : Tm.Tx) (⟨I2.map InV.it, O2.map OutV.it, tm2⟩ : Tm.Tx)
  obtain ⟨P, hP⟩ : ∃ P : Prop, P = ((⟨I1.map InV.it, O1.map OutV.it, tm⟩ : Tm.Tx) = (⟨I2.map InV.it, O2.map OutV.it, tm2⟩ : Tm.Tx)) := ⟨_, rfl⟩
  rw [← hP] at hsm ⊢
  clear hP
  have HNT : Hid (¬ tm = tm2 → ¬ P) := hide (fun h k => h (hsm.1 k).1)
  have HNI : Hid (¬ I1.map InV.it = I2.map InV.it → ¬ P) := hide (fun h k => h (hsm.1 k).2.1)
  have HNU : Hid (¬ O1.map OutV.it = O2.map OutV.it → ¬ P) := hide (fun h k => h (hsm.1 k).2.2)
  have HYE : Hid (tm = tm2 → I1.map InV.it = I2.map InV.it → O1.map OutV.it = O2.map OutV.it → P) := hide (fun a b c => hsm.2 ⟨a, b, c⟩)
  clear hsm
  by_cases ht : tm = tm2
  · have HYE2 := hide (HYE.out ht)
    subst ht
    have htd : (tm != tm) = false := by simp
    by_cases hil : I1.length = I2.length
    · rw [← hil] at li2 ⊢
      have HIL := hide hil
      obtain ⟨in1, hin⟩ : ∃ n, n = I1.length := ⟨_, rfl⟩
      rw [← hin] at li1 li2 ⊢
      have HIN := hide hin.symm
      have hid : ((in1 : Int) != (in1 : Int)) = false := by simp
      clear hil hin
      by_cases hol : O1.length = O2.length
      · rw [← hol] at lo2 ⊢
        have HOL := hide hol
        obtain ⟨on1, hon⟩ : ∃ n, n = O1.length := ⟨_, rfl⟩
        rw [← hon] at lo1 lo2 ⊢
        have HON := hide hon.symm
        have hod : ((on1 : Int) != (on1 : Int)) = false := by simp
        have HBX0 := hide (BoxT.start w (.slice ia1 in1 ic1) (.slice oa1 on1 oc1) (.int .i64 tm) (.slice ia2 in1 ic2) (.slice oa2 on1 oc2) (.int .i64 tm))
        clear hol hon
        go_enter Tryz.func15, Tryz.ntmps15
        go_wp2
        go_loopw [5, 6] (fun i s wr => ∃ k : Nat, k ≤ in1 ∧ i = .int .i64 k ∧ (I1.map InV.it).take k = (I2.map InV.it).take k ∧ BoxT w [.slice ia1 in1 ic1, .slice oa1 on1 oc1, .int .i64 tm] [.slice ia2 in1 ic2, .slice oa2 on1 oc2, .int .i64 tm] wr) (fun i _ _ => in1 - (intOf i).toNat)
        case atStart => exact ⟨0, Nat.zero_le _, rfl, by simp, HBX0.out⟩
        case round =>
          obtain ⟨k, hk, rfl, heq, hbx⟩ := hrel
          have HBX := hide hbx
          have HEQ := hide heq
          have hcA : wr.cell? ⟨w.heap.size, 0, none⟩ = some (.slice ia1 in1 ic1) := hbx.b1.cell 0
          have hcB : wr.cell? ⟨w.heap.size + 1, 0, none⟩ = some (.slice ia2 in1 ic2) := hbx.b2.cell 0
          by_cases hlt : k < in1
          · have k1 : k < I1.length := by rw [HIN.out]; exact hlt
            have k2 : k < I2.length := by rw [← HIL.out]; exact k1
            have hki : (k : Int) < (in1 : Int) := by omega
            obtain ⟨b1, o1, rfl, hc1, hm1, hb1, hr1, hx1⟩ := HF1.out k (by omega)
            obtain ⟨b2, o2, rfl, hc2, hm2, hb2, hr2, hx2⟩ := HF2.out k (by omega)
            rw [HIN.out] at hc1
            rw [← HIL.out, HIN.out] at hc2
            have hck1 : wr.drew.cell? ⟨b1, o1 + k * 34 + 33, none⟩ = some I1[k].kv := sm_cell hx1 hbx.below.drew
            have hck2 : wr.drew.cell? ⟨b2, o2 + k * 34 + 33, none⟩ = some I2[k].kv := sm_cell hx2 hbx.below.drew
            obtain ⟨y1, y2, y3⟩ := HI1.out I1[k] (List.getElem_mem k1)
            obtain ⟨z1, z2, z3⟩ := HI2.out I2[k] (List.getElem_mem k2)
            obtain ⟨s1, c1, e1, -⟩ := keys_form y3
            obtain ⟨s2, c2, e2, -⟩ := keys_form z3
            have HCALL : Hid (∀ W, BoxT w [.slice (some ⟨b1, o1, none⟩) in1 ic1, .slice oa1 on1 oc1, .int .i64 tm] [.slice (some ⟨b2, o2, none⟩) in1 ic2, .slice oa2 on1 oc2, .int .i64 tm] W → Calls Tryz.prog 37 #[I1[k].kv, I2[k].kv] W fun e w' => ∃ b, e = .returned (.bool b) ∧ (b = true ↔ I1[k].K.map Prod.fst = I2[k].K.map Prod.fst) ∧ Below W.heap.size W w') := hide (fun W hW => rows_any _ _ _ _ W (y3.below hW.below) (z3.below hW.below))
            rw [e1] at hck1 HCALL
            rw [e2] at hck2 HCALL
            have HR1 := hide hr1
            have HR2 := hide hr2
            have HB1 := hide hb1
            have HB2 := hide hb2
            have hxx : (I1.map InV.it)[k]'(by simpa using k1) = I1[k].it := by simp
            have hyy : (I2.map InV.it)[k]'(by simpa using k2) = I2[k].it := by simp
            have HNO : Hid (¬ I1[k].it = I2[k].it → ¬ I1.map InV.it = I2.map InV.it) := hide (fun h1 h2 => h1 (by rw [← hxx, ← hyy]; simp [h2]))
            have HSO : Hid (I1[k].it = I2[k].it → (I1.map InV.it).take (k + 1) = (I2.map InV.it).take (k + 1)) := hide (fun h => sm_take (by simpa using k1) (by simpa using k2) HEQ.out (by rw [hxx, hyy, h]))
            have HOS := hide (@in_same I1[k].it I2[k].it)
            have HYL := hide y1
            have HZL := hide z1
            clear heq hbx hr1 hr2 hx1 hx2 y1 y2 y3 z1 z2 z3 e1 e2 hxx hyy hm1 hm2 hb1 hb2
            generalize I1[k].K.length = n1 at *
            generalize I2[k].K.length = n2 at *
            go_wp2
            refine wp_region_held_drew (S := fun W : World => W.cell? ⟨w.heap.size, 0, none⟩ = some (.slice (some ⟨b1, o1, none⟩) in1 ic1) ∧ W.cell? ⟨w.heap.size + 1, 0, none⟩ = some (.slice (some ⟨b2, o2, none⟩) in1 ic2) ∧ W.cell? ⟨b1, o1 + k * 34 + 33, none⟩ = some (.slice s1 n1 c1) ∧ W.cell? ⟨b2, o2 + k * 34 + 33, none⟩ = some (.slice s2 n2 c2) ∧ BoxT w [.slice (some ⟨b1, o1, none⟩) in1 ic1, .slice oa1 on1 oc1, .int .i64 tm] [.slice (some ⟨b2, o2, none⟩) in1 ic2, .slice oa2 on1 oc2, .int .i64 tm] W) (by kernel_rfl) ?_ (fun hHeld0 => ?_)
            · exact ⟨hcA, hcB, hck1, hck2, HBX.out.drew⟩
            refine wpAnyH_take (i := 0) (v := ?_) rfl (by kernel_rfl) (by kernel_rfl) (by kernel_rfl) (fun _ _ _ h => h) (Or.inl ⟨by rfl, ?_⟩) hHeld0 ?_
            rotate_left
            · (intro w hSw; (try dsimp only at hSw); go_simp <;> (try with_reducible rfl))
            simp only [Act.put, List.getElem_toArray, List.getElem_cons_zero, List.getElem_cons_succ, List.setIfInBounds_toArray, List.set_cons_zero, List.set_cons_succ]
            refine wpAnyH_take (i := 1) (v := ?_) rfl (by kernel_rfl) (by kernel_rfl) (by kernel_rfl) (fun _ _ _ h => h) (Or.inl ⟨by rfl, ?_⟩) hHeld0 ?_
            rotate_left
            · (intro w hSw; (try dsimp only at hSw); go_simp <;> (try with_reducible rfl))
            simp only [Act.put, List.getElem_toArray, List.getElem_cons_zero, List.getElem_cons_succ, List.setIfInBounds_toArray, List.set_cons_zero, List.set_cons_succ]
            refine wpAnyH_take (i := 2) (v := ?_) rfl (by kernel_rfl) (by kernel_rfl) (by kernel_rfl) (fun _ _ _ h => h) (Or.inl ⟨by rfl, ?_⟩) hHeld0 ?_
            rotate_left
            · (intro w hSw; (try dsimp only at hSw); go_simp <;> (try with_reducible rfl))
            simp only [Act.put, List.getElem_toArray, List.getElem_cons_zero, List.getElem_cons_succ, List.setIfInBounds_toArray, List.set_cons_zero, List.set_cons_succ]
            refine wpAnyH_take (i := 3) (v := ?_) rfl (by kernel_rfl) (by kernel_rfl) (by kernel_rfl) (fun _ _ _ h => h) (Or.inl ⟨by rfl, ?_⟩) hHeld0 ?_
            rotate_left
            · (intro w hSw; (try dsimp only at hSw); go_simp <;> (try with_reducible rfl))
            simp only [Act.put, List.getElem_toArray, List.getElem_cons_zero, List.getElem_cons_succ, List.setIfInBounds_toArray, List.set_cons_zero, List.set_cons_succ]
            refine wpAnyH_take (i := 4) (v := ?_) rfl (by kernel_rfl) (by kernel_rfl) (by kernel_rfl) (fun _ _ _ h => h) (Or.inl ⟨by rfl, ?_⟩) hHeld0 ?_
            rotate_left
            · (intro w hSw; (try dsimp only at hSw); go_simp <;> (try with_reducible rfl))
            simp only [Act.put, List.getElem_toArray, List.getElem_cons_zero, List.getElem_cons_succ, List.setIfInBounds_toArray, List.set_cons_zero, List.set_cons_succ]
            refine wpAnyH_take (i := 5) (v := ?_) rfl (by kernel_rfl) (by kernel_rfl) (by kernel_rfl) (fun _ _ _ h => h) (Or.inl ⟨by rfl, ?_⟩) hHeld0 ?_
            rotate_left
            · (intro w hSw; (try dsimp only at hSw); go_simp <;> (try with_reducible rfl))
            simp only [Act.put, List.getElem_toArray, List.getElem_cons_zero, List.getElem_cons_succ, List.setIfInBounds_toArray, List.set_cons_zero, List.set_cons_succ]
            refine wpAnyH_take (i := 6) (v := ?_) rfl (by kernel_rfl) (by kernel_rfl) (by kernel_rfl) (fun _ _ _ h => h) (Or.inl ⟨by rfl, ?_⟩) hHeld0 ?_
            rotate_left
            · (intro w hSw; (try dsimp only at hSw); go_simp <;> (try with_reducible rfl))
            simp only [Act.put, List.getElem_toArray, List.getElem_cons_zero, List.getElem_cons_succ, List.setIfInBounds_toArray, List.set_cons_zero, List.set_cons_succ]
            refine wpAnyH_take (i := 7) (v := ?_) rfl (by kernel_rfl) (by kernel_rfl) (by kernel_rfl) (fun _ _ _ h => h) (Or.inl ⟨by rfl, ?_⟩) hHeld0 ?_
            rotate_left
            · (intro w hSw; (try dsimp only at hSw); go_simp <;> (try with_reducible rfl))
            simp only [Act.put, List.getElem_toArray, List.getElem_cons_zero, List.getElem_cons_succ, List.setIfInBounds_toArray, List.set_cons_zero, List.set_cons_succ]
            refine wpAnyH_take (i := 8) (v := ?_) rfl (by kernel_rfl) (by kernel_rfl) (by kernel_rfl) (fun _ _ _ h => h) (Or.inl ⟨by rfl, ?_⟩) hHeld0 ?_
            rotate_left
            · (intro w hSw; (try dsimp only at hSw); go_simp <;> (try with_reducible rfl))
            simp only [Act.put, List.getElem_toArray, List.getElem_cons_zero, List.getElem_cons_succ, List.setIfInBounds_toArray, List.set_cons_zero, List.set_cons_succ]
            refine wpAnyH_take (i := 9) (v := ?_) rfl (by kernel_rfl) (by kernel_rfl) (by kernel_rfl) (fun _ _ _ h => h) (Or.inl ⟨by rfl, ?_⟩) hHeld0 ?_
            rotate_left
            · (intro w hSw; (try dsimp only at hSw); go_simp <;> (try with_reducible rfl))
            simp only [Act.put, List.getElem_toArray, List.getElem_cons_zero, List.getElem_cons_succ, List.setIfInBounds_toArray, List.set_cons_zero, List.set_cons_succ]
            refine wpAnyH_take (i := 10) (v := ?_) rfl (by kernel_rfl) (by kernel_rfl) (by kernel_rfl) (fun _ _ _ h => h) (Or.inl ⟨by rfl, ?_⟩) hHeld0 ?_
            rotate_left
            · (intro w hSw; (try dsimp only at hSw); go_simp <;> (try with_reducible rfl))
            simp only [Act.put, List.getElem_toArray, List.getElem_cons_zero, List.getElem_cons_succ, List.setIfInBounds_toArray, List.set_cons_zero, List.set_cons_succ]
            refine wpAnyH_take (i := 11) (v := ?_) rfl (by kernel_rfl) (by kernel_rfl) (by kernel_rfl) (fun _ _ _ h => h) (Or.inl ⟨by rfl, ?_⟩) hHeld0 ?_
            rotate_left
            · (intro w hSw; (try dsimp only at hSw); go_simp <;> (try with_reducible rfl))
            simp only [Act.put, List.getElem_toArray, List.getElem_cons_zero, List.getElem_cons_succ, List.setIfInBounds_toArray, List.set_cons_zero, List.set_cons_succ]
            refine wpAnyH_ready (rs := [12]) (by kernel_rfl) (by simp) ?_
            refine AllReadyH.cons rfl (fun K hK => ?_) AllReadyH.nil
            go_simp
            go_wp2_with ((go_at_call 37; refine (HCALL.out _ hHeld0.2.2.2.2).mono ?_; rintro e W1 ⟨bb, rfl, hbi, hb1⟩))
            refine hK.out _ _ (by exact ⟨sm_cell hHeld0.1 hb1, sm_cell hHeld0.2.1 hb1, sm_cell hHeld0.2.2.1 hb1, sm_cell hHeld0.2.2.2.1 hb1, hHeld0.2.2.2.2.call hb1⟩) (fun hHeld1 => ?_)
            clear hK K hHeld0
            try simp only [Act.put, List.getElem_toArray, List.getElem_cons_zero, List.getElem_cons_succ, List.setIfInBounds_toArray, List.set_cons_zero, List.set_cons_succ]
            refine wpAnyH_take (i := 13) (v := ?_) rfl (by kernel_rfl) (by kernel_rfl) (by kernel_rfl) (fun _ _ _ h => h) (Or.inl ⟨by rfl, ?_⟩) hHeld1 ?_
            rotate_left
            · (intro w hSw; (try dsimp only at hSw); go_simp <;> (try with_reducible rfl))
            simp only [Act.put, List.getElem_toArray, List.getElem_cons_zero, List.getElem_cons_succ, List.setIfInBounds_toArray, List.set_cons_zero, List.set_cons_succ]
            refine wpAnyH_done (by kernel_rfl) ?_ _
            have HB3 := hide hHeld1.2.2.2.2
            have hcA2 := hHeld1.1
            have hcB2 := hHeld1.2.1
            clear hHeld1 hck1 hck2 hcA hcB
            have HRX : Hid (W1.drew.rangeAt b1 (o1 + k * 34) (vals I1[k].tx ++ [.int .i64 I1[k].at'])) := hide (range_keep HR1.out HB3.out.drew.below HB1.out)
            have HRY : Hid (W1.drew.rangeAt b2 (o2 + k * 34) (vals I2[k].tx ++ [.int .i64 I2[k].at'])) := hide (range_keep HR2.out HB3.out.drew.below HB2.out)
            cases bb with
            | true =>
              have HKS := hide (hbi.1 rfl)
              clear hbi
              obtain ⟨X, hX⟩ : ∃ X, X = vals I1[k].tx ++ [Value.int .i64 I1[k].at'] := ⟨_, rfl⟩
              obtain ⟨Y, hY⟩ : ∃ Y, Y = vals I2[k].tx ++ [Value.int .i64 I2[k].at'] := ⟨_, rfl⟩
              rw [← hX] at HRX
              rw [← hY] at HRY
              have hXl : X.length = 33 := by rw [hX, List.length_append, vals_length, HYL.out]; rfl
              have hYl : Y.length = 33 := by rw [hY, List.length_append, vals_length, HZL.out]; rfl
              have hszx : (Tryz.prog.info? 51).map (·.size) = some X.length := by rw [hXl]; exact size_place
              have hszy : (Tryz.prog.info? 51).map (·.size) = some Y.length := by rw [hYl]; exact size_place
              have hgd := guard_place
              by_cases hp : I1[k].tx = I2[k].tx ∧ I1[k].at' = I2[k].at'
              · have hq : ∀ w', (Op.equalIn 10000 51 (.agg X.toArray) (.agg Y.toArray)).run Tryz.prog w' = .ok true w' := fun w' => by rw [hX, hY, place_eq _ _ _ _ HYL.out HZL.out w', decide_eq_true hp]
                have HGO := hide (HSO.out (HOS.out.2 ⟨HKS.out, hp.1, hp.2⟩))
                clear hX hY hXl hYl hp HSO HNO HOS HKS
                go_wp2
                refine wp_region_held_drew (S := fun W : World => W.cell? ⟨w.heap.size, 0, none⟩ = some (.slice (some ⟨b1, o1, none⟩) in1 ic1) ∧ W.cell? ⟨w.heap.size + 1, 0, none⟩ = some (.slice (some ⟨b2, o2, none⟩) in1 ic2) ∧ W.rangeAt b1 (o1 + k * 34) X ∧ W.rangeAt b2 (o2 + k * 34) Y ∧ BoxT w [.slice (some ⟨b1, o1, none⟩) in1 ic1, .slice oa1 on1 oc1, .int .i64 tm] [.slice (some ⟨b2, o2, none⟩) in1 ic2, .slice oa2 on1 oc2, .int .i64 tm] W) (by kernel_rfl) ?_ (fun hHeld0 => ?_)
                · exact ⟨hcA2, hcB2, HRX.out, HRY.out, HB3.out.drew⟩
                refine wpAnyH_take (i := 0) (v := ?_) rfl (by kernel_rfl) (by kernel_rfl) (by kernel_rfl) (fun _ _ _ h => h) (Or.inl ⟨by rfl, ?_⟩) hHeld0 ?_
                rotate_left
                · (intro w hSw; (try dsimp only at hSw); go_simp <;> (try with_reducible rfl))
                simp only [Act.put, List.getElem_toArray, List.getElem_cons_zero, List.getElem_cons_succ, List.setIfInBounds_toArray, List.set_cons_zero, List.set_cons_succ]
                refine wpAnyH_take (i := 1) (v := ?_) rfl (by kernel_rfl) (by kernel_rfl) (by kernel_rfl) (fun _ _ _ h => h) (Or.inl ⟨by rfl, ?_⟩) hHeld0 ?_
                rotate_left
                · (intro w hSw; (try dsimp only at hSw); go_simp <;> (try with_reducible rfl))
                simp only [Act.put, List.getElem_toArray, List.getElem_cons_zero, List.getElem_cons_succ, List.setIfInBounds_toArray, List.set_cons_zero, List.set_cons_succ]
                refine wpAnyH_take (i := 2) (v := ?_) rfl (by kernel_rfl) (by kernel_rfl) (by kernel_rfl) (fun _ _ _ h => h) (Or.inl ⟨by rfl, ?_⟩) hHeld0 ?_
                rotate_left
                · (intro w hSw; (try dsimp only at hSw); go_simp <;> (try with_reducible rfl))
                simp only [Act.put, List.getElem_toArray, List.getElem_cons_zero, List.getElem_cons_succ, List.setIfInBounds_toArray, List.set_cons_zero, List.set_cons_succ]
                refine wpAnyH_take (i := 3) (v := ?_) rfl (by kernel_rfl) (by kernel_rfl) (by kernel_rfl) (fun _ _ _ h => h) (Or.inl ⟨by rfl, ?_⟩) hHeld0 ?_
                rotate_left
                · (intro w hSw; (try dsimp only at hSw); go_simp <;> (try with_reducible rfl))
                simp only [Act.put, List.getElem_toArray, List.getElem_cons_zero, List.getElem_cons_succ, List.setIfInBounds_toArray, List.set_cons_zero, List.set_cons_succ]
                refine wpAnyH_take (i := 4) (v := ?_) rfl (by kernel_rfl) (by kernel_rfl) (by kernel_rfl) (fun _ _ _ h => h) (Or.inl ⟨by rfl, ?_⟩) hHeld0 ?_
                rotate_left
                · (intro w hSw; (try dsimp only at hSw); go_simp <;> (try with_reducible rfl))
                simp only [Act.put, List.getElem_toArray, List.getElem_cons_zero, List.getElem_cons_succ, List.setIfInBounds_toArray, List.set_cons_zero, List.set_cons_succ]
                refine wpAnyH_take (i := 5) (v := ?_) rfl (by kernel_rfl) (by kernel_rfl) (by kernel_rfl) (fun _ _ _ h => h) (Or.inl ⟨by rfl, ?_⟩) hHeld0 ?_
                rotate_left
                · (intro w hSw; (try dsimp only at hSw); go_simp <;> (try with_reducible rfl))
                simp only [Act.put, List.getElem_toArray, List.getElem_cons_zero, List.getElem_cons_succ, List.setIfInBounds_toArray, List.set_cons_zero, List.set_cons_succ]
                refine wpAnyH_take (i := 6) (v := ?_) rfl (by kernel_rfl) (by kernel_rfl) (by kernel_rfl) (fun _ _ _ h => h) (Or.inl ⟨by rfl, ?_⟩) hHeld0 ?_
                rotate_left
                · (intro w hSw; (try dsimp only at hSw); go_simp <;> (try with_reducible rfl))
                simp only [Act.put, List.getElem_toArray, List.getElem_cons_zero, List.getElem_cons_succ, List.setIfInBounds_toArray, List.set_cons_zero, List.set_cons_succ]
                refine wpAnyH_take (i := 7) (v := ?_) rfl (by kernel_rfl) (by kernel_rfl) (by kernel_rfl) (fun _ _ _ h => h) (Or.inl ⟨by rfl, ?_⟩) hHeld0 ?_
                rotate_left
                · (intro w hSw; (try dsimp only at hSw); go_simp <;> (try with_reducible rfl))
                simp only [Act.put, List.getElem_toArray, List.getElem_cons_zero, List.getElem_cons_succ, List.setIfInBounds_toArray, List.set_cons_zero, List.set_cons_succ]
                refine wpAnyH_take (i := 8) (v := .agg (X).toArray) rfl (by kernel_rfl) (by kernel_rfl) (by kernel_rfl) (fun _ _ _ h => h) (yieldsIf_load_mid (by rfl) _ _ rfl _ _ rfl (X) _ (fun w hSw => hSw.2.2.1) Tryz.underlying51 rfl hszx) hHeld0 ?_
                simp only [Act.put, List.getElem_toArray, List.getElem_cons_zero, List.getElem_cons_succ, List.setIfInBounds_toArray, List.set_cons_zero, List.set_cons_succ]
                refine wpAnyH_take (i := 9) (v := ?_) rfl (by kernel_rfl) (by kernel_rfl) (by kernel_rfl) (fun _ _ _ h => h) (Or.inl ⟨by rfl, ?_⟩) hHeld0 ?_
                rotate_left
                · (intro w hSw; (try dsimp only at hSw); go_simp <;> (try with_reducible rfl))
                simp only [Act.put, List.getElem_toArray, List.getElem_cons_zero, List.getElem_cons_succ, List.setIfInBounds_toArray, List.set_cons_zero, List.set_cons_succ]
                refine wpAnyH_take (i := 10) (v := ?_) rfl (by kernel_rfl) (by kernel_rfl) (by kernel_rfl) (fun _ _ _ h => h) (Or.inl ⟨by rfl, ?_⟩) hHeld0 ?_
                rotate_left
                · (intro w hSw; (try dsimp only at hSw); go_simp <;> (try with_reducible rfl))
                simp only [Act.put, List.getElem_toArray, List.getElem_cons_zero, List.getElem_cons_succ, List.setIfInBounds_toArray, List.set_cons_zero, List.set_cons_succ]
                refine wpAnyH_take (i := 11) (v := ?_) rfl (by kernel_rfl) (by kernel_rfl) (by kernel_rfl) (fun _ _ _ h => h) (Or.inl ⟨by rfl, ?_⟩) hHeld0 ?_
                rotate_left
                · (intro w hSw; (try dsimp only at hSw); go_simp <;> (try with_reducible rfl))
                simp only [Act.put, List.getElem_toArray, List.getElem_cons_zero, List.getElem_cons_succ, List.setIfInBounds_toArray, List.set_cons_zero, List.set_cons_succ]
                refine wpAnyH_take (i := 12) (v := ?_) rfl (by kernel_rfl) (by kernel_rfl) (by kernel_rfl) (fun _ _ _ h => h) (Or.inl ⟨by rfl, ?_⟩) hHeld0 ?_
                rotate_left
                · (intro w hSw; (try dsimp only at hSw); go_simp <;> (try with_reducible rfl))
                simp only [Act.put, List.getElem_toArray, List.getElem_cons_zero, List.getElem_cons_succ, List.setIfInBounds_toArray, List.set_cons_zero, List.set_cons_succ]
                refine wpAnyH_take (i := 13) (v := ?_) rfl (by kernel_rfl) (by kernel_rfl) (by kernel_rfl) (fun _ _ _ h => h) (Or.inl ⟨by rfl, ?_⟩) hHeld0 ?_
                rotate_left
                · (intro w hSw; (try dsimp only at hSw); go_simp <;> (try with_reducible rfl))
                simp only [Act.put, List.getElem_toArray, List.getElem_cons_zero, List.getElem_cons_succ, List.setIfInBounds_toArray, List.set_cons_zero, List.set_cons_succ]
                refine wpAnyH_take (i := 14) (v := .agg (Y).toArray) rfl (by kernel_rfl) (by kernel_rfl) (by kernel_rfl) (fun _ _ _ h => h) (yieldsIf_load_mid (by rfl) _ _ rfl _ _ rfl (Y) _ (fun w hSw => hSw.2.2.2.1) Tryz.underlying51 rfl hszy) hHeld0 ?_
                simp only [Act.put, List.getElem_toArray, List.getElem_cons_zero, List.getElem_cons_succ, List.setIfInBounds_toArray, List.set_cons_zero, List.set_cons_succ]
                refine wpAnyH_take (i := 15) (v := ?_) rfl (by kernel_rfl) (by kernel_rfl) (by kernel_rfl) (fun _ _ _ h => h) (Or.inl ⟨by rfl, ?_⟩) hHeld0 ?_
                rotate_left
                · (intro w hSw; (try dsimp only at hSw); go_simp <;> (try with_reducible rfl))
                simp only [Act.put, List.getElem_toArray, List.getElem_cons_zero, List.getElem_cons_succ, List.setIfInBounds_toArray, List.set_cons_zero, List.set_cons_succ]
                refine wpAnyH_take (i := 16) (v := ?_) rfl (by kernel_rfl) (by kernel_rfl) (by kernel_rfl) (fun _ _ _ h => h) (Or.inl ⟨by rfl, ?_⟩) hHeld0 ?_
                rotate_left
                · (intro w hSw; (try dsimp only at hSw); go_simp <;> (try with_reducible rfl))
                simp only [Act.put, List.getElem_toArray, List.getElem_cons_zero, List.getElem_cons_succ, List.setIfInBounds_toArray, List.set_cons_zero, List.set_cons_succ]
                refine wpAnyH_done (by kernel_rfl) ?_ _
                go_wp2
                go_roundw
                case rel => exact ⟨k + 1, by omega, by go_num, HGO.out, hHeld0.2.2.2.2⟩
                case measure => simp [intOf]; omega
              · have hq : ∀ w', (Op.equalIn 10000 51 (.agg X.toArray) (.agg Y.toArray)).run Tryz.prog w' = .ok false w' := fun w' => by rw [hX, hY, place_eq _ _ _ _ HYL.out HZL.out w', decide_eq_false hp]
                have HALL := hide (HNO.out (fun h => hp ⟨(HOS.out.1 h).2.1, (HOS.out.1 h).2.2⟩))
                clear hX hY hXl hYl hp HSO HNO HOS HKS
                go_wp2
                refine wp_region_held_drew (S := fun W : World => W.cell? ⟨w.heap.size, 0, none⟩ = some (.slice (some ⟨b1, o1, none⟩) in1 ic1) ∧ W.cell? ⟨w.heap.size + 1, 0, none⟩ = some (.slice (some ⟨b2, o2, none⟩) in1 ic2) ∧ W.rangeAt b1 (o1 + k * 34) X ∧ W.rangeAt b2 (o2 + k * 34) Y ∧ BoxT w [.slice (some ⟨b1, o1, none⟩) in1 ic1, .slice oa1 on1 oc1, .int .i64 tm] [.slice (some ⟨b2, o2, none⟩) in1 ic2, .slice oa2 on1 oc2, .int .i64 tm] W) (by kernel_rfl) ?_ (fun hHeld0 => ?_)
                · exact ⟨hcA2, hcB2, HRX.out, HRY.out, HB3.out.drew⟩
                refine wpAnyH_take (i := 0) (v := ?_) rfl (by kernel_rfl) (by kernel_rfl) (by kernel_rfl) (fun _ _ _ h => h) (Or.inl ⟨by rfl, ?_⟩) hHeld0 ?_
                rotate_left
                · (intro w hSw; (try dsimp only at hSw); go_simp <;> (try with_reducible rfl))
                simp only [Act.put, List.getElem_toArray, List.getElem_cons_zero, List.getElem_cons_succ, List.setIfInBounds_toArray, List.set_cons_zero, List.set_cons_succ]
                refine wpAnyH_take (i := 1) (v := ?_) rfl (by kernel_rfl) (by kernel_rfl) (by kernel_rfl) (fun _ _ _ h => h) (Or.inl ⟨by rfl, ?_⟩) hHeld0 ?_
                rotate_left
                · (intro w hSw; (try dsimp only at hSw); go_simp <;> (try with_reducible rfl))
                simp only [Act.put, List.getElem_toArray, List.getElem_cons_zero, List.getElem_cons_succ, List.setIfInBounds_toArray, List.set_cons_zero, List.set_cons_succ]
                refine wpAnyH_take (i := 2) (v := ?_) rfl (by kernel_rfl) (by kernel_rfl) (by kernel_rfl) (fun _ _ _ h => h) (Or.inl ⟨by rfl, ?_⟩) hHeld0 ?_
                rotate_left
                · (intro w hSw; (try dsimp only at hSw); go_simp <;> (try with_reducible rfl))
                simp only [Act.put, List.getElem_toArray, List.getElem_cons_zero, List.getElem_cons_succ, List.setIfInBounds_toArray, List.set_cons_zero, List.set_cons_succ]
                refine wpAnyH_take (i := 3) (v := ?_) rfl (by kernel_rfl) (by kernel_rfl) (by kernel_rfl) (fun _ _ _ h => h) (Or.inl ⟨by rfl, ?_⟩) hHeld0 ?_
                rotate_left
                · (intro w hSw; (try dsimp only at hSw); go_simp <;> (try with_reducible rfl))
                simp only [Act.put, List.getElem_toArray, List.getElem_cons_zero, List.getElem_cons_succ, List.setIfInBounds_toArray, List.set_cons_zero, List.set_cons_succ]
                refine wpAnyH_take (i := 4) (v := ?_) rfl (by kernel_rfl) (by kernel_rfl) (by kernel_rfl) (fun _ _ _ h => h) (Or.inl ⟨by rfl, ?_⟩) hHeld0 ?_
                rotate_left
                · (intro w hSw; (try dsimp only at hSw); go_simp <;> (try with_reducible rfl))
                simp only [Act.put, List.getElem_toArray, List.getElem_cons_zero, List.getElem_cons_succ, List.setIfInBounds_toArray, List.set_cons_zero, List.set_cons_succ]
                refine wpAnyH_take (i := 5) (v := ?_) rfl (by kernel_rfl) (by kernel_rfl) (by kernel_rfl) (fun _ _ _ h => h) (Or.inl ⟨by rfl, ?_⟩) hHeld0 ?_
                rotate_left
                · (intro w hSw; (try dsimp only at hSw); go_simp <;> (try with_reducible rfl))
                simp only [Act.put, List.getElem_toArray, List.getElem_cons_zero, List.getElem_cons_succ, List.setIfInBounds_toArray, List.set_cons_zero, List.set_cons_succ]
                refine wpAnyH_take (i := 6) (v := ?_) rfl (by kernel_rfl) (by kernel_rfl) (by kernel_rfl) (fun _ _ _ h => h) (Or.inl ⟨by rfl, ?_⟩) hHeld0 ?_
                rotate_left
                · (intro w hSw; (try dsimp only at hSw); go_simp <;> (try with_reducible rfl))
                simp only [Act.put, List.getElem_toArray, List.getElem_cons_zero, List.getElem_cons_succ, List.setIfInBounds_toArray, List.set_cons_zero, List.set_cons_succ]
                refine wpAnyH_take (i := 7) (v := ?_) rfl (by kernel_rfl) (by kernel_rfl) (by kernel_rfl) (fun _ _ _ h => h) (Or.inl ⟨by rfl, ?_⟩) hHeld0 ?_
                rotate_left
                · (intro w hSw; (try dsimp only at hSw); go_simp <;> (try with_reducible rfl))
                simp only [Act.put, List.getElem_toArray, List.getElem_cons_zero, List.getElem_cons_succ, List.setIfInBounds_toArray, List.set_cons_zero, List.set_cons_succ]
                refine wpAnyH_take (i := 8) (v := .agg (X).toArray) rfl (by kernel_rfl) (by kernel_rfl) (by kernel_rfl) (fun _ _ _ h => h) (yieldsIf_load_mid (by rfl) _ _ rfl _ _ rfl (X) _ (fun w hSw => hSw.2.2.1) Tryz.underlying51 rfl hszx) hHeld0 ?_
                simp only [Act.put, List.getElem_toArray, List.getElem_cons_zero, List.getElem_cons_succ, List.setIfInBounds_toArray, List.set_cons_zero, List.set_cons_succ]
                refine wpAnyH_take (i := 9) (v := ?_) rfl (by kernel_rfl) (by kernel_rfl) (by kernel_rfl) (fun _ _ _ h => h) (Or.inl ⟨by rfl, ?_⟩) hHeld0 ?_
                rotate_left
                · (intro w hSw; (try dsimp only at hSw); go_simp <;> (try with_reducible rfl))
                simp only [Act.put, List.getElem_toArray, List.getElem_cons_zero, List.getElem_cons_succ, List.setIfInBounds_toArray, List.set_cons_zero, List.set_cons_succ]
                refine wpAnyH_take (i := 10) (v := ?_) rfl (by kernel_rfl) (by kernel_rfl) (by kernel_rfl) (fun _ _ _ h => h) (Or.inl ⟨by rfl, ?_⟩) hHeld0 ?_
                rotate_left
                · (intro w hSw; (try dsimp only at hSw); go_simp <;> (try with_reducible rfl))
                simp only [Act.put, List.getElem_toArray, List.getElem_cons_zero, List.getElem_cons_succ, List.setIfInBounds_toArray, List.set_cons_zero, List.set_cons_succ]
                refine wpAnyH_take (i := 11) (v := ?_) rfl (by kernel_rfl) (by kernel_rfl) (by kernel_rfl) (fun _ _ _ h => h) (Or.inl ⟨by rfl, ?_⟩) hHeld0 ?_
                rotate_left
                · (intro w hSw; (try dsimp only at hSw); go_simp <;> (try with_reducible rfl))
                simp only [Act.put, List.getElem_toArray, List.getElem_cons_zero, List.getElem_cons_succ, List.setIfInBounds_toArray, List.set_cons_zero, List.set_cons_succ]
                refine wpAnyH_take (i := 12) (v := ?_) rfl (by kernel_rfl) (by kernel_rfl) (by kernel_rfl) (fun _ _ _ h => h) (Or.inl ⟨by rfl, ?_⟩) hHeld0 ?_
                rotate_left
                · (intro w hSw; (try dsimp only at hSw); go_simp <;> (try with_reducible rfl))
                simp only [Act.put, List.getElem_toArray, List.getElem_cons_zero, List.getElem_cons_succ, List.setIfInBounds_toArray, List.set_cons_zero, List.set_cons_succ]
                refine wpAnyH_take (i := 13) (v := ?_) rfl (by kernel_rfl) (by kernel_rfl) (by kernel_rfl) (fun _ _ _ h => h) (Or.inl ⟨by rfl, ?_⟩) hHeld0 ?_
                rotate_left
                · (intro w hSw; (try dsimp only at hSw); go_simp <;> (try with_reducible rfl))
                simp only [Act.put, List.getElem_toArray, List.getElem_cons_zero, List.getElem_cons_succ, List.setIfInBounds_toArray, List.set_cons_zero, List.set_cons_succ]
                refine wpAnyH_take (i := 14) (v := .agg (Y).toArray) rfl (by kernel_rfl) (by kernel_rfl) (by kernel_rfl) (fun _ _ _ h => h) (yieldsIf_load_mid (by rfl) _ _ rfl _ _ rfl (Y) _ (fun w hSw => hSw.2.2.2.1) Tryz.underlying51 rfl hszy) hHeld0 ?_
                simp only [Act.put, List.getElem_toArray, List.getElem_cons_zero, List.getElem_cons_succ, List.setIfInBounds_toArray, List.set_cons_zero, List.set_cons_succ]
                refine wpAnyH_take (i := 15) (v := ?_) rfl (by kernel_rfl) (by kernel_rfl) (by kernel_rfl) (fun _ _ _ h => h) (Or.inl ⟨by rfl, ?_⟩) hHeld0 ?_
                rotate_left
                · (intro w hSw; (try dsimp only at hSw); go_simp <;> (try with_reducible rfl))
                simp only [Act.put, List.getElem_toArray, List.getElem_cons_zero, List.getElem_cons_succ, List.setIfInBounds_toArray, List.set_cons_zero, List.set_cons_succ]
                refine wpAnyH_take (i := 16) (v := ?_) rfl (by kernel_rfl) (by kernel_rfl) (by kernel_rfl) (fun _ _ _ h => h) (Or.inl ⟨by rfl, ?_⟩) hHeld0 ?_
                rotate_left
                · (intro w hSw; (try dsimp only at hSw); go_simp <;> (try with_reducible rfl))
                simp only [Act.put, List.getElem_toArray, List.getElem_cons_zero, List.getElem_cons_succ, List.setIfInBounds_toArray, List.set_cons_zero, List.set_cons_succ]
                refine wpAnyH_done (by kernel_rfl) ?_ _
                go_wp2
                go_ret
                exact ⟨TellsB.no (HNI.out HALL.out), hHeld0.2.2.2.2.below⟩
            | false =>
              have hno : ¬ I1[k].K.map Prod.fst = I2[k].K.map Prod.fst := fun h => by have := hbi.2 h; cases this
              have HALL := hide (HNO.out (fun h => hno (HOS.out.1 h).1))
              clear hbi hno HSO HNO HOS
              obtain ⟨X, hX⟩ : ∃ X, X = vals I1[k].tx ++ [Value.int .i64 I1[k].at'] := ⟨_, rfl⟩
              obtain ⟨Y, hY⟩ : ∃ Y, Y = vals I2[k].tx ++ [Value.int .i64 I2[k].at'] := ⟨_, rfl⟩
              rw [← hX] at HRX
              rw [← hY] at HRY
              have hXl : X.length = 33 := by rw [hX, List.length_append, vals_length, HYL.out]; rfl
              have hYl : Y.length = 33 := by rw [hY, List.length_append, vals_length, HZL.out]; rfl
              have hszx : (Tryz.prog.info? 51).map (·.size) = some X.length := by rw [hXl]; exact size_place
              have hszy : (Tryz.prog.info? 51).map (·.size) = some Y.length := by rw [hYl]; exact size_place
              have hgd := guard_place
              clear hX hY hXl hYl
              go_wp2
              refine wp_region_held_drew (S := fun W : World => W.cell? ⟨w.heap.size, 0, none⟩ = some (.slice (some ⟨b1, o1, none⟩) in1 ic1) ∧ W.cell? ⟨w.heap.size + 1, 0, none⟩ = some (.slice (some ⟨b2, o2, none⟩) in1 ic2) ∧ W.rangeAt b1 (o1 + k * 34) X ∧ W.rangeAt b2 (o2 + k * 34) Y ∧ BoxT w [.slice (some ⟨b1, o1, none⟩) in1 ic1, .slice oa1 on1 oc1, .int .i64 tm] [.slice (some ⟨b2, o2, none⟩) in1 ic2, .slice oa2 on1 oc2, .int .i64 tm] W) (by kernel_rfl) ?_ (fun hHeld0 => ?_)
              · exact ⟨hcA2, hcB2, HRX.out, HRY.out, HB3.out.drew⟩
              refine wpAnyH_take (i := 0) (v := ?_) rfl (by kernel_rfl) (by kernel_rfl) (by kernel_rfl) (fun _ _ _ h => h) (Or.inl ⟨by rfl, ?_⟩) hHeld0 ?_
              rotate_left
              · (intro w hSw; (try dsimp only at hSw); go_simp <;> (try with_reducible rfl))
              simp only [Act.put, List.getElem_toArray, List.getElem_cons_zero, List.getElem_cons_succ, List.setIfInBounds_toArray, List.set_cons_zero, List.set_cons_succ]
              refine wpAnyH_take (i := 1) (v := ?_) rfl (by kernel_rfl) (by kernel_rfl) (by kernel_rfl) (fun _ _ _ h => h) (Or.inl ⟨by rfl, ?_⟩) hHeld0 ?_
              rotate_left
              · (intro w hSw; (try dsimp only at hSw); go_simp <;> (try with_reducible rfl))
              simp only [Act.put, List.getElem_toArray, List.getElem_cons_zero, List.getElem_cons_succ, List.setIfInBounds_toArray, List.set_cons_zero, List.set_cons_succ]
              refine wpAnyH_take (i := 2) (v := ?_) rfl (by kernel_rfl) (by kernel_rfl) (by kernel_rfl) (fun _ _ _ h => h) (Or.inl ⟨by rfl, ?_⟩) hHeld0 ?_
              rotate_left
              · (intro w hSw; (try dsimp only at hSw); go_simp <;> (try with_reducible rfl))
              simp only [Act.put, List.getElem_toArray, List.getElem_cons_zero, List.getElem_cons_succ, List.setIfInBounds_toArray, List.set_cons_zero, List.set_cons_succ]
              refine wpAnyH_take (i := 3) (v := undef) rfl (by kernel_rfl) (by kernel_rfl) (by kernel_rfl) (fun _ _ _ h => h) (Or.inr ⟨by rfl, rfl⟩) hHeld0 ?_
              simp only [Act.put, List.getElem_toArray, List.getElem_cons_zero, List.getElem_cons_succ, List.setIfInBounds_toArray, List.set_cons_zero, List.set_cons_succ]
              refine wpAnyH_take (i := 4) (v := undef) rfl (by kernel_rfl) (by kernel_rfl) (by kernel_rfl) (fun _ _ _ h => h) (Or.inr ⟨by rfl, rfl⟩) hHeld0 ?_
              simp only [Act.put, List.getElem_toArray, List.getElem_cons_zero, List.getElem_cons_succ, List.setIfInBounds_toArray, List.set_cons_zero, List.set_cons_succ]
              refine wpAnyH_take (i := 5) (v := undef) rfl (by kernel_rfl) (by kernel_rfl) (by kernel_rfl) (fun _ _ _ h => h) (Or.inr ⟨by rfl, rfl⟩) hHeld0 ?_
              simp only [Act.put, List.getElem_toArray, List.getElem_cons_zero, List.getElem_cons_succ, List.setIfInBounds_toArray, List.set_cons_zero, List.set_cons_succ]
              refine wpAnyH_take (i := 6) (v := undef) rfl (by kernel_rfl) (by kernel_rfl) (by kernel_rfl) (fun _ _ _ h => h) (Or.inr ⟨by rfl, rfl⟩) hHeld0 ?_
              simp only [Act.put, List.getElem_toArray, List.getElem_cons_zero, List.getElem_cons_succ, List.setIfInBounds_toArray, List.set_cons_zero, List.set_cons_succ]
              refine wpAnyH_take (i := 7) (v := undef) rfl (by kernel_rfl) (by kernel_rfl) (by kernel_rfl) (fun _ _ _ h => h) (Or.inr ⟨by rfl, rfl⟩) hHeld0 ?_
              simp only [Act.put, List.getElem_toArray, List.getElem_cons_zero, List.getElem_cons_succ, List.setIfInBounds_toArray, List.set_cons_zero, List.set_cons_succ]
              refine wpAnyH_take (i := 8) (v := undef) rfl (by kernel_rfl) (by kernel_rfl) (by kernel_rfl) (fun _ _ _ h => h) (Or.inr ⟨by rfl, rfl⟩) hHeld0 ?_
              simp only [Act.put, List.getElem_toArray, List.getElem_cons_zero, List.getElem_cons_succ, List.setIfInBounds_toArray, List.set_cons_zero, List.set_cons_succ]
              refine wpAnyH_take (i := 9) (v := undef) rfl (by kernel_rfl) (by kernel_rfl) (by kernel_rfl) (fun _ _ _ h => h) (Or.inr ⟨by rfl, rfl⟩) hHeld0 ?_
              simp only [Act.put, List.getElem_toArray, List.getElem_cons_zero, List.getElem_cons_succ, List.setIfInBounds_toArray, List.set_cons_zero, List.set_cons_succ]
              refine wpAnyH_take (i := 10) (v := undef) rfl (by kernel_rfl) (by kernel_rfl) (by kernel_rfl) (fun _ _ _ h => h) (Or.inr ⟨by rfl, rfl⟩) hHeld0 ?_
              simp only [Act.put, List.getElem_toArray, List.getElem_cons_zero, List.getElem_cons_succ, List.setIfInBounds_toArray, List.set_cons_zero, List.set_cons_succ]
              refine wpAnyH_take (i := 11) (v := undef) rfl (by kernel_rfl) (by kernel_rfl) (by kernel_rfl) (fun _ _ _ h => h) (Or.inr ⟨by rfl, rfl⟩) hHeld0 ?_
              simp only [Act.put, List.getElem_toArray, List.getElem_cons_zero, List.getElem_cons_succ, List.setIfInBounds_toArray, List.set_cons_zero, List.set_cons_succ]
              refine wpAnyH_take (i := 12) (v := undef) rfl (by kernel_rfl) (by kernel_rfl) (by kernel_rfl) (fun _ _ _ h => h) (Or.inr ⟨by rfl, rfl⟩) hHeld0 ?_
              simp only [Act.put, List.getElem_toArray, List.getElem_cons_zero, List.getElem_cons_succ, List.setIfInBounds_toArray, List.set_cons_zero, List.set_cons_succ]
              refine wpAnyH_take (i := 13) (v := undef) rfl (by kernel_rfl) (by kernel_rfl) (by kernel_rfl) (fun _ _ _ h => h) (Or.inr ⟨by rfl, rfl⟩) hHeld0 ?_
              simp only [Act.put, List.getElem_toArray, List.getElem_cons_zero, List.getElem_cons_succ, List.setIfInBounds_toArray, List.set_cons_zero, List.set_cons_succ]
              refine wpAnyH_take (i := 14) (v := undef) rfl (by kernel_rfl) (by kernel_rfl) (by kernel_rfl) (fun _ _ _ h => h) (Or.inr ⟨by rfl, rfl⟩) hHeld0 ?_
              simp only [Act.put, List.getElem_toArray, List.getElem_cons_zero, List.getElem_cons_succ, List.setIfInBounds_toArray, List.set_cons_zero, List.set_cons_succ]
              refine wpAnyH_take (i := 15) (v := undef) rfl (by kernel_rfl) (by kernel_rfl) (by kernel_rfl) (fun _ _ _ h => h) (Or.inr ⟨by rfl, rfl⟩) hHeld0 ?_
              simp only [Act.put, List.getElem_toArray, List.getElem_cons_zero, List.getElem_cons_succ, List.setIfInBounds_toArray, List.set_cons_zero, List.set_cons_succ]
              refine wpAnyH_take (i := 16) (v := ?_) rfl (by kernel_rfl) (by kernel_rfl) (by kernel_rfl) (fun _ _ _ h => h) (Or.inl ⟨by rfl, ?_⟩) hHeld0 ?_
              rotate_left
              · (intro w hSw; (try dsimp only at hSw); go_simp <;> (try with_reducible rfl))
              simp only [Act.put, List.getElem_toArray, List.getElem_cons_zero, List.getElem_cons_succ, List.setIfInBounds_toArray, List.set_cons_zero, List.set_cons_succ]
              refine wpAnyH_done (by kernel_rfl) ?_ _
              go_wp2
              go_ret
              exact ⟨TellsB.no (HNI.out HALL.out), hHeld0.2.2.2.2.below⟩
          · have hke : k = in1 := by omega
            have hall := sm_end (by rw [List.length_map, HIN.out, hke]) (by rw [List.length_map, ← HIL.out, HIN.out, hke]) heq
            have HIA := hide hall
            clear heq hbx hall HEQ hke
            go_wp2
            go_loopw [7, 8] (fun i s wr => ∃ k : Nat, k ≤ on1 ∧ i = .int .i64 k ∧ (O1.map OutV.it).take k = (O2.map OutV.it).take k ∧ BoxT w [.slice ia1 in1 ic1, .slice oa1 on1 oc1, .int .i64 tm] [.slice ia2 in1 ic2, .slice oa2 on1 oc2, .int .i64 tm] wr) (fun i _ _ => on1 - (intOf i).toNat)
            case atStart => exact ⟨0, Nat.zero_le _, rfl, by simp, HBX.out⟩
            case round =>
              clear hcA hcB HBX
              obtain ⟨k, hk, rfl, heq, hbx⟩ := hrel
              have HBX := hide hbx
              have HEQ := hide heq
              have hcA : wr.cell? ⟨w.heap.size, 1, none⟩ = some (.slice oa1 on1 oc1) := hbx.b1.cell 1
              have hcB : wr.cell? ⟨w.heap.size + 1, 1, none⟩ = some (.slice oa2 on1 oc2) := hbx.b2.cell 1
              by_cases hlt : k < on1
              · have k1 : k < O1.length := by rw [HON.out]; exact hlt
                have k2 : k < O2.length := by rw [← HOL.out]; exact k1
                have hki : (k : Int) < (on1 : Int) := by omega
                obtain ⟨b1, o1, rfl, hc1, hm1, hb1, hr1, hx1⟩ := HG1.out k (by omega)
                obtain ⟨b2, o2, rfl, hc2, hm2, hb2, hr2, hx2⟩ := HG2.out k (by omega)
                rw [HON.out] at hc1
                rw [← HOL.out, HON.out] at hc2
                have hck1 : wr.drew.cell? ⟨b1, o1 + k * 2 + 1, none⟩ = some O1[k].lv := sm_cell hx1 hbx.below.drew
                have hck2 : wr.drew.cell? ⟨b2, o2 + k * 2 + 1, none⟩ = some O2[k].lv := sm_cell hx2 hbx.below.drew
                have y3 := HO1.out O1[k] (List.getElem_mem k1)
                have z3 := HO2.out O2[k] (List.getElem_mem k2)
                obtain ⟨s1, c1, e1, -⟩ := ops_form y3
                obtain ⟨s2, c2, e2, -⟩ := ops_form z3
                have HCALL : Hid (∀ W, BoxT w [.slice ia1 in1 ic1, .slice (some ⟨b1, o1, none⟩) on1 oc1, .int .i64 tm] [.slice ia2 in1 ic2, .slice (some ⟨b2, o2, none⟩) on1 oc2, .int .i64 tm] W → Calls Tryz.prog 38 #[O1[k].lv, O2[k].lv] W fun e w' => ∃ b, e = .returned (.bool b) ∧ (b = true ↔ opsOf O1[k].L = opsOf O2[k].L) ∧ Below W.heap.size W w') := hide (fun W hW => lockSame_any _ _ _ _ W (y3.below hW.below) (z3.below hW.below))
                rw [e1] at hck1 HCALL
                rw [e2] at hck2 HCALL
                have HR1 := hide hr1
                have HR2 := hide hr2
                have hxx : (O1.map OutV.it)[k]'(by simpa using k1) = O1[k].it := by simp
                have hyy : (O2.map OutV.it)[k]'(by simpa using k2) = O2[k].it := by simp
                have HNO : Hid (¬ O1[k].it = O2[k].it → ¬ O1.map OutV.it = O2.map OutV.it) := hide (fun h1 h2 => h1 (by rw [← hxx, ← hyy]; simp [h2]))
                have HSO : Hid (O1[k].it = O2[k].it → (O1.map OutV.it).take (k + 1) = (O2.map OutV.it).take (k + 1)) := hide (fun h => sm_take (by simpa using k1) (by simpa using k2) HEQ.out (by rw [hxx, hyy, h]))
                have HOS := hide (@out_same O1[k].it O2[k].it)
                clear heq hbx hr1 hr2 hx1 hx2 y3 z3 e1 e2 hxx hyy hm1 hm2 hb1 hb2
                generalize O1[k].L.length = n1 at *
                generalize O2[k].L.length = n2 at *
                go_wp2
                refine wp_region_held_drew (S := fun W : World => W.cell? ⟨w.heap.size, 1, none⟩ = some (.slice (some ⟨b1, o1, none⟩) on1 oc1) ∧ W.cell? ⟨w.heap.size + 1, 1, none⟩ = some (.slice (some ⟨b2, o2, none⟩) on1 oc2) ∧ W.cell? ⟨b1, o1 + k * 2 + 1, none⟩ = some (.slice s1 n1 c1) ∧ W.cell? ⟨b2, o2 + k * 2 + 1, none⟩ = some (.slice s2 n2 c2) ∧ BoxT w [.slice ia1 in1 ic1, .slice (some ⟨b1, o1, none⟩) on1 oc1, .int .i64 tm] [.slice ia2 in1 ic2, .slice (some ⟨b2, o2, none⟩) on1 oc2, .int .i64 tm] W) (by kernel_rfl) ?_ (fun hHeld0 => ?_)
                · exact ⟨hcA, hcB, hck1, hck2, HBX.out.drew⟩
                refine wpAnyH_take (i := 0) (v := ?_) rfl (by kernel_rfl) (by kernel_rfl) (by kernel_rfl) (fun _ _ _ h => h) (Or.inl ⟨by rfl, ?_⟩) hHeld0 ?_
                rotate_left
                · (intro w hSw; (try dsimp only at hSw); go_simp <;> (try with_reducible rfl))
                simp only [Act.put, List.getElem_toArray, List.getElem_cons_zero, List.getElem_cons_succ, List.setIfInBounds_toArray, List.set_cons_zero, List.set_cons_succ]
                refine wpAnyH_take (i := 1) (v := ?_) rfl (by kernel_rfl) (by kernel_rfl) (by kernel_rfl) (fun _ _ _ h => h) (Or.inl ⟨by rfl, ?_⟩) hHeld0 ?_
                rotate_left
                · (intro w hSw; (try dsimp only at hSw); go_simp <;> (try with_reducible rfl))
                simp only [Act.put, List.getElem_toArray, List.getElem_cons_zero, List.getElem_cons_succ, List.setIfInBounds_toArray, List.set_cons_zero, List.set_cons_succ]
                refine wpAnyH_take (i := 2) (v := ?_) rfl (by kernel_rfl) (by kernel_rfl) (by kernel_rfl) (fun _ _ _ h => h) (Or.inl ⟨by rfl, ?_⟩) hHeld0 ?_
                rotate_left
                · (intro w hSw; (try dsimp only at hSw); go_simp <;> (try with_reducible rfl))
                simp only [Act.put, List.getElem_toArray, List.getElem_cons_zero, List.getElem_cons_succ, List.setIfInBounds_toArray, List.set_cons_zero, List.set_cons_succ]
                refine wpAnyH_take (i := 3) (v := ?_) rfl (by kernel_rfl) (by kernel_rfl) (by kernel_rfl) (fun _ _ _ h => h) (Or.inl ⟨by rfl, ?_⟩) hHeld0 ?_
                rotate_left
                · (intro w hSw; (try dsimp only at hSw); go_simp <;> (try with_reducible rfl))
                simp only [Act.put, List.getElem_toArray, List.getElem_cons_zero, List.getElem_cons_succ, List.setIfInBounds_toArray, List.set_cons_zero, List.set_cons_succ]
                refine wpAnyH_take (i := 4) (v := ?_) rfl (by kernel_rfl) (by kernel_rfl) (by kernel_rfl) (fun _ _ _ h => h) (Or.inl ⟨by rfl, ?_⟩) hHeld0 ?_
                rotate_left
                · (intro w hSw; (try dsimp only at hSw); go_simp <;> (try with_reducible rfl))
                simp only [Act.put, List.getElem_toArray, List.getElem_cons_zero, List.getElem_cons_succ, List.setIfInBounds_toArray, List.set_cons_zero, List.set_cons_succ]
                refine wpAnyH_take (i := 5) (v := ?_) rfl (by kernel_rfl) (by kernel_rfl) (by kernel_rfl) (fun _ _ _ h => h) (Or.inl ⟨by rfl, ?_⟩) hHeld0 ?_
                rotate_left
                · (intro w hSw; (try dsimp only at hSw); go_simp <;> (try with_reducible rfl))
                simp only [Act.put, List.getElem_toArray, List.getElem_cons_zero, List.getElem_cons_succ, List.setIfInBounds_toArray, List.set_cons_zero, List.set_cons_succ]
                refine wpAnyH_take (i := 6) (v := ?_) rfl (by kernel_rfl) (by kernel_rfl) (by kernel_rfl) (fun _ _ _ h => h) (Or.inl ⟨by rfl, ?_⟩) hHeld0 ?_
                rotate_left
                · (intro w hSw; (try dsimp only at hSw); go_simp <;> (try with_reducible rfl))
                simp only [Act.put, List.getElem_toArray, List.getElem_cons_zero, List.getElem_cons_succ, List.setIfInBounds_toArray, List.set_cons_zero, List.set_cons_succ]
                refine wpAnyH_take (i := 7) (v := ?_) rfl (by kernel_rfl) (by kernel_rfl) (by kernel_rfl) (fun _ _ _ h => h) (Or.inl ⟨by rfl, ?_⟩) hHeld0 ?_
                rotate_left
                · (intro w hSw; (try dsimp only at hSw); go_simp <;> (try with_reducible rfl))
                simp only [Act.put, List.getElem_toArray, List.getElem_cons_zero, List.getElem_cons_succ, List.setIfInBounds_toArray, List.set_cons_zero, List.set_cons_succ]
                refine wpAnyH_take (i := 8) (v := ?_) rfl (by kernel_rfl) (by kernel_rfl) (by kernel_rfl) (fun _ _ _ h => h) (Or.inl ⟨by rfl, ?_⟩) hHeld0 ?_
                rotate_left
                · (intro w hSw; (try dsimp only at hSw); go_simp <;> (try with_reducible rfl))
                simp only [Act.put, List.getElem_toArray, List.getElem_cons_zero, List.getElem_cons_succ, List.setIfInBounds_toArray, List.set_cons_zero, List.set_cons_succ]
                refine wpAnyH_take (i := 9) (v := ?_) rfl (by kernel_rfl) (by kernel_rfl) (by kernel_rfl) (fun _ _ _ h => h) (Or.inl ⟨by rfl, ?_⟩) hHeld0 ?_
                rotate_left
                · (intro w hSw; (try dsimp only at hSw); go_simp <;> (try with_reducible rfl))
                simp only [Act.put, List.getElem_toArray, List.getElem_cons_zero, List.getElem_cons_succ, List.setIfInBounds_toArray, List.set_cons_zero, List.set_cons_succ]
                refine wpAnyH_take (i := 10) (v := ?_) rfl (by kernel_rfl) (by kernel_rfl) (by kernel_rfl) (fun _ _ _ h => h) (Or.inl ⟨by rfl, ?_⟩) hHeld0 ?_
                rotate_left
                · (intro w hSw; (try dsimp only at hSw); go_simp <;> (try with_reducible rfl))
                simp only [Act.put, List.getElem_toArray, List.getElem_cons_zero, List.getElem_cons_succ, List.setIfInBounds_toArray, List.set_cons_zero, List.set_cons_succ]
                refine wpAnyH_take (i := 11) (v := ?_) rfl (by kernel_rfl) (by kernel_rfl) (by kernel_rfl) (fun _ _ _ h => h) (Or.inl ⟨by rfl, ?_⟩) hHeld0 ?_
                rotate_left
                · (intro w hSw; (try dsimp only at hSw); go_simp <;> (try with_reducible rfl))
                simp only [Act.put, List.getElem_toArray, List.getElem_cons_zero, List.getElem_cons_succ, List.setIfInBounds_toArray, List.set_cons_zero, List.set_cons_succ]
                refine wpAnyH_ready (rs := [12]) (by kernel_rfl) (by simp) ?_
                refine AllReadyH.cons rfl (fun K hK => ?_) AllReadyH.nil
                go_simp
                go_wp2_with ((go_at_call 38; refine (HCALL.out _ hHeld0.2.2.2.2).mono ?_; rintro e W1 ⟨bb, rfl, hbi, hb1⟩))
                refine hK.out _ _ (by exact ⟨sm_cell hHeld0.1 hb1, sm_cell hHeld0.2.1 hb1, sm_cell hHeld0.2.2.1 hb1, sm_cell hHeld0.2.2.2.1 hb1, hHeld0.2.2.2.2.call hb1⟩) (fun hHeld1 => ?_)
                clear hK K hHeld0
                try simp only [Act.put, List.getElem_toArray, List.getElem_cons_zero, List.getElem_cons_succ, List.setIfInBounds_toArray, List.set_cons_zero, List.set_cons_succ]
                refine wpAnyH_take (i := 13) (v := ?_) rfl (by kernel_rfl) (by kernel_rfl) (by kernel_rfl) (fun _ _ _ h => h) (Or.inl ⟨by rfl, ?_⟩) hHeld1 ?_
                rotate_left
                · (intro w hSw; (try dsimp only at hSw); go_simp <;> (try with_reducible rfl))
                simp only [Act.put, List.getElem_toArray, List.getElem_cons_zero, List.getElem_cons_succ, List.setIfInBounds_toArray, List.set_cons_zero, List.set_cons_succ]
                refine wpAnyH_done (by kernel_rfl) ?_ _
                have HB3 := hide hHeld1.2.2.2.2
                have hcA2 := hHeld1.1
                have hcB2 := hHeld1.2.1
                clear hHeld1 hck1 hck2 hcA hcB
                have hq1 := sm_cell HR1.out HB3.out.below
                have hq2 := sm_cell HR2.out HB3.out.below
                cases bb with
                | true =>
                  have HKS := hide (hbi.1 rfl)
                  clear hbi
                  by_cases hp : O1[k].amount = O2[k].amount
                  · have hd : (O1[k].amount != O2[k].amount) = false := by rw [bne_eq_false_iff_eq]; exact hp
                    have HGO := hide (HSO.out (HOS.out.2 ⟨HKS.out, hp⟩))
                    clear hp HSO HNO HOS HKS
                    generalize O1[k].amount = am1 at *
                    generalize O2[k].amount = am2 at *
                    go_wp2
                    go_quiet (fail)
                    go_wp2
                    go_roundw
                    case rel => exact ⟨k + 1, by omega, by go_num, HGO.out, HB3.out.call (quietBelow _ _)⟩
                    case measure => simp [intOf]; omega
                  · have hd : (O1[k].amount != O2[k].amount) = true := by rw [bne_iff_ne]; exact hp
                    have HALL := hide (HNO.out (fun h => hp (HOS.out.1 h).2))
                    clear hp HSO HNO HOS HKS
                    generalize O1[k].amount = am1 at *
                    generalize O2[k].amount = am2 at *
                    go_wp2
                    go_quiet (fail)
                    go_wp2
                    go_ret
                    exact ⟨TellsB.no (HNU.out HALL.out), (HB3.out.call (quietBelow _ _)).below⟩
                | false =>
                  have hno : ¬ opsOf O1[k].L = opsOf O2[k].L := fun h => by have := hbi.2 h; cases this
                  have HALL := hide (HNO.out (fun h => hno (HOS.out.1 h).1))
                  clear hbi hno HSO HNO HOS
                  generalize O1[k].amount = am1 at *
                  generalize O2[k].amount = am2 at *
                  go_wp2
                  go_quiet (fail)
                  go_wp2
                  go_ret
                  exact ⟨TellsB.no (HNU.out HALL.out), (HB3.out.call (quietBelow _ _)).below⟩
              · have hke : k = on1 := by omega
                have hall := sm_end (by rw [List.length_map, HON.out, hke]) (by rw [List.length_map, ← HOL.out, HON.out, hke]) heq
                have HALL := hide hall
                clear heq hbx hall HEQ
                go_wp2
                go_ret
                exact ⟨TellsB.yes (HYE2.out HIA.out HALL.out), HBX.out.below⟩
      · have hod : ((O1.length : Int) != (O2.length : Int)) = true := by simp; omega
        have HNE : Hid (¬ O1.map OutV.it = O2.map OutV.it) := hide (fun h => hol (by have := congrArg List.length h; simpa using this))
        clear HG1 HG2 hol
        generalize O1.length = n1 at *
        generalize O2.length = n2 at *
        go_enter Tryz.func15, Tryz.ntmps15
        go_wp2
        go_ret
        exact ⟨TellsB.no (HNU.out HNE.out), below_alloc2 w _ _⟩
    · have hid : ((I1.length : Int) != (I2.length : Int)) = true := by simp; omega
      have HNE : Hid (¬ I1.map InV.it = I2.map InV.it) := hide (fun h => hil (by have := congrArg List.length h; simpa using this))
      clear HF1 HF2 HG1 HG2 hil
      generalize O1.length = n1 at *
      generalize O2.length = n2 at *
      generalize I1.length = n3 at *
      generalize I2.length = n4 at *
      go_enter Tryz.func15, Tryz.ntmps15
      go_wp2
      go_ret
      exact ⟨TellsB.no (HNI.out HNE.out), below_alloc2 w _ _⟩
  · have htd : (tm != tm2) = true := by rw [bne_iff_ne]; exact ht
    have HNE := hide ht
    clear HF1 HF2 HG1 HG2 ht
    generalize O1.length = n1 at *
    generalize O2.length = n2 at *
    generalize I1.length = n3 at *
    generalize I2.length = n4 at *
    go_enter Tryz.func15, Tryz.ntmps15
    go_wp2
    go_ret
    exact ⟨TellsB.no (HNT.out HNE.out), below_alloc2 w _ _⟩
end Go.Proofs.YtbdnbjemocjlaaaGreatDoor
