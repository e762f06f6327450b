/- The contract of moneyersame.Bytes: whether two lists of bytes are the same. -/
import Derived.Test.YtmjilohlchkicaaGreatDoorHas
import Derived.Deep.QuietTactic
import Derived.BigQuiet
namespace Go.Proofs.YtmjilohlchkicaaGreatDoor
open Go.RowKit
set_option linter.unusedVariables false

theorem quietBelow (w : World) (n : Nat) : Below w.heap.size w (w.drewN n) := by
  induction n with
  | zero => exact Below.refl _ _
  | succ n ih => exact ih.drew

/-- Two lists are the same: a Bool that the walk does not look into. -/
def sameB (a b : List Int) : Bool := decide (a = b)

theorem take_eq_of (a b : List Int) (n : Nat) (hl : a.length = b.length) (h : ∀ j, j < n → a.getD j 0 = b.getD j 0) : a.take n = b.take n := by
  apply List.ext_getElem?
  intro j
  simp only [List.getElem?_take]
  by_cases hj : j < n
  · rw [if_pos hj, if_pos hj]
    have := h j hj
    by_cases ha : j < a.length
    · have hb : j < b.length := by omega
      simp [List.getD, List.getElem?_eq_getElem ha, List.getElem?_eq_getElem hb] at this
      rw [List.getElem?_eq_getElem ha, List.getElem?_eq_getElem hb, this]
    · rw [List.getElem?_eq_none (by omega), List.getElem?_eq_none (by omega)]
  · rw [if_neg hj, if_neg hj]

set_option maxHeartbeats 800000 in
theorem bytes_any (v1 v2 : Value) (l1 l2 : List Int) (w : World) (h1 : Has w v1 l1) (h2 : Has w v2 l2) :
    Calls Tryz.prog 43 #[v1, v2] w fun e w' => e = .returned (.bool (sameB l1 l2)) ∧ Below w.heap.size w w' := by
  by_cases hl : l1.length = l2.length
  · by_cases h0 : l1.length = 0
    · have e1 : l1 = [] := List.eq_nil_of_length_eq_zero h0
      have e2 : l2 = [] := List.eq_nil_of_length_eq_zero (by omega)
      subst e1; subst e2
      obtain ⟨a1, c1, rfl⟩ : ∃ a c, v1 = .slice a 0 c := by
        rcases h1 with ⟨a, c, rfl, _⟩ | ⟨b, off, cap, _, h, _⟩
        · exact ⟨a, c, rfl⟩
        · simp at h
      obtain ⟨a2, c2, rfl⟩ : ∃ a c, v2 = .slice a 0 c := by
        rcases h2 with ⟨a, c, rfl, _⟩ | ⟨b, off, cap, _, h, _⟩
        · exact ⟨a, c, rfl⟩
        · simp at h
      clear hl h0 h1 h2
      have hs : sameB [] [] = true := rfl
      rw [hs]
      go_enter Tryz.func43, Tryz.ntmps43
      go_wp2
      refine wp_loop_rounds 1 ?_
      rw [rounds_succ]
      go_wp2
      go_ret
      exact ⟨rfl, Below.refl _ _⟩
    · obtain ⟨b1, o1, c1, rfl, hp1, hc1, hm1, hcell1⟩ : ∃ b off cap, v1 = .slice (some ⟨b, off, none⟩) l1.length cap ∧ 0 < l1.length ∧ l1.length ≤ cap ∧ cap ≤ maxLen ∧ ∀ j, j < l1.length → w.cell? ⟨b, off + j, none⟩ = some (.int .u8 (l1.getD j 0)) := by
        rcases h1 with ⟨a, c, rfl, e, _⟩ | h
        · subst e; simp at h0
        · exact h
      obtain ⟨b2, o2, c2, rfl, hp2, hc2, hm2, hcell2⟩ : ∃ b off cap, v2 = .slice (some ⟨b, off, none⟩) l2.length cap ∧ 0 < l2.length ∧ l2.length ≤ cap ∧ cap ≤ maxLen ∧ ∀ j, j < l2.length → w.cell? ⟨b, off + j, none⟩ = some (.int .u8 (l2.getD j 0)) := by
        rcases h2 with ⟨a, c, rfl, e, _⟩ | h
        · subst e; exact absurd hl h0
        · exact h
      have hlt1 : b1 < w.heap.size := World.block_lt_of_cell? w ⟨b1, o1 + 0, none⟩ (hcell1 0 hp1)
      have hlt2 : b2 < w.heap.size := World.block_lt_of_cell? w ⟨b2, o2 + 0, none⟩ (hcell2 0 hp2)
      unfold maxLen at hm1 hm2
      rw [← hl] at hcell2 hp2 hc2 ⊢
      have HL := hide hl
      clear hl h0 hp2
      generalize hn : l1.length = n at *
      have HN := hide hn
      clear hn
      have hne : ((n : Int) != (n : Int)) = false := by simp
      go_enter Tryz.func43, Tryz.ntmps43
      go_wp2
      go_loopw [5] (fun i wr => ∃ k : Nat, k ≤ n ∧ i = .int .i64 k ∧ (∀ j, j < k → l1.getD j 0 = l2.getD j 0) ∧ Below w.heap.size w wr) (fun i _ => n - (intOf i).toNat)
      case atStart => exact ⟨0, Nat.zero_le _, rfl, by simp, Below.refl _ _⟩
      case round =>
        obtain ⟨k, hk, rfl, heq, hbel⟩ := hrel
        by_cases hlt : k < n
        · have hck1 : wr.cell? ⟨b1, o1 + k, none⟩ = some (.int .u8 (l1.getD k 0)) := by rw [hbel.cell (p := ⟨b1, o1 + k, none⟩) hlt1]; exact hcell1 k hlt
          have hck2 : wr.cell? ⟨b2, o2 + k, none⟩ = some (.int .u8 (l2.getD k 0)) := by rw [hbel.cell (p := ⟨b2, o2 + k, none⟩) hlt2]; exact hcell2 k hlt
          have hki : (k : Int) < (n : Int) := by omega
          have HE := hide heq
          clear heq
          by_cases hx : l1.getD k 0 = l2.getD k 0
          · have hnx : (l1.getD k 0 != l2.getD k 0) = false := by rw [bne_eq_false_iff_eq]; exact hx
            have HX := hide hx
            clear hx
            generalize hg1 : l1.getD k 0 = x1 at *
            generalize hg2 : l2.getD k 0 = x2 at *
            have HG1 := hide hg1
            have HG2 := hide hg2
            clear hg1 hg2
            go_wp2
            go_quiet (fail)
            go_wp2
            go_roundw
            case rel =>
              refine ⟨k + 1, by omega, by go_num, fun j hj => ?_, hbel.trans ((quietBelow _ _).mono hbel.size)⟩
              by_cases e : j = k
              · subst e; rw [HG1.out, HG2.out, HX.out]
              · exact HE.out j (by omega)
            case measure => simp [intOf]; omega
          · have hnx : (l1.getD k 0 != l2.getD k 0) = true := by rw [bne_iff_ne]; exact hx
            have hsame : sameB l1 l2 = false := by
              unfold sameB; rw [decide_eq_false_iff_not]; intro e; exact hx (by rw [e])
            have HS := hide hsame
            clear hx hsame
            generalize hg1 : l1.getD k 0 = x1 at *
            generalize hg2 : l2.getD k 0 = x2 at *
            clear hg1 hg2
            go_wp2
            go_quiet (fail)
            go_wp2
            go_ret
            exact ⟨by rw [HS.out]; rfl, hbel.trans ((quietBelow _ _).mono hbel.size)⟩
        · have hsame : sameB l1 l2 = true := by
            unfold sameB; rw [decide_eq_true_iff]
            have := take_eq_of l1 l2 k (HN.out.trans HL.out) heq
            rw [List.take_of_length_le (by rw [HN.out]; omega), List.take_of_length_le (by rw [← HL.out]; omega)] at this
            exact this
          have HS := hide hsame
          clear hsame
          go_wp2
          go_ret
          exact ⟨by rw [HS.out]; rfl, hbel⟩
  · have hs : sameB l1 l2 = false := by
      unfold sameB; rw [decide_eq_false_iff_not]; intro e; exact hl (by rw [e])
    rw [hs]
    obtain ⟨a1, c1, rfl⟩ : ∃ a c, v1 = .slice a l1.length c := by
      rcases h1 with ⟨a, c, rfl, rfl, _⟩ | ⟨b, off, cap, rfl, _⟩
      · exact ⟨a, c, rfl⟩
      · exact ⟨_, _, rfl⟩
    obtain ⟨a2, c2, rfl⟩ : ∃ a c, v2 = .slice a l2.length c := by
      rcases h2 with ⟨a, c, rfl, rfl, _⟩ | ⟨b, off, cap, rfl, _⟩
      · exact ⟨a, c, rfl⟩
      · exact ⟨_, _, rfl⟩
    have hne : (((l1.length : Nat) : Int) != ((l2.length : Nat) : Int)) = true := by simp; omega
    generalize l1.length = n1 at *
    generalize l2.length = n2 at *
    clear hl hs h1 h2
    go_enter Tryz.func43, Tryz.ntmps43
    go_wp2
    go_ret
    exact ⟨rfl, Below.refl _ _⟩

theorem Has.front {w : World} {b off cap : Nat} {l : List Int} (hc : ∀ j, j < l.length → w.cell? ⟨b, off + j, none⟩ = some (.int .u8 (l.getD j 0))) (hcap : l.length ≤ cap) (hm : cap ≤ maxLen) (n : Nat) (hn : n ≤ l.length) :
    Has w (.slice (some ⟨b, off, none⟩) n cap) (l.take n) := by
  have e : (l.take n).length = n := by rw [List.length_take]; omega
  by_cases h0 : n = 0
  · subst h0; exact .inl ⟨_, cap, rfl, by simp, hm, fun h => by cases h⟩
  · refine .inr ⟨b, off, cap, by rw [e], by omega, by omega, hm, fun j hj => ?_⟩
    rw [hc j (by omega)]
    have e2 : (l.take n).getD j 0 = l.getD j 0 := by
      simp only [List.getD, List.getElem?_take]
      rw [if_pos (by omega)]
    rw [e2]

end Go.Proofs.YtmjilohlchkicaaGreatDoor
