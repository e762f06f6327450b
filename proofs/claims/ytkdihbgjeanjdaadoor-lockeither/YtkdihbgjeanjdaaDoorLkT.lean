/- What is at hand is taken, and told. -/
import Derived.Test.YtkdihbgjeanjdaaDoorLkR
namespace Go.Proofs.YtkdihbgjeanjdaaDoor
open Go.RowKit
set_option linter.unusedVariables false

set_option maxRecDepth 100000 in
set_option maxHeartbeats 1600000 in
theorem takeSome_few (R base : Nat) (m : List Int) (h : Int) (K : List (List Int × Value)) (n : Nat) (w : World) (s : St w R base m h K) (hk : K.length < n) (hn : n ≤ 100) :
    Calls Tryd.prog 75 #[.pointer (some ⟨R, 0, none⟩), .int .i64 n] w fun e w' => e = .panicked (pan 7) ∧ w = w' := by
  obtain ⟨a, cap, e⟩ := s.form
  have hc := s.cell
  rw [e] at hc
  have h30 := s.few
  clear s e
  generalize K.length = k at *
  obtain ⟨z, hz⟩ : ∃ z : Int, (k : Int) - (n : Int) = z := ⟨_, rfl⟩
  have hz0 : ¬ 0 ≤ z := by omega
  have hz1 : -100 ≤ z := by omega
  have hz2 : z ≤ 100 := by omega
  go_enter Tryd.func75, Tryd.ntmps75
  go_wp2_with fail
  refine (must_false _ w).mono ?_
  rintro e w1 ⟨rfl, rfl⟩
  exact ⟨rfl, rfl, rfl⟩

theorem owns_cut {w : World} {base : Nat} {e : TypeId} {size g cap n k : Nat} {xs : List Value} (hk : k ≤ n)
    (h : w.ownsRow base e size (.slice (some ⟨g, 0, none⟩) n cap) n xs) : w.ownsRow base e size (.slice (some ⟨g, 0, none⟩) k cap) k (xs.take (k * size)) := by
  obtain ⟨h1, h2⟩ := h
  rcases h2 with ⟨h0, _⟩ | ⟨g', cap', cur, hv, hg, hh, hn, hcap, hsz, htake⟩
  · cases h0
  · cases hv
    have hle : k * size ≤ n * size := Nat.mul_le_mul_right _ hk
    refine ⟨by rw [List.length_take, h1]; omega, .inr ⟨g, cap, cur, rfl, hg, hh, by omega, hcap, hsz, ?_⟩⟩
    rw [← htake, List.take_take, Nat.min_eq_left hle]

set_option maxRecDepth 100000 in
set_option maxHeartbeats 1600000 in
theorem takeSome_ok (R base : Nat) (m : List Int) (h : Int) (K : List (List Int × Value)) (n : Nat) (w : World) (s : St w R base m h K) (hk : n ≤ K.length) (hn : 1 ≤ n) :
    Calls Tryd.prog 75 #[.pointer (some ⟨R, 0, none⟩), .int .i64 n] w fun e w' => ∃ g c, e = .returned (.slice (some ⟨g, K.length - n, none⟩) n c) ∧ g < w'.heap.size ∧ n ≤ c ∧ c ≤ maxLen ∧ w'.rangeAt g (K.length - n) ((K.drop (K.length - n)).map Prod.snd) ∧ St w' R base m h (K.take (K.length - n)) ∧ (∀ p ∈ K.drop (K.length - n), HasH R w' p.2 p.1) ∧ Keep R w w' ∧ Below base w w' ∧ ∀ b, b ≠ R → w'.heap[b]? = w.heap[b]? := by
  obtain ⟨g, cap, e, hg1, hg2, hg3, hg4, hrg⟩ := owns_some s.own (by omega)
  have hc := s.cell
  rw [e] at hc
  have h30 := s.few
  have S := hide s
  have HE := hide e
  have HRG := hide hrg
  have hap : g ≠ R := fun h => by have := s.apart; rw [e, h] at this; exact this rfl
  have hfz : w.frozen? ⟨R, 0, none⟩ = false := s.is.frozen 0
  have HL := hide s.lay
  clear s e hrg
  generalize hkl : K.length = k at *
  have HK := hide hkl
  clear hkl
  have hge : decide ((0 : Int) ≤ (k : Int) - (n : Int)) = true := decide_eq_true (by omega)
  obtain ⟨l, rfl⟩ : ∃ l, k = l + n := ⟨k - n, by omega⟩
  have e1 : ((l + n : Nat) : Int) - (n : Int) = (l : Int) := by omega
  have e2 : l + n - n = l := by omega
  unfold maxLen at hg4
  have hcl : ¬ cap = l := by omega
  have hlc : (l : Int) ≤ (cap : Int) := by omega
  rw [e2]
  go_enter Tryd.func75, Tryd.ntmps75
  go_wp2_with fail
  refine (must_true _ w).mono ?_
  rintro e w1 ⟨rfl, rfl⟩
  go_wp2
  go_ret
  have hst := hand_set (x := .slice (some ⟨g, 0, none⟩) l cap) S.out.is rfl
  have hown := S.out.own
  rw [HE.out, HK.out] at hown
  have hblk : ∀ b, b ≠ R → (w.setCell ⟨R, 0, none⟩ (.slice (some ⟨g, 0, none⟩) l cap)).heap[b]? = w.heap[b]? := fun b hb => Below.heap_setCell _ _ _ _ hb
  have hkeep : Keep R w (w.setCell ⟨R, 0, none⟩ (.slice (some ⟨g, 0, none⟩) l cap)) := fun v' l' hv' => by
    unfold HasH at hv' ⊢
    rw [hst.2]
    rw [HE.out] at hv'
    exact hv'.move fun b hb hX => ⟨hblk b hX.1, hX.1, hX.2⟩
  refine ⟨g, cap - l, rfl, by simpa [World.setCell] using hg2, by omega, by unfold maxLen; omega, ?_, ?_, ?_, hkeep, ?_, hblk⟩
  · intro j u hu
    rw [World.cell?_of_block (a := ⟨g, l + j, none⟩) (hblk g hap)]
    have := HRG.out (l + j) u (by rw [List.map_drop, List.getElem?_drop] at hu; exact hu)
    rwa [Nat.zero_add] at this
  · refine { is := by rw [hst.2]; exact hst.1, own := ?_, apart := ?_, few := by rw [List.length_take, HK.out]; omega, mlen := S.out.mlen, mbyt := S.out.mbyt, lay := S.out.lay, has := fun p hp => ⟨hkeep _ _ (S.out.has p (List.mem_of_mem_take hp)).1, (S.out.has p (List.mem_of_mem_take hp)).2⟩ }
    · rw [hst.2]
      have h1 := owns_cut (k := l) (by omega) hown
      have h2 := ownsRow_setCell_other h1 (a := ⟨R, 0, none⟩) (by intro e; injection e with e; exact hap e) (.slice (some ⟨g, 0, none⟩) l cap)
      have e3 : (K.take l).length = l := by rw [List.length_take, HK.out]; omega
      rw [e3, List.map_take]
      rwa [Nat.mul_one] at h2
    · rw [hst.2]; intro e; injection e with e; exact hap e
  · exact fun p hp => hkeep _ _ (S.out.has p (List.mem_of_mem_drop hp)).1
  · exact (Below.refl _ _).setCell HL.out _

theorem take_none (R base : Nat) (m : List Int) (h : Int) (w : World) (s : St w R base m h []) :
    Calls Tryd.prog 57 #[.pointer (some ⟨R, 0, none⟩)] w fun e w' => e = .panicked (pan 7) ∧ w = w' := by
  have HT := hide (takeSome_few R base m h [] 1 w s (by simp) (by omega))
  simp only [Int.cast_ofNat_Int] at HT
  clear s
  go_enter Tryd.func57, Tryd.ntmps57
  go_wp2_with fail
  refine HT.out.mono ?_
  rintro e w1 ⟨rfl, rfl⟩
  exact ⟨rfl, rfl, rfl⟩
set_option maxRecDepth 100000 in
set_option maxHeartbeats 800000 in
theorem take_ok (R base : Nat) (m : List Int) (h : Int) (K : List (List Int × Value)) (p : List Int × Value) (w : World) (s : St w R base m h (K ++ [p])) :
    Calls Tryd.prog 57 #[.pointer (some ⟨R, 0, none⟩)] w fun e w' => e = .returned p.2 ∧ St w' R base m h K ∧ HasH R w' p.2 p.1 ∧ Keep R w w' ∧ Below base w w' ∧ ∀ b, b ≠ R → w'.heap[b]? = w.heap[b]? := by
  have HT := hide (takeSome_ok R base m h (K ++ [p]) 1 w s (by simp) (by omega))
  have e1 : (K ++ [p]).length - 1 = K.length := by simp
  rw [e1, List.drop_left, List.take_left] at HT
  have e2 : ((1 : Nat) : Int) = 1 := rfl
  rw [e2] at HT
  obtain ⟨pa, pc, hpe, _, _⟩ := (s.has p (by simp)).1.has.shape
  obtain ⟨px, pv⟩ := p
  simp only at hpe ⊢
  subst hpe
  clear s
  go_enter Tryd.func57, Tryd.ntmps57
  go_wp2_with fail
  refine HT.out.mono ?_
  rintro e w1 ⟨g, c, rfl, hg, hc1, hc2, hr, hs, hh, hk, hb, hq⟩
  have hcell : w1.cell? ⟨g, K.length, none⟩ = some (.slice pa px.length pc) := hr 0 _ (by simp)
  have HS := hide hs
  have HH := hide (hh _ (List.mem_singleton.2 rfl))
  have HKB := hide (And.intro hk (And.intro hb hq))
  clear hs hh hk hb hr hq
  unfold maxLen at hc2
  go_wp2
  go_ret
  exact ⟨rfl, HS.out, HH.out, HKB.out.1, HKB.out.2.1, HKB.out.2.2⟩

theorem has_one (R base : Nat) (w : World) (hl : R < w.heap.size) (ho : (handOf w R).ownBlock ≠ some w.heap.size) (x : Int) : HasH R (w.alloc (.cells #[.int .u8 x] 5)) (.slice (some ⟨w.heap.size, 0, none⟩) 1 1) [x] := by
  refine .inr ⟨w.heap.size, 0, 1, rfl, by simp, by simp, by unfold maxLen; omega, ⟨by omega, ?_⟩, fun j hj => ?_⟩
  · rw [handOf_below (below_alloc w _) hl]; exact ho
  · obtain rfl : j = 0 := by simp at hj; omega
    simp
/-- What is told. -/
def toldV (d : Bool) : List Int := if d then [1] else []
/-- One thing more is at hand. -/
def Puts (R base : Nat) (m : List Int) (h : Int) (K : List (List Int × Value)) (x : List Int) (w w' : World) : Prop := ∃ v, St w' R base m h (K ++ [(x, v)]) ∧ Keep R w w' ∧ Below base w w'
theorem tell_ok (R base : Nat) (m : List Int) (h : Int) (K : List (List Int × Value)) (b : Bool) (w : World) (s : St w R base m h K) (hk : K.length < 30) :
    Calls Tryd.prog 76 #[.pointer (some ⟨R, 0, none⟩), .bool b] w fun e w' => e = .returned (.tuple #[]) ∧ Puts R base m h K (toldV b) w w' := by
  have hlt := s.is.lt
  have hlay := s.lay
  cases b with
  | true =>
    have ho : (handOf w R).ownBlock ≠ some w.heap.size := fun e => by have := World.ownsRow.lt s.own _ e; omega
    have hbl := below_alloc w (.cells #[.int .u8 1] 5)
    have HP := hide (put_ok R base m h K [1] (.slice (some ⟨w.heap.size, 0, none⟩) 1 1) _ (s.below hbl) hk (has_one R base w hlt ho 1) ⟨by intro x hx; simp at hx; omega, by simp⟩)
    have HKB := hide (Keep.below hbl hlt)
    have HBB := hide (hbl.mono (show base ≤ w.heap.size by omega))
    clear s ho hbl
    go_enter Tryd.func76, Tryd.ntmps76
    go_wp2_with fail
    refine HP.out.mono ?_
    rintro e w1 ⟨rfl, h1, h2, h3⟩
    have H := hide (And.intro h1 (And.intro h2 h3))
    clear h1 h2 h3
    go_wp2
    go_end0
    exact ⟨rfl, _, H.out.1, HKB.out.trans H.out.2.1, HBB.out.trans H.out.2.2⟩
  | false =>
    have HP := hide (put_ok R base m h K [] (.slice none 0 0) _ s hk (.inl ⟨none, 0, rfl, rfl, by unfold maxLen; omega, fun _ => rfl⟩) ⟨Sz.Byt.nil, by simp⟩)
    clear s
    go_enter Tryd.func76, Tryd.ntmps76
    go_wp2_with fail
    refine HP.out.mono ?_
    rintro e w1 ⟨rfl, h1, h2, h3⟩
    have H := hide (And.intro h1 (And.intro h2 h3))
    clear h1 h2 h3
    go_wp2
    go_end0
    exact ⟨rfl, _, H.out⟩
end Go.Proofs.YtkdihbgjeanjdaaDoor
