/- The contract of moneyerref1.SizeAt in one piece: it tells what size.Read tells. -/
import Derived.Test.YtgjolcfkefimcaaDoorAt
namespace Go.Proofs.YtgjolcfkefimcaaDoor
open Go.RowKit
set_option linter.unusedVariables false

theorem wid_cases (f : Int) (h : Sz.wid f ≠ 0) : (f = 253 ∧ Sz.wid f = 2) ∨ (f = 254 ∧ Sz.wid f = 4) ∨ (f = 255 ∧ Sz.wid f = 8) := by
  by_cases a : f = 253
  · subst a; exact .inl ⟨rfl, rfl⟩
  · by_cases b : f = 254
    · subst b; exact .inr (.inl ⟨rfl, rfl⟩)
    · by_cases c : f = 255
      · subst c; exact .inr (.inr ⟨rfl, rfl⟩)
      · exact absurd (by unfold Sz.wid; rw [if_neg a, if_neg b, if_neg c]) h

/-- The last test, as Read has it and as SizeAt has it. -/
theorem same_test (f m : Int) (k : Nat) (hk : Sz.wid f = k) (h0 : k ≠ 0) (q : Nat) :
    (if Sz.wid (Sz.fst m) = k ∧ m ≤ 9223372036854775807 then got m ((q : Int) + 1 + (k : Int)) 0 else got 0 0 1) =
    got (if Sz.fst m = f ∧ m ≤ 9223372036854775807 then (m, (q : Int) + 1 + (k : Int), (0 : Int)) else (0, 0, 1)).1
      (if Sz.fst m = f ∧ m ≤ 9223372036854775807 then (m, (q : Int) + 1 + (k : Int), (0 : Int)) else (0, 0, 1)).2.1
      (if Sz.fst m = f ∧ m ≤ 9223372036854775807 then (m, (q : Int) + 1 + (k : Int), (0 : Int)) else (0, 0, 1)).2.2 := by
  by_cases h : Sz.fst m = f ∧ m ≤ 9223372036854775807
  · rw [if_pos h, if_pos ⟨by rw [h.1, hk], h.2⟩]
  · rw [if_neg h, if_neg (fun g => h ⟨Sz.fst_of_wid m f (by omega) (by rw [hk]; exact g.1), g.2⟩)]

theorem at_any (v : Value) (l : List Int) (p : Int) (w : World) (h : Has w v l) (hb : Sz.Byt l) (hbig : l.length ≤ 180000000000000) :
    Calls Tryd.prog 9 #[v, .int .i64 p] w fun e w' => e = .returned (got (Sz.rd l p).1 (Sz.rd l p).2.1 (Sz.rd l p).2.2) ∧ Below w.heap.size w w' := by
  by_cases h1 : p < 0
  · have e : Sz.rd l p = (0, 0, 2) := by unfold Sz.rd; rw [if_pos h1]
    rw [e]
    exact at_range v p w h1
  · by_cases h2 : (l.length : Int) ≤ p
    · have e : Sz.rd l p = (0, 0, 3) := by unfold Sz.rd; rw [if_neg h1, if_pos h2]
      rw [e]
      obtain ⟨a, cap, rfl⟩ : ∃ a cap, v = .slice a l.length cap := by
        rcases h with ⟨a, cap, rfl, rfl, _⟩ | ⟨b, off, cap, rfl, _⟩
        · exact ⟨a, cap, rfl⟩
        · exact ⟨_, cap, rfl⟩
      exact at_past a l.length cap p w (by omega) h2
    · obtain ⟨q, rfl⟩ := Int.eq_ofNat_of_zero_le (show 0 ≤ p by omega)
      rcases h with ⟨a, cap, rfl, rfl, _⟩ | ⟨b, off, cap, rfl, h0, hcap, hm, hc⟩
      · exact absurd h2 (by simp)
      · have hq : q < l.length := by omega
        have hg := hb.getD q
        by_cases h4 : Sz.wid (l.getD q 0) = 0
        · have e : Sz.rd l (q : Int) = (l.getD q 0, (q : Int) + 1, 0) := by unfold Sz.rd; rw [if_neg h1, if_neg h2, Int.toNat_natCast, if_neg (by omega), if_pos h4]
          rw [e]
          have hlt : l.getD q 0 < 253 := by
            unfold Sz.wid at h4; split at h4 <;> (try split at h4) <;> (try split at h4) <;> omega
          exact at_one b off cap l.length (l.getD q 0) q w (hc q hq) hcap hm hq hg.1 hlt
        · by_cases h3 : l.length < q + 1 + Sz.wid (l.getD q 0)
          · have e : Sz.rd l (q : Int) = (0, 0, 3) := by unfold Sz.rd; rw [if_neg h1, if_neg h2, Int.toNat_natCast, if_pos h3]
            rw [e]
            rcases wid_cases _ h4 with ⟨e1, e2⟩ | ⟨e1, e2⟩ | ⟨e1, e2⟩
            · exact at_few2 b off cap l.length q w (by rw [← e1]; exact hc q hq) hcap hm hbig hq (by omega)
            · exact at_few4 b off cap l.length q w (by rw [← e1]; exact hc q hq) hcap hm hbig hq (by omega)
            · exact at_few8 b off cap l.length q w (by rw [← e1]; exact hc q hq) hcap hm hbig hq (by omega)
          · have e : Sz.rd l (q : Int) = if Sz.fst (Sz.joinL ((l.drop (q + 1)).take (Sz.wid (l.getD q 0)))) = l.getD q 0 ∧ Sz.joinL ((l.drop (q + 1)).take (Sz.wid (l.getD q 0))) ≤ 9223372036854775807
                then (Sz.joinL ((l.drop (q + 1)).take (Sz.wid (l.getD q 0))), (q : Int) + 1 + Sz.wid (l.getD q 0), 0) else (0, 0, 1) := by
              unfold Sz.rd; rw [if_neg h1, if_neg h2, Int.toNat_natCast, if_neg h3, if_neg h4]
            rw [e]
            rcases wid_cases _ h4 with ⟨e1, e2⟩ | ⟨e1, e2⟩ | ⟨e1, e2⟩
            · rw [e2, ← same_test (l.getD q 0) _ 2 e2 (by omega) q]
              exact at_more2 b off cap l.length l q w hc hb rfl hcap hm hbig hq e1 (by omega) _ rfl
            · rw [e2, ← same_test (l.getD q 0) _ 4 e2 (by omega) q]
              exact at_more4 b off cap l.length l q w hc hb rfl hcap hm hbig hq e1 (by omega) _ rfl
            · rw [e2, ← same_test (l.getD q 0) _ 8 e2 (by omega) q]
              exact at_more8 b off cap l.length l q w hc hb rfl hcap hm hbig hq e1 (by omega) _ rfl
end Go.Proofs.YtgjolcfkefimcaaDoor
