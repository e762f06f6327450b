/- The contract of size.Read in one piece. -/
import Derived.Test.YtmoijbdpbpfljaaDoorRead
import Derived.Test.YtmoijbdpbpfljaaDoorAs
namespace Go.Proofs.YtmoijbdpbpfljaaDoor
open Go.RowKit
set_option linter.unusedVariables false

theorem read_any (v : Value) (l : List Int) (p : Int) (w : World) (h : Has w v l) (hb : Sz.Byt l) :
    Calls Tryd.prog 67 #[v, .int .i64 p] w fun e w' => e = .returned (.tuple #[.int .i64 (Sz.rd l p).1, .int .i64 (Sz.rd l p).2.1, errV (Sz.rd l p).2.2]) ∧ Below w.heap.size w w' := by
  by_cases h1 : p < 0
  · have e : Sz.rd l p = (0, 0, 2) := by unfold Sz.rd; rw [if_pos h1]
    rw [e]
    refine (read_range v p w h1).mono ?_
    rintro e w' ⟨rfl, rfl⟩
    exact ⟨rfl, Below.refl _ _⟩
  · by_cases h2 : (l.length : Int) ≤ p
    · have e : Sz.rd l p = (0, 0, 3) := by unfold Sz.rd; rw [if_neg h1, if_pos h2]
      rw [e]
      obtain ⟨a, cap, rfl⟩ : ∃ a cap, v = .slice a l.length cap := by
        rcases h with ⟨a, cap, rfl, rfl, _⟩ | ⟨b, off, cap, rfl, _⟩
        · exact ⟨a, cap, rfl⟩
        · exact ⟨_, cap, rfl⟩
      refine (read_past a l.length cap p w (by omega) h2).mono ?_
      rintro e w' ⟨rfl, rfl⟩
      exact ⟨rfl, Below.refl _ _⟩
    · obtain ⟨q, rfl⟩ := Int.eq_ofNat_of_zero_le (show 0 ≤ p by omega)
      rcases h with ⟨a, cap, rfl, rfl, _⟩ | ⟨b, off, cap, rfl, h0, hcap, hm, hc⟩
      · exact absurd h2 (by simp)
      · have hq : q < l.length := by omega
        by_cases h3 : l.length < q + 1 + Sz.wid (l.getD q 0)
        · have e : Sz.rd l (q : Int) = (0, 0, 3) := by unfold Sz.rd; rw [if_neg h1, if_neg h2, Int.toNat_natCast, if_pos h3]
          rw [e]
          refine (read_few b off cap l.length (l.getD q 0) q w (hc q hq) hcap hm hq h3).mono ?_
          rintro e w' ⟨rfl, hbel⟩
          exact ⟨rfl, hbel⟩
        · by_cases h4 : Sz.wid (l.getD q 0) = 0
          · have e : Sz.rd l (q : Int) = (l.getD q 0, (q : Int) + 1, 0) := by unfold Sz.rd; rw [if_neg h1, if_neg h2, Int.toNat_natCast, if_neg h3, if_pos h4]
            rw [e]
            have hg := hb.getD q
            refine (read_one b off cap l.length (l.getD q 0) q w (hc q hq) hcap hm hq hg.1 hg.2 h4).mono ?_
            rintro e w' ⟨rfl, hbel⟩
            exact ⟨rfl, hbel⟩
          · refine (read_more b off cap l.length l (l.getD q 0) q (Sz.wid (l.getD q 0)) w hc hb rfl hcap hm hq rfl rfl (by omega) (by omega) _ rfl).mono ?_
            rintro e w' ⟨rfl, hbel⟩
            refine ⟨?_, hbel⟩
            unfold Sz.rd
            rw [if_neg h1, if_neg h2, Int.toNat_natCast, if_neg h3, if_neg h4]
            split <;> rfl
end Go.Proofs.YtmoijbdpbpfljaaDoor
