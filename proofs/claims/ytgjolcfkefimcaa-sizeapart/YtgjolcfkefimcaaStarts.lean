/- The contract of starts: whether a list of bytes begins with another one. -/
import Derived.Test.YtgjolcfkefimcaaBytes
namespace Go.Proofs.Ytgjolcfkefimcaa
open Go.RowKit
set_option linter.unusedVariables false

/-- Does a list begin with another one: a Bool that the walk does not look into. -/
def startsB (l with' : List Int) : Bool := decide (with'.length ≤ l.length ∧ l.take with'.length = with')

set_option maxHeartbeats 400000 in
theorem starts_any (v1 v2 : Value) (l1 l2 : List Int) (w : World) (h1 : Has w v1 l1) (h2 : Has w v2 l2) :
    Calls Try.prog 11 #[v1, v2] w fun e w' => e = .returned (.bool (startsB l1 l2)) ∧ Below w.heap.size w w' := by
  obtain ⟨a2, c2, rfl⟩ : ∃ a c, v2 = .slice a l2.length c := by
    rcases h2 with ⟨a, c, rfl, rfl, _⟩ | ⟨b, off, cap, rfl, _⟩
    · exact ⟨a, c, rfl⟩
    · exact ⟨_, _, rfl⟩
  by_cases hl : l1.length < l2.length
  · have hs : startsB l1 l2 = false := by unfold startsB; rw [decide_eq_false_iff_not]; omega
    rw [hs]
    obtain ⟨a1, c1, rfl⟩ : ∃ a c, v1 = .slice a l1.length c := by
      rcases h1 with ⟨a, c, rfl, rfl, _⟩ | ⟨b, off, cap, rfl, _⟩
      · exact ⟨a, c, rfl⟩
      · exact ⟨_, _, rfl⟩
    generalize l1.length = n1 at *
    generalize l2.length = n2 at *
    clear hs h1 h2
    go_enter Try.func11, Try.ntmps11
    go_wp2
    go_ret
    exact ⟨rfl, Below.refl _ _⟩
  · have hs : startsB l1 l2 = sameB (l1.take l2.length) l2 := by
      unfold startsB sameB
      have : l2.length ≤ l1.length := by omega
      simp [this]
    rw [hs]
    rcases h1 with ⟨a, c, rfl, rfl, hm, hn⟩ | ⟨b, off, cap, rfl, hp, hcap, hm, hc⟩
    · have e2 : l2 = [] := List.eq_nil_of_length_eq_zero (by simpa using hl)
      subst e2
      have hb := fun w' (h1' : Has w' (.slice a 0 c) []) (h2' : Has w' (.slice a2 0 c2) []) => bytes_any (.slice a 0 c) (.slice a2 0 c2) [] [] w' h1' h2'
      have HB := hide hb
      have H1 : Hid (Has w (.slice a 0 c) []) := .inl ⟨a, c, rfl, rfl, hm, hn⟩
      have H2 : Hid (Has w (.slice a2 0 c2) []) := h2
      clear hb hl hs h2 hn
      unfold maxLen at hm
      go_enter Try.func11, Try.ntmps11
      go_wp2_with fail
      refine (HB.out _ H1.out H2.out).mono ?_
      rintro e w' ⟨rfl, hbel⟩
      go_wp2
      go_ret
      exact ⟨rfl, hbel⟩
    · have hfr := Has.front hc hcap hm l2.length (by omega)
      have hb := bytes_any _ _ _ _ w hfr h2
      have HB := hide hb
      clear hb hfr hc hs
      have hle : l2.length ≤ l1.length := by omega
      clear hl h2
      unfold maxLen at hm
      generalize l1.length = n1 at *
      generalize hn2 : l2.length = n2 at *
      have HN := hide hn2
      clear hn2
      have hle' : (n2 : Int) ≤ (n1 : Int) := by omega
      have hcap' : (n2 : Int) ≤ (cap : Int) := by omega
      go_enter Try.func11, Try.ntmps11
      go_wp2_with fail
      refine HB.out.mono ?_
      rintro e w' ⟨rfl, hbel⟩
      go_wp2
      go_ret
      exact ⟨rfl, hbel⟩
end Go.Proofs.Ytgjolcfkefimcaa
