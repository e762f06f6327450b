/- Keys of the call's own, in a row; and whether a thing is true, by the document. -/
import Derived.Test.YtkdihbgjeanjdaaDoorLkFact
namespace Go.Proofs.YtkdihbgjeanjdaaDoor
open Go.RowKit
set_option linter.unusedVariables false

set_option maxHeartbeats 800000 in
theorem rtrue_any (v : Value) (l : List Int) (w : World) (h : Has w v l) :
    Calls Tryd.prog 19 #[v] w fun e w' => e = .returned (.bool (Lk.isTrue l)) ∧ w = w' := by
  rcases h with ⟨a, cap, rfl, rfl, _⟩ | ⟨b, off, cap, rfl, h0, h1, hm, hc⟩
  · go_enter Tryd.func19, Tryd.ntmps19
    go_wp2
    refine wp_loop_rounds 1 ?_
    rw [rounds_succ]
    go_wp2
    go_ret
    exact ⟨rfl, rfl⟩
  · unfold maxLen at hm
    have HCC := hide hc
    clear hc
    go_enter Tryd.func19, Tryd.ntmps19
    go_wp2
    go_loop [3] (fun i => ∃ k : Nat, k ≤ l.length ∧ i = .int .i64 k ∧ Lk.isTrue l = Lk.isTrue (l.drop k)) (fun i => l.length - (intOf i).toNat)
    case atStart => exact ⟨0, Nat.zero_le _, rfl, by simp⟩
    case round =>
      obtain ⟨k, hk, rfl, ht⟩ := hrel
      by_cases hlt : k < l.length
      · have hck := HCC.out k hlt
        have e : l.drop k = l.getD k 0 :: l.drop (k + 1) := by
          rw [List.drop_eq_getElem_cons hlt]; simp [List.getD, List.getElem?_eq_getElem hlt]
        rw [e] at ht
        generalize l.getD k 0 = x at *
        clear HCC e
        by_cases hx : x = 0
        · subst hx
          have ht2 : Lk.isTrue l = Lk.isTrue (l.drop (k + 1)) := by rw [ht]; rfl
          have HT := hide ht2
          clear ht ht2
          go_wp2
          go_round
          case rel => exact ⟨k + 1, by omega, by go_num, HT.out⟩
          case measure => simp [intOf]; omega
        · have ht2 : Lk.isTrue l = true := by rw [ht]; simp [Lk.isTrue, hx]
          have HT := hide ht2
          clear ht ht2
          go_wp2
          go_ret
          exact ⟨by rw [HT.out]; rfl, rfl⟩
      · have hki : ¬ (k : Int) < l.length := by omega
        rw [List.drop_eq_nil_of_le (by omega)] at ht
        have HT : Hid (Lk.isTrue l = false) := ht
        clear ht
        go_wp2
        go_ret
        exact ⟨by rw [HT.out]; rfl, rfl⟩

/-- Keys of the call's own. -/
def OwnKeys (w : World) (base : Nat) (v : Value) (K : List (List Int × Value)) : Prop := w.ownsRow base 36 1 v K.length (K.map Prod.snd)
theorem OwnKeys.hasKeys {w : World} {base : Nat} {v : Value} {K : List (List Int × Value)} (h : OwnKeys w base v K) (hd : ∀ p ∈ K, Has w p.2 p.1 ∧ Sz.Byt p.1) (h0 : 0 < K.length) : HasKeys w v K := by
  obtain ⟨g, cap, rfl, _, h2, h3, h4, hr⟩ := owns_some h h0
  exact ⟨.inr ⟨g, 0, cap, rfl, h0, h3, h4, h2, hr⟩, hd⟩
def SrcKeys (w : World) (v : Value) (K : List (List Int × Value)) : Prop :=
  (∃ a cap, v = .slice a 0 cap ∧ K = []) ∨ ∃ b off cap, v = .slice (some ⟨b, off, none⟩) K.length cap ∧ 0 < K.length ∧ w.rangeAt b off (K.map Prod.snd)
theorem HasKeys.src {w : World} {v : Value} {K : List (List Int × Value)} (h : HasKeys w v K) : SrcKeys w v K := by
  rcases h.1 with ⟨a, cap, hv, hK, _⟩ | ⟨b, off, cap, hv, h0, h1, h2, h3, hc⟩
  · exact .inl ⟨a, cap, hv, hK⟩
  · exact .inr ⟨b, off, cap, hv, h0, hc⟩
theorem HasKeys.formed {w : World} {v : Value} {K : List (List Int × Value)} (h : HasKeys w v K) : ∀ u ∈ K.map Prod.snd, u.oneCell' = true := fun u hu => by
  obtain ⟨p, hp, rfl⟩ := List.mem_map.1 hu
  obtain ⟨a, c, e, _⟩ := (h.2 p hp).1.shape
  rw [e]; rfl
theorem run_append_keysG (w0 W : World) (base : Nat) (v x : Value) (K1 K2 : List (List Int × Value)) (hb0 : w0.heap.size ≤ base) (hW : Below w0.heap.size w0 W) (hbW : base ≤ W.heap.size) (hown : OwnKeys W base v K1) (hx : SrcKeys W x K2) (hf : ∀ u ∈ K2.map Prod.snd, u.oneCell' = true) (hbd : K1.length + K2.length ≤ 1000) (ty : TypeId) :
    ∃ v' W', (Builtin.append_ #[23, 23] ty #[v, x]).run Tryd.prog W = .ok v' W' ∧ OwnKeys W' base v' (K1 ++ K2) ∧ Below w0.heap.size w0 W' ∧ Below base W W' := by
  have hbg : ∀ W', W.grownBy W' v.ownBlock → Below base W W' := fun W' hg => (Below.refl base W).grown hg hbW (fun q hq => (World.ownsRow.lt hown q hq).1)
  rcases hx with ⟨a, c, rfl, rfl⟩ | ⟨b, off, c, rfl, h0, hr⟩
  · obtain ⟨v', W', h1, h2, h3⟩ := run_append_empty W base 23 36 1 elem_row v K1.length (K1.map Prod.snd) hown (by omega) hbW a c ty
    refine ⟨v', W', h1, by rw [List.append_nil]; exact h2, hW.trans ((hbg W' h3).mono hb0), hbg W' h3⟩
  · obtain ⟨v', W', h1, h2, h3, _⟩ := run_append_gen W base 23 36 1 elem_row v K1.length (K1.map Prod.snd) hown ⟨b, off, none⟩ K2.length c h0 (K2.map Prod.snd) (by simp) (fun j u hu => by rw [Addr.add_lit]; exact hr j u hu) hf (by omega) hbW ty
    refine ⟨v', W', h1, ?_, hW.trans ((hbg W' h3).mono hb0), hbg W' h3⟩
    unfold OwnKeys
    rw [List.length_append, List.map_append]
    exact h2
theorem OwnKeys.none (w : World) (base : Nat) (hb : base ≤ w.heap.size) : OwnKeys (w.alloc (.cells #[] 36)) base (.slice (some ⟨w.heap.size, 0, none⟩) 0 0) [] := by
  have := World.ownsRow_lit (base := base) (e := 36) (size := 1) w #[] 0 hb (by unfold maxLen; omega) (by simp)
  simpa [OwnKeys] using this
end Go.Proofs.YtkdihbgjeanjdaaDoor
