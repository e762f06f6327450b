/- The walk of MacExpands: fewer bytes are the first ones of more. -/
import Derived.Test.YtpmiaimpemkefaaDoorMaKeysA
import Derived.Test.YtpmiaimpemkefaaDoorBytes
namespace Go.Proofs.YtpmiaimpemkefaaDoor
open Go.RowKit
set_option linter.unusedVariables false

theorem Own.front {w : World} {base : Nat} {a : Option Addr} {n c : Nat} {l : List Int} (h : Own w base (.slice a n c) l) (m : Nat) (hm : m ≤ l.length) : Has w (.slice a m c) (l.take m) := by
  have e : (l.take m).length = m := by rw [List.length_take]; omega
  obtain ⟨a', c', e1, h1, h2⟩ := h.form
  injection e1 with e1 e2 e3
  subst e1 e2 e3
  by_cases h0 : m = 0
  · subst h0
    refine .inl ⟨a, c, rfl, by simp, h2, fun hn => ?_⟩
    subst hn
    rcases h.has with ⟨a', cap, e4, e5, e6, e7⟩ | ⟨b, off, cap, e4, _⟩
    · injection e4 with e8 e9 e10
      subst e8 e10
      exact e7 rfl
    · injection e4 with e8; cases e8
  · rcases h.has with ⟨a', cap, e4, e5, e6, e7⟩ | ⟨b, off, cap, e4, h0', h1', h2', hc⟩
    · subst e5; simp at hm; omega
    · injection e4 with e8 e9 e10
      subst e8 e10
      refine .inr ⟨b, off, c, by rw [e], by omega, by omega, h2, fun j hj => ?_⟩
      rw [hc j (by omega)]
      simp only [List.getD, List.getElem?_take]
      rw [if_pos (by omega)]

/-- Expand at any count: what it tells is a pair, and nothing else turns. -/
theorem expand_pair (vk vi : Value) (k l : List Int) (n : Int) (w : World) (hk : Has w vk k) (hl : Has w vi l) (hkb : Sz.Byt k) (hlb : Sz.Byt l) (ht : Tab w) (hw : 1 < w.heap.size) (hkn : k.length < 400000000000000) (hln : l.length < 400000000000000) :
    Calls Tryd.prog 9 #[vk, vi, .int .i64 n] w fun e w' => ∃ v u, e = .returned (.tuple #[v, u]) ∧ Below w.heap.size w w' := by
  by_cases h : n < 0 ∨ 2000 < n
  · refine (expand_out vk vi n w h).mono ?_
    rintro e w' ⟨rfl, rfl⟩
    exact ⟨_, _, rfl, Below.refl _ _⟩
  · obtain ⟨q, rfl⟩ := Int.eq_ofNat_of_zero_le (show 0 ≤ n by omega)
    refine (expand_in vk vi k l q w hk hl hkb hlb ht hw hkn hln (by omega)).mono ?_
    rintro e w' ⟨v, rfl, _, hb⟩
    exact ⟨_, _, rfl, hb⟩

set_option maxRecDepth 100000 in
set_option maxHeartbeats 1600000 in
theorem expands_walk (vk vi : Value) (k l : List Int) (m n : Int) (w : World) (hk : Has w vk k) (hl : Has w vi l) (hkb : Sz.Byt k) (hlb : Sz.Byt l) (ht : Tab w) (hw : 1 < w.heap.size) (hkn : k.length < 400000000000000) (hln : l.length < 400000000000000) :
    Calls Tryd.prog 5 #[vk, vi, .int .i64 m, .int .i64 n] w fun e w' => e = .returned (.bool true) ∧ Below w.heap.size w w' := by
  have H0 : Hid (Calls Tryd.prog 9 #[.slice none 0 0, .slice none 0 0, .int .i64 5] w fun e w' => ∃ a c, e = .returned (.tuple #[.slice a 5 c, .nilIface]) ∧ Below w.heap.size w w') := by
    refine (expand_in (.slice none 0 0) (.slice none 0 0) [] [] 5 w (nil_has w) (nil_has w) Sz.Byt.nil Sz.Byt.nil ht hw (by simp) (by simp) (by omega)).mono ?_
    rintro e w' ⟨v, rfl, ho, hb⟩
    obtain ⟨a, c, rfl, _, _⟩ := ho.form
    rw [Mc.expand_length]
    exact ⟨a, c, rfl, hb⟩
  have HP : Hid (∀ w' q, Below w.heap.size w w' → Calls Tryd.prog 9 #[vk, vi, .int .i64 q] w' fun e w'' => ∃ v u, e = .returned (.tuple #[v, u]) ∧ Below w'.heap.size w' w'') := fun w' q hb => expand_pair vk vi k l q w' (hk.below hb) (hl.below hb) hkb hlb (ht.below hb hw) (Nat.lt_of_lt_of_le hw hb.size) hkn hln
  have HI : Hid (∀ w' (q : Nat), Below w.heap.size w w' → q ≤ 2000 → Calls Tryd.prog 9 #[vk, vi, .int .i64 (q : Int)] w' fun e w'' => ∃ v, e = .returned (.tuple #[v, .nilIface]) ∧ Own w'' w'.heap.size v (Mc.expand k l q) ∧ Below w'.heap.size w' w'') := fun w' q hb hq => expand_in vk vi k l q w' (hk.below hb) (hl.below hb) hkb hlb (ht.below hb hw) (Nat.lt_of_lt_of_le hw hb.size) hkn hln hq
  clear hk hl hkb hlb ht hkn hln
  by_cases hmn : n < m
  · go_enter Tryd.func5, Tryd.ntmps5
    go_wp2_with fail
    refine H0.out.mono ?_
    rintro e w1 ⟨a1, c1, rfl, hb1⟩
    go_wp2
    go_ret
    exact ⟨rfl, hb1⟩
  · by_cases hmo : m < 0 ∨ 2000 < m
    · have HO : Hid (∀ w', Calls Tryd.prog 9 #[vk, vi, .int .i64 m] w' fun e w'' => e = .returned (.tuple #[.slice none 0 0, .iface 26 (.int .i64 2)]) ∧ w' = w'') := fun w' => expand_out vk vi m w' hmo
      go_enter Tryd.func5, Tryd.ntmps5
      go_wp2_with fail
      refine H0.out.mono ?_
      rintro e w1 ⟨a1, c1, rfl, hb1⟩
      go_wp2_with fail
      refine (HO.out _).mono ?_
      rintro e w2 ⟨rfl, rfl⟩
      go_wp2_with fail
      refine (HP.out _ _ hb1).mono ?_
      rintro e w3 ⟨v3, u3, rfl, hb3⟩
      go_wp2
      go_ret
      exact ⟨rfl, hb1.trans (hb3.mono hb1.size)⟩
    · obtain ⟨M, rfl⟩ := Int.eq_ofNat_of_zero_le (show 0 ≤ m by omega)
      have hM : M ≤ 2000 := by omega
      by_cases hno : 2000 < n
      · have HO : Hid (∀ w', Calls Tryd.prog 9 #[vk, vi, .int .i64 n] w' fun e w'' => e = .returned (.tuple #[.slice none 0 0, .iface 26 (.int .i64 2)]) ∧ w' = w'') := fun w' => expand_out vk vi n w' (.inr hno)
        go_enter Tryd.func5, Tryd.ntmps5
        go_wp2_with fail
        refine H0.out.mono ?_
        rintro e w1 ⟨a1, c1, rfl, hb1⟩
        go_wp2_with fail
        refine (HI.out _ M hb1 hM).mono ?_
        rintro e w2 ⟨v2, rfl, ho2, hb2⟩
        have hb2' := hb1.trans (hb2.mono hb1.size)
        go_wp2_with fail
        refine (HO.out _).mono ?_
        rintro e w3 ⟨rfl, rfl⟩
        go_wp2
        go_ret
        exact ⟨rfl, hb2'⟩
      · obtain ⟨N, rfl⟩ := Int.eq_ofNat_of_zero_le (show 0 ≤ n by omega)
        have hN : N ≤ 2000 := by omega
        have hMN : M ≤ N := by omega
        have HX : Hid (∀ w', Below w.heap.size w w' → Calls Tryd.prog 9 #[vk, vi, .int .i64 (M : Int)] w' fun e w'' => ∃ a c, e = .returned (.tuple #[.slice a M c, .nilIface]) ∧ Own w'' w'.heap.size (.slice a M c) (Mc.expand k l M) ∧ Below w'.heap.size w' w'') := fun w' hb => by
          refine (HI.out w' M hb hM).mono ?_
          rintro e w'' ⟨v, rfl, ho, hb⟩
          obtain ⟨a, c, rfl, _, _⟩ := ho.form
          rw [Mc.expand_length] at ho ⊢
          exact ⟨a, c, rfl, ho, hb⟩
        have HY : Hid (∀ w', Below w.heap.size w w' → Calls Tryd.prog 9 #[vk, vi, .int .i64 (N : Int)] w' fun e w'' => ∃ a c, N ≤ c ∧ c ≤ maxLen ∧ e = .returned (.tuple #[.slice a N c, .nilIface]) ∧ Own w'' w'.heap.size (.slice a N c) (Mc.expand k l N) ∧ Below w'.heap.size w' w'') := fun w' hb => by
          refine (HI.out w' N hb hN).mono ?_
          rintro e w'' ⟨v, rfl, ho, hb⟩
          obtain ⟨a, c, rfl, h1, h2⟩ := ho.form
          rw [Mc.expand_length] at ho h1 ⊢
          exact ⟨a, c, h1, h2, rfl, ho, hb⟩
        have hX := Mc.expand_length k l M
        have hY := Mc.expand_length k l N
        have hXY := Mc.expand_take k l M N hMN
        have HYL := hide hY
        have HXY := hide hXY
        generalize Mc.expand k l M = X at *
        generalize Mc.expand k l N = Y at *
        clear HI HP hX hY hXY
        have hMi : (M : Int) ≤ (N : Int) := by omega
        go_enter Tryd.func5, Tryd.ntmps5
        go_wp2_with fail
        refine H0.out.mono ?_
        rintro e w1 ⟨a1, c1, rfl, hb1⟩
        go_wp2_with fail
        refine (HX.out _ hb1).mono ?_
        rintro e w2 ⟨xa, xc, rfl, ho2, hb2⟩
        have hb2' := hb1.trans (hb2.mono hb1.size)
        go_wp2_with fail
        refine (HY.out _ hb2').mono ?_
        rintro e w3 ⟨ya, yc, hy1, hy2, rfl, ho3, hb3⟩
        have hb3' := hb2'.trans (hb3.mono hb2'.size)
        have hby := bytes_any (.slice xa M xc) (.slice ya M yc) X (Y.take M) w3 (ho2.has.below hb3) (ho3.front M (by rw [HYL.out]; exact hMN))
        rw [HXY.out, show sameB X X = true by unfold sameB; simp] at hby
        have HBY := hide hby
        have hMc : M ≤ yc := by omega
        unfold maxLen at hy2
        clear hby ho2 ho3 hb2 hb3
        go_wp2_with fail
        refine HBY.out.mono ?_
        rintro e w4 ⟨rfl, hb4⟩
        go_wp2
        go_ret
        exact ⟨rfl, hb3'.trans (hb4.mono hb3'.size)⟩
end Go.Proofs.YtpmiaimpemkefaaDoor
