/- SizeApart: no number begins another one, nor do packed bytes, and a greater number is no shorter: for every two numbers and any bytes. -/
import Derived.Test.YtgjolcfkefimcaaPack
import Derived.Test.YtgjolcfkefimcaaStarts
namespace Go.Proofs.Ytgjolcfkefimcaa
open Go.RowKit
set_option linter.unusedVariables false

theorem starts_wr (m n : Int) (hm : 0 ≤ m) (hm1 : m ≤ 9223372036854775807) (hn : 0 ≤ n) (hn1 : n ≤ 9223372036854775807) (hne : m ≠ n) : startsB (Sz.wr n) (Sz.wr m) = false := by
  unfold startsB; rw [decide_eq_false_iff_not]; intro h; exact hne (Sz.wr_prefix m n hm hm1 hn hn1 h.2)
theorem starts_self (l : List Int) : startsB l l = true := by unfold startsB; simp
theorem starts_pk (b c : List Int) (hb : b.length ≤ 170000000000000) (hc : c.length ≤ 170000000000000) : startsB (Sz.pk c) (Sz.pk b) = sameB b c := by
  unfold startsB sameB
  by_cases h : b = c
  · subst h; simp
  · rw [decide_eq_false h, decide_eq_false_iff_not]
    intro k; exact h (Sz.pk_prefix b c (by omega) (by omega) k.2)
theorem wr300 : (Sz.wr 300).length = 3 := by decide

set_option maxRecDepth 100000 in
set_option maxHeartbeats 1600000 in
theorem apart_walk (m n : Int) (vb vc : Value) (lb lc : List Int) (w : World) (hm : -9223372036854775808 ≤ m ∧ m ≤ 9223372036854775807) (hn : -9223372036854775808 ≤ n ∧ n ≤ 9223372036854775807) (hb : Has w vb lb) (hc : Has w vc lc)
    (hlb : lb.length ≤ 170000000000000) (hlc : lc.length ≤ 170000000000000) :
    Calls Try.prog 4 #[.int .i64 m, .int .i64 n, vb, vc] w fun e w' => e = .returned (.bool true) ∧ Below w.heap.size w w' := by
  have h3 := wr300
  have HB := hide hb
  have HC := hide hc
  have HS : Hid (startsB (Sz.pk lc) (Sz.pk lb) = sameB lb lc) := starts_pk lb lc hlb hlc
  clear hb hc
  by_cases cm : m < 0
  · by_cases cn : n < 0
    · go_enter Try.func4, Try.ntmps4
      go_wp2_with fail
      refine (write_yes 300 _ (by decide) (by decide)).mono ?_
      rintro e w1 ⟨rfl, hx1, hb1⟩
      rw [h3] at hx1 ⊢
      clear hx1 h3
      go_wp2_with fail
      refine (write_neg m _ cm).mono ?_
      rintro e w2 ⟨rfl, rfl⟩
      go_wp2_with fail
      refine (write_neg n _ cn).mono ?_
      rintro e w3 ⟨rfl, rfl⟩
      have hA : Below w.heap.size w w1 := hb1
      go_wp2_with fail
      refine (pack_any vb lb _ (HB.out.below hA) hlb).mono ?_
      rintro e wP ⟨vp, rfl, hop, hbP⟩
      have hA1 : Below w.heap.size w wP := hA.trans (hbP.mono hA.size)
      go_wp2_with fail
      refine (pack_any vc lc _ (HC.out.below hA1) hlc).mono ?_
      rintro e wQ ⟨vq, rfl, hoq, hbQ⟩
      have hA2 : Below w.heap.size w wQ := hA1.trans (hbQ.mono hA1.size)
      have hop2 := hop.has.below hbQ
      have hoq2 := hoq.has
      go_wp2_with fail
      refine (bytes_any vb vc lb lc _ (HB.out.below hA2) (HC.out.below hA2)).mono ?_
      rintro e wR ⟨rfl, hbR⟩
      have hA3 : Below w.heap.size w wR := hA2.trans (hbR.mono hA2.size)
      have hst := starts_any vq vp (Sz.pk lc) (Sz.pk lb) _ (hoq2.below hbR) (hop2.below hbR)
      rw [HS.out] at hst
      have HSS := hide hst
      clear hst
      generalize sameB lb lc = s at *
      go_wp2_with fail
      refine HSS.out.mono ?_
      rintro e wS ⟨rfl, hbS⟩
      have hss : (s == s) = true := by simp
      go_wp2
      go_ret
      exact ⟨rfl, hA3.trans (hbS.mono hA3.size)⟩
    · go_enter Try.func4, Try.ntmps4
      go_wp2_with fail
      refine (write_yes 300 _ (by decide) (by decide)).mono ?_
      rintro e w1 ⟨rfl, hx1, hb1⟩
      rw [h3] at hx1 ⊢
      clear hx1 h3
      go_wp2_with fail
      refine (write_neg m _ cm).mono ?_
      rintro e w2 ⟨rfl, rfl⟩
      go_wp2_with fail
      refine (write_yes n _ (by omega) hn.2).mono ?_
      rintro e w3 ⟨rfl, hx3, hb3⟩
      have hA : Below w.heap.size w w3 := hb1.trans (hb3.mono hb1.size)
      go_wp2_with fail
      refine (pack_any vb lb _ (HB.out.below hA) hlb).mono ?_
      rintro e wP ⟨vp, rfl, hop, hbP⟩
      have hA1 : Below w.heap.size w wP := hA.trans (hbP.mono hA.size)
      go_wp2_with fail
      refine (pack_any vc lc _ (HC.out.below hA1) hlc).mono ?_
      rintro e wQ ⟨vq, rfl, hoq, hbQ⟩
      have hA2 : Below w.heap.size w wQ := hA1.trans (hbQ.mono hA1.size)
      have hop2 := hop.has.below hbQ
      have hoq2 := hoq.has
      go_wp2_with fail
      refine (bytes_any vb vc lb lc _ (HB.out.below hA2) (HC.out.below hA2)).mono ?_
      rintro e wR ⟨rfl, hbR⟩
      have hA3 : Below w.heap.size w wR := hA2.trans (hbR.mono hA2.size)
      have hst := starts_any vq vp (Sz.pk lc) (Sz.pk lb) _ (hoq2.below hbR) (hop2.below hbR)
      rw [HS.out] at hst
      have HSS := hide hst
      clear hst
      generalize sameB lb lc = s at *
      go_wp2_with fail
      refine HSS.out.mono ?_
      rintro e wS ⟨rfl, hbS⟩
      have hss : (s == s) = true := by simp
      go_wp2
      go_ret
      exact ⟨rfl, hA3.trans (hbS.mono hA3.size)⟩
  · by_cases cn : n < 0
    · go_enter Try.func4, Try.ntmps4
      go_wp2_with fail
      refine (write_yes 300 _ (by decide) (by decide)).mono ?_
      rintro e w1 ⟨rfl, hx1, hb1⟩
      rw [h3] at hx1 ⊢
      clear hx1 h3
      go_wp2_with fail
      refine (write_yes m _ (by omega) hm.2).mono ?_
      rintro e w2 ⟨rfl, hx2, hb2⟩
      go_wp2_with fail
      refine (write_neg n _ cn).mono ?_
      rintro e w3 ⟨rfl, rfl⟩
      have hA : Below w.heap.size w w2 := hb1.trans (hb2.mono hb1.size)
      go_wp2_with fail
      refine (pack_any vb lb _ (HB.out.below hA) hlb).mono ?_
      rintro e wP ⟨vp, rfl, hop, hbP⟩
      have hA1 : Below w.heap.size w wP := hA.trans (hbP.mono hA.size)
      go_wp2_with fail
      refine (pack_any vc lc _ (HC.out.below hA1) hlc).mono ?_
      rintro e wQ ⟨vq, rfl, hoq, hbQ⟩
      have hA2 : Below w.heap.size w wQ := hA1.trans (hbQ.mono hA1.size)
      have hop2 := hop.has.below hbQ
      have hoq2 := hoq.has
      go_wp2_with fail
      refine (bytes_any vb vc lb lc _ (HB.out.below hA2) (HC.out.below hA2)).mono ?_
      rintro e wR ⟨rfl, hbR⟩
      have hA3 : Below w.heap.size w wR := hA2.trans (hbR.mono hA2.size)
      have hst := starts_any vq vp (Sz.pk lc) (Sz.pk lb) _ (hoq2.below hbR) (hop2.below hbR)
      rw [HS.out] at hst
      have HSS := hide hst
      clear hst
      generalize sameB lb lc = s at *
      go_wp2_with fail
      refine HSS.out.mono ?_
      rintro e wS ⟨rfl, hbS⟩
      have hss : (s == s) = true := by simp
      go_wp2
      go_ret
      exact ⟨rfl, hA3.trans (hbS.mono hA3.size)⟩
    · have hm0 : 0 ≤ m := by omega
      have hn0 : 0 ≤ n := by omega
      by_cases e : m = n
      · subst e
        have hst := starts_self (Sz.wr m)
        have HST := hide hst
        clear hst
        have hmm : (m == m) = true := by simp
        go_enter Try.func4, Try.ntmps4
        go_wp2_with fail
        refine (write_yes 300 _ (by decide) (by decide)).mono ?_
        rintro e w1 ⟨rfl, hx1, hb1⟩
        rw [h3] at hx1 ⊢
        clear hx1 h3
        go_wp2_with fail
        refine (write_yes m _ hm0 hm.2).mono ?_
        rintro e w2 ⟨rfl, hx2, hb2⟩
        go_wp2_with fail
        refine (write_yes m _ hn0 hn.2).mono ?_
        rintro e w3 ⟨rfl, hx3, hb3⟩
        have hA0 : Below w.heap.size w w3 := (hb1.trans (hb2.mono hb1.size)).trans (hb3.mono (hb1.trans (hb2.mono hb1.size)).size)
        go_wp2_with fail
        refine (starts_any _ _ _ _ _ hx3 (hx2.below hb3)).mono ?_
        rintro e w4 ⟨rfl, hb4⟩
        rw [HST.out]
        have hA : Below w.heap.size w w4 := hA0.trans (hb4.mono hA0.size)
        go_wp2_with fail
        refine (pack_any vb lb _ (HB.out.below hA) hlb).mono ?_
        rintro e wP ⟨vp, rfl, hop, hbP⟩
        have hA1 : Below w.heap.size w wP := hA.trans (hbP.mono hA.size)
        go_wp2_with fail
        refine (pack_any vc lc _ (HC.out.below hA1) hlc).mono ?_
        rintro e wQ ⟨vq, rfl, hoq, hbQ⟩
        have hA2 : Below w.heap.size w wQ := hA1.trans (hbQ.mono hA1.size)
        have hop2 := hop.has.below hbQ
        have hoq2 := hoq.has
        go_wp2_with fail
        refine (bytes_any vb vc lb lc _ (HB.out.below hA2) (HC.out.below hA2)).mono ?_
        rintro e wR ⟨rfl, hbR⟩
        have hA3 : Below w.heap.size w wR := hA2.trans (hbR.mono hA2.size)
        have hst := starts_any vq vp (Sz.pk lc) (Sz.pk lb) _ (hoq2.below hbR) (hop2.below hbR)
        rw [HS.out] at hst
        have HSS := hide hst
        clear hst
        generalize sameB lb lc = s at *
        go_wp2_with fail
        refine HSS.out.mono ?_
        rintro e wS ⟨rfl, hbS⟩
        have hss : (s == s) = true := by simp
        go_wp2
        go_ret
        exact ⟨rfl, hA3.trans (hbS.mono hA3.size)⟩
      · have hst := starts_wr m n hm0 hm.2 hn0 hn.2 e
        have HST := hide hst
        have hmn : (m == n) = false := by simp [e]
        clear hst e
        by_cases hle : (Sz.wr m).length ≤ (Sz.wr n).length
        · have hle' : ((Sz.wr m).length : Int) ≤ ((Sz.wr n).length : Int) := by omega
          by_cases hlt : m < n
          · go_enter Try.func4, Try.ntmps4
            go_wp2_with fail
            refine (write_yes 300 _ (by decide) (by decide)).mono ?_
            rintro e w1 ⟨rfl, hx1, hb1⟩
            rw [h3] at hx1 ⊢
            clear hx1 h3
            go_wp2_with fail
            refine (write_yes m _ hm0 hm.2).mono ?_
            rintro e w2 ⟨rfl, hx2, hb2⟩
            go_wp2_with fail
            refine (write_yes n _ hn0 hn.2).mono ?_
            rintro e w3 ⟨rfl, hx3, hb3⟩
            have hA0 : Below w.heap.size w w3 := (hb1.trans (hb2.mono hb1.size)).trans (hb3.mono (hb1.trans (hb2.mono hb1.size)).size)
            go_wp2_with fail
            refine (starts_any _ _ _ _ _ hx3 (hx2.below hb3)).mono ?_
            rintro e w4 ⟨rfl, hb4⟩
            rw [HST.out]
            have hA : Below w.heap.size w w4 := hA0.trans (hb4.mono hA0.size)
            go_wp2_with fail
            refine (pack_any vb lb _ (HB.out.below hA) hlb).mono ?_
            rintro e wP ⟨vp, rfl, hop, hbP⟩
            have hA1 : Below w.heap.size w wP := hA.trans (hbP.mono hA.size)
            go_wp2_with fail
            refine (pack_any vc lc _ (HC.out.below hA1) hlc).mono ?_
            rintro e wQ ⟨vq, rfl, hoq, hbQ⟩
            have hA2 : Below w.heap.size w wQ := hA1.trans (hbQ.mono hA1.size)
            have hop2 := hop.has.below hbQ
            have hoq2 := hoq.has
            go_wp2_with fail
            refine (bytes_any vb vc lb lc _ (HB.out.below hA2) (HC.out.below hA2)).mono ?_
            rintro e wR ⟨rfl, hbR⟩
            have hA3 : Below w.heap.size w wR := hA2.trans (hbR.mono hA2.size)
            have hst := starts_any vq vp (Sz.pk lc) (Sz.pk lb) _ (hoq2.below hbR) (hop2.below hbR)
            rw [HS.out] at hst
            have HSS := hide hst
            clear hst
            generalize sameB lb lc = s at *
            go_wp2_with fail
            refine HSS.out.mono ?_
            rintro e wS ⟨rfl, hbS⟩
            have hss : (s == s) = true := by simp
            go_wp2
            go_ret
            exact ⟨rfl, hA3.trans (hbS.mono hA3.size)⟩
          · go_enter Try.func4, Try.ntmps4
            go_wp2_with fail
            refine (write_yes 300 _ (by decide) (by decide)).mono ?_
            rintro e w1 ⟨rfl, hx1, hb1⟩
            rw [h3] at hx1 ⊢
            clear hx1 h3
            go_wp2_with fail
            refine (write_yes m _ hm0 hm.2).mono ?_
            rintro e w2 ⟨rfl, hx2, hb2⟩
            go_wp2_with fail
            refine (write_yes n _ hn0 hn.2).mono ?_
            rintro e w3 ⟨rfl, hx3, hb3⟩
            have hA0 : Below w.heap.size w w3 := (hb1.trans (hb2.mono hb1.size)).trans (hb3.mono (hb1.trans (hb2.mono hb1.size)).size)
            go_wp2_with fail
            refine (starts_any _ _ _ _ _ hx3 (hx2.below hb3)).mono ?_
            rintro e w4 ⟨rfl, hb4⟩
            rw [HST.out]
            have hA : Below w.heap.size w w4 := hA0.trans (hb4.mono hA0.size)
            go_wp2_with fail
            refine (pack_any vb lb _ (HB.out.below hA) hlb).mono ?_
            rintro e wP ⟨vp, rfl, hop, hbP⟩
            have hA1 : Below w.heap.size w wP := hA.trans (hbP.mono hA.size)
            go_wp2_with fail
            refine (pack_any vc lc _ (HC.out.below hA1) hlc).mono ?_
            rintro e wQ ⟨vq, rfl, hoq, hbQ⟩
            have hA2 : Below w.heap.size w wQ := hA1.trans (hbQ.mono hA1.size)
            have hop2 := hop.has.below hbQ
            have hoq2 := hoq.has
            go_wp2_with fail
            refine (bytes_any vb vc lb lc _ (HB.out.below hA2) (HC.out.below hA2)).mono ?_
            rintro e wR ⟨rfl, hbR⟩
            have hA3 : Below w.heap.size w wR := hA2.trans (hbR.mono hA2.size)
            have hst := starts_any vq vp (Sz.pk lc) (Sz.pk lb) _ (hoq2.below hbR) (hop2.below hbR)
            rw [HS.out] at hst
            have HSS := hide hst
            clear hst
            generalize sameB lb lc = s at *
            go_wp2_with fail
            refine HSS.out.mono ?_
            rintro e wS ⟨rfl, hbS⟩
            have hss : (s == s) = true := by simp
            go_wp2
            go_ret
            exact ⟨rfl, hA3.trans (hbS.mono hA3.size)⟩
        · have hlt : ¬ m < n := fun h => hle (Sz.wr_mono m n hm0 h)
          have hle' : ((Sz.wr n).length : Int) < ((Sz.wr m).length : Int) := by omega
          go_enter Try.func4, Try.ntmps4
          go_wp2_with fail
          refine (write_yes 300 _ (by decide) (by decide)).mono ?_
          rintro e w1 ⟨rfl, hx1, hb1⟩
          rw [h3] at hx1 ⊢
          clear hx1 h3
          go_wp2_with fail
          refine (write_yes m _ hm0 hm.2).mono ?_
          rintro e w2 ⟨rfl, hx2, hb2⟩
          go_wp2_with fail
          refine (write_yes n _ hn0 hn.2).mono ?_
          rintro e w3 ⟨rfl, hx3, hb3⟩
          have hA : Below w.heap.size w w3 := (hb1.trans (hb2.mono hb1.size)).trans (hb3.mono (hb1.trans (hb2.mono hb1.size)).size)
          go_wp2_with fail
          refine (pack_any vb lb _ (HB.out.below hA) hlb).mono ?_
          rintro e wP ⟨vp, rfl, hop, hbP⟩
          have hA1 : Below w.heap.size w wP := hA.trans (hbP.mono hA.size)
          go_wp2_with fail
          refine (pack_any vc lc _ (HC.out.below hA1) hlc).mono ?_
          rintro e wQ ⟨vq, rfl, hoq, hbQ⟩
          have hA2 : Below w.heap.size w wQ := hA1.trans (hbQ.mono hA1.size)
          have hop2 := hop.has.below hbQ
          have hoq2 := hoq.has
          go_wp2_with fail
          refine (bytes_any vb vc lb lc _ (HB.out.below hA2) (HC.out.below hA2)).mono ?_
          rintro e wR ⟨rfl, hbR⟩
          have hA3 : Below w.heap.size w wR := hA2.trans (hbR.mono hA2.size)
          have hst := starts_any vq vp (Sz.pk lc) (Sz.pk lb) _ (hoq2.below hbR) (hop2.below hbR)
          rw [HS.out] at hst
          have HSS := hide hst
          clear hst
          generalize sameB lb lc = s at *
          go_wp2_with fail
          refine HSS.out.mono ?_
          rintro e wS ⟨rfl, hbS⟩
          have hss : (s == s) = true := by simp
          go_wp2
          go_ret
          exact ⟨rfl, hA3.trans (hbS.mono hA3.size)⟩
end Go.Proofs.Ytgjolcfkefimcaa
