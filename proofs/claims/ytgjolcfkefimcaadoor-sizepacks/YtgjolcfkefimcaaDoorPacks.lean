/- SizePacks: size.Pack and size.Unpack tell what the document's functions tell, for any bytes, any others and any place. -/
import Derived.Test.YtgjolcfkefimcaaDoorTells
import Derived.Test.YtgjolcfkefimcaaDoorUnpack
namespace Go.Proofs.YtgjolcfkefimcaaDoor
open Go.RowKit
set_option linter.unusedVariables false

theorem has_nil (w : World) : Has w (.slice none 0 0) [] := .inl ⟨none, 0, rfl, rfl, by unfold maxLen; omega, fun _ => rfl⟩
/-- The cells of a struct of the call's own, behind one call and a second one. -/
theorem three_more {w4 w5 w6 : World} {x y : Value} (z0 : w5.cell? ⟨w4.heap.size, 0, none⟩ = some x) (z1 : w5.cell? ⟨w4.heap.size, 1, none⟩ = some y) (h : Below w5.heap.size w5 w6) :
    w6.cell? ⟨w4.heap.size, 0, none⟩ = some x ∧ w6.cell? ⟨w4.heap.size, 1, none⟩ = some y := by
  have hl := World.block_lt_of_cell? w5 ⟨w4.heap.size, 0, none⟩ z0
  exact ⟨by rw [h.cell (p := ⟨w4.heap.size, 0, none⟩) hl]; exact z0, by rw [h.cell (p := ⟨w4.heap.size, 1, none⟩) hl]; exact z1⟩

set_option maxRecDepth 100000 in
set_option maxHeartbeats 1600000 in
theorem packs_walk (p : Int) (vb vc : Value) (lb lc : List Int) (w : World) (hE : ErrVar w) (hb : Has w vb lb) (hc : Has w vc lc) (bc : Sz.Byt lc) (hlb : lb.length ≤ 170000000000000) (hlc : lc.length ≤ 180000000000000) :
    Calls Tryd.prog 4 #[vb, vc, .int .i64 p] w fun e w' => e = .returned (.bool true) ∧ Below w.heap.size w w' := by
  have HB := hide hb
  have HC := hide hc
  obtain ⟨ac, cc, rfl, hcm, -⟩ := hc.slice
  clear hb hc
  go_enter Tryd.func4, Tryd.ntmps4
  go_wp2_with fail
  refine (pack_any vb lb _ HB.out hlb).mono ?_
  rintro e w1 ⟨v1, rfl, ho1, hb1⟩
  go_wp2_with fail
  refine (rpacked_any vb lb _ (HB.out.below hb1) hlb).mono ?_
  rintro e w2 ⟨v2, rfl, ho2, hb2⟩
  have hS2 : Below w.heap.size w w2 := tstep hb1 hb2 hb1.size
  have hby := bytes_any v1 v2 _ _ w2 (ho1.has.below hb2) ho2.has
  rw [same_refl] at hby
  have HBY := hide hby
  clear hby
  go_wp2_with fail
  refine HBY.out.mono ?_
  rintro e w3 ⟨rfl, hb3⟩
  have hS3 : Below w.heap.size w w3 := tstep hS2 hb3 hS2.size
  clear HBY ho1 ho2 hb1 hb2 hb3 hS2
  have hat := at_any _ lc p w3 (HC.out.below hS3) bc hlc
  have HAT := hide hat
  clear hat
  go_wp2_with fail
  refine HAT.out.mono ?_
  rintro e w4 ⟨rfl, hb4⟩
  have hS4 : Below w.heap.size w w4 := tstep hS3 hb4 hS3.size
  simp only [got]
  clear HAT hb4 hS3
  have hup := fun w' (hw' : Below w.heap.size w w') => unpack_any _ lc p w' (HC.out.below hw') bc hlc
  by_cases he : (Sz.rd lc p).2.2 = 0
  · obtain ⟨n, q, hr⟩ : ∃ n q, Sz.rd lc p = (n, q, 0) := ⟨(Sz.rd lc p).1, (Sz.rd lc p).2.1, Prod.ext rfl (Prod.ext rfl he)⟩
    have hp : ¬ p < 0 := fun hp => by rw [Sz.rd_neg lc p hp] at he; simp at he
    obtain ⟨k, hk⟩ := Int.eq_ofNat_of_zero_le (show 0 ≤ p by omega)
    obtain ⟨hn0, hn1, hq, hle, _⟩ := Sz.wr_rd lc k n q bc (by rw [← hk]; exact hr)
    have hq0 : 0 ≤ q := by omega
    have hq1 : q ≤ (lc.length : Int) := by omega
    rw [hr]
    by_cases hfew : (lc.length : Int) - q < n
    · have e : Sz.unp lc p = ([], 0, 3) := by unfold Sz.unp; rw [hr, if_neg (by simp), if_pos hfew]
      rw [e] at hup
      have hsv := fun w' (hw' : Below w.heap.size w w') => error_any 3 3 w' (hE.below hw')
      rw [eq_refl] at hsv
      have HUP := hide hup
      have HSV := hide hsv
      clear hup hsv e hr he hk hp hle hq
      generalize errV 3 = ev at *
      generalize lc.length = len at *
      go_wp2_with fail
      refine (HUP.out _ (hS4.alloc hS4.size _)).mono ?_
      rintro e w5 ⟨vu, rfl, hu, hb5⟩
      have hS5 : Below w.heap.size w w5 := tstep (hS4.alloc hS4.size _) hb5 (Nat.le_trans hS4.size (by simp))
      go_wp2_with fail
      refine (HSV.out _ hS5).mono ?_
      rintro e w6 ⟨rfl, hb6⟩
      have hS6 : Below w.heap.size w w6 := tstep hS5 hb6 hS5.size
      have hby := bytes_any vu _ _ _ w6 (hu.below hb6) (has_nil _)
      rw [same_refl] at hby
      have HBY := hide hby
      clear hby hu HUP HSV
      go_wp2_with fail
      refine HBY.out.mono ?_
      rintro e w7 ⟨rfl, hb7⟩
      have hS7 : Below w.heap.size w w7 := tstep hS6 hb7 hS6.size
      clear hb5 hb6 hb7 HBY
      go_wp2
      go_ret
      exact ⟨rfl, hS7⟩
    · obtain ⟨n', rfl⟩ := Int.eq_ofNat_of_zero_le hn0
      obtain ⟨q', rfl⟩ := Int.eq_ofNat_of_zero_le hq0
      have e : Sz.unp lc p = ((lc.drop q').take n', (q' : Int) + (n' : Int), 0) := by unfold Sz.unp; rw [hr, if_neg (by simp), if_neg hfew]; rfl
      rw [e] at hup
      have hsv := fun w' (hw' : Below w.heap.size w w') => error_any 0 0 w' (hE.below hw')
      rw [eq_refl] at hsv
      have HUP := hide hup
      have HSV := hide hsv
      have hpos := Sz.wr_pos (n' : Int)
      have hH := HC.out
      rcases hH with ⟨a, cap, hv, hnil, _⟩ | ⟨b, off, cap, hv, h0, hcap, hm, hcells⟩
      · exact absurd hle (by rw [hnil, List.length_nil]; omega)
      · obtain ⟨rfl, rfl⟩ : ac = some ⟨b, off, none⟩ ∧ cc = cap := by
          injection hv with e1 e2 e3
          exact ⟨e1, e3⟩
        have hel : ((lc.drop q').take n').length = n' := by rw [List.length_take, List.length_drop]; omega
        have hnq : q' + n' ≤ lc.length := by omega
        have hHas : ∀ w', Below w.heap.size w w' → Has w' (.slice (if cc = q' then some ⟨b, off, none⟩ else some ⟨b, off + q', none⟩) n' (cc - q')) ((lc.drop q').take n') := fun w' hw' => by
          refine Has.below (w := w) ?_ hw'
          by_cases h0 : n' = 0
          · subst h0
            exact .inl ⟨_, _, rfl, by simp, by omega, by split <;> (intro h; cases h)⟩
          · rw [if_neg (by omega)]
            refine .inr ⟨b, off + q', cc - q', by rw [hel], by omega, by omega, by omega, fun j hj => ?_⟩
            have := hcells (q' + j) (by omega)
            rw [show off + q' + j = off + (q' + j) from by omega, this]
            have e2 : ((lc.drop q').take n').getD j 0 = lc.getD (q' + j) 0 := by
              simp only [List.getD, List.getElem?_take, List.getElem?_drop]
              rw [if_pos (by omega)]
            rw [e2]
        have HH := hide hHas
        clear hHas hel hcells hv hup hsv e hr he hk hp hq hpos hle
        generalize (lc.drop q').take n' = r at *
        generalize errV 0 = ev at *
        generalize lc.length = len at *
        unfold maxLen at hm
        have g1 : ¬ (len : Int) - (q' : Int) < (n' : Int) := by omega
        have g2 : (q' : Int) + (n' : Int) ≤ (len : Int) := by omega
        have g3 : (len : Int) ≤ (cc : Int) := by omega
        have g4 : (((q' : Int) + (n' : Int)) == ((q' : Int) + (n' : Int))) = true := by simp
        by_cases hcq : cc = q'
        · subst hcq
          have HW : Hid (∀ w', Below w.heap.size w w' → Has w' (.slice (some ⟨b, off, none⟩) n' 0) r) := fun w' hw' => by
            have := HH.out w' hw'
            rw [if_pos rfl, Nat.sub_self] at this
            exact this
          clear HH
          go_wp2_with fail
          refine (HUP.out _ (hS4.alloc hS4.size _)).mono ?_
          rintro e w5 ⟨vu, rfl, hu, hb5⟩
          have hS5 : Below w.heap.size w w5 := tstep (hS4.alloc hS4.size _) hb5 (Nat.le_trans hS4.size (by simp))
          go_wp2_with fail
          refine (HSV.out _ hS5).mono ?_
          rintro e w6 ⟨rfl, hb6⟩
          have hS6 : Below w.heap.size w w6 := tstep hS5 hb6 hS5.size
          have hby := bytes_any vu _ _ _ w6 (hu.below hb6) (HW.out _ hS6)
          rw [same_refl] at hby
          have HBY := hide hby
          clear hby hu HUP HSV
          go_wp2_with fail
          refine HBY.out.mono ?_
          rintro e w7 ⟨rfl, hb7⟩
          have hS7 : Below w.heap.size w w7 := tstep hS6 hb7 hS6.size
          clear hb5 hb6 hb7 HBY
          go_wp2
          go_ret
          exact ⟨rfl, hS7⟩
        · have HW : Hid (∀ w', Below w.heap.size w w' → Has w' (.slice (some ⟨b, off + q', none⟩) n' (cc - q')) r) := fun w' hw' => by
            have := HH.out w' hw'
            rw [if_neg hcq] at this
            exact this
          clear HH
          go_wp2_with fail
          refine (HUP.out _ (hS4.alloc hS4.size _)).mono ?_
          rintro e w5 ⟨vu, rfl, hu, hb5⟩
          have hS5 : Below w.heap.size w w5 := tstep (hS4.alloc hS4.size _) hb5 (Nat.le_trans hS4.size (by simp))
          go_wp2_with fail
          refine (HSV.out _ hS5).mono ?_
          rintro e w6 ⟨rfl, hb6⟩
          have hS6 : Below w.heap.size w w6 := tstep hS5 hb6 hS5.size
          have hby := bytes_any vu _ _ _ w6 (hu.below hb6) (HW.out _ hS6)
          rw [same_refl] at hby
          have HBY := hide hby
          clear hby hu HUP HSV
          go_wp2_with fail
          refine HBY.out.mono ?_
          rintro e w7 ⟨rfl, hb7⟩
          have hS7 : Below w.heap.size w w7 := tstep hS6 hb7 hS6.size
          clear hb5 hb6 hb7 HBY
          go_wp2
          go_ret
          exact ⟨rfl, hS7⟩
  · have e : Sz.unp lc p = ([], 0, (Sz.rd lc p).2.2) := by unfold Sz.unp; rw [if_pos he]
    rw [e] at hup
    have hsv := fun w' (hw' : Below w.heap.size w w') => error_any (Sz.rd lc p).2.2 (Sz.rd lc p).2.2 w' (hE.below hw')
    rw [eq_refl] at hsv
    have hne : ((Sz.rd lc p).2.2 == 0) = false := by simp [he]
    have HUP := hide hup
    have HSV := hide hsv
    clear hup hsv e he
    generalize (Sz.rd lc p).1 = r1 at *
    generalize (Sz.rd lc p).2.1 = r2 at *
    generalize (Sz.rd lc p).2.2 = r3 at *
    generalize errV r3 = ev at *
    go_wp2_with fail
    refine (HUP.out _ (hS4.alloc hS4.size _)).mono ?_
    rintro e w5 ⟨vu, rfl, hu, hb5⟩
    have hS5 : Below w.heap.size w w5 := tstep (hS4.alloc hS4.size _) hb5 (Nat.le_trans hS4.size (by simp))
    go_wp2_with fail
    refine (HSV.out _ hS5).mono ?_
    rintro e w6 ⟨rfl, hb6⟩
    have hS6 : Below w.heap.size w w6 := tstep hS5 hb6 hS5.size
    have hby := bytes_any vu _ _ _ w6 (hu.below hb6) (has_nil _)
    rw [same_refl] at hby
    have HBY := hide hby
    clear hby hu HUP HSV
    go_wp2_with fail
    refine HBY.out.mono ?_
    rintro e w7 ⟨rfl, hb7⟩
    have hS7 : Below w.heap.size w w7 := tstep hS6 hb7 hS6.size
    clear hb5 hb6 hb7 HBY
    go_wp2
    go_ret
    exact ⟨rfl, hS7⟩
end Go.Proofs.YtgjolcfkefimcaaDoor
