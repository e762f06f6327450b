/- SizeTells: size.Write and size.Read tell what the document's functions tell, for every number, any bytes and any place. -/
import Derived.Test.YtgjolcfkefimcaaDoorAts
import Derived.Test.YtgjolcfkefimcaaDoorTold2
import Derived.Test.YtgjolcfkefimcaaDoorBytes
namespace Go.Proofs.YtgjolcfkefimcaaDoor
open Go.RowKit
set_option linter.unusedVariables false

theorem same_refl (l : List Int) : sameB l l = true := by unfold sameB; simp
theorem eq_refl (c : Int) : (c == c) = true := by simp
theorem tstep {w w' w'' : World} {B : Nat} (h : Below B w w') (k : Below w'.heap.size w' w'') (hB : B ≤ w'.heap.size) : Below B w w'' := h.trans (k.mono hB)

set_option maxRecDepth 100000 in
set_option maxHeartbeats 1600000 in
theorem tells_walk (n p : Int) (v : Value) (l : List Int) (w : World) (hE : ErrVar w) (hn : -9223372036854775808 ≤ n ∧ n ≤ 9223372036854775807) (h : Has w v l) (hb : Sz.Byt l) (hbig : l.length ≤ 180000000000000) :
    Calls Tryd.prog 3 #[.int .i64 n, v, .int .i64 p] w fun e w' => e = .returned (.bool true) ∧ Below w.heap.size w w' := by
  have H := hide h
  clear h
  by_cases cn : n < 0
  · go_enter Tryd.func3, Tryd.ntmps3
    go_wp2_with fail
    refine (write_neg n _ cn).mono ?_
    rintro e w1 ⟨rfl, rfl⟩
    have herr := error_any 2 2 w hE
    have e2 : errV 2 = .iface 23 (.int .i64 2) := rfl
    rw [e2, eq_refl] at herr
    have HER := hide herr
    clear herr e2
    go_wp2_with fail
    refine HER.out.mono ?_
    rintro e w2 ⟨rfl, hb2⟩
    have hby := bytes_any (.slice none 0 0) (.slice none 0 0) [] [] w2 (.inl ⟨none, 0, rfl, rfl, by unfold maxLen; omega, fun _ => rfl⟩) (.inl ⟨none, 0, rfl, rfl, by unfold maxLen; omega, fun _ => rfl⟩)
    rw [same_refl] at hby
    have HBY := hide hby
    clear hby
    go_wp2_with fail
    refine HBY.out.mono ?_
    rintro e w3 ⟨rfl, hb3⟩
    have hS : Below w.heap.size w w3 := tstep hb2 hb3 hb2.size
    clear hb2 hb3 HBY HER
    have hat := at_any v l p w3 (H.out.below hS) hb hbig
    have HAT := hide hat
    clear hat
    go_wp2_with fail
    refine HAT.out.mono ?_
    rintro e w4 ⟨rfl, hb4⟩
    have hS4 : Below w.heap.size w w4 := tstep hS hb4 hS.size
    simp only [got]
    have hrd := fun w' (hw' : Below w.heap.size w w') => read_any v l p w' (H.out.below hw') hb
    have hsrv := fun w' (hw' : Below w.heap.size w w') => error_any (Sz.rd l p).2.2 (Sz.rd l p).2.2 w' (hE.below hw')
    rw [eq_refl] at hsrv
    have HRD := hide hrd
    have HSV := hide hsrv
    clear hrd hsrv HAT hb4 hS
    have e1 := eq_refl (Sz.rd l p).1
    have e2 := eq_refl (Sz.rd l p).2.1
    generalize (Sz.rd l p).1 = r1 at *
    generalize (Sz.rd l p).2.1 = r2 at *
    generalize (Sz.rd l p).2.2 = r3 at *
    generalize errV r3 = ev at *
    go_wp2_with fail
    refine (HRD.out _ (hS4.alloc hS4.size _)).mono ?_
    rintro e w5 ⟨rfl, hb5⟩
    obtain ⟨z0, z1, z2, zf⟩ := three_kept hb5
    have hS5 : Below w.heap.size w w5 := tstep (hS4.alloc hS4.size _) hb5 (Nat.le_trans hS4.size (by simp))
    have h45 : w4.heap.size < w5.heap.size := Nat.lt_of_lt_of_le (by simp) hb5.size
    go_wp2_with fail
    refine (HSV.out _ hS5).mono ?_
    rintro e w6 ⟨rfl, hb6⟩
    have y0 : w6.cell? ⟨w4.heap.size, 0, none⟩ = some (.int .i64 r1) := by rw [hb6.cell (p := ⟨w4.heap.size, 0, none⟩) h45]; exact z0
    have y1 : w6.cell? ⟨w4.heap.size, 1, none⟩ = some (.int .i64 r2) := by rw [hb6.cell (p := ⟨w4.heap.size, 1, none⟩) h45]; exact z1
    have hS6 : Below w.heap.size w w6 := tstep hS5 hb6 hS5.size
    clear hb5 hb6 z0 z1 z2 zf HRD HSV
    go_wp2
    go_ret
    exact ⟨rfl, hS6⟩
  · go_enter Tryd.func3, Tryd.ntmps3
    go_wp2_with fail
    refine (rbytes_any n _ (by omega) hn.2).mono ?_
    rintro e w0 ⟨vr, rfl, ho0, hb0⟩
    go_wp2_with fail
    refine (write_yes n _ (by omega) hn.2).mono ?_
    rintro e w1 ⟨rfl, hx1, hb1⟩
    have hS1 : Below w.heap.size w w1 := tstep hb0 hb1 hb0.size
    have herr := error_any 0 0 w1 (hE.below hS1)
    have e2 : errV 0 = .nilIface := rfl
    rw [e2, eq_refl] at herr
    have HER := hide herr
    clear herr e2
    go_wp2_with fail
    refine HER.out.mono ?_
    rintro e w2 ⟨rfl, hb2⟩
    have hS2 : Below w.heap.size w w2 := tstep hS1 hb2 hS1.size
    have hby := bytes_any _ vr _ _ w2 (hx1.below hb2) ((ho0.has.below hb1).below hb2)
    rw [same_refl] at hby
    have HBY := hide hby
    clear hby
    go_wp2_with fail
    refine HBY.out.mono ?_
    rintro e w3 ⟨rfl, hb3⟩
    have hS : Below w.heap.size w w3 := tstep hS2 hb3 hS2.size
    clear hb0 hb1 hb2 hb3 HBY HER ho0 hx1 hS1 hS2
    have hat := at_any v l p w3 (H.out.below hS) hb hbig
    have HAT := hide hat
    clear hat
    go_wp2_with fail
    refine HAT.out.mono ?_
    rintro e w4 ⟨rfl, hb4⟩
    have hS4 : Below w.heap.size w w4 := tstep hS hb4 hS.size
    simp only [got]
    have hrd := fun w' (hw' : Below w.heap.size w w') => read_any v l p w' (H.out.below hw') hb
    have hsrv := fun w' (hw' : Below w.heap.size w w') => error_any (Sz.rd l p).2.2 (Sz.rd l p).2.2 w' (hE.below hw')
    rw [eq_refl] at hsrv
    have HRD := hide hrd
    have HSV := hide hsrv
    clear hrd hsrv HAT hb4 hS
    have e1 := eq_refl (Sz.rd l p).1
    have e2 := eq_refl (Sz.rd l p).2.1
    generalize (Sz.rd l p).1 = r1 at *
    generalize (Sz.rd l p).2.1 = r2 at *
    generalize (Sz.rd l p).2.2 = r3 at *
    generalize errV r3 = ev at *
    go_wp2_with fail
    refine (HRD.out _ (hS4.alloc hS4.size _)).mono ?_
    rintro e w5 ⟨rfl, hb5⟩
    obtain ⟨z0, z1, z2, zf⟩ := three_kept hb5
    have hS5 : Below w.heap.size w w5 := tstep (hS4.alloc hS4.size _) hb5 (Nat.le_trans hS4.size (by simp))
    have h45 : w4.heap.size < w5.heap.size := Nat.lt_of_lt_of_le (by simp) hb5.size
    go_wp2_with fail
    refine (HSV.out _ hS5).mono ?_
    rintro e w6 ⟨rfl, hb6⟩
    have y0 : w6.cell? ⟨w4.heap.size, 0, none⟩ = some (.int .i64 r1) := by rw [hb6.cell (p := ⟨w4.heap.size, 0, none⟩) h45]; exact z0
    have y1 : w6.cell? ⟨w4.heap.size, 1, none⟩ = some (.int .i64 r2) := by rw [hb6.cell (p := ⟨w4.heap.size, 1, none⟩) h45]; exact z1
    have hS6 : Below w.heap.size w w6 := tstep hS5 hb6 hS5.size
    clear hb5 hb6 z0 z1 z2 zf HRD HSV
    go_wp2
    go_ret
    exact ⟨rfl, hS6⟩
end Go.Proofs.YtgjolcfkefimcaaDoor
