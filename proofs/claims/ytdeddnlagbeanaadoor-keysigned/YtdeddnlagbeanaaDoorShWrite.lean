/- The contract of the hasher's Write: it takes the bytes, and turns nothing that was there but the hasher. -/
import Derived.Test.YtdeddnlagbeanaaDoorShAbs
import Derived.Deep.RegionHeld2
namespace Go.Proofs.YtdeddnlagbeanaaDoor
open Go.RowKit
set_option linter.unusedVariables false

/-- How long a slice is: for the loop's measure. -/
def lenOf : Value → Nat | .slice _ n _ => n | _ => 0

theorem size_u8 : (Tryd.prog.info? 5).map (·.size) = some 1 := by kernel_rfl

theorem size_u8' (w : World) : (sizeOf 5).run Tryd.prog w = .ok 1 w := by
  obtain ⟨i, hi, hz, hs, hby⟩ := info_u8
  simp [sizeOf, typeInfo, hi, hs]
theorem slice_rest (g o f : Nat) (w : World) (hf : f < 64) : (Instr.sliceAt 68 (.pointer (some ⟨g, o, none⟩)) (some (.int .i64 (f : Int))) none none).run Tryd.prog w = .ok (.slice (some ⟨g, o + f, none⟩) (64 - f) (64 - f)) w := by
  have hu := Tryd.underlying68
  have ha : Tryd.prog.arrayLen 68 = 64 := by simp [Program.arrayLen, hu]
  have he : Tryd.prog.elem 68 = 5 := by simp [Program.elem, hu]
  have := run_sliceAt_array_l (P := Tryd.prog) w 68 ⟨g, o, none⟩ (by rw [ha, he]; exact hu) .i64 (f : Int) (by omega) (by rw [ha]; omega)
  rw [this, he, size_u8', ha]
  simp [slicedAt, Addr.add_lit, show ¬ (64 : Nat) = f by omega]

theorem slice_from (a : Addr) (L C m : Nat) (w : World) (hm : m ≤ L) : (Instr.slice 24 (.slice (some a) L C) (some (.int .i64 (m : Int))) none none).run Tryd.prog w = .ok (.slice (if C = m then some a else some (a.add m)) (L - m) (C - m)) w := by
  have hu := Tryd.underlying24
  have hun : (underlying 24).run Tryd.prog w = .ok (.slice 5) w := by simp [underlying, hu]
  simp [Instr.slice, hun, Instr.sliceBounds, Instr.sliceBound, asIntOf, hm, Result.andThen]
theorem slice_from' (a : Addr) (L C m : Nat) (w : World) (hm : m ≤ L) : (Instr.sliceAt 24 (.slice (some a) L C) (some (.int .i64 (m : Int))) none none).run Tryd.prog w = .ok (.slice (if C = m then some a else some (a.add m)) (L - m) (C - m)) w := by
  have hu := Tryd.underlying24
  have he : Tryd.prog.elem 24 = 5 := by simp [Program.elem, hu]
  rw [run_sliceAt_slice (P := Tryd.prog) w _ _ _ _ _ (by rw [he]; exact hu), slice_from a L C m w hm]

/-- Bytes are copied into what a hasher has not mixed in yet. -/
theorem wpList_copy_hash {w : World} {ops : Array Oper} {rest : List Oper} {o : Oper} {a : Act} {Q : Exit → Act → World → Prop} (g : Nat) (st : Sh.St) (R : List Int) (n : Nat) (ty : TypeId) (hi : Is w g (hcells st R n) ty) (hgd : o.guard = none) (d s : Operand)
    (ho : o.op = .call { callee := .builtin .copy, args := #[d, s], argTypes := #[24, 24] }) (f L C : Nat) (ad : Addr) (hd : a.eval d = .slice (some ⟨g, 8 + f, none⟩) (64 - f) (64 - f)) (hs : a.eval s = .slice (some ad) L C)
    (hR : R.length = 64) (c : List Int) (m : Nat) (hcm : c.length = m) (hm : m = Nat.min L (64 - f)) (hf : f + m ≤ 64) (hsrc : ∀ j v, (vals c)[j]? = some v → w.cell? (ad.add j) = some v)
    (h : ∀ w2, Is w2 g (hcells st (splice R f c) n) ty → (∀ B w0, Only g B w0 w → Only g B w0 w2) → wpList Tryd.prog ops Q rest (a.put o.dst (.int .i64 (m : Int))) w2) : wpList Tryd.prog ops Q (o :: rest) a w := by
  have hl := hcells_length st R n hR
  refine wpList_copy_own hgd d s 24 24 ho 5 Tryd.underlying24 size_u8 g (8 + f) (64 - f) (64 - f) ad L C hd hs _ ty hi (vals c) (by rw [vals_length, hcm, hm]) hsrc (by rw [List.size_toArray, hl, vals_length]; omega) (vals_one _) ?_
  have e := hcells_splice st R c n f hR (by omega)
  have hg : goInt ((vals c).length : Nat) = .int .i64 (m : Int) := by rw [vals_length, hcm]; rfl
  rw [hg]
  refine h _ ?_ (fun B w0 h0 => h0.setRow (.inl rfl) _)
  rw [← e]
  exact Is.row hi _

set_option maxRecDepth 100000 in
set_option maxHeartbeats 800000 in
theorem hwrite_some (g b off cap : Nat) (all l : List Int) (st : Sh.St) (R : List Int) (w : World) (hA : Abs st R all) (hS : Is w g (hcells st R all.length) 75) (ht : Tab w) (hg : 1 < g)
    (hne : b ≠ g) (hbt : Sz.Byt l) (h0 : 0 < l.length) (hcap : l.length ≤ cap) (hm : cap ≤ maxLen) (hc : ∀ j, j < l.length → w.cell? ⟨b, off + j, none⟩ = some (.int .u8 (l.getD j 0))) (hlen : all.length + l.length < 2305843009213693952) :
    Calls Tryd.prog 37 #[.pointer (some ⟨g, 0, none⟩), .slice (some ⟨b, off, none⟩) l.length cap] w fun e w' => e = .returned (.tuple #[]) ∧
      (∃ st' R', Abs st' R' (all ++ l) ∧ Is w' g (hcells st' R' (all ++ l).length) 75) ∧ Only g w.heap.size w w' := by
  unfold maxLen at hm
  have hlt := hS.lt
  have hlb : b < w.heap.size := World.block_lt_of_cell? w ⟨b, off + 0, none⟩ (hc 0 h0)
  have HS := hide hS
  have HT := hide ht
  have HC := hide hc
  clear hS ht hc
  go_enter Tryd.func37, Tryd.ntmps37
  go_wp2
  go_loopw [1] (fun v wr => ∃ (k : Nat) (A : Option Addr) (st : Sh.St) (R : List Int) (n : Nat), k ≤ l.length ∧ v = .slice A (l.length - k) (cap - k) ∧ (k < l.length → A = some ⟨b, off + k, none⟩) ∧ n = all.length + k ∧ Abs st R (all ++ l.take k) ∧
      Is wr g (hcells st R n) 75 ∧ Only g w.heap.size w wr) (fun v _ => lenOf v)
  case atStart => exact ⟨0, _, st, R, all.length, by omega, rfl, fun _ => rfl, rfl, by simpa using hA, HS.out, Only.refl _ _ _⟩
  case round =>
    obtain ⟨k, A, st, R, n, hk, rfl, hAd, hn, hAb, hs1, ho1⟩ := hrel
    by_cases hkl : k < l.length
    · obtain rfl := hAd hkl
      have hnl : (all ++ l.take k).length = n := by rw [List.length_append, List.length_take]; omega
      have hR := hAb.len
      have hct := hs1.cell 72
      rw [hcells_taken _ _ _ hR] at hct
      have hft := hs1.frozen 72
      obtain ⟨L, hL⟩ : ∃ L, L = l.length - k := ⟨_, rfl⟩
      obtain ⟨C, hC⟩ : ∃ C, C = cap - k := ⟨_, rfl⟩
      rw [← hL, ← hC]
      have hL0 : 0 < L := by omega
      obtain ⟨f, hf⟩ : ∃ f, f = n % 64 := ⟨_, rfl⟩
      have hfi : (n : Int).tmod 64 = (f : Int) := by rw [Int.tmod_eq_emod_of_nonneg (by omega)]; omega
      have hf64 : f < 64 := by omega
      have hnb : n < 2305843009213693952 := by omega
      have hC47 : C ≤ 9223372036854775807 := by omega
      have hLC : L ≤ C := by omega
      have hsl := fun w => slice_rest g 8 f w hf64
      obtain ⟨m, hmm⟩ : ∃ m, m = Nat.min L (64 - f) := ⟨_, rfl⟩
      have hm1 : 0 < m := by rw [hmm]; exact Nat.lt_min.2 ⟨hL0, by omega⟩
      have hmL : m ≤ L := by rw [hmm]; exact Nat.min_le_left _ _
      have hmf : m ≤ 64 - f := by rw [hmm]; exact Nat.min_le_right _ _
      have hmf' : f + m ≤ 64 := by omega
      have hmC : m ≤ C := by omega
      have hmL' : (m : Int) ≤ (L : Int) := by omega
      have hnm : n + m < 2305843009213693952 := by omega
      obtain ⟨c, hcc⟩ : ∃ c, c = (l.drop k).take m := ⟨_, rfl⟩
      have hcl : c.length = m := by rw [hcc, List.length_take, List.length_drop]; omega
      have hcb : Sz.Byt c := by rw [hcc]; exact (hbt.drop _).take _
      have hsrc : ∀ j v, (vals c)[j]? = some v → wr.cell? ((⟨b, off + k, none⟩ : Addr).add j) = some v := fun j v hv => by
        have hj : j < c.length := by have := (List.getElem?_eq_some_iff.1 hv).1; rwa [vals_length] at this
        rw [Addr.add_lit, Nat.add_assoc, World.cell?_of_block (w := w) (ho1.block b hlb hne), HC.out (k + j) (by omega), ← hv, vals_get _ _ hj, hcc]
        simp only [List.getD, List.getElem?_take, List.getElem?_drop]
        rw [if_pos (by omega)]
      have hnx : all ++ l.take (k + m) = (all ++ l.take k) ++ c := by rw [hcc, List.append_assoc, ← List.take_add]
      have HL := hide hL
      have HCc := hide hC
      have HF := hide hf
      have HN := hide hn
      have HNL := hide hnl
      have HS1 := hide hs1
      have HM := hide hmm
      have HCL := hide hcl
      have HSRC := hide hsrc
      have HNX := hide hnx
      clear hL hC hf hn hnl hs1 HS hA hAd hmm hcl hsrc hcc hnx
      obtain ⟨A', hA'⟩ : ∃ A', A' = (if C = m then some (⟨b, off + k, none⟩ : Addr) else some ((⟨b, off + k, none⟩ : Addr).add m)) := ⟨_, rfl⟩
      have hsl2 := fun w => slice_from ⟨b, off + k, none⟩ L C m w hmL
      have hsl3 := fun w => slice_from' ⟨b, off + k, none⟩ L C m w hmL
      rw [← hA'] at hsl2 hsl3
      have HA' : Hid (m < L → A' = some ⟨b, off + (k + m), none⟩) := fun h => by rw [hA', if_neg (by omega), Addr.add_lit, Nat.add_assoc]
      clear hA'
      by_cases hfull : f + m = 64
      · have hfi2 : ((f : Int) + (m : Int) == 64) = true := by simp; omega
        go_wp2_with (refine wpList_copy_hash g st R n 75 HS1.out rfl (.tmp 19) (.tmp 20) rfl f L C ⟨b, off + k, none⟩ rfl rfl hR c m HCL.out HM.out hmf' HSRC.out ?_; intro w2 hs2 ho2; have hct2 := hs2.cell 72; rw [hcells_taken _ _ _ (splice_len R c f hR (by rw [HCL.out]; exact hmf'))] at hct2; have hft2 := hs2.frozen 72; have HS2 := hide hs2; have HO2 := hide ho2; clear hs2 ho2)
        have hs3 := HS2.out.set 72 (.int .u64 ((n : Int) + (m : Int)))
        rw [show (n : Int) + (m : Int) = ((n + m : Nat) : Int) by omega, hcells_set _ _ _ _ (splice_len R c f hR (by rw [HCL.out]; exact hmf'))] at hs3
        have ho3 := (HO2.out _ _ ho1).setCell (p := ⟨g, 72, none⟩) (.inl rfl) (.int .u64 ((n + m : Nat) : Int))
        have hE : Abs (Sh.mix st (splice R f c)) (splice R f c) (all ++ l.take (k + m)) := by
          rw [HNX.out]
          have := hAb.full hcb (by rw [HNL.out, HCL.out, ← HF.out]; exact hfull)
          rwa [HNL.out, ← HF.out] at this
        have ht3 := HT.out.only ho3 (by omega) hg
        have hR3 : (splice R f c).length = 64 := splice_len R c f hR (by rw [HCL.out]; exact hmf')
        have hB3 : Sz.Byt (splice R f c) := splice_byt f hAb.byt hcb
        have hok3 := hAb.ok
        rw [show (n : Int) + (m : Int) = ((n + m : Nat) : Int) by omega]
        generalize w2.setCell ⟨g, 72, none⟩ (.int .u64 ((n + m : Nat) : Int)) = w3 at *
        generalize splice R f c = R' at *
        have hrg := hcells_range hs3
        have hvl : (Tryd.prog.info? 68).map (·.size) = some (vals R').length := by rw [vals_length, hR3]; exact size_rest
        have hul := Tryd.underlying68
        have HS3 := hide hs3
        have HO3 := hide ho3
        have HT3 := hide ht3
        clear hs3 ho3 ht3 HS2 HO2 HT HC hct2 hft2 hct hft
        go_region_held2 (fun W : World => W.rangeAt g 8 (vals R')) ((first | exact hrg | (exact hcells_range (by assumption)))) ((go_at_call 46; refine (mix_any g st (vals R' ++ [.int .u64 ((n + m : Nat) : Int)]) 75 R' _ ?_ hok3 hR3 hB3 ?_ hg).mono ?_; exact HS3.out; exact HT3.out; rintro e w4 ⟨rfl, hs4, ho4⟩))
        go_wp2
        go_roundw
        case rel =>
          refine ⟨k + m, A', Sh.mix st R', R', n + m, by have := HL.out; omega, ?_, fun h => HA'.out (by have := HL.out; omega), by have := HN.out; omega, hE, hs4, HO3.out.drew.trans (ho4.mono (by exact HO3.out.size))⟩
          have h1 := HL.out
          have h2 := HCc.out
          rw [show L - m = l.length - (k + m) by omega, show C - m = cap - (k + m) by omega]
        case measure => simp [lenOf]; omega
      · have hfi2 : ((f : Int) + (m : Int) == 64) = false := by simp; omega
        go_wp2_with (refine wpList_copy_hash g st R n 75 HS1.out rfl (.tmp 19) (.tmp 20) rfl f L C ⟨b, off + k, none⟩ rfl rfl hR c m HCL.out HM.out hmf' HSRC.out ?_; intro w2 hs2 ho2; have hct2 := hs2.cell 72; rw [hcells_taken _ _ _ (splice_len R c f hR (by rw [HCL.out]; exact hmf'))] at hct2; have hft2 := hs2.frozen 72; have HS2 := hide hs2; have HO2 := hide ho2; clear hs2 ho2)
        have hs3 := HS2.out.set 72 (.int .u64 ((n : Int) + (m : Int)))
        rw [show (n : Int) + (m : Int) = ((n + m : Nat) : Int) by omega, hcells_set _ _ _ _ (splice_len R c f hR (by rw [HCL.out]; exact hmf'))] at hs3
        have ho3 := (HO2.out _ _ ho1).setCell (p := ⟨g, 72, none⟩) (.inl rfl) (.int .u64 ((n + m : Nat) : Int))
        have hE : Abs st (splice R f c) (all ++ l.take (k + m)) := by
          rw [HNX.out]
          have := hAb.part hcb (by rw [HNL.out, HCL.out, ← HF.out]; omega)
          rwa [HNL.out, ← HF.out] at this
        go_roundw
        case rel =>
          rw [show (n : Int) + (m : Int) = ((n + m : Nat) : Int) by omega]
          refine ⟨k + m, A', st, splice R f c, n + m, by have := HL.out; omega, ?_, fun h => HA'.out (by have := HL.out; omega), by have := HN.out; omega, hE, hs3, ho3⟩
          have h1 := HL.out
          have h2 := HCc.out
          rw [show L - m = l.length - (k + m) by omega, show C - m = cap - (k + m) by omega]
        case measure => simp [lenOf]; omega
    · have hk' : k = l.length := by omega
      have hL0 : l.length - k = 0 := by omega
      rw [hL0]
      have HE : Hid (Abs st R (all ++ l)) := by show Abs st R (all ++ l); rw [hk', List.take_length] at hAb; exact hAb
      have HNN : Hid (n = (all ++ l).length) := by show n = _; rw [List.length_append]; omega
      have HS1 := hide hs1
      clear hs1 hAb hn hk' hL0 hAd HS HT HC
      go_wp2
      go_end0
      refine ⟨rfl, ⟨st, R, HE.out, ?_⟩, ho1⟩
      rw [← HNN.out]
      exact HS1.out
end Go.Proofs.YtdeddnlagbeanaaDoor
