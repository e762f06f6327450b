/- A lock is done op by op; and what must be left. -/
import Derived.Test.YtkdihbgjeanjdaaDoorLkF
namespace Go.Proofs.YtkdihbgjeanjdaaDoor
open Go.RowKit
set_option linter.unusedVariables false

theorem St.own_lt {w : World} {R base : Nat} {m : List Int} {h : Int} {K : List (List Int × Value)} (s : St w R base m h K) : ∀ q, (handOf w R).ownBlock = some q → base ≤ q := fun q hq => (World.ownsRow.lt s.own q hq).1
/-- Bytes below the run's own are no part of it. -/
theorem has_under {w0 w : World} {R base : Nat} {m : List Int} {h : Int} {K : List (List Int × Value)} {v : Value} {l : List Int} (s : St w R base m h K) (hv : Has w0 v l) (h0 : w0.heap.size ≤ base) (hb : Below w0.heap.size w0 w) : HasH R w v l :=
  (hv.x (X := fun b => b < base) (fun b hb => by omega)).move fun b hlt hX => ⟨hb.block b hlt, by have := s.lay; omega, fun e => by have := s.own_lt _ e; omega⟩

set_option maxRecDepth 100000 in
set_option maxHeartbeats 8000000 in
theorem doAll_some (R base : Nat) (m : List Int) (h : Int) (K : List (List Int × Value)) (L : List (Lk.Op × Value)) (b off cap : Nat) (w0 w : World) (s : St w R base m h K) (ht : Tab w) (hw : 1 < base) (h60 : L.length ≤ 60) (hr : w0.rangeAt b off (opCells L)) (hb : b < w0.heap.size)
    (hov : ∀ p ∈ L, Has w0 p.2 p.1.data ∧ Sz.Byt p.1.data) (h0 : w0.heap.size ≤ base) (hbel : Below w0.heap.size w0 w) (hf : Lk.opsFault (opsOf L) = 0) :
    Calls Tryd.prog 45 #[.pointer (some ⟨R, 0, none⟩), .slice (some ⟨b, off, none⟩) L.length cap] w fun e w' => Does R base m h (Lk.exec m h (opsOf L) (stk K)) e w w' := by
  have HS := hide s
  have HT := hide ht
  have HR := hide hr
  have HB := hide hb
  have HOV := hide hov
  have H0 := hide h0
  have HBEL := hide hbel
  have HF : Hid (∀ p ∈ L, Lk.opFault p.1 = 0) := hide (fun p hp => Lk.opsFault_mem _ hf p.1 (List.mem_map_of_mem hp))
  have HW := hide hw
  clear s ht hr hb hov h0 hbel hf hw
  obtain ⟨O, hO⟩ : ∃ O, O = Lk.exec m h (opsOf L) (stk K) := ⟨_, rfl⟩
  rw [← hO]
  have HO := hide hO
  clear hO
  generalize hn : L.length = n at *
  have HN := hide hn
  clear hn
  go_enter Tryd.func45, Tryd.ntmps45
  go_wp2
  go_loopw [4] (fun i wr => ∃ (k : Nat) (K' : List (List Int × Value)), k ≤ n + 1 ∧ i = .int .i64 k ∧ St wr R base m h K' ∧ Below base w wr ∧ Lk.exec m h ((opsOf L).drop k) (stk K') = O) (fun i _ => n + 1 - (intOf i).toNat)
  case atStart => exact ⟨0, K, by omega, rfl, HS.out, Below.refl _ _, HO.out.symm⟩
  case round =>
    obtain ⟨k, K', hk, rfl, hs, hb, ha⟩ := hrel
    have HSW := hide hs
    have HBW := hide hb
    have HRK : Hid (wr.rangeAt b off (opCells L)) := hide (range_keep HR.out (HBEL.out.trans (hb.mono H0.out)) HB.out)
    clear hs hb
    by_cases hlt : k < n
    · have hkL : k < L.length := by rw [HN.out]; exact hlt
      obtain ⟨hc0, hc1, hc2⟩ := range_op HRK.out k hkL
      rw [opsOf_drop L k hkL] at ha
      have HA := hide ha
      clear ha
      by_cases h11 : L[k].1.op = 11
      · have HA2 := HA.out
        rw [Lk.exec_if _ _ _ _ _ h11] at HA2
        rw [h11] at hc0
        clear HA h11 hc1 hc2
        rcases snoc_cases K' with rfl | ⟨K', p, rfl⟩
        · have HO2 : Hid (O = .err 7) := hide HA2.symm
          have HTK := hide (take_none R base m h _ HSW.out)
          clear HA2
          go_wp2_with fail
          refine HTK.out.mono ?_
          rintro e w1 ⟨rfl, rfl⟩
          exact ⟨rfl, by rw [HO2.out]; exact Does.err HBW.out⟩
        · rw [show p = (p.1, p.2) from rfl, stk_snoc] at HA2
          have HA3 : Hid ((if Lk.isTrue p.1 then Lk.exec m h ((opsOf L).drop (k + 1)) (stk K') else Lk.exec m h (Lk.skip 0 ((opsOf L).drop (k + 1))) (stk K')) = O) := hide HA2
          clear HA2
          have HTK := hide (take_ok R base m h K' p _ HSW.out)
          obtain ⟨pa, pc, hpe, _, _⟩ := (HSW.out.has p (by simp)).1.has.shape
          obtain ⟨px, pv⟩ := p
          simp only at hpe
          subst hpe
          cases hT : Lk.isTrue px with
          | true =>
            have HA4 : Hid (Lk.exec m h ((opsOf L).drop (k + 1)) (stk K') = O) := hide (by have := HA3.out; simp only [hT, if_true] at this; exact this)
            clear HA3
            go_wp2_with fail
            refine HTK.out.mono ?_
            rintro e w1 ⟨rfl, t1, t2, t3, t4, t5⟩
            have HI := hide (isTrue_any _ px w1 t2.has)
            rw [hT] at HI
            have HS1 := hide t1
            have HB1 := hide (HBW.out.trans t4)
            clear t1 t2 t3 t4 t5 hT
            go_wp2_with fail
            refine HI.out.mono ?_
            rintro e w2 ⟨rfl, rfl⟩
            go_wp2
            go_roundw
            case rel => exact ⟨k + 1, K', by omega, by go_num, HS1.out, HB1.out, HA4.out⟩
            case measure => simp [intOf]; omega
          | false =>
            have HA4 : Hid (Lk.exec m h (Lk.skip 0 ((opsOf L).drop (k + 1))) (stk K') = O) := hide (by have := HA3.out; simp only [hT, Bool.false_eq_true, if_false] at this; exact this)
            clear HA3
            go_wp2_with fail
            refine HTK.out.mono ?_
            rintro e w1 ⟨rfl, t1, t2, t3, t4, t5⟩
            have HI := hide (isTrue_any _ px w1 t2.has)
            rw [hT] at HI
            have HS1 := hide t1
            have HB1 := hide (HBW.out.trans t4)
            have HWE := hide (wayEnd_any L b off cap k w1 hkL (by rw [HN.out]; unfold maxLen; omega) (range_keep HRK.out (t4.mono H0.out) HB.out))
            rw [HN.out] at HWE
            clear t1 t2 t3 t4 t5 hT
            go_wp2_with fail
            refine HI.out.mono ?_
            rintro e w2 ⟨rfl, rfl⟩
            go_wp2_with fail
            refine HWE.out.mono ?_
            rintro e w2 ⟨rfl, q, rfl, q1, q2, q3⟩
            have HQ3 := hide q3
            clear q3
            go_wp2
            go_roundw
            case rel => exact ⟨q + 1, K', by omega, by go_num, HS1.out, HB1.out, by rw [HQ3.out]; exact HA4.out⟩
            case measure => simp [intOf]; omega
      by_cases h12 : L[k].1.op = 12
      · have HA2 := HA.out
        rw [Lk.exec_else _ _ _ _ _ h12] at HA2
        have HA4 := hide HA2
        rw [h12] at hc0
        clear HA HA2 h11 h12 hc1 hc2
        have HWE := hide (wayEnd_any L b off cap k wr hkL (by rw [HN.out]; unfold maxLen; omega) HRK.out)
        rw [HN.out] at HWE
        go_wp2_with fail
        refine HWE.out.mono ?_
        rintro e w2 ⟨rfl, q, rfl, q1, q2, q3⟩
        have HQ3 := hide q3
        clear q3
        go_wp2
        go_roundw
        case rel => exact ⟨q + 1, K', by omega, by go_num, HSW.out, HBW.out, by rw [HQ3.out]; exact HA4.out⟩
        case measure => simp [intOf]; omega
      by_cases h13 : L[k].1.op = 13
      · have HA2 := HA.out
        rw [Lk.exec_end _ _ _ _ _ h13] at HA2
        have HA4 := hide HA2
        rw [h13] at hc0
        clear HA HA2 h11 h12 h13 hc1 hc2
        go_wp2
        go_roundw
        case rel => exact ⟨k + 1, K', by omega, by go_num, HSW.out, HBW.out, HA4.out⟩
        case measure => simp [intOf]; omega
      · have HA2 := HA.out
        rw [Lk.exec_do _ _ _ _ _ h11 h12 h13] at HA2
        obtain ⟨ho1, ho2⟩ := HOV.out L[k] (List.getElem_mem hkL)
        have HD := hide (do_any R base m h K' wr L[k].1 L[k].2 HSW.out (HT.out.below HBW.out HW.out) HW.out (HF.out L[k] (List.getElem_mem hkL)) h11 h12 h13 (has_under HSW.out ho1 H0.out (HBEL.out.trans (HBW.out.mono H0.out))) ho2)
        obtain ⟨oa, oc, hoe, _, _⟩ := ho1.shape
        have e11 : (L[k].1.op == 11) = false := by simpa using h11
        have e12 : (L[k].1.op == 12) = false := by simpa using h12
        have e13 : (L[k].1.op == 13) = false := by simpa using h13
        obtain ⟨r, hr⟩ : ∃ r, r = Lk.doOp m h L[k].1 (stk K') := ⟨_, rfl⟩
        rw [← hr] at HA2 HD
        have HA4 := hide HA2
        rw [hoe] at hc2 HD
        clear HA HA2 h11 h12 h13 ho1 ho2 hoe hr
        generalize L[k].1.data.length = ol at *
        generalize L[k].1.op = op at *
        generalize L[k].1.n = on at *
        go_wp2_with fail
        refine HD.out.mono ?_
        intro e w1 hd
        cases r with
        | err c =>
          obtain ⟨rfl, h1⟩ := hd
          have HO2 : Hid (O = .err c) := hide HA4.out.symm
          exact ⟨rfl, by rw [HO2.out]; exact Does.err (HBW.out.trans h1)⟩
        | ok s1 =>
          obtain ⟨rfl, K1, h1, h2, h3⟩ := hd
          have HA5 : Hid (Lk.exec m h ((opsOf L).drop (k + 1)) (stk K1) = O) := hide (by rw [h2]; exact HA4.out)
          have HS1 := hide h1
          have HB1 := hide (HBW.out.trans h3)
          clear h1 h2 h3 HA4
          go_wp2
          go_roundw
          case rel => exact ⟨k + 1, K1, by omega, by go_num, HS1.out, HB1.out, HA5.out⟩
          case measure => simp [intOf]; omega
    · have hkn : ¬ (k : Int) < n := by omega
      rw [List.drop_eq_nil_of_le (by rw [opsOf_length, HN.out]; omega), Lk.exec_nil] at ha
      have HO2 : Hid (O = .ok (stk K')) := hide ha.symm
      clear ha
      go_wp2
      go_end0
      exact (by rw [HO2.out]; exact Does.ok HSW.out rfl HBW.out)

theorem doAll_any (R base : Nat) (m : List Int) (h : Int) (K : List (List Int × Value)) (L : List (Lk.Op × Value)) (lv : Value) (w0 w : World) (s : St w R base m h K) (ht : Tab w) (hw : 1 < base) (h60 : L.length ≤ 60) (hl : HasOps w0 lv L)
    (h0 : w0.heap.size ≤ base) (hbel : Below w0.heap.size w0 w) (hf : Lk.opsFault (opsOf L) = 0) :
    Calls Tryd.prog 45 #[.pointer (some ⟨R, 0, none⟩), lv] w fun e w' => Does R base m h (Lk.exec m h (opsOf L) (stk K)) e w w' := by
  rcases hl.1 with ⟨a, cap, rfl, rfl⟩ | ⟨b, off, cap, rfl, k0, k1, k2, k3, hc⟩
  · have e : Lk.exec m h (opsOf []) (stk K) = .ok (stk K) := Lk.exec_nil _ _ _
    rw [e]
    have HQ := hide (Does.ok s rfl (Below.refl base w))
    clear s ht hl e hbel hf
    go_enter Tryd.func45, Tryd.ntmps45
    go_wp2
    refine wp_loop_rounds 1 ?_
    rw [rounds_succ]
    go_wp2
    go_end0
    exact HQ.out
  · exact doAll_some R base m h K L b off cap w0 w s ht hw h60 hc k3 hl.2 h0 hbel hf

/-- What the run's end asks. -/
def Left (s : List (List Int)) : Bool := match s with
  | [t] => Lk.isTrue t
  | _ => false
theorem ending_left (s : List (List Int)) : Lk.ending (.ok s) = if Left s then 0 else 7 := by
  unfold Lk.ending Left
  match s with
  | [] => rfl
  | [t] => rfl
  | _ :: _ :: _ => rfl

set_option maxRecDepth 100000 in
set_option maxHeartbeats 1600000 in
theorem end_any (R base : Nat) (m : List Int) (h : Int) (K : List (List Int × Value)) (w : World) (s : St w R base m h K) :
    Calls Tryd.prog 46 #[.pointer (some ⟨R, 0, none⟩)] w fun e w' => e = (if Left (stk K) then .returned (.tuple #[]) else .panicked (pan 7)) ∧ Below base w w' := by
  obtain ⟨a, cap, e⟩ := s.form
  have hc := s.cell
  rw [e] at hc
  have h30 := s.few
  clear e
  by_cases h1 : K.length = 1
  · obtain ⟨p, rfl⟩ : ∃ p, K = [] ++ [p] := by
      match K, h1 with
      | [p], _ => exact ⟨p, rfl⟩
    have e1 : Left (stk ([] ++ [p])) = Lk.isTrue p.1 := rfl
    rw [e1]
    have HTK := hide (take_ok R base m h [] p _ s)
    obtain ⟨pa, pc, hpe, _, _⟩ := (s.has p (by simp)).1.has.shape
    obtain ⟨px, pv⟩ := p
    simp only at hpe
    subst hpe
    clear s e1
    rw [h1] at hc
    cases hT : Lk.isTrue px with
    | true =>
      go_enter Tryd.func46, Tryd.ntmps46
      go_wp2_with fail
      refine (must_true _ w).mono ?_
      rintro e w1 ⟨rfl, rfl⟩
      go_wp2_with fail
      refine HTK.out.mono ?_
      rintro e w1 ⟨rfl, t1, t2, t3, t4, t5⟩
      have HI := hide (isTrue_any _ px w1 t2.has)
      rw [hT] at HI
      have HB1 := hide t4
      clear t1 t2 t3 t4 t5 hT
      go_wp2_with fail
      refine HI.out.mono ?_
      rintro e w2 ⟨rfl, rfl⟩
      go_wp2_with fail
      refine (must_true _ _).mono ?_
      rintro e w2 ⟨rfl, rfl⟩
      go_wp2
      go_end0
      exact ⟨rfl, HB1.out⟩
    | false =>
      go_enter Tryd.func46, Tryd.ntmps46
      go_wp2_with fail
      refine (must_true _ w).mono ?_
      rintro e w1 ⟨rfl, rfl⟩
      go_wp2_with fail
      refine HTK.out.mono ?_
      rintro e w1 ⟨rfl, t1, t2, t3, t4, t5⟩
      have HI := hide (isTrue_any _ px w1 t2.has)
      rw [hT] at HI
      have HB1 := hide t4
      clear t1 t2 t3 t4 t5 hT
      go_wp2_with fail
      refine HI.out.mono ?_
      rintro e w2 ⟨rfl, rfl⟩
      go_wp2_with fail
      refine (must_false _ _).mono ?_
      rintro e w2 ⟨rfl, rfl⟩
      exact ⟨rfl, rfl, HB1.out⟩
  · have e1 : Left (stk K) = false := by
      have hl : (stk K).length ≠ 1 := by rw [stk_length]; exact h1
      match hs : stk K with
      | [] => rfl
      | [t] => rw [hs] at hl; exact absurd rfl hl
      | _ :: _ :: _ => rfl
    rw [e1]
    have h1' : ((K.length : Int) == 1) = false := by rw [beq_eq_false_iff_ne]; omega
    clear s e1 h1
    generalize K.length = kl at *
    go_enter Tryd.func46, Tryd.ntmps46
    go_wp2_with fail
    refine (must_false _ w).mono ?_
    rintro e w1 ⟨rfl, rfl⟩
    exact ⟨rfl, rfl, Below.refl _ _⟩
end Go.Proofs.YtkdihbgjeanjdaaDoor
