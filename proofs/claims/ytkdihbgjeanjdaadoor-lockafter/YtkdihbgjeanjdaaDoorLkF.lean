/- One op is done: many signatures, and what waits; and any op. -/
import Derived.Test.YtkdihbgjeanjdaaDoorLkE
namespace Go.Proofs.YtkdihbgjeanjdaaDoor
open Go.RowKit
set_option linter.unusedVariables false

section
variable (R base : Nat) (m : List Int) (h : Int) (K : List (List Int × Value)) (n : Int) (a : Option Addr) (len cap : Nat) (w : World)

set_option maxRecDepth 100000 in
set_option maxHeartbeats 1600000 in
theorem do_many (N : Nat) (s : St w R base m h K) (ht : Tab w) (hw : 1 < base) (hN1 : 1 ≤ N) (hN9 : N ≤ 9) :
    Calls Tryd.prog 59 #[.pointer (some ⟨R, 0, none⟩), .agg #[.int .i64 9, .int .i64 (N : Int), .slice a len cap]] w fun e w' => Does R base m h (match stk K with | [] => .err 7 | k :: s' => if s'.length < N then .err 7 else Lk.tell (Lk.many m k (s'.take N).reverse) (s'.drop N)) e w w' := by
  have hb0 := below_alloc w (.cells #[.int .i64 9, .int .i64 (N : Int), .slice a len cap] 38)
  have s0 := s.below hb0
  have HB : Hid (Below base w (w.alloc (.cells #[.int .i64 9, .int .i64 (N : Int), .slice a len cap] 38))) := hide (hb0.mono (Nat.le_trans s.lay (Nat.le_of_lt s.is.lt)))
  have HTAB := hide ht
  have HRL := hide s.is.lt
  clear s hb0 ht
  rcases snoc_cases K with rfl | ⟨K, p, rfl⟩
  · show Calls _ _ _ _ fun e w' => Does R base m h (.err 7) e w w'
    have HT := hide (take_none R base m h _ s0)
    clear s0
    go_enter Tryd.func59, Tryd.ntmps59
    go_wp2_with fail
    refine HT.out.mono ?_
    rintro e w1 ⟨rfl, rfl⟩
    exact ⟨rfl, Does.err HB.out⟩
  · have e1 : (match stk (K ++ [p]) with | [] => Lk.Out.err 7 | k :: s' => if s'.length < N then .err 7 else Lk.tell (Lk.many m k (s'.take N).reverse) (s'.drop N)) = if K.length < N then .err 7 else Lk.tell (Lk.many m p.1 ((K.drop (K.length - N)).map Prod.fst)) (stk (K.take (K.length - N))) := by
      rw [show p = (p.1, p.2) from rfl, stk_snoc]
      show (if (stk K).length < N then Lk.Out.err 7 else _) = _
      rw [stk_length]
      by_cases hlt : K.length < N
      · rw [if_pos hlt, if_pos hlt]
      · rw [if_neg hlt, if_neg hlt]
        congr 1
        · congr 1
          simp [stk, List.take_reverse, List.map_drop]
        · simp [stk, List.drop_reverse, List.map_take]
    rw [e1]
    have hne : w.heap.size ≠ R := by have := HRL.out; omega
    have HNE := hide hne
    clear hne e1
    have hcb : (w.alloc (.cells #[.int .i64 9, .int .i64 (N : Int), .slice a len cap] 38)).cell? ⟨w.heap.size, 1, none⟩ = some (.int .i64 (N : Int)) := by rw [World.cell?_alloc_new]; rfl
    have HCB := hide hcb
    clear hcb
    by_cases hlt : K.length < N
    · rw [if_pos hlt]
      have HT := hide (take_ok R base m h K p _ s0)
      have hKl : K.length < 30 := by have := s0.few; simp at this; omega
      have hpb := (s0.has p (by simp)).2
      have HPB := hide hpb
      obtain ⟨pa, pc, hpe, _, _⟩ := (s0.has p (by simp)).1.has.shape
      obtain ⟨px, pv⟩ := p
      simp only at hpe
      subst hpe
      clear s0 hpb
      go_enter Tryd.func59, Tryd.ntmps59
      go_wp2_with fail
      refine HT.out.mono ?_
      rintro e w1 ⟨rfl, t1, t2, t3, t4, t5⟩
      have HS1 := hide t1
      have HX1 := hide t2
      have HB1 := hide (HB.out.trans t4)
      have hcb1 : w1.cell? ⟨w.heap.size, 1, none⟩ = some (.int .i64 (N : Int)) := by rw [World.cell?_of_block (a := ⟨w.heap.size, 1, none⟩) (t5 _ HNE.out)]; exact HCB.out
      clear t1 t2 t3 t4 t5
      try simp only at HX1
      have HT2 := hide (takeSome_few R base m h K N w1 HS1.out hlt (by omega))
      clear hlt
      go_wp2_with fail
      refine HT2.out.mono ?_
      rintro e w2 ⟨rfl, rfl⟩
      exact ⟨rfl, Does.err HB1.out⟩
    · have h30 : K.length < 30 := by have := s0.few; simp at this; omega
      rw [if_neg hlt, tell_stk _ _ (by rw [List.length_take]; omega)]
      obtain ⟨d, hd⟩ : ∃ d : Bool, d = Lk.many m p.1 ((K.drop (K.length - N)).map Prod.fst) := ⟨_, rfl⟩
      rw [← hd]
      have HD := hide hd
      clear hd
      have hSl : (K.drop (K.length - N)).length = N := by rw [List.length_drop]; omega
      have HSL := hide hSl
      have hTl : (K.take (K.length - N)).length < 30 := by rw [List.length_take]; omega
      have HTL := hide hTl
      have HLT := hide hlt
      clear hSl hTl hlt h30
      have HT := hide (take_ok R base m h K p _ s0)
      have hKl : K.length < 30 := by have := s0.few; simp at this; omega
      have hpb := (s0.has p (by simp)).2
      have HPB := hide hpb
      obtain ⟨pa, pc, hpe, _, _⟩ := (s0.has p (by simp)).1.has.shape
      obtain ⟨px, pv⟩ := p
      simp only at hpe
      subst hpe
      clear s0 hpb
      go_enter Tryd.func59, Tryd.ntmps59
      go_wp2_with fail
      refine HT.out.mono ?_
      rintro e w1 ⟨rfl, t1, t2, t3, t4, t5⟩
      have HS1 := hide t1
      have HX1 := hide t2
      have HB1 := hide (HB.out.trans t4)
      have hcb1 : w1.cell? ⟨w.heap.size, 1, none⟩ = some (.int .i64 (N : Int)) := by rw [World.cell?_of_block (a := ⟨w.heap.size, 1, none⟩) (t5 _ HNE.out)]; exact HCB.out
      clear t1 t2 t3 t4 t5
      try simp only at HX1
      have HT2 := hide (takeSome_ok R base m h K N w1 HS1.out (by have := HLT.out; omega) (by omega))
      have HSM : Hid (∀ q ∈ K.drop (K.length - N), Sm q.1) := hide (fun q hq => (HS1.out.has q (List.mem_of_mem_drop hq)).2)
      go_wp2_with fail
      refine HT2.out.mono ?_
      rintro e w2 ⟨g, c, rfl, hg, hc1, hc2, hr, hs, hh, hk, hb, hq⟩
      have HX2 := hide (hk _ _ HX1.out)
      have HS2 := hide hs
      have HB2 := hide (HB1.out.trans hb)
      have HASK : Hid (Calls Tryd.prog 80 #[.pointer (some ⟨R, 0, none⟩), .slice (some ⟨g, K.length - N, none⟩) N c, .slice pa px.length pc] w2 fun e w' => e = .returned (.bool d) ∧ Below w2.heap.size w2 w') := by
        have hd := HD.out
        try simp only at hd
        rw [hd, Lk.many]
        have hpm : px.length ≤ maxLen := by have := HPB.out.2; unfold maxLen; omega
        by_cases hk0 : px.length = 0 ∨ px.length % 32 ≠ 0
        · rw [if_pos hk0]
          refine (areSigned_none _ _ pa px pc w2 hpm hk0).mono ?_
          rintro e w3 ⟨rfl, rfl⟩
          exact ⟨rfl, Below.refl _ _⟩
        · rw [if_neg hk0]
          have hc0 : ¬ px.length = 0 := fun e => hk0 (.inl e)
          have hc32 : px.length % 32 = 0 := by apply Classical.byContradiction; intro e; exact hk0 (.inr e)
          have := areSigned_some R base m h (K.take (K.length - N)) (K.drop (K.length - N)) px g (K.length - N) c pa pc w2 hs hr hg (by rw [HSL.out]; omega) (by rw [HSL.out]; omega) (fun q hq2 => ⟨(hh q hq2).has, (HSM.out q hq2).1⟩) HX2.out.has HPB.out.1 hc0 hc32 (HTAB.out.below HB2.out hw) (Nat.lt_of_lt_of_le hw (Nat.le_trans hs.lay (Nat.le_of_lt hs.is.lt)))
          rw [HSL.out] at this
          exact this
      clear hr hs hh hk hb hq hg HD
      go_wp2_with fail
      refine HASK.out.mono ?_
      rintro e w3 ⟨rfl, hb3⟩
      have HT3 := hide (tell_ok R base m h (K.take (K.length - N)) d w3 (HS2.out.below hb3) HTL.out)
      have HB3 := hide (HB2.out.trans (hb3.mono (Nat.le_trans HS2.out.lay (Nat.le_of_lt HS2.out.is.lt))))
      clear hb3
      go_wp2_with fail
      refine HT3.out.mono ?_
      rintro e w4 ⟨rfl, v4, t1, t2, t3⟩
      have HQ := hide (Does.ok t1 (stk_snoc _ _ _) (HB3.out.trans t3))
      clear t1 t2 t3
      go_wp2
      go_end0
      exact HQ.out

set_option maxRecDepth 100000 in
set_option maxHeartbeats 1600000 in
theorem do_after (s : St w R base m h K) (hn0 : 0 ≤ n) (hn1 : n ≤ 1073741824) :
    Calls Tryd.prog 59 #[.pointer (some ⟨R, 0, none⟩), .agg #[.int .i64 10, .int .i64 n, .slice a len cap]] w fun e w' => Does R base m h (if h < n then .err 8 else .ok (stk K)) e w w' := by
  have hb0 := below_alloc w (.cells #[.int .i64 10, .int .i64 n, .slice a len cap] 38)
  have s0 := s.below hb0
  have HB : Hid (Below base w (w.alloc (.cells #[.int .i64 10, .int .i64 n, .slice a len cap] 38))) := hide (hb0.mono (Nat.le_trans s.lay (Nat.le_of_lt s.is.lt)))
  have hhc := s0.hcell
  have HS0 := hide s0
  clear s hb0 s0
  by_cases hlt : h < n
  · rw [if_pos hlt]
    have hd : decide (n > h) = true := decide_eq_true hlt
    clear hlt
    go_enter Tryd.func59, Tryd.ntmps59
    go_wp2
    go_region
    go_wp2
    exact ⟨rfl, Does.err HB.out.drew⟩
  · rw [if_neg hlt]
    have hd : decide (n > h) = false := decide_eq_false (by omega)
    clear hlt
    go_enter Tryd.func59, Tryd.ntmps59
    go_wp2
    go_region
    go_wp2
    go_end0
    exact Does.ok (HS0.out.below ((Below.refl _ _).drew)) rfl HB.out.drew

theorem do_any (o : Lk.Op) (v : Value) (s : St w R base m h K) (ht : Tab w) (hw : 1 < base) (hf : Lk.opFault o = 0) (h11 : o.op ≠ 11) (h12 : o.op ≠ 12) (h13 : o.op ≠ 13) (hv : HasH R w v o.data) (hb : Sz.Byt o.data) :
    Calls Tryd.prog 59 #[.pointer (some ⟨R, 0, none⟩), .agg #[.int .i64 o.op, .int .i64 o.n, v]] w fun e w' => Does R base m h (Lk.doOp m h o (stk K)) e w w' := by
  obtain ⟨va, vc, rfl, _, _⟩ := hv.has.shape
  obtain ⟨op, n, data⟩ := o
  simp only [Lk.opFault] at hf h11 h12 h13 hv hb ⊢
  have hsm : data.length ≤ 300 := by
    unfold Lk.opF at hf
    (repeat' split at hf) <;> first | omega | skip
  have h9 : op = 9 → 1 ≤ n ∧ n ≤ 9 := by
    intro e
    subst e
    unfold Lk.opF at hf
    (repeat' split at hf) <;> first | omega | skip
  have h10 : op = 10 → 0 ≤ n ∧ n ≤ 1073741824 := by
    intro e
    subst e
    unfold Lk.opF at hf
    (repeat' split at hf) <;> first | omega | skip
  have hop : 1 ≤ op ∧ op ≤ 14 := by
    unfold Lk.opF at hf
    (repeat' split at hf) <;> first | omega | skip
  have hcs : op = 1 ∨ op = 2 ∨ op = 3 ∨ op = 4 ∨ op = 5 ∨ op = 6 ∨ op = 7 ∨ op = 8 ∨ op = 9 ∨ op = 10 ∨ op = 14 := by omega
  clear hf h11 h12 h13 hop
  rcases hcs with rfl | rfl | rfl | rfl | rfl | rfl | rfl | rfl | rfl | rfl | rfl
  · exact do_push R base m h K n va data.length vc w data hv ⟨hb, by omega⟩ s
  · exact do_dup R base m h K n va data.length vc w s
  · exact do_drop R base m h K n va data.length vc w s
  · exact do_swap R base m h K n va data.length vc w s
  · exact do_equal R base m h K n va data.length vc w s
  · exact do_must R base m h K n va data.length vc w s
  · exact do_hash R base m h K n va data.length vc w s ht hw
  · exact do_signed R base m h K n va data.length vc w s ht hw
  · obtain ⟨N, rfl⟩ : ∃ N : Nat, n = (N : Int) := ⟨n.toNat, by have := h9 rfl; omega⟩
    exact do_many R base m h K va data.length vc w N s ht hw (by have := h9 rfl; omega) (by have := h9 rfl; omega)
  · exact do_after R base m h K n va data.length vc w s (h10 rfl).1 (h10 rfl).2
  · exact do_not R base m h K n va data.length vc w s
end
end Go.Proofs.YtkdihbgjeanjdaaDoor
