/- One op is done: what is hashed, and what is signed. -/
import Derived.Test.YtkdihbgjeanjdaaDoorLkD
namespace Go.Proofs.YtkdihbgjeanjdaaDoor
open Go.RowKit
set_option linter.unusedVariables false

theorem has_dig {w : World} {b : Nat} {D : List Int} (hi : Is w b (vals D) 25) (hl : D.length = 32) : Has w (.slice (some ⟨b, 0, none⟩) 32 32) D := by
  refine .inr ⟨b, 0, 32, by rw [hl], by omega, by omega, by unfold maxLen; omega, fun j hj => ?_⟩
  rw [Nat.zero_add, hi.cell]
  simp [vals, List.getElem?_eq_getElem hj]
theorem has_new {R base : Nat} {m : List Int} {h : Int} {K : List (List Int × Value)} {D : List Int} {w w3 : World} {b : Nat} (s : St w R base m h K) (hb : Below w.heap.size w w3) (hge : w.heap.size ≤ b) (hi : Is w3 b (vals D) 25) (hl : D.length = 32) : HasH R w3 (.slice (some ⟨b, 0, none⟩) 32 32) D := by
  have h1 := s.is.lt
  refine .inr ⟨b, 0, 32, by rw [hl], by omega, by omega, by unfold maxLen; omega, ⟨by omega, fun e => ?_⟩, fun j hj => ?_⟩
  · rw [handOf_below hb h1] at e
    have := (World.ownsRow.lt s.own _ e).2
    omega
  · rw [Nat.zero_add, hi.cell]
    simp [vals, List.getElem?_eq_getElem hj]
theorem signed_f {R base : Nat} {m : List Int} {h : Int} {K : List (List Int × Value)} {sig k : List Int} {v kv : Value} (w : World) (s : St w R base m h K) (hs : Has w v sig) (hk : Has w kv k) (hsb : Sz.Byt sig) (hkb : Sz.Byt k) (c : Nat) (hc : w.cell? ⟨c, 0, none⟩ = some kv) (ht : Tab w) (hw : 1 < w.heap.size) :
    Calls Tryd.prog 78 #[.pointer (some ⟨R, 0, none⟩), v, .func (.func 79) #[] #[.pointer (some ⟨c, 0, none⟩)]] w fun e w' => e = .returned (.bool (Lk.signed m sig k)) ∧ Below w.heap.size w w' := by
  by_cases hl : sig.length = 2144
  · have e1 : Lk.signed m sig k = decide (Ky.recov m sig = k) := by unfold Lk.signed; rw [decide_eq_true hl]; rfl
    rw [e1]
    refine (isSigned_good R base m h K sig v 79 #[.pointer (some ⟨c, 0, none⟩)] (decide (Ky.recov m sig = k)) (fun W w' => W = w') w s hs hl hsb ht hw call_doF ?_).mono ?_
    · intro W b hb hge hi
      exact doF_any _ kv (Ky.recov m sig) k c W (has_dig hi (Ky.recov_length m sig)) (hk.below hb) (Mc.sum_byt _) hkb (by rw [hb.cell (p := ⟨c, 0, none⟩) (World.block_lt_of_cell? w _ hc)]; exact hc)
    · rintro e w' ⟨rfl, W, hb, rfl⟩
      exact ⟨rfl, hb⟩
  · have e1 : Lk.signed m sig k = false := by unfold Lk.signed; rw [decide_eq_false hl]; rfl
    rw [e1]
    exact isSigned_bad R base m h K sig v _ w s hs hl hsb ht hw

section
variable (R base : Nat) (m : List Int) (h : Int) (K : List (List Int × Value)) (n : Int) (a : Option Addr) (len cap : Nat) (w : World)

set_option maxRecDepth 100000 in
set_option maxHeartbeats 1600000 in
theorem do_hash (s : St w R base m h K) (ht : Tab w) (hw : 1 < base) :
    Calls Tryd.prog 59 #[.pointer (some ⟨R, 0, none⟩), .agg #[.int .i64 7, .int .i64 n, .slice a len cap]] w fun e w' => Does R base m h (match stk K with | [] => .err 7 | t :: s' => Lk.put (Sh.sum t) s') e w w' := by
  have hb0 := below_alloc w (.cells #[.int .i64 7, .int .i64 n, .slice a len cap] 38)
  have s0 := s.below hb0
  have HB : Hid (Below base w (w.alloc (.cells #[.int .i64 7, .int .i64 n, .slice a len cap] 38))) := hide (hb0.mono (Nat.le_trans s.lay (Nat.le_of_lt s.is.lt)))
  have HTAB := hide ht
  have HLAY := hide s.lay
  clear s hb0 ht
  rcases snoc_cases K with rfl | ⟨K, p, rfl⟩
  · show Calls _ _ _ _ fun e w' => Does R base m h (.err 7) e w w'
    have HT := hide (take_none R base m h _ s0)
    clear s0
    go_enter Tryd.func59, Tryd.ntmps59
    go_wp2_with fail
    refine HT.out.mono ?_
    rintro e w1 ⟨rfl, rfl⟩
    exact ⟨rfl, Does.err HB.out⟩
  · have e1 : (match stk (K ++ [p]) with | [] => Lk.Out.err 7 | t :: s' => Lk.put (Sh.sum t) s') = .ok (Sh.sum p.1 :: stk K) := by rw [show p = (p.1, p.2) from rfl, stk_snoc]; show Lk.put _ _ = _; unfold Lk.put; rw [stk_length, if_neg (by have := s0.few; simp at this; omega)]
    rw [e1]
    obtain ⟨D, hD⟩ : ∃ D, D = Sh.sum p.1 := ⟨_, rfl⟩
    have hDl : D.length = 32 := by rw [hD]; exact Mc.sum_length _
    have hDb : Sz.Byt D := by rw [hD]; exact Mc.sum_byt _
    rw [← hD]
    have HD := hide hD
    have HDL := hide hDl
    have HDB := hide hDb
    clear hD hDl hDb
    have hzd := zero_dig
    obtain ⟨Z, hZ⟩ : ∃ Z, Z = vals (List.replicate 32 0) := ⟨_, rfl⟩
    rw [← hZ] at hzd
    have hZl : Z.length = 32 := by rw [hZ]; simp [vals]
    have hZp : ¬ Z = [] := by intro h; rw [h] at hZl; cases hZl
    have HZL := hide hZl
    clear hZ hZl
    have HT := hide (take_ok R base m h K p _ s0)
    have hKl : K.length < 30 := by have := s0.few; simp at this; omega
    have hpb := (s0.has p (by simp)).2
    have HPB := hide hpb
    obtain ⟨pa, pc, hpe, _, _⟩ := (s0.has p (by simp)).1.has.shape
    obtain ⟨px, pv⟩ := p
    simp only at hpe
    subst hpe
    clear s0 hpb
    go_enter Tryd.func59, Tryd.ntmps59
    go_wp2_with fail
    refine HT.out.mono ?_
    rintro e w1 ⟨rfl, t1, t2, t3, t4, t5⟩
    have HS1 := hide t1
    have HX1 := hide t2
    have HB1 := hide (HB.out.trans t4)
    clear t1 t2 t3 t4 t5
    try simp only at HX1
    have HSUM := hide (sum_any _ px w1 HX1.out.has HPB.out.1 (HTAB.out.below HB1.out hw) (Nat.lt_of_lt_of_le hw (Nat.le_trans HS1.out.lay (Nat.le_of_lt HS1.out.is.lt))) (by have := HPB.out.2; omega))
    have hd := HD.out
    try simp only at hd
    rw [← hd] at HSUM
    clear hd HD
    have HSZ := hide (Nat.le_trans HS1.out.lay (Nat.le_of_lt HS1.out.is.lt))
    go_wp2_with (first
      | (go_at_call 15; refine HSUM.out.mono ?_; rintro e w2 ⟨rfl, hb2⟩)
      | (refine wpList_store_any2 25 Z (vals D) w2.heap.size rfl (.tmp 7) (.tmp 65) rfl rfl rfl rfl (Is.new w2 _ _) size_dig HZL.out (by rw [vals_length]; exact HDL.out) (vals_one _) ?_; intro w3 hi3 hb3 hk3 hz3; have hb3' := hide (hb3 _ _ (hb2.alloc hb2.size _) hb2.size); have HI3 := hide hi3; have HB2 := hide hb2.size; clear hb2 hb3 hk3 hi3)
      | (go_at_call 44; refine (put_ok R base m h K D _ w3 (HS1.out.below hb3'.out) hKl (has_new HS1.out hb3'.out HB2.out HI3.out HDL.out) ⟨HDB.out, by rw [HDL.out]; omega⟩).mono ?_; rintro e w4 ⟨rfl, t1, t2, t3⟩; have HQ := hide (Does.ok t1 (stk_snoc _ _ _) ((HB1.out.trans (hb3'.out.mono HSZ.out)).trans t3)); clear t1 t2 t3))
    go_end0
    exact HQ.out

set_option maxRecDepth 100000 in
set_option maxHeartbeats 1600000 in
theorem do_signed (s : St w R base m h K) (ht : Tab w) (hw : 1 < base) :
    Calls Tryd.prog 59 #[.pointer (some ⟨R, 0, none⟩), .agg #[.int .i64 8, .int .i64 n, .slice a len cap]] w fun e w' => Does R base m h (match stk K with | k :: sig :: s' => Lk.tell (Lk.signed m sig k) s' | _ => .err 7) e w w' := by
  have hb0 := below_alloc w (.cells #[.int .i64 8, .int .i64 n, .slice a len cap] 38)
  have s0 := s.below hb0
  have HB : Hid (Below base w (w.alloc (.cells #[.int .i64 8, .int .i64 n, .slice a len cap] 38))) := hide (hb0.mono (Nat.le_trans s.lay (Nat.le_of_lt s.is.lt)))
  have HTAB := hide ht
  have HLAY := hide s.lay
  clear s hb0 ht
  rcases snoc_cases K with rfl | ⟨K, p, rfl⟩
  · show Calls _ _ _ _ fun e w' => Does R base m h (.err 7) e w w'
    have HT := hide (take_none R base m h _ s0)
    clear s0
    go_enter Tryd.func59, Tryd.ntmps59
    go_wp2_with fail
    refine HT.out.mono ?_
    rintro e w1 ⟨rfl, rfl⟩
    exact ⟨rfl, Does.err HB.out⟩
  · rcases snoc_cases K with rfl | ⟨K, q, rfl⟩
    · show Calls _ _ _ _ fun e w' => Does R base m h (.err 7) e w w'
      have HT := hide (take_ok R base m h [] p _ s0)
      have hpb := (s0.has p (by simp)).2
      have HPB := hide hpb
      obtain ⟨pa, pc, hpe, _, _⟩ := (s0.has p (by simp)).1.has.shape
      obtain ⟨px, pv⟩ := p
      simp only at hpe
      subst hpe
      clear s0 hpb
      go_enter Tryd.func59, Tryd.ntmps59
      go_wp2_with fail
      refine HT.out.mono ?_
      rintro e w1 ⟨rfl, t1, t2, t3, t4, t5⟩
      have HS1 := hide t1
      have HX1 := hide t2
      have HB1 := hide (HB.out.trans t4)
      clear t1 t2 t3 t4 t5
      try simp only at HX1
      have HT2 := hide (take_none R base m h _ HS1.out)
      go_wp2_with fail
      refine HT2.out.mono ?_
      rintro e w2 ⟨rfl, rfl⟩
      exact ⟨rfl, Does.err HB1.out⟩
    · have e1 : (match stk (K ++ [q] ++ [p]) with | t :: u :: s' => Lk.tell (Lk.signed m u t) s' | _ => .err 7) = Lk.tell (Lk.signed m q.1 p.1) (stk K) := by rw [show p = (p.1, p.2) from rfl, show q = (q.1, q.2) from rfl, stk_snoc, stk_snoc]
      rw [e1, tell_stk _ _ (by have := s0.few; simp at this; omega)]
      obtain ⟨d, hd⟩ : ∃ d : Bool, d = Lk.signed m q.1 p.1 := ⟨_, rfl⟩
      rw [← hd]
      have HD := hide hd
      clear hd
      have HT := hide (take_ok R base m h (K ++ [q]) p _ s0)
      have hKl : K.length < 29 := by have := s0.few; simp at this; omega
      have hpb := (s0.has p (by simp)).2
      have HPB := hide hpb
      obtain ⟨pa, pc, hpe, _, _⟩ := (s0.has p (by simp)).1.has.shape
      obtain ⟨px, pv⟩ := p
      simp only at hpe
      subst hpe
      clear s0 hpb
      go_enter Tryd.func59, Tryd.ntmps59
      go_wp2_with fail
      refine HT.out.mono ?_
      rintro e w1 ⟨rfl, t1, t2, t3, t4, t5⟩
      have HS1 := hide t1
      have HX1 := hide t2
      have HB1 := hide (HB.out.trans t4)
      clear t1 t2 t3 t4 t5
      try simp only at HX1
      have HT2 := hide (take_ok R base m h K q _ HS1.out)
      have HQB := hide (HS1.out.has q (by simp)).2
      obtain ⟨qa, qc, hqe, _, _⟩ := (HS1.out.has q (by simp)).1.has.shape
      obtain ⟨qx, qv⟩ := q
      simp only at hqe
      subst hqe
      go_wp2_with fail
      refine HT2.out.mono ?_
      rintro e w2 ⟨rfl, t1, t2, t3, t4, t5⟩
      have HS2 := hide t1
      have HX2 := hide t2
      have HP2 := hide (t3 _ _ HX1.out)
      have HB2 := hide (HB1.out.trans t4)
      clear t1 t2 t3 t4 t5
      try simp only at HX2
      have hd := HD.out
      try simp only at hd
      have HSI := hide (signed_f (w2.alloc (.cells #[.slice pa px.length pc] 36)) (HS2.out.below (below_alloc _ _)) (HX2.out.has.below (below_alloc _ _)) (HP2.out.has.below (below_alloc _ _)) HQB.out.1 HPB.out.1 w2.heap.size (by rw [World.cell?_alloc_new]; rfl) (HTAB.out.below (HB2.out.alloc (Nat.le_trans HS2.out.lay (Nat.le_of_lt HS2.out.is.lt)) _) hw) (by simp; have := HS2.out.lay; have := HS2.out.is.lt; omega))
      rw [← hd] at HSI
      clear hd HD
      have hmf : ∀ (fn : Fn) (first cap : Array Value) (w : World), (Instr.makeFunc fn first cap).run Tryd.prog w = .ok (.func fn first cap) w := fun _ _ _ _ => rfl
      go_wp2_with fail
      refine HSI.out.mono ?_
      rintro e w3 ⟨rfl, hb3⟩
      have hb3' := (below_alloc w2 (.cells #[.slice pa px.length pc] 36)).trans (hb3.mono (by simp))
      have HT3 := hide (tell_ok R base m h K d w3 (HS2.out.below hb3') (by omega))
      have HB3 := hide (HB2.out.trans (hb3'.mono (Nat.le_trans HS2.out.lay (Nat.le_of_lt HS2.out.is.lt))))
      clear hb3 hb3'
      go_wp2_with fail
      refine HT3.out.mono ?_
      rintro e w4 ⟨rfl, v4, t1, t2, t3⟩
      have HQ := hide (Does.ok t1 (stk_snoc _ _ _) (HB3.out.trans t3))
      clear t1 t2 t3
      go_wp2
      go_end0
      exact HQ.out
end
end Go.Proofs.YtkdihbgjeanjdaaDoor
