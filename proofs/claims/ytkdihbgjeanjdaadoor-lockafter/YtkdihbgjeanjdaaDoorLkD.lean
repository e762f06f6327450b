/- One op is done: what is put, taken, compared. -/
import Derived.Test.YtkdihbgjeanjdaaDoorLkI
import Derived.Test.YtkdihbgjeanjdaaDoorLk2
namespace Go.Proofs.YtkdihbgjeanjdaaDoor
open Go.RowKit
set_option linter.unusedVariables false

/-- What is at hand, the top one first. -/
def stk (K : List (List Int × Value)) : List (List Int) := (K.map Prod.fst).reverse
theorem stk_snoc (K : List (List Int × Value)) (x : List Int) (v : Value) : stk (K ++ [(x, v)]) = x :: stk K := by simp [stk]
theorem stk_length (K : List (List Int × Value)) : (stk K).length = K.length := by simp [stk]
/-- How an op leaves the run. -/
def Does (R base : Nat) (m : List Int) (h : Int) (r : Lk.Out) (e : Ending) (w w' : World) : Prop :=
  match r with
  | .err c => e = .panicked (pan c) ∧ Below base w w'
  | .ok s => e = .returned (.tuple #[]) ∧ ∃ K', St w' R base m h K' ∧ stk K' = s ∧ Below base w w'
theorem Does.err {R base : Nat} {m : List Int} {h c : Int} {w w' : World} (hb : Below base w w') : Does R base m h (.err c) (.panicked (pan c)) w w' := ⟨rfl, hb⟩
theorem Does.ok {R base : Nat} {m : List Int} {h : Int} {K' : List (List Int × Value)} {s : List (List Int)} {w w' : World} (hs : St w' R base m h K') (he : stk K' = s) (hb : Below base w w') : Does R base m h (.ok s) (.returned (.tuple #[])) w w' := ⟨rfl, K', hs, he, hb⟩

theorem put_any (R base : Nat) (m : List Int) (h : Int) (K : List (List Int × Value)) (x : List Int) (v : Value) (w : World) (s : St w R base m h K) (hx : HasH R w v x) (hxb : Sm x) :
    Calls Tryd.prog 44 #[.pointer (some ⟨R, 0, none⟩), v] w fun e w' => Does R base m h (Lk.put x (stk K)) e w w' := by
  unfold Lk.put
  rw [stk_length]
  by_cases hk : K.length = 30
  · rw [if_pos hk]
    refine (put_full R base m h K v w s hk).mono ?_
    rintro e w' ⟨rfl, rfl⟩
    exact Does.err (Below.refl _ _)
  · rw [if_neg hk]
    refine (put_ok R base m h K x v w s (by have := s.few; omega) hx hxb).mono ?_
    rintro e w' ⟨rfl, h1, h2, h3⟩
    exact Does.ok h1 (stk_snoc _ _ _) h3

theorem snoc_cases (K : List (List Int × Value)) : K = [] ∨ ∃ K' p, K = K' ++ [p] := by
  rcases List.eq_nil_or_concat K with h | ⟨L, b, h⟩
  · exact .inl h
  · exact .inr ⟨L, b, by rw [h, List.concat_eq_append]⟩

theorem tell_stk (d : Bool) (K : List (List Int × Value)) (hk : K.length < 30) : Lk.tell d (stk K) = .ok (toldV d :: stk K) := by
  unfold Lk.tell Lk.put; rw [stk_length, if_neg (by omega)]; rfl

section
variable (R base : Nat) (m : List Int) (h : Int) (K : List (List Int × Value)) (n : Int) (a : Option Addr) (len cap : Nat) (w : World)

set_option maxRecDepth 100000 in
set_option maxHeartbeats 1600000 in
theorem do_push (x : List Int) (hx : HasH R w (.slice a len cap) x) (hxb : Sm x) (s : St w R base m h K) :
    Calls Tryd.prog 59 #[.pointer (some ⟨R, 0, none⟩), .agg #[.int .i64 1, .int .i64 n, .slice a len cap]] w fun e w' => Does R base m h (Lk.put x (stk K)) e w w' := by
  have hb0 := below_alloc w (.cells #[.int .i64 1, .int .i64 n, .slice a len cap] 38)
  have HP := hide (put_any R base m h K x (.slice a len cap) _ (s.below hb0) (Keep.below hb0 s.is.lt _ _ hx) hxb)
  have HB : Hid (Below base w (w.alloc (.cells #[.int .i64 1, .int .i64 n, .slice a len cap] 38))) := hide (hb0.mono (Nat.le_trans s.lay (Nat.le_of_lt s.is.lt)))
  clear s hx hb0
  generalize Lk.put x (stk K) = r at *
  go_enter Tryd.func59, Tryd.ntmps59
  go_wp2_with fail
  refine HP.out.mono ?_
  intro e w1 hd
  cases r with
  | err c =>
    obtain ⟨rfl, h1⟩ := hd
    exact ⟨rfl, Does.err (HB.out.trans h1)⟩
  | ok s1 =>
    obtain ⟨rfl, K1, h1, h2, h3⟩ := hd
    have HQ := hide (Does.ok h1 h2 (HB.out.trans h3))
    clear h1 h2 h3
    go_wp2
    go_end0
    exact HQ.out
-- by gen_lkd.py

set_option maxRecDepth 100000 in
set_option maxHeartbeats 1600000 in
theorem do_dup (s : St w R base m h K) :
    Calls Tryd.prog 59 #[.pointer (some ⟨R, 0, none⟩), .agg #[.int .i64 2, .int .i64 n, .slice a len cap]] w fun e w' => Does R base m h (match stk K with | [] => .err 7 | t :: s' => Lk.put t (t :: s')) e w w' := by
  have hb0 := below_alloc w (.cells #[.int .i64 2, .int .i64 n, .slice a len cap] 38)
  have s0 := s.below hb0
  have HB : Hid (Below base w (w.alloc (.cells #[.int .i64 2, .int .i64 n, .slice a len cap] 38))) := hide (hb0.mono (Nat.le_trans s.lay (Nat.le_of_lt s.is.lt)))
  clear s hb0
  rcases snoc_cases K with rfl | ⟨K, p, rfl⟩
  · show Calls _ _ _ _ fun e w' => Does R base m h (.err 7) e w w'
    have HT := hide (take_none R base m h _ s0)
    clear s0
    go_enter Tryd.func59, Tryd.ntmps59
    go_wp2_with fail
    refine HT.out.mono ?_
    rintro e w1 ⟨rfl, rfl⟩
    exact ⟨rfl, Does.err HB.out⟩
  · have e1 : (match stk (K ++ [p]) with | [] => Lk.Out.err 7 | t :: s' => Lk.put t (t :: s')) = Lk.put p.1 (stk (K ++ [p])) := by rw [show p = (p.1, p.2) from rfl, stk_snoc]
    rw [e1]
    obtain ⟨d, hd⟩ : ∃ d : Lk.Out, d = Lk.put p.1 (stk (K ++ [p])) := ⟨_, rfl⟩
    rw [← hd]
    have HD := hide hd
    clear hd
    have HT := hide (take_ok R base m h K p _ s0)
    have hKl : K.length < 30 := by have := s0.few; simp at this; omega
    have hpb := (s0.has p (by simp)).2
    have HPB := hide hpb
    obtain ⟨pa, pc, hpe, _, _⟩ := (s0.has p (by simp)).1.has.shape
    obtain ⟨px, pv⟩ := p
    simp only at hpe
    subst hpe
    clear s0 hpb
    go_enter Tryd.func59, Tryd.ntmps59
    go_wp2_with fail
    refine HT.out.mono ?_
    rintro e w1 ⟨rfl, t1, t2, t3, t4, t5⟩
    have HS1 := hide t1
    have HX1 := hide t2
    have HB1 := hide (HB.out.trans t4)
    clear t1 t2 t3 t4 t5
    try simp only at HX1
    have HP := hide (put_ok R base m h K px _ w1 HS1.out hKl HX1.out HPB.out)
    go_wp2_with fail
    refine HP.out.mono ?_
    rintro e w2 ⟨rfl, t1, t2, t3⟩
    have HP2 := hide (put_any R base m h _ px _ w2 t1 (t2 _ _ HX1.out) HPB.out)
    have hd := HD.out
    try simp only at hd
    rw [← hd] at HP2
    have HB2 := hide (HB1.out.trans t3)
    clear t1 t2 t3
    clear hd HD
    go_wp2_with fail
    refine HP2.out.mono ?_
    intro e w3 hd
    cases d with
    | err c =>
      obtain ⟨rfl, h1⟩ := hd
      exact ⟨rfl, Does.err (HB2.out.trans h1)⟩
    | ok s1 =>
      obtain ⟨rfl, K1, h1, h2, h3⟩ := hd
      have HQ := hide (Does.ok h1 h2 (HB2.out.trans h3))
      clear h1 h2 h3
      go_wp2
      go_end0
      exact HQ.out

set_option maxRecDepth 100000 in
set_option maxHeartbeats 1600000 in
theorem do_drop (s : St w R base m h K) :
    Calls Tryd.prog 59 #[.pointer (some ⟨R, 0, none⟩), .agg #[.int .i64 3, .int .i64 n, .slice a len cap]] w fun e w' => Does R base m h (match stk K with | [] => .err 7 | _ :: s' => .ok s') e w w' := by
  have hb0 := below_alloc w (.cells #[.int .i64 3, .int .i64 n, .slice a len cap] 38)
  have s0 := s.below hb0
  have HB : Hid (Below base w (w.alloc (.cells #[.int .i64 3, .int .i64 n, .slice a len cap] 38))) := hide (hb0.mono (Nat.le_trans s.lay (Nat.le_of_lt s.is.lt)))
  clear s hb0
  rcases snoc_cases K with rfl | ⟨K, p, rfl⟩
  · show Calls _ _ _ _ fun e w' => Does R base m h (.err 7) e w w'
    have HT := hide (take_none R base m h _ s0)
    clear s0
    go_enter Tryd.func59, Tryd.ntmps59
    go_wp2_with fail
    refine HT.out.mono ?_
    rintro e w1 ⟨rfl, rfl⟩
    exact ⟨rfl, Does.err HB.out⟩
  · have e1 : (match stk (K ++ [p]) with | [] => Lk.Out.err 7 | _ :: s' => .ok s') = .ok (stk K) := by rw [show p = (p.1, p.2) from rfl, stk_snoc]
    rw [e1]
    have HT := hide (take_ok R base m h K p _ s0)
    have hKl : K.length < 30 := by have := s0.few; simp at this; omega
    have hpb := (s0.has p (by simp)).2
    have HPB := hide hpb
    obtain ⟨pa, pc, hpe, _, _⟩ := (s0.has p (by simp)).1.has.shape
    obtain ⟨px, pv⟩ := p
    simp only at hpe
    subst hpe
    clear s0 hpb
    go_enter Tryd.func59, Tryd.ntmps59
    go_wp2_with fail
    refine HT.out.mono ?_
    rintro e w1 ⟨rfl, t1, t2, t3, t4, t5⟩
    have HS1 := hide t1
    have HX1 := hide t2
    have HB1 := hide (HB.out.trans t4)
    clear t1 t2 t3 t4 t5
    try simp only at HX1
    have HQ := hide (Does.ok HS1.out rfl HB1.out)
    go_wp2
    go_end0
    exact HQ.out

set_option maxRecDepth 100000 in
set_option maxHeartbeats 1600000 in
theorem do_swap (s : St w R base m h K) :
    Calls Tryd.prog 59 #[.pointer (some ⟨R, 0, none⟩), .agg #[.int .i64 4, .int .i64 n, .slice a len cap]] w fun e w' => Does R base m h (match stk K with | t :: u :: s' => .ok (u :: t :: s') | _ => .err 7) e w w' := by
  have hb0 := below_alloc w (.cells #[.int .i64 4, .int .i64 n, .slice a len cap] 38)
  have s0 := s.below hb0
  have HB : Hid (Below base w (w.alloc (.cells #[.int .i64 4, .int .i64 n, .slice a len cap] 38))) := hide (hb0.mono (Nat.le_trans s.lay (Nat.le_of_lt s.is.lt)))
  clear s hb0
  rcases snoc_cases K with rfl | ⟨K, p, rfl⟩
  · show Calls _ _ _ _ fun e w' => Does R base m h (.err 7) e w w'
    have HT := hide (take_none R base m h _ s0)
    clear s0
    go_enter Tryd.func59, Tryd.ntmps59
    go_wp2_with fail
    refine HT.out.mono ?_
    rintro e w1 ⟨rfl, rfl⟩
    exact ⟨rfl, Does.err HB.out⟩
  · rcases snoc_cases K with rfl | ⟨K, q, rfl⟩
    · show Calls _ _ _ _ fun e w' => Does R base m h (.err 7) e w w'
      have HT := hide (take_ok R base m h [] p _ s0)
      have hpb := (s0.has p (by simp)).2
      have HPB := hide hpb
      obtain ⟨pa, pc, hpe, _, _⟩ := (s0.has p (by simp)).1.has.shape
      obtain ⟨px, pv⟩ := p
      simp only at hpe
      subst hpe
      clear s0 hpb
      go_enter Tryd.func59, Tryd.ntmps59
      go_wp2_with fail
      refine HT.out.mono ?_
      rintro e w1 ⟨rfl, t1, t2, t3, t4, t5⟩
      have HS1 := hide t1
      have HX1 := hide t2
      have HB1 := hide (HB.out.trans t4)
      clear t1 t2 t3 t4 t5
      try simp only at HX1
      have HT2 := hide (take_none R base m h _ HS1.out)
      go_wp2_with fail
      refine HT2.out.mono ?_
      rintro e w2 ⟨rfl, rfl⟩
      exact ⟨rfl, Does.err HB1.out⟩
    · have e1 : (match stk (K ++ [q] ++ [p]) with | t :: u :: s' => Lk.Out.ok (u :: t :: s') | _ => .err 7) = .ok (stk (K ++ [p] ++ [q])) := by rw [show p = (p.1, p.2) from rfl, show q = (q.1, q.2) from rfl, stk_snoc, stk_snoc, stk_snoc, stk_snoc]
      rw [e1]
      have HT := hide (take_ok R base m h (K ++ [q]) p _ s0)
      have hKl : K.length < 29 := by have := s0.few; simp at this; omega
      have hpb := (s0.has p (by simp)).2
      have HPB := hide hpb
      obtain ⟨pa, pc, hpe, _, _⟩ := (s0.has p (by simp)).1.has.shape
      obtain ⟨px, pv⟩ := p
      simp only at hpe
      subst hpe
      clear s0 hpb
      go_enter Tryd.func59, Tryd.ntmps59
      go_wp2_with fail
      refine HT.out.mono ?_
      rintro e w1 ⟨rfl, t1, t2, t3, t4, t5⟩
      have HS1 := hide t1
      have HX1 := hide t2
      have HB1 := hide (HB.out.trans t4)
      clear t1 t2 t3 t4 t5
      try simp only at HX1
      have HT2 := hide (take_ok R base m h K q _ HS1.out)
      have HQB := hide (HS1.out.has q (by simp)).2
      obtain ⟨qa, qc, hqe, _, _⟩ := (HS1.out.has q (by simp)).1.has.shape
      obtain ⟨qx, qv⟩ := q
      simp only at hqe
      subst hqe
      go_wp2_with fail
      refine HT2.out.mono ?_
      rintro e w2 ⟨rfl, t1, t2, t3, t4, t5⟩
      have HS2 := hide t1
      have HX2 := hide t2
      have HP2 := hide (t3 _ _ HX1.out)
      have HB2 := hide (HB1.out.trans t4)
      clear t1 t2 t3 t4 t5
      try simp only at HX2
      have HP := hide (put_ok R base m h K px _ w2 HS2.out (by omega) HP2.out HPB.out)
      go_wp2_with fail
      refine HP.out.mono ?_
      rintro e w3 ⟨rfl, t1, t2, t3⟩
      have HP3 := hide (put_ok R base m h _ qx _ w3 t1 (by simp; omega) (t2 _ _ HX2.out) HQB.out)
      have HB3 := hide (HB2.out.trans t3)
      clear t1 t2 t3
      go_wp2_with fail
      refine HP3.out.mono ?_
      rintro e w4 ⟨rfl, t1, t2, t3⟩
      have HQ := hide (Does.ok t1 rfl (HB3.out.trans t3))
      clear t1 t2 t3
      go_wp2
      go_end0
      exact HQ.out

set_option maxRecDepth 100000 in
set_option maxHeartbeats 1600000 in
theorem do_equal (s : St w R base m h K) :
    Calls Tryd.prog 59 #[.pointer (some ⟨R, 0, none⟩), .agg #[.int .i64 5, .int .i64 n, .slice a len cap]] w fun e w' => Does R base m h (match stk K with | t :: u :: s' => Lk.tell (decide (t = u)) s' | _ => .err 7) e w w' := by
  have hb0 := below_alloc w (.cells #[.int .i64 5, .int .i64 n, .slice a len cap] 38)
  have s0 := s.below hb0
  have HB : Hid (Below base w (w.alloc (.cells #[.int .i64 5, .int .i64 n, .slice a len cap] 38))) := hide (hb0.mono (Nat.le_trans s.lay (Nat.le_of_lt s.is.lt)))
  clear s hb0
  rcases snoc_cases K with rfl | ⟨K, p, rfl⟩
  · show Calls _ _ _ _ fun e w' => Does R base m h (.err 7) e w w'
    have HT := hide (take_none R base m h _ s0)
    clear s0
    go_enter Tryd.func59, Tryd.ntmps59
    go_wp2_with fail
    refine HT.out.mono ?_
    rintro e w1 ⟨rfl, rfl⟩
    exact ⟨rfl, Does.err HB.out⟩
  · rcases snoc_cases K with rfl | ⟨K, q, rfl⟩
    · show Calls _ _ _ _ fun e w' => Does R base m h (.err 7) e w w'
      have HT := hide (take_ok R base m h [] p _ s0)
      have hpb := (s0.has p (by simp)).2
      have HPB := hide hpb
      obtain ⟨pa, pc, hpe, _, _⟩ := (s0.has p (by simp)).1.has.shape
      obtain ⟨px, pv⟩ := p
      simp only at hpe
      subst hpe
      clear s0 hpb
      go_enter Tryd.func59, Tryd.ntmps59
      go_wp2_with fail
      refine HT.out.mono ?_
      rintro e w1 ⟨rfl, t1, t2, t3, t4, t5⟩
      have HS1 := hide t1
      have HX1 := hide t2
      have HB1 := hide (HB.out.trans t4)
      clear t1 t2 t3 t4 t5
      try simp only at HX1
      have HT2 := hide (take_none R base m h _ HS1.out)
      go_wp2_with fail
      refine HT2.out.mono ?_
      rintro e w2 ⟨rfl, rfl⟩
      exact ⟨rfl, Does.err HB1.out⟩
    · have e1 : (match stk (K ++ [q] ++ [p]) with | t :: u :: s' => Lk.tell (decide (t = u)) s' | _ => .err 7) = Lk.tell (decide (p.1 = q.1)) (stk K) := by rw [show p = (p.1, p.2) from rfl, show q = (q.1, q.2) from rfl, stk_snoc, stk_snoc]
      rw [e1, tell_stk _ _ (by have := s0.few; simp at this; omega)]
      obtain ⟨d, hd⟩ : ∃ d : Bool, d = decide (p.1 = q.1) := ⟨_, rfl⟩
      rw [← hd]
      have HD := hide hd
      clear hd
      have HT := hide (take_ok R base m h (K ++ [q]) p _ s0)
      have hKl : K.length < 29 := by have := s0.few; simp at this; omega
      have hpb := (s0.has p (by simp)).2
      have HPB := hide hpb
      obtain ⟨pa, pc, hpe, _, _⟩ := (s0.has p (by simp)).1.has.shape
      obtain ⟨px, pv⟩ := p
      simp only at hpe
      subst hpe
      clear s0 hpb
      go_enter Tryd.func59, Tryd.ntmps59
      go_wp2_with fail
      refine HT.out.mono ?_
      rintro e w1 ⟨rfl, t1, t2, t3, t4, t5⟩
      have HS1 := hide t1
      have HX1 := hide t2
      have HB1 := hide (HB.out.trans t4)
      clear t1 t2 t3 t4 t5
      try simp only at HX1
      have HT2 := hide (take_ok R base m h K q _ HS1.out)
      have HQB := hide (HS1.out.has q (by simp)).2
      obtain ⟨qa, qc, hqe, _, _⟩ := (HS1.out.has q (by simp)).1.has.shape
      obtain ⟨qx, qv⟩ := q
      simp only at hqe
      subst hqe
      go_wp2_with fail
      refine HT2.out.mono ?_
      rintro e w2 ⟨rfl, t1, t2, t3, t4, t5⟩
      have HS2 := hide t1
      have HX2 := hide t2
      have HP2 := hide (t3 _ _ HX1.out)
      have HB2 := hide (HB1.out.trans t4)
      clear t1 t2 t3 t4 t5
      try simp only at HX2
      have HE := hide (bequal_any _ _ px qx w2 HP2.out.has HX2.out.has HPB.out.1 HQB.out.1)
      have hd := HD.out
      try simp only at hd
      rw [← hd] at HE
      clear hd HD
      go_wp2_with fail
      refine HE.out.mono ?_
      rintro e w3 ⟨rfl, rfl⟩
      have HT3 := hide (tell_ok R base m h K d w2 HS2.out (by omega))
      go_wp2_with fail
      refine HT3.out.mono ?_
      rintro e w4 ⟨rfl, v4, t1, t2, t3⟩
      have HQ := hide (Does.ok t1 (stk_snoc _ _ _) (HB2.out.trans t3))
      clear t1 t2 t3
      go_wp2
      go_end0
      exact HQ.out

set_option maxRecDepth 100000 in
set_option maxHeartbeats 1600000 in
theorem do_must (s : St w R base m h K) :
    Calls Tryd.prog 59 #[.pointer (some ⟨R, 0, none⟩), .agg #[.int .i64 6, .int .i64 n, .slice a len cap]] w fun e w' => Does R base m h (match stk K with | [] => .err 7 | t :: s' => if Lk.isTrue t then .ok s' else .err 7) e w w' := by
  have hb0 := below_alloc w (.cells #[.int .i64 6, .int .i64 n, .slice a len cap] 38)
  have s0 := s.below hb0
  have HB : Hid (Below base w (w.alloc (.cells #[.int .i64 6, .int .i64 n, .slice a len cap] 38))) := hide (hb0.mono (Nat.le_trans s.lay (Nat.le_of_lt s.is.lt)))
  clear s hb0
  rcases snoc_cases K with rfl | ⟨K, p, rfl⟩
  · show Calls _ _ _ _ fun e w' => Does R base m h (.err 7) e w w'
    have HT := hide (take_none R base m h _ s0)
    clear s0
    go_enter Tryd.func59, Tryd.ntmps59
    go_wp2_with fail
    refine HT.out.mono ?_
    rintro e w1 ⟨rfl, rfl⟩
    exact ⟨rfl, Does.err HB.out⟩
  · have e1 : (match stk (K ++ [p]) with | [] => Lk.Out.err 7 | t :: s' => if Lk.isTrue t then .ok s' else .err 7) = if Lk.isTrue p.1 then .ok (stk K) else .err 7 := by rw [show p = (p.1, p.2) from rfl, stk_snoc]
    rw [e1]
    obtain ⟨d, hd⟩ : ∃ d : Bool, d = Lk.isTrue p.1 := ⟨_, rfl⟩
    rw [← hd]
    have HD := hide hd
    clear hd
    have HT := hide (take_ok R base m h K p _ s0)
    have hKl : K.length < 30 := by have := s0.few; simp at this; omega
    have hpb := (s0.has p (by simp)).2
    have HPB := hide hpb
    obtain ⟨pa, pc, hpe, _, _⟩ := (s0.has p (by simp)).1.has.shape
    obtain ⟨px, pv⟩ := p
    simp only at hpe
    subst hpe
    clear s0 hpb
    go_enter Tryd.func59, Tryd.ntmps59
    go_wp2_with fail
    refine HT.out.mono ?_
    rintro e w1 ⟨rfl, t1, t2, t3, t4, t5⟩
    have HS1 := hide t1
    have HX1 := hide t2
    have HB1 := hide (HB.out.trans t4)
    clear t1 t2 t3 t4 t5
    try simp only at HX1
    have HE := hide (isTrue_any _ px w1 HX1.out.has)
    have hd := HD.out
    try simp only at hd
    rw [← hd] at HE
    clear hd HD
    go_wp2_with fail
    refine HE.out.mono ?_
    rintro e w2 ⟨rfl, rfl⟩
    cases d with
    | true =>
      go_wp2_with fail
      refine (must_true _ w1).mono ?_
      rintro e w2 ⟨rfl, rfl⟩
      have HQ := hide (Does.ok HS1.out rfl HB1.out)
      go_wp2
      go_end0
      exact HQ.out
    | false =>
      go_wp2_with fail
      refine (must_false _ w1).mono ?_
      rintro e w2 ⟨rfl, rfl⟩
      exact ⟨rfl, Does.err HB1.out⟩

set_option maxRecDepth 100000 in
set_option maxHeartbeats 1600000 in
theorem do_not (s : St w R base m h K) :
    Calls Tryd.prog 59 #[.pointer (some ⟨R, 0, none⟩), .agg #[.int .i64 14, .int .i64 n, .slice a len cap]] w fun e w' => Does R base m h (match stk K with | [] => .err 7 | t :: s' => Lk.tell (!Lk.isTrue t) s') e w w' := by
  have hb0 := below_alloc w (.cells #[.int .i64 14, .int .i64 n, .slice a len cap] 38)
  have s0 := s.below hb0
  have HB : Hid (Below base w (w.alloc (.cells #[.int .i64 14, .int .i64 n, .slice a len cap] 38))) := hide (hb0.mono (Nat.le_trans s.lay (Nat.le_of_lt s.is.lt)))
  clear s hb0
  rcases snoc_cases K with rfl | ⟨K, p, rfl⟩
  · show Calls _ _ _ _ fun e w' => Does R base m h (.err 7) e w w'
    have HT := hide (take_none R base m h _ s0)
    clear s0
    go_enter Tryd.func59, Tryd.ntmps59
    go_wp2_with fail
    refine HT.out.mono ?_
    rintro e w1 ⟨rfl, rfl⟩
    exact ⟨rfl, Does.err HB.out⟩
  · have e1 : (match stk (K ++ [p]) with | [] => Lk.Out.err 7 | t :: s' => Lk.tell (!Lk.isTrue t) s') = Lk.tell (!Lk.isTrue p.1) (stk K) := by rw [show p = (p.1, p.2) from rfl, stk_snoc]
    rw [e1, tell_stk _ _ (by have := s0.few; simp at this; omega)]
    obtain ⟨d, hd⟩ : ∃ d : Bool, d = Lk.isTrue p.1 := ⟨_, rfl⟩
    rw [← hd]
    have HD := hide hd
    clear hd
    have HT := hide (take_ok R base m h K p _ s0)
    have hKl : K.length < 30 := by have := s0.few; simp at this; omega
    have hpb := (s0.has p (by simp)).2
    have HPB := hide hpb
    obtain ⟨pa, pc, hpe, _, _⟩ := (s0.has p (by simp)).1.has.shape
    obtain ⟨px, pv⟩ := p
    simp only at hpe
    subst hpe
    clear s0 hpb
    go_enter Tryd.func59, Tryd.ntmps59
    go_wp2_with fail
    refine HT.out.mono ?_
    rintro e w1 ⟨rfl, t1, t2, t3, t4, t5⟩
    have HS1 := hide t1
    have HX1 := hide t2
    have HB1 := hide (HB.out.trans t4)
    clear t1 t2 t3 t4 t5
    try simp only at HX1
    have HE := hide (isTrue_any _ px w1 HX1.out.has)
    have hd := HD.out
    try simp only at hd
    rw [← hd] at HE
    clear hd HD
    go_wp2_with fail
    refine HE.out.mono ?_
    rintro e w2 ⟨rfl, rfl⟩
    have HT3 := hide (tell_ok R base m h K (!d) w1 HS1.out hKl)
    go_wp2_with fail
    refine HT3.out.mono ?_
    rintro e w4 ⟨rfl, v4, t1, t2, t3⟩
    have HQ := hide (Does.ok t1 (stk_snoc _ _ _) (HB1.out.trans t3))
    clear t1 t2 t3
    go_wp2
    go_end0
    exact HQ.out
end
end Go.Proofs.YtkdihbgjeanjdaaDoor
