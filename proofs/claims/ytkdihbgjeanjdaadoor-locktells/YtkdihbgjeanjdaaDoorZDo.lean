/- The texts LkD, LkE, LkF, LkG, one behind the other. -/
import Derived.Test.YtkdihbgjeanjdaaDoorLkI
import Derived.Test.YtkdihbgjeanjdaaDoorLk2
/- One op is done: what is put, taken, compared. -/
namespace Go.Proofs.YtkdihbgjeanjdaaDoor
open Go.RowKit
set_option linter.unusedVariables false

/-- What is at hand, the top one first. -/
def stk (K : List (List Int × Value)) : List (List Int) := (K.map Prod.fst).reverse
theorem stk_snoc (K : List (List Int × Value)) (x : List Int) (v : Value) : stk (K ++ [(x, v)]) = x :: stk K := by simp [stk]
theorem stk_length (K : List (List Int × Value)) : (stk K).length = K.length := by simp [stk]
/-- How an op leaves the run. -/
def Does (R base : Nat) (m : List Int) (h : Int) (r : Lk.Out) (e : Ending) (w w' : World) : Prop :=
  match r with
  | .err c => e = .panicked (pan c) ∧ Below base w w'
  | .ok s => e = .returned (.tuple #[]) ∧ ∃ K', St w' R base m h K' ∧ stk K' = s ∧ Below base w w'
theorem Does.err {R base : Nat} {m : List Int} {h c : Int} {w w' : World} (hb : Below base w w') : Does R base m h (.err c) (.panicked (pan c)) w w' := ⟨rfl, hb⟩
theorem Does.ok {R base : Nat} {m : List Int} {h : Int} {K' : List (List Int × Value)} {s : List (List Int)} {w w' : World} (hs : St w' R base m h K') (he : stk K' = s) (hb : Below base w w') : Does R base m h (.ok s) (.returned (.tuple #[])) w w' := ⟨rfl, K', hs, he, hb⟩

theorem put_any (R base : Nat) (m : List Int) (h : Int) (K : List (List Int × Value)) (x : List Int) (v : Value) (w : World) (s : St w R base m h K) (hx : HasH R w v x) (hxb : Sm x) :
    Calls Tryd.prog 44 #[.pointer (some ⟨R, 0, none⟩), v] w fun e w' => Does R base m h (Lk.put x (stk K)) e w w' := by
  unfold Lk.put
  rw [stk_length]
  by_cases hk : K.length = 30
  · rw [if_pos hk]
    refine (put_full R base m h K v w s hk).mono ?_
    rintro e w' ⟨rfl, rfl⟩
    exact Does.err (Below.refl _ _)
  · rw [if_neg hk]
    refine (put_ok R base m h K x v w s (by have := s.few; omega) hx hxb).mono ?_
    rintro e w' ⟨rfl, h1, h2, h3⟩
    exact Does.ok h1 (stk_snoc _ _ _) h3

theorem snoc_cases (K : List (List Int × Value)) : K = [] ∨ ∃ K' p, K = K' ++ [p] := by
  rcases List.eq_nil_or_concat K with h | ⟨L, b, h⟩
  · exact .inl h
  · exact .inr ⟨L, b, by rw [h, List.concat_eq_append]⟩

theorem tell_stk (d : Bool) (K : List (List Int × Value)) (hk : K.length < 30) : Lk.tell d (stk K) = .ok (toldV d :: stk K) := by
  unfold Lk.tell Lk.put; rw [stk_length, if_neg (by omega)]; rfl

section
variable (R base : Nat) (m : List Int) (h : Int) (K : List (List Int × Value)) (n : Int) (a : Option Addr) (len cap : Nat) (w : World)

set_option maxRecDepth 100000 in
set_option maxHeartbeats 1600000 in
theorem do_push (x : List Int) (hx : HasH R w (.slice a len cap) x) (hxb : Sm x) (s : St w R base m h K) :
    Calls Tryd.prog 59 #[.pointer (some ⟨R, 0, none⟩), .agg #[.int .i64 1, .int .i64 n, .slice a len cap]] w fun e w' => Does R base m h (Lk.put x (stk K)) e w w' := by
  have hb0 := below_alloc w (.cells #[.int .i64 1, .int .i64 n, .slice a len cap] 38)
  have HP := hide (put_any R base m h K x (.slice a len cap) _ (s.below hb0) (Keep.below hb0 s.is.lt _ _ hx) hxb)
  have HB : Hid (Below base w (w.alloc (.cells #[.int .i64 1, .int .i64 n, .slice a len cap] 38))) := hide (hb0.mono (Nat.le_trans s.lay (Nat.le_of_lt s.is.lt)))
  clear s hx hb0
  generalize Lk.put x (stk K) = r at *
  go_enter Tryd.func59, Tryd.ntmps59
  go_wp2_with fail
  refine HP.out.mono ?_
  intro e w1 hd
  cases r with
  | err c =>
    obtain ⟨rfl, h1⟩ := hd
    exact ⟨rfl, Does.err (HB.out.trans h1)⟩
  | ok s1 =>
    obtain ⟨rfl, K1, h1, h2, h3⟩ := hd
    have HQ := hide (Does.ok h1 h2 (HB.out.trans h3))
    clear h1 h2 h3
    go_wp2
    go_end0
    exact HQ.out
-- by gen_lkd.py

set_option maxRecDepth 100000 in
set_option maxHeartbeats 1600000 in
theorem do_dup (s : St w R base m h K) :
    Calls Tryd.prog 59 #[.pointer (some ⟨R, 0, none⟩), .agg #[.int .i64 2, .int .i64 n, .slice a len cap]] w fun e w' => Does R base m h (match stk K with | [] => .err 7 | t :: s' => Lk.put t (t :: s')) e w w' := by
  have hb0 := below_alloc w (.cells #[.int .i64 2, .int .i64 n, .slice a len cap] 38)
  have s0 := s.below hb0
  have HB : Hid (Below base w (w.alloc (.cells #[.int .i64 2, .int .i64 n, .slice a len cap] 38))) := hide (hb0.mono (Nat.le_trans s.lay (Nat.le_of_lt s.is.lt)))
  clear s hb0
  rcases snoc_cases K with rfl | ⟨K, p, rfl⟩
  · show Calls _ _ _ _ fun e w' => Does R base m h (.err 7) e w w'
    have HT := hide (take_none R base m h _ s0)
    clear s0
    go_enter Tryd.func59, Tryd.ntmps59
    go_wp2_with fail
    refine HT.out.mono ?_
    rintro e w1 ⟨rfl, rfl⟩
    exact ⟨rfl, Does.err HB.out⟩
  · have e1 : (match stk (K ++ [p]) with | [] => Lk.Out.err 7 | t :: s' => Lk.put t (t :: s')) = Lk.put p.1 (stk (K ++ [p])) := by rw [show p = (p.1, p.2) from rfl, stk_snoc]
    rw [e1]
    obtain ⟨d, hd⟩ : ∃ d : Lk.Out, d = Lk.put p.1 (stk (K ++ [p])) := ⟨_, rfl⟩
    rw [← hd]
    have HD := hide hd
    clear hd
    have HT := hide (take_ok R base m h K p _ s0)
    have hKl : K.length < 30 := by have := s0.few; simp at this; omega
    have hpb := (s0.has p (by simp)).2
    have HPB := hide hpb
    obtain ⟨pa, pc, hpe, _, _⟩ := (s0.has p (by simp)).1.has.shape
    obtain ⟨px, pv⟩ := p
    simp only at hpe
    subst hpe
    clear s0 hpb
    go_enter Tryd.func59, Tryd.ntmps59
    go_wp2_with fail
    refine HT.out.mono ?_
    rintro e w1 ⟨rfl, t1, t2, t3, t4, t5⟩
    have HS1 := hide t1
    have HX1 := hide t2
    have HB1 := hide (HB.out.trans t4)
    clear t1 t2 t3 t4 t5
    try simp only at HX1
    have HP := hide (put_ok R base m h K px _ w1 HS1.out hKl HX1.out HPB.out)
    go_wp2_with fail
    refine HP.out.mono ?_
    rintro e w2 ⟨rfl, t1, t2, t3⟩
    have HP2 := hide (put_any R base m h _ px _ w2 t1 (t2 _ _ HX1.out) HPB.out)
    have hd := HD.out
    try simp only at hd
    rw [← hd] at HP2
    have HB2 := hide (HB1.out.trans t3)
    clear t1 t2 t3
    clear hd HD
    go_wp2_with fail
    refine HP2.out.mono ?_
    intro e w3 hd
    cases d with
    | err c =>
      obtain ⟨rfl, h1⟩ := hd
      exact ⟨rfl, Does.err (HB2.out.trans h1)⟩
    | ok s1 =>
      obtain ⟨rfl, K1, h1, h2, h3⟩ := hd
      have HQ := hide (Does.ok h1 h2 (HB2.out.trans h3))
      clear h1 h2 h3
      go_wp2
      go_end0
      exact HQ.out

set_option maxRecDepth 100000 in
set_option maxHeartbeats 1600000 in
theorem do_drop (s : St w R base m h K) :
    Calls Tryd.prog 59 #[.pointer (some ⟨R, 0, none⟩), .agg #[.int .i64 3, .int .i64 n, .slice a len cap]] w fun e w' => Does R base m h (match stk K with | [] => .err 7 | _ :: s' => .ok s') e w w' := by
  have hb0 := below_alloc w (.cells #[.int .i64 3, .int .i64 n, .slice a len cap] 38)
  have s0 := s.below hb0
  have HB : Hid (Below base w (w.alloc (.cells #[.int .i64 3, .int .i64 n, .slice a len cap] 38))) := hide (hb0.mono (Nat.le_trans s.lay (Nat.le_of_lt s.is.lt)))
  clear s hb0
  rcases snoc_cases K with rfl | ⟨K, p, rfl⟩
  · show Calls _ _ _ _ fun e w' => Does R base m h (.err 7) e w w'
    have HT := hide (take_none R base m h _ s0)
    clear s0
    go_enter Tryd.func59, Tryd.ntmps59
    go_wp2_with fail
    refine HT.out.mono ?_
    rintro e w1 ⟨rfl, rfl⟩
    exact ⟨rfl, Does.err HB.out⟩
  · have e1 : (match stk (K ++ [p]) with | [] => Lk.Out.err 7 | _ :: s' => .ok s') = .ok (stk K) := by rw [show p = (p.1, p.2) from rfl, stk_snoc]
    rw [e1]
    have HT := hide (take_ok R base m h K p _ s0)
    have hKl : K.length < 30 := by have := s0.few; simp at this; omega
    have hpb := (s0.has p (by simp)).2
    have HPB := hide hpb
    obtain ⟨pa, pc, hpe, _, _⟩ := (s0.has p (by simp)).1.has.shape
    obtain ⟨px, pv⟩ := p
    simp only at hpe
    subst hpe
    clear s0 hpb
    go_enter Tryd.func59, Tryd.ntmps59
    go_wp2_with fail
    refine HT.out.mono ?_
    rintro e w1 ⟨rfl, t1, t2, t3, t4, t5⟩
    have HS1 := hide t1
    have HX1 := hide t2
    have HB1 := hide (HB.out.trans t4)
    clear t1 t2 t3 t4 t5
    try simp only at HX1
    have HQ := hide (Does.ok HS1.out rfl HB1.out)
    go_wp2
    go_end0
    exact HQ.out

set_option maxRecDepth 100000 in
set_option maxHeartbeats 1600000 in
theorem do_swap (s : St w R base m h K) :
    Calls Tryd.prog 59 #[.pointer (some ⟨R, 0, none⟩), .agg #[.int .i64 4, .int .i64 n, .slice a len cap]] w fun e w' => Does R base m h (match stk K with | t :: u :: s' => .ok (u :: t :: s') | _ => .err 7) e w w' := by
  have hb0 := below_alloc w (.cells #[.int .i64 4, .int .i64 n, .slice a len cap] 38)
  have s0 := s.below hb0
  have HB : Hid (Below base w (w.alloc (.cells #[.int .i64 4, .int .i64 n, .slice a len cap] 38))) := hide (hb0.mono (Nat.le_trans s.lay (Nat.le_of_lt s.is.lt)))
  clear s hb0
  rcases snoc_cases K with rfl | ⟨K, p, rfl⟩
  · show Calls _ _ _ _ fun e w' => Does R base m h (.err 7) e w w'
    have HT := hide (take_none R base m h _ s0)
    clear s0
    go_enter Tryd.func59, Tryd.ntmps59
    go_wp2_with fail
    refine HT.out.mono ?_
    rintro e w1 ⟨rfl, rfl⟩
    exact ⟨rfl, Does.err HB.out⟩
  · rcases snoc_cases K with rfl | ⟨K, q, rfl⟩
    · show Calls _ _ _ _ fun e w' => Does R base m h (.err 7) e w w'
      have HT := hide (take_ok R base m h [] p _ s0)
      have hpb := (s0.has p (by simp)).2
      have HPB := hide hpb
      obtain ⟨pa, pc, hpe, _, _⟩ := (s0.has p (by simp)).1.has.shape
      obtain ⟨px, pv⟩ := p
      simp only at hpe
      subst hpe
      clear s0 hpb
      go_enter Tryd.func59, Tryd.ntmps59
      go_wp2_with fail
      refine HT.out.mono ?_
      rintro e w1 ⟨rfl, t1, t2, t3, t4, t5⟩
      have HS1 := hide t1
      have HX1 := hide t2
      have HB1 := hide (HB.out.trans t4)
      clear t1 t2 t3 t4 t5
      try simp only at HX1
      have HT2 := hide (take_none R base m h _ HS1.out)
      go_wp2_with fail
      refine HT2.out.mono ?_
      rintro e w2 ⟨rfl, rfl⟩
      exact ⟨rfl, Does.err HB1.out⟩
    · have e1 : (match stk (K ++ [q] ++ [p]) with | t :: u :: s' => Lk.Out.ok (u :: t :: s') | _ => .err 7) = .ok (stk (K ++ [p] ++ [q])) := by rw [show p = (p.1, p.2) from rfl, show q = (q.1, q.2) from rfl, stk_snoc, stk_snoc, stk_snoc, stk_snoc]
      rw [e1]
      have HT := hide (take_ok R base m h (K ++ [q]) p _ s0)
      have hKl : K.length < 29 := by have := s0.few; simp at this; omega
      have hpb := (s0.has p (by simp)).2
      have HPB := hide hpb
      obtain ⟨pa, pc, hpe, _, _⟩ := (s0.has p (by simp)).1.has.shape
      obtain ⟨px, pv⟩ := p
      simp only at hpe
      subst hpe
      clear s0 hpb
      go_enter Tryd.func59, Tryd.ntmps59
      go_wp2_with fail
      refine HT.out.mono ?_
      rintro e w1 ⟨rfl, t1, t2, t3, t4, t5⟩
      have HS1 := hide t1
      have HX1 := hide t2
      have HB1 := hide (HB.out.trans t4)
      clear t1 t2 t3 t4 t5
      try simp only at HX1
      have HT2 := hide (take_ok R base m h K q _ HS1.out)
      have HQB := hide (HS1.out.has q (by simp)).2
      obtain ⟨qa, qc, hqe, _, _⟩ := (HS1.out.has q (by simp)).1.has.shape
      obtain ⟨qx, qv⟩ := q
      simp only at hqe
      subst hqe
      go_wp2_with fail
      refine HT2.out.mono ?_
      rintro e w2 ⟨rfl, t1, t2, t3, t4, t5⟩
      have HS2 := hide t1
      have HX2 := hide t2
      have HP2 := hide (t3 _ _ HX1.out)
      have HB2 := hide (HB1.out.trans t4)
      clear t1 t2 t3 t4 t5
      try simp only at HX2
      have HP := hide (put_ok R base m h K px _ w2 HS2.out (by omega) HP2.out HPB.out)
      go_wp2_with fail
      refine HP.out.mono ?_
      rintro e w3 ⟨rfl, t1, t2, t3⟩
      have HP3 := hide (put_ok R base m h _ qx _ w3 t1 (by simp; omega) (t2 _ _ HX2.out) HQB.out)
      have HB3 := hide (HB2.out.trans t3)
      clear t1 t2 t3
      go_wp2_with fail
      refine HP3.out.mono ?_
      rintro e w4 ⟨rfl, t1, t2, t3⟩
      have HQ := hide (Does.ok t1 rfl (HB3.out.trans t3))
      clear t1 t2 t3
      go_wp2
      go_end0
      exact HQ.out

set_option maxRecDepth 100000 in
set_option maxHeartbeats 1600000 in
theorem do_equal (s : St w R base m h K) :
    Calls Tryd.prog 59 #[.pointer (some ⟨R, 0, none⟩), .agg #[.int .i64 5, .int .i64 n, .slice a len cap]] w fun e w' => Does R base m h (match stk K with | t :: u :: s' => Lk.tell (decide (t = u)) s' | _ => .err 7) e w w' := by
  have hb0 := below_alloc w (.cells #[.int .i64 5, .int .i64 n, .slice a len cap] 38)
  have s0 := s.below hb0
  have HB : Hid (Below base w (w.alloc (.cells #[.int .i64 5, .int .i64 n, .slice a len cap] 38))) := hide (hb0.mono (Nat.le_trans s.lay (Nat.le_of_lt s.is.lt)))
  clear s hb0
  rcases snoc_cases K with rfl | ⟨K, p, rfl⟩
  · show Calls _ _ _ _ fun e w' => Does R base m h (.err 7) e w w'
    have HT := hide (take_none R base m h _ s0)
    clear s0
    go_enter Tryd.func59, Tryd.ntmps59
    go_wp2_with fail
    refine HT.out.mono ?_
    rintro e w1 ⟨rfl, rfl⟩
    exact ⟨rfl, Does.err HB.out⟩
  · rcases snoc_cases K with rfl | ⟨K, q, rfl⟩
    · show Calls _ _ _ _ fun e w' => Does R base m h (.err 7) e w w'
      have HT := hide (take_ok R base m h [] p _ s0)
      have hpb := (s0.has p (by simp)).2
      have HPB := hide hpb
      obtain ⟨pa, pc, hpe, _, _⟩ := (s0.has p (by simp)).1.has.shape
      obtain ⟨px, pv⟩ := p
      simp only at hpe
      subst hpe
      clear s0 hpb
      go_enter Tryd.func59, Tryd.ntmps59
      go_wp2_with fail
      refine HT.out.mono ?_
      rintro e w1 ⟨rfl, t1, t2, t3, t4, t5⟩
      have HS1 := hide t1
      have HX1 := hide t2
      have HB1 := hide (HB.out.trans t4)
      clear t1 t2 t3 t4 t5
      try simp only at HX1
      have HT2 := hide (take_none R base m h _ HS1.out)
      go_wp2_with fail
      refine HT2.out.mono ?_
      rintro e w2 ⟨rfl, rfl⟩
      exact ⟨rfl, Does.err HB1.out⟩
    · have e1 : (match stk (K ++ [q] ++ [p]) with | t :: u :: s' => Lk.tell (decide (t = u)) s' | _ => .err 7) = Lk.tell (decide (p.1 = q.1)) (stk K) := by rw [show p = (p.1, p.2) from rfl, show q = (q.1, q.2) from rfl, stk_snoc, stk_snoc]
      rw [e1, tell_stk _ _ (by have := s0.few; simp at this; omega)]
      obtain ⟨d, hd⟩ : ∃ d : Bool, d = decide (p.1 = q.1) := ⟨_, rfl⟩
      rw [← hd]
      have HD := hide hd
      clear hd
      have HT := hide (take_ok R base m h (K ++ [q]) p _ s0)
      have hKl : K.length < 29 := by have := s0.few; simp at this; omega
      have hpb := (s0.has p (by simp)).2
      have HPB := hide hpb
      obtain ⟨pa, pc, hpe, _, _⟩ := (s0.has p (by simp)).1.has.shape
      obtain ⟨px, pv⟩ := p
      simp only at hpe
      subst hpe
      clear s0 hpb
      go_enter Tryd.func59, Tryd.ntmps59
      go_wp2_with fail
      refine HT.out.mono ?_
      rintro e w1 ⟨rfl, t1, t2, t3, t4, t5⟩
      have HS1 := hide t1
      have HX1 := hide t2
      have HB1 := hide (HB.out.trans t4)
      clear t1 t2 t3 t4 t5
      try simp only at HX1
      have HT2 := hide (take_ok R base m h K q _ HS1.out)
      have HQB := hide (HS1.out.has q (by simp)).2
      obtain ⟨qa, qc, hqe, _, _⟩ := (HS1.out.has q (by simp)).1.has.shape
      obtain ⟨qx, qv⟩ := q
      simp only at hqe
      subst hqe
      go_wp2_with fail
      refine HT2.out.mono ?_
      rintro e w2 ⟨rfl, t1, t2, t3, t4, t5⟩
      have HS2 := hide t1
      have HX2 := hide t2
      have HP2 := hide (t3 _ _ HX1.out)
      have HB2 := hide (HB1.out.trans t4)
      clear t1 t2 t3 t4 t5
      try simp only at HX2
      have HE := hide (bequal_any _ _ px qx w2 HP2.out.has HX2.out.has HPB.out.1 HQB.out.1)
      have hd := HD.out
      try simp only at hd
      rw [← hd] at HE
      clear hd HD
      go_wp2_with fail
      refine HE.out.mono ?_
      rintro e w3 ⟨rfl, rfl⟩
      have HT3 := hide (tell_ok R base m h K d w2 HS2.out (by omega))
      go_wp2_with fail
      refine HT3.out.mono ?_
      rintro e w4 ⟨rfl, v4, t1, t2, t3⟩
      have HQ := hide (Does.ok t1 (stk_snoc _ _ _) (HB2.out.trans t3))
      clear t1 t2 t3
      go_wp2
      go_end0
      exact HQ.out

set_option maxRecDepth 100000 in
set_option maxHeartbeats 1600000 in
theorem do_must (s : St w R base m h K) :
    Calls Tryd.prog 59 #[.pointer (some ⟨R, 0, none⟩), .agg #[.int .i64 6, .int .i64 n, .slice a len cap]] w fun e w' => Does R base m h (match stk K with | [] => .err 7 | t :: s' => if Lk.isTrue t then .ok s' else .err 7) e w w' := by
  have hb0 := below_alloc w (.cells #[.int .i64 6, .int .i64 n, .slice a len cap] 38)
  have s0 := s.below hb0
  have HB : Hid (Below base w (w.alloc (.cells #[.int .i64 6, .int .i64 n, .slice a len cap] 38))) := hide (hb0.mono (Nat.le_trans s.lay (Nat.le_of_lt s.is.lt)))
  clear s hb0
  rcases snoc_cases K with rfl | ⟨K, p, rfl⟩
  · show Calls _ _ _ _ fun e w' => Does R base m h (.err 7) e w w'
    have HT := hide (take_none R base m h _ s0)
    clear s0
    go_enter Tryd.func59, Tryd.ntmps59
    go_wp2_with fail
    refine HT.out.mono ?_
    rintro e w1 ⟨rfl, rfl⟩
    exact ⟨rfl, Does.err HB.out⟩
  · have e1 : (match stk (K ++ [p]) with | [] => Lk.Out.err 7 | t :: s' => if Lk.isTrue t then .ok s' else .err 7) = if Lk.isTrue p.1 then .ok (stk K) else .err 7 := by rw [show p = (p.1, p.2) from rfl, stk_snoc]
    rw [e1]
    obtain ⟨d, hd⟩ : ∃ d : Bool, d = Lk.isTrue p.1 := ⟨_, rfl⟩
    rw [← hd]
    have HD := hide hd
    clear hd
    have HT := hide (take_ok R base m h K p _ s0)
    have hKl : K.length < 30 := by have := s0.few; simp at this; omega
    have hpb := (s0.has p (by simp)).2
    have HPB := hide hpb
    obtain ⟨pa, pc, hpe, _, _⟩ := (s0.has p (by simp)).1.has.shape
    obtain ⟨px, pv⟩ := p
    simp only at hpe
    subst hpe
    clear s0 hpb
    go_enter Tryd.func59, Tryd.ntmps59
    go_wp2_with fail
    refine HT.out.mono ?_
    rintro e w1 ⟨rfl, t1, t2, t3, t4, t5⟩
    have HS1 := hide t1
    have HX1 := hide t2
    have HB1 := hide (HB.out.trans t4)
    clear t1 t2 t3 t4 t5
    try simp only at HX1
    have HE := hide (isTrue_any _ px w1 HX1.out.has)
    have hd := HD.out
    try simp only at hd
    rw [← hd] at HE
    clear hd HD
    go_wp2_with fail
    refine HE.out.mono ?_
    rintro e w2 ⟨rfl, rfl⟩
    cases d with
    | true =>
      go_wp2_with fail
      refine (must_true _ w1).mono ?_
      rintro e w2 ⟨rfl, rfl⟩
      have HQ := hide (Does.ok HS1.out rfl HB1.out)
      go_wp2
      go_end0
      exact HQ.out
    | false =>
      go_wp2_with fail
      refine (must_false _ w1).mono ?_
      rintro e w2 ⟨rfl, rfl⟩
      exact ⟨rfl, Does.err HB1.out⟩

set_option maxRecDepth 100000 in
set_option maxHeartbeats 1600000 in
theorem do_not (s : St w R base m h K) :
    Calls Tryd.prog 59 #[.pointer (some ⟨R, 0, none⟩), .agg #[.int .i64 14, .int .i64 n, .slice a len cap]] w fun e w' => Does R base m h (match stk K with | [] => .err 7 | t :: s' => Lk.tell (!Lk.isTrue t) s') e w w' := by
  have hb0 := below_alloc w (.cells #[.int .i64 14, .int .i64 n, .slice a len cap] 38)
  have s0 := s.below hb0
  have HB : Hid (Below base w (w.alloc (.cells #[.int .i64 14, .int .i64 n, .slice a len cap] 38))) := hide (hb0.mono (Nat.le_trans s.lay (Nat.le_of_lt s.is.lt)))
  clear s hb0
  rcases snoc_cases K with rfl | ⟨K, p, rfl⟩
  · show Calls _ _ _ _ fun e w' => Does R base m h (.err 7) e w w'
    have HT := hide (take_none R base m h _ s0)
    clear s0
    go_enter Tryd.func59, Tryd.ntmps59
    go_wp2_with fail
    refine HT.out.mono ?_
    rintro e w1 ⟨rfl, rfl⟩
    exact ⟨rfl, Does.err HB.out⟩
  · have e1 : (match stk (K ++ [p]) with | [] => Lk.Out.err 7 | t :: s' => Lk.tell (!Lk.isTrue t) s') = Lk.tell (!Lk.isTrue p.1) (stk K) := by rw [show p = (p.1, p.2) from rfl, stk_snoc]
    rw [e1, tell_stk _ _ (by have := s0.few; simp at this; omega)]
    obtain ⟨d, hd⟩ : ∃ d : Bool, d = Lk.isTrue p.1 := ⟨_, rfl⟩
    rw [← hd]
    have HD := hide hd
    clear hd
    have HT := hide (take_ok R base m h K p _ s0)
    have hKl : K.length < 30 := by have := s0.few; simp at this; omega
    have hpb := (s0.has p (by simp)).2
    have HPB := hide hpb
    obtain ⟨pa, pc, hpe, _, _⟩ := (s0.has p (by simp)).1.has.shape
    obtain ⟨px, pv⟩ := p
    simp only at hpe
    subst hpe
    clear s0 hpb
    go_enter Tryd.func59, Tryd.ntmps59
    go_wp2_with fail
    refine HT.out.mono ?_
    rintro e w1 ⟨rfl, t1, t2, t3, t4, t5⟩
    have HS1 := hide t1
    have HX1 := hide t2
    have HB1 := hide (HB.out.trans t4)
    clear t1 t2 t3 t4 t5
    try simp only at HX1
    have HE := hide (isTrue_any _ px w1 HX1.out.has)
    have hd := HD.out
    try simp only at hd
    rw [← hd] at HE
    clear hd HD
    go_wp2_with fail
    refine HE.out.mono ?_
    rintro e w2 ⟨rfl, rfl⟩
    have HT3 := hide (tell_ok R base m h K (!d) w1 HS1.out hKl)
    go_wp2_with fail
    refine HT3.out.mono ?_
    rintro e w4 ⟨rfl, v4, t1, t2, t3⟩
    have HQ := hide (Does.ok t1 (stk_snoc _ _ _) (HB1.out.trans t3))
    clear t1 t2 t3
    go_wp2
    go_end0
    exact HQ.out
end
end Go.Proofs.YtkdihbgjeanjdaaDoor

/- One op is done: what is hashed, and what is signed. -/
namespace Go.Proofs.YtkdihbgjeanjdaaDoor
open Go.RowKit
set_option linter.unusedVariables false

theorem has_dig {w : World} {b : Nat} {D : List Int} (hi : Is w b (vals D) 25) (hl : D.length = 32) : Has w (.slice (some ⟨b, 0, none⟩) 32 32) D := by
  refine .inr ⟨b, 0, 32, by rw [hl], by omega, by omega, by unfold maxLen; omega, fun j hj => ?_⟩
  rw [Nat.zero_add, hi.cell]
  simp [vals, List.getElem?_eq_getElem hj]
theorem has_new {R base : Nat} {m : List Int} {h : Int} {K : List (List Int × Value)} {D : List Int} {w w3 : World} {b : Nat} (s : St w R base m h K) (hb : Below w.heap.size w w3) (hge : w.heap.size ≤ b) (hi : Is w3 b (vals D) 25) (hl : D.length = 32) : HasH R w3 (.slice (some ⟨b, 0, none⟩) 32 32) D := by
  have h1 := s.is.lt
  refine .inr ⟨b, 0, 32, by rw [hl], by omega, by omega, by unfold maxLen; omega, ⟨by omega, fun e => ?_⟩, fun j hj => ?_⟩
  · rw [handOf_below hb h1] at e
    have := (World.ownsRow.lt s.own _ e).2
    omega
  · rw [Nat.zero_add, hi.cell]
    simp [vals, List.getElem?_eq_getElem hj]
theorem signed_f {R base : Nat} {m : List Int} {h : Int} {K : List (List Int × Value)} {sig k : List Int} {v kv : Value} (w : World) (s : St w R base m h K) (hs : Has w v sig) (hk : Has w kv k) (hsb : Sz.Byt sig) (hkb : Sz.Byt k) (c : Nat) (hc : w.cell? ⟨c, 0, none⟩ = some kv) (ht : Tab w) (hw : 1 < w.heap.size) :
    Calls Tryd.prog 78 #[.pointer (some ⟨R, 0, none⟩), v, .func (.func 79) #[] #[.pointer (some ⟨c, 0, none⟩)]] w fun e w' => e = .returned (.bool (Lk.signed m sig k)) ∧ Below w.heap.size w w' := by
  by_cases hl : sig.length = 2144
  · have e1 : Lk.signed m sig k = decide (Ky.recov m sig = k) := by unfold Lk.signed; rw [decide_eq_true hl]; rfl
    rw [e1]
    refine (isSigned_good R base m h K sig v 79 #[.pointer (some ⟨c, 0, none⟩)] (decide (Ky.recov m sig = k)) (fun W w' => W = w') w s hs hl hsb ht hw call_doF ?_).mono ?_
    · intro W b hb hge hi
      exact doF_any _ kv (Ky.recov m sig) k c W (has_dig hi (Ky.recov_length m sig)) (hk.below hb) (Mc.sum_byt _) hkb (by rw [hb.cell (p := ⟨c, 0, none⟩) (World.block_lt_of_cell? w _ hc)]; exact hc)
    · rintro e w' ⟨rfl, W, hb, rfl⟩
      exact ⟨rfl, hb⟩
  · have e1 : Lk.signed m sig k = false := by unfold Lk.signed; rw [decide_eq_false hl]; rfl
    rw [e1]
    exact isSigned_bad R base m h K sig v _ w s hs hl hsb ht hw

section
variable (R base : Nat) (m : List Int) (h : Int) (K : List (List Int × Value)) (n : Int) (a : Option Addr) (len cap : Nat) (w : World)

set_option maxRecDepth 100000 in
set_option maxHeartbeats 1600000 in
theorem do_hash (s : St w R base m h K) (ht : Tab w) (hw : 1 < base) :
    Calls Tryd.prog 59 #[.pointer (some ⟨R, 0, none⟩), .agg #[.int .i64 7, .int .i64 n, .slice a len cap]] w fun e w' => Does R base m h (match stk K with | [] => .err 7 | t :: s' => Lk.put (Sh.sum t) s') e w w' := by
  have hb0 := below_alloc w (.cells #[.int .i64 7, .int .i64 n, .slice a len cap] 38)
  have s0 := s.below hb0
  have HB : Hid (Below base w (w.alloc (.cells #[.int .i64 7, .int .i64 n, .slice a len cap] 38))) := hide (hb0.mono (Nat.le_trans s.lay (Nat.le_of_lt s.is.lt)))
  have HTAB := hide ht
  have HLAY := hide s.lay
  clear s hb0 ht
  rcases snoc_cases K with rfl | ⟨K, p, rfl⟩
  · show Calls _ _ _ _ fun e w' => Does R base m h (.err 7) e w w'
    have HT := hide (take_none R base m h _ s0)
    clear s0
    go_enter Tryd.func59, Tryd.ntmps59
    go_wp2_with fail
    refine HT.out.mono ?_
    rintro e w1 ⟨rfl, rfl⟩
    exact ⟨rfl, Does.err HB.out⟩
  · have e1 : (match stk (K ++ [p]) with | [] => Lk.Out.err 7 | t :: s' => Lk.put (Sh.sum t) s') = .ok (Sh.sum p.1 :: stk K) := by rw [show p = (p.1, p.2) from rfl, stk_snoc]; show Lk.put _ _ = _; unfold Lk.put; rw [stk_length, if_neg (by have := s0.few; simp at this; omega)]
    rw [e1]
    obtain ⟨D, hD⟩ : ∃ D, D = Sh.sum p.1 := ⟨_, rfl⟩
    have hDl : D.length = 32 := by rw [hD]; exact Mc.sum_length _
    have hDb : Sz.Byt D := by rw [hD]; exact Mc.sum_byt _
    rw [← hD]
    have HD := hide hD
    have HDL := hide hDl
    have HDB := hide hDb
    clear hD hDl hDb
    have hzd := zero_dig
    obtain ⟨Z, hZ⟩ : ∃ Z, Z = vals (List.replicate 32 0) := ⟨_, rfl⟩
    rw [← hZ] at hzd
    have hZl : Z.length = 32 := by rw [hZ]; simp [vals]
    have hZp : ¬ Z = [] := by intro h; rw [h] at hZl; cases hZl
    have HZL := hide hZl
    clear hZ hZl
    have HT := hide (take_ok R base m h K p _ s0)
    have hKl : K.length < 30 := by have := s0.few; simp at this; omega
    have hpb := (s0.has p (by simp)).2
    have HPB := hide hpb
    obtain ⟨pa, pc, hpe, _, _⟩ := (s0.has p (by simp)).1.has.shape
    obtain ⟨px, pv⟩ := p
    simp only at hpe
    subst hpe
    clear s0 hpb
    go_enter Tryd.func59, Tryd.ntmps59
    go_wp2_with fail
    refine HT.out.mono ?_
    rintro e w1 ⟨rfl, t1, t2, t3, t4, t5⟩
    have HS1 := hide t1
    have HX1 := hide t2
    have HB1 := hide (HB.out.trans t4)
    clear t1 t2 t3 t4 t5
    try simp only at HX1
    have HSUM := hide (sum_any _ px w1 HX1.out.has HPB.out.1 (HTAB.out.below HB1.out hw) (Nat.lt_of_lt_of_le hw (Nat.le_trans HS1.out.lay (Nat.le_of_lt HS1.out.is.lt))) (by have := HPB.out.2; omega))
    have hd := HD.out
    try simp only at hd
    rw [← hd] at HSUM
    clear hd HD
    have HSZ := hide (Nat.le_trans HS1.out.lay (Nat.le_of_lt HS1.out.is.lt))
    go_wp2_with (first
      | (go_at_call 15; refine HSUM.out.mono ?_; rintro e w2 ⟨rfl, hb2⟩)
      | (refine wpList_store_any2 25 Z (vals D) w2.heap.size rfl (.tmp 7) (.tmp 65) rfl rfl rfl rfl (Is.new w2 _ _) size_dig HZL.out (by rw [vals_length]; exact HDL.out) (vals_one _) ?_; intro w3 hi3 hb3 hk3 hz3; have hb3' := hide (hb3 _ _ (hb2.alloc hb2.size _) hb2.size); have HI3 := hide hi3; have HB2 := hide hb2.size; clear hb2 hb3 hk3 hi3)
      | (go_at_call 44; refine (put_ok R base m h K D _ w3 (HS1.out.below hb3'.out) hKl (has_new HS1.out hb3'.out HB2.out HI3.out HDL.out) ⟨HDB.out, by rw [HDL.out]; omega⟩).mono ?_; rintro e w4 ⟨rfl, t1, t2, t3⟩; have HQ := hide (Does.ok t1 (stk_snoc _ _ _) ((HB1.out.trans (hb3'.out.mono HSZ.out)).trans t3)); clear t1 t2 t3))
    go_end0
    exact HQ.out

set_option maxRecDepth 100000 in
set_option maxHeartbeats 1600000 in
theorem do_signed (s : St w R base m h K) (ht : Tab w) (hw : 1 < base) :
    Calls Tryd.prog 59 #[.pointer (some ⟨R, 0, none⟩), .agg #[.int .i64 8, .int .i64 n, .slice a len cap]] w fun e w' => Does R base m h (match stk K with | k :: sig :: s' => Lk.tell (Lk.signed m sig k) s' | _ => .err 7) e w w' := by
  have hb0 := below_alloc w (.cells #[.int .i64 8, .int .i64 n, .slice a len cap] 38)
  have s0 := s.below hb0
  have HB : Hid (Below base w (w.alloc (.cells #[.int .i64 8, .int .i64 n, .slice a len cap] 38))) := hide (hb0.mono (Nat.le_trans s.lay (Nat.le_of_lt s.is.lt)))
  have HTAB := hide ht
  have HLAY := hide s.lay
  clear s hb0 ht
  rcases snoc_cases K with rfl | ⟨K, p, rfl⟩
  · show Calls _ _ _ _ fun e w' => Does R base m h (.err 7) e w w'
    have HT := hide (take_none R base m h _ s0)
    clear s0
    go_enter Tryd.func59, Tryd.ntmps59
    go_wp2_with fail
    refine HT.out.mono ?_
    rintro e w1 ⟨rfl, rfl⟩
    exact ⟨rfl, Does.err HB.out⟩
  · rcases snoc_cases K with rfl | ⟨K, q, rfl⟩
    · show Calls _ _ _ _ fun e w' => Does R base m h (.err 7) e w w'
      have HT := hide (take_ok R base m h [] p _ s0)
      have hpb := (s0.has p (by simp)).2
      have HPB := hide hpb
      obtain ⟨pa, pc, hpe, _, _⟩ := (s0.has p (by simp)).1.has.shape
      obtain ⟨px, pv⟩ := p
      simp only at hpe
      subst hpe
      clear s0 hpb
      go_enter Tryd.func59, Tryd.ntmps59
      go_wp2_with fail
      refine HT.out.mono ?_
      rintro e w1 ⟨rfl, t1, t2, t3, t4, t5⟩
      have HS1 := hide t1
      have HX1 := hide t2
      have HB1 := hide (HB.out.trans t4)
      clear t1 t2 t3 t4 t5
      try simp only at HX1
      have HT2 := hide (take_none R base m h _ HS1.out)
      go_wp2_with fail
      refine HT2.out.mono ?_
      rintro e w2 ⟨rfl, rfl⟩
      exact ⟨rfl, Does.err HB1.out⟩
    · have e1 : (match stk (K ++ [q] ++ [p]) with | t :: u :: s' => Lk.tell (Lk.signed m u t) s' | _ => .err 7) = Lk.tell (Lk.signed m q.1 p.1) (stk K) := by rw [show p = (p.1, p.2) from rfl, show q = (q.1, q.2) from rfl, stk_snoc, stk_snoc]
      rw [e1, tell_stk _ _ (by have := s0.few; simp at this; omega)]
      obtain ⟨d, hd⟩ : ∃ d : Bool, d = Lk.signed m q.1 p.1 := ⟨_, rfl⟩
      rw [← hd]
      have HD := hide hd
      clear hd
      have HT := hide (take_ok R base m h (K ++ [q]) p _ s0)
      have hKl : K.length < 29 := by have := s0.few; simp at this; omega
      have hpb := (s0.has p (by simp)).2
      have HPB := hide hpb
      obtain ⟨pa, pc, hpe, _, _⟩ := (s0.has p (by simp)).1.has.shape
      obtain ⟨px, pv⟩ := p
      simp only at hpe
      subst hpe
      clear s0 hpb
      go_enter Tryd.func59, Tryd.ntmps59
      go_wp2_with fail
      refine HT.out.mono ?_
      rintro e w1 ⟨rfl, t1, t2, t3, t4, t5⟩
      have HS1 := hide t1
      have HX1 := hide t2
      have HB1 := hide (HB.out.trans t4)
      clear t1 t2 t3 t4 t5
      try simp only at HX1
      have HT2 := hide (take_ok R base m h K q _ HS1.out)
      have HQB := hide (HS1.out.has q (by simp)).2
      obtain ⟨qa, qc, hqe, _, _⟩ := (HS1.out.has q (by simp)).1.has.shape
      obtain ⟨qx, qv⟩ := q
      simp only at hqe
      subst hqe
      go_wp2_with fail
      refine HT2.out.mono ?_
      rintro e w2 ⟨rfl, t1, t2, t3, t4, t5⟩
      have HS2 := hide t1
      have HX2 := hide t2
      have HP2 := hide (t3 _ _ HX1.out)
      have HB2 := hide (HB1.out.trans t4)
      clear t1 t2 t3 t4 t5
      try simp only at HX2
      have hd := HD.out
      try simp only at hd
      have HSI := hide (signed_f (w2.alloc (.cells #[.slice pa px.length pc] 36)) (HS2.out.below (below_alloc _ _)) (HX2.out.has.below (below_alloc _ _)) (HP2.out.has.below (below_alloc _ _)) HQB.out.1 HPB.out.1 w2.heap.size (by rw [World.cell?_alloc_new]; rfl) (HTAB.out.below (HB2.out.alloc (Nat.le_trans HS2.out.lay (Nat.le_of_lt HS2.out.is.lt)) _) hw) (by simp; have := HS2.out.lay; have := HS2.out.is.lt; omega))
      rw [← hd] at HSI
      clear hd HD
      have hmf : ∀ (fn : Fn) (first cap : Array Value) (w : World), (Instr.makeFunc fn first cap).run Tryd.prog w = .ok (.func fn first cap) w := fun _ _ _ _ => rfl
      go_wp2_with fail
      refine HSI.out.mono ?_
      rintro e w3 ⟨rfl, hb3⟩
      have hb3' := (below_alloc w2 (.cells #[.slice pa px.length pc] 36)).trans (hb3.mono (by simp))
      have HT3 := hide (tell_ok R base m h K d w3 (HS2.out.below hb3') (by omega))
      have HB3 := hide (HB2.out.trans (hb3'.mono (Nat.le_trans HS2.out.lay (Nat.le_of_lt HS2.out.is.lt))))
      clear hb3 hb3'
      go_wp2_with fail
      refine HT3.out.mono ?_
      rintro e w4 ⟨rfl, v4, t1, t2, t3⟩
      have HQ := hide (Does.ok t1 (stk_snoc _ _ _) (HB3.out.trans t3))
      clear t1 t2 t3
      go_wp2
      go_end0
      exact HQ.out
end
end Go.Proofs.YtkdihbgjeanjdaaDoor

/- One op is done: many signatures, and what waits; and any op. -/
namespace Go.Proofs.YtkdihbgjeanjdaaDoor
open Go.RowKit
set_option linter.unusedVariables false

section
variable (R base : Nat) (m : List Int) (h : Int) (K : List (List Int × Value)) (n : Int) (a : Option Addr) (len cap : Nat) (w : World)

set_option maxRecDepth 100000 in
set_option maxHeartbeats 1600000 in
theorem do_many (N : Nat) (s : St w R base m h K) (ht : Tab w) (hw : 1 < base) (hN1 : 1 ≤ N) (hN9 : N ≤ 9) :
    Calls Tryd.prog 59 #[.pointer (some ⟨R, 0, none⟩), .agg #[.int .i64 9, .int .i64 (N : Int), .slice a len cap]] w fun e w' => Does R base m h (match stk K with | [] => .err 7 | k :: s' => if s'.length < N then .err 7 else Lk.tell (Lk.many m k (s'.take N).reverse) (s'.drop N)) e w w' := by
  have hb0 := below_alloc w (.cells #[.int .i64 9, .int .i64 (N : Int), .slice a len cap] 38)
  have s0 := s.below hb0
  have HB : Hid (Below base w (w.alloc (.cells #[.int .i64 9, .int .i64 (N : Int), .slice a len cap] 38))) := hide (hb0.mono (Nat.le_trans s.lay (Nat.le_of_lt s.is.lt)))
  have HTAB := hide ht
  have HRL := hide s.is.lt
  clear s hb0 ht
  rcases snoc_cases K with rfl | ⟨K, p, rfl⟩
  · show Calls _ _ _ _ fun e w' => Does R base m h (.err 7) e w w'
    have HT := hide (take_none R base m h _ s0)
    clear s0
    go_enter Tryd.func59, Tryd.ntmps59
    go_wp2_with fail
    refine HT.out.mono ?_
    rintro e w1 ⟨rfl, rfl⟩
    exact ⟨rfl, Does.err HB.out⟩
  · have e1 : (match stk (K ++ [p]) with | [] => Lk.Out.err 7 | k :: s' => if s'.length < N then .err 7 else Lk.tell (Lk.many m k (s'.take N).reverse) (s'.drop N)) = if K.length < N then .err 7 else Lk.tell (Lk.many m p.1 ((K.drop (K.length - N)).map Prod.fst)) (stk (K.take (K.length - N))) := by
      rw [show p = (p.1, p.2) from rfl, stk_snoc]
      show (if (stk K).length < N then Lk.Out.err 7 else _) = _
      rw [stk_length]
      by_cases hlt : K.length < N
      · rw [if_pos hlt, if_pos hlt]
      · rw [if_neg hlt, if_neg hlt]
        congr 1
        · congr 1
          simp [stk, List.take_reverse, List.map_drop]
        · simp [stk, List.drop_reverse, List.map_take]
    rw [e1]
    have hne : w.heap.size ≠ R := by have := HRL.out; omega
    have HNE := hide hne
    clear hne e1
    have hcb : (w.alloc (.cells #[.int .i64 9, .int .i64 (N : Int), .slice a len cap] 38)).cell? ⟨w.heap.size, 1, none⟩ = some (.int .i64 (N : Int)) := by rw [World.cell?_alloc_new]; rfl
    have HCB := hide hcb
    clear hcb
    by_cases hlt : K.length < N
    · rw [if_pos hlt]
      have HT := hide (take_ok R base m h K p _ s0)
      have hKl : K.length < 30 := by have := s0.few; simp at this; omega
      have hpb := (s0.has p (by simp)).2
      have HPB := hide hpb
      obtain ⟨pa, pc, hpe, _, _⟩ := (s0.has p (by simp)).1.has.shape
      obtain ⟨px, pv⟩ := p
      simp only at hpe
      subst hpe
      clear s0 hpb
      go_enter Tryd.func59, Tryd.ntmps59
      go_wp2_with fail
      refine HT.out.mono ?_
      rintro e w1 ⟨rfl, t1, t2, t3, t4, t5⟩
      have HS1 := hide t1
      have HX1 := hide t2
      have HB1 := hide (HB.out.trans t4)
      have hcb1 : w1.cell? ⟨w.heap.size, 1, none⟩ = some (.int .i64 (N : Int)) := by rw [World.cell?_of_block (a := ⟨w.heap.size, 1, none⟩) (t5 _ HNE.out)]; exact HCB.out
      clear t1 t2 t3 t4 t5
      try simp only at HX1
      have HT2 := hide (takeSome_few R base m h K N w1 HS1.out hlt (by omega))
      clear hlt
      go_wp2_with fail
      refine HT2.out.mono ?_
      rintro e w2 ⟨rfl, rfl⟩
      exact ⟨rfl, Does.err HB1.out⟩
    · have h30 : K.length < 30 := by have := s0.few; simp at this; omega
      rw [if_neg hlt, tell_stk _ _ (by rw [List.length_take]; omega)]
      obtain ⟨d, hd⟩ : ∃ d : Bool, d = Lk.many m p.1 ((K.drop (K.length - N)).map Prod.fst) := ⟨_, rfl⟩
      rw [← hd]
      have HD := hide hd
      clear hd
      have hSl : (K.drop (K.length - N)).length = N := by rw [List.length_drop]; omega
      have HSL := hide hSl
      have hTl : (K.take (K.length - N)).length < 30 := by rw [List.length_take]; omega
      have HTL := hide hTl
      have HLT := hide hlt
      clear hSl hTl hlt h30
      have HT := hide (take_ok R base m h K p _ s0)
      have hKl : K.length < 30 := by have := s0.few; simp at this; omega
      have hpb := (s0.has p (by simp)).2
      have HPB := hide hpb
      obtain ⟨pa, pc, hpe, _, _⟩ := (s0.has p (by simp)).1.has.shape
      obtain ⟨px, pv⟩ := p
      simp only at hpe
      subst hpe
      clear s0 hpb
      go_enter Tryd.func59, Tryd.ntmps59
      go_wp2_with fail
      refine HT.out.mono ?_
      rintro e w1 ⟨rfl, t1, t2, t3, t4, t5⟩
      have HS1 := hide t1
      have HX1 := hide t2
      have HB1 := hide (HB.out.trans t4)
      have hcb1 : w1.cell? ⟨w.heap.size, 1, none⟩ = some (.int .i64 (N : Int)) := by rw [World.cell?_of_block (a := ⟨w.heap.size, 1, none⟩) (t5 _ HNE.out)]; exact HCB.out
      clear t1 t2 t3 t4 t5
      try simp only at HX1
      have HT2 := hide (takeSome_ok R base m h K N w1 HS1.out (by have := HLT.out; omega) (by omega))
      have HSM : Hid (∀ q ∈ K.drop (K.length - N), Sm q.1) := hide (fun q hq => (HS1.out.has q (List.mem_of_mem_drop hq)).2)
      go_wp2_with fail
      refine HT2.out.mono ?_
      rintro e w2 ⟨g, c, rfl, hg, hc1, hc2, hr, hs, hh, hk, hb, hq⟩
      have HX2 := hide (hk _ _ HX1.out)
      have HS2 := hide hs
      have HB2 := hide (HB1.out.trans hb)
      have HASK : Hid (Calls Tryd.prog 80 #[.pointer (some ⟨R, 0, none⟩), .slice (some ⟨g, K.length - N, none⟩) N c, .slice pa px.length pc] w2 fun e w' => e = .returned (.bool d) ∧ Below w2.heap.size w2 w') := by
        have hd := HD.out
        try simp only at hd
        rw [hd, Lk.many]
        have hpm : px.length ≤ maxLen := by have := HPB.out.2; unfold maxLen; omega
        by_cases hk0 : px.length = 0 ∨ px.length % 32 ≠ 0
        · rw [if_pos hk0]
          refine (areSigned_none _ _ pa px pc w2 hpm hk0).mono ?_
          rintro e w3 ⟨rfl, rfl⟩
          exact ⟨rfl, Below.refl _ _⟩
        · rw [if_neg hk0]
          have hc0 : ¬ px.length = 0 := fun e => hk0 (.inl e)
          have hc32 : px.length % 32 = 0 := by apply Classical.byContradiction; intro e; exact hk0 (.inr e)
          have := areSigned_some R base m h (K.take (K.length - N)) (K.drop (K.length - N)) px g (K.length - N) c pa pc w2 hs hr hg (by rw [HSL.out]; omega) (by rw [HSL.out]; omega) (fun q hq2 => ⟨(hh q hq2).has, (HSM.out q hq2).1⟩) HX2.out.has HPB.out.1 hc0 hc32 (HTAB.out.below HB2.out hw) (Nat.lt_of_lt_of_le hw (Nat.le_trans hs.lay (Nat.le_of_lt hs.is.lt)))
          rw [HSL.out] at this
          exact this
      clear hr hs hh hk hb hq hg HD
      go_wp2_with fail
      refine HASK.out.mono ?_
      rintro e w3 ⟨rfl, hb3⟩
      have HT3 := hide (tell_ok R base m h (K.take (K.length - N)) d w3 (HS2.out.below hb3) HTL.out)
      have HB3 := hide (HB2.out.trans (hb3.mono (Nat.le_trans HS2.out.lay (Nat.le_of_lt HS2.out.is.lt))))
      clear hb3
      go_wp2_with fail
      refine HT3.out.mono ?_
      rintro e w4 ⟨rfl, v4, t1, t2, t3⟩
      have HQ := hide (Does.ok t1 (stk_snoc _ _ _) (HB3.out.trans t3))
      clear t1 t2 t3
      go_wp2
      go_end0
      exact HQ.out

set_option maxRecDepth 100000 in
set_option maxHeartbeats 1600000 in
theorem do_after (s : St w R base m h K) (hn0 : 0 ≤ n) (hn1 : n ≤ 1073741824) :
    Calls Tryd.prog 59 #[.pointer (some ⟨R, 0, none⟩), .agg #[.int .i64 10, .int .i64 n, .slice a len cap]] w fun e w' => Does R base m h (if h < n then .err 8 else .ok (stk K)) e w w' := by
  have hb0 := below_alloc w (.cells #[.int .i64 10, .int .i64 n, .slice a len cap] 38)
  have s0 := s.below hb0
  have HB : Hid (Below base w (w.alloc (.cells #[.int .i64 10, .int .i64 n, .slice a len cap] 38))) := hide (hb0.mono (Nat.le_trans s.lay (Nat.le_of_lt s.is.lt)))
  have hhc := s0.hcell
  have HS0 := hide s0
  clear s hb0 s0
  by_cases hlt : h < n
  · rw [if_pos hlt]
    have hd : decide (n > h) = true := decide_eq_true hlt
    clear hlt
    go_enter Tryd.func59, Tryd.ntmps59
    go_wp2
    go_region
    go_wp2
    exact ⟨rfl, Does.err HB.out.drew⟩
  · rw [if_neg hlt]
    have hd : decide (n > h) = false := decide_eq_false (by omega)
    clear hlt
    go_enter Tryd.func59, Tryd.ntmps59
    go_wp2
    go_region
    go_wp2
    go_end0
    exact Does.ok (HS0.out.below ((Below.refl _ _).drew)) rfl HB.out.drew

theorem do_any (o : Lk.Op) (v : Value) (s : St w R base m h K) (ht : Tab w) (hw : 1 < base) (hf : Lk.opFault o = 0) (h11 : o.op ≠ 11) (h12 : o.op ≠ 12) (h13 : o.op ≠ 13) (hv : HasH R w v o.data) (hb : Sz.Byt o.data) :
    Calls Tryd.prog 59 #[.pointer (some ⟨R, 0, none⟩), .agg #[.int .i64 o.op, .int .i64 o.n, v]] w fun e w' => Does R base m h (Lk.doOp m h o (stk K)) e w w' := by
  obtain ⟨va, vc, rfl, _, _⟩ := hv.has.shape
  obtain ⟨op, n, data⟩ := o
  simp only [Lk.opFault] at hf h11 h12 h13 hv hb ⊢
  have hsm : data.length ≤ 300 := by
    unfold Lk.opF at hf
    (repeat' split at hf) <;> first | omega | skip
  have h9 : op = 9 → 1 ≤ n ∧ n ≤ 9 := by
    intro e
    subst e
    unfold Lk.opF at hf
    (repeat' split at hf) <;> first | omega | skip
  have h10 : op = 10 → 0 ≤ n ∧ n ≤ 1073741824 := by
    intro e
    subst e
    unfold Lk.opF at hf
    (repeat' split at hf) <;> first | omega | skip
  have hop : 1 ≤ op ∧ op ≤ 14 := by
    unfold Lk.opF at hf
    (repeat' split at hf) <;> first | omega | skip
  have hcs : op = 1 ∨ op = 2 ∨ op = 3 ∨ op = 4 ∨ op = 5 ∨ op = 6 ∨ op = 7 ∨ op = 8 ∨ op = 9 ∨ op = 10 ∨ op = 14 := by omega
  clear hf h11 h12 h13 hop
  rcases hcs with rfl | rfl | rfl | rfl | rfl | rfl | rfl | rfl | rfl | rfl | rfl
  · exact do_push R base m h K n va data.length vc w data hv ⟨hb, by omega⟩ s
  · exact do_dup R base m h K n va data.length vc w s
  · exact do_drop R base m h K n va data.length vc w s
  · exact do_swap R base m h K n va data.length vc w s
  · exact do_equal R base m h K n va data.length vc w s
  · exact do_must R base m h K n va data.length vc w s
  · exact do_hash R base m h K n va data.length vc w s ht hw
  · exact do_signed R base m h K n va data.length vc w s ht hw
  · obtain ⟨N, rfl⟩ : ∃ N : Nat, n = (N : Int) := ⟨n.toNat, by have := h9 rfl; omega⟩
    exact do_many R base m h K va data.length vc w N s ht hw (by have := h9 rfl; omega) (by have := h9 rfl; omega)
  · exact do_after R base m h K n va data.length vc w s (h10 rfl).1 (h10 rfl).2
  · exact do_not R base m h K n va data.length vc w s
end
end Go.Proofs.YtkdihbgjeanjdaaDoor

/- A lock is done op by op; and what must be left. -/
namespace Go.Proofs.YtkdihbgjeanjdaaDoor
open Go.RowKit
set_option linter.unusedVariables false

theorem St.own_lt {w : World} {R base : Nat} {m : List Int} {h : Int} {K : List (List Int × Value)} (s : St w R base m h K) : ∀ q, (handOf w R).ownBlock = some q → base ≤ q := fun q hq => (World.ownsRow.lt s.own q hq).1
/-- Bytes below the run's own are no part of it. -/
theorem has_under {w0 w : World} {R base : Nat} {m : List Int} {h : Int} {K : List (List Int × Value)} {v : Value} {l : List Int} (s : St w R base m h K) (hv : Has w0 v l) (h0 : w0.heap.size ≤ base) (hb : Below w0.heap.size w0 w) : HasH R w v l :=
  (hv.x (X := fun b => b < base) (fun b hb => by omega)).move fun b hlt hX => ⟨hb.block b hlt, by have := s.lay; omega, fun e => by have := s.own_lt _ e; omega⟩

set_option maxRecDepth 100000 in
set_option maxHeartbeats 8000000 in
theorem doAll_some (R base : Nat) (m : List Int) (h : Int) (K : List (List Int × Value)) (L : List (Lk.Op × Value)) (b off cap : Nat) (w0 w : World) (s : St w R base m h K) (ht : Tab w) (hw : 1 < base) (h60 : L.length ≤ 60) (hr : w0.rangeAt b off (opCells L)) (hb : b < w0.heap.size)
    (hov : ∀ p ∈ L, Has w0 p.2 p.1.data ∧ Sz.Byt p.1.data) (h0 : w0.heap.size ≤ base) (hbel : Below w0.heap.size w0 w) (hf : Lk.opsFault (opsOf L) = 0) :
    Calls Tryd.prog 45 #[.pointer (some ⟨R, 0, none⟩), .slice (some ⟨b, off, none⟩) L.length cap] w fun e w' => Does R base m h (Lk.exec m h (opsOf L) (stk K)) e w w' := by
  have HS := hide s
  have HT := hide ht
  have HR := hide hr
  have HB := hide hb
  have HOV := hide hov
  have H0 := hide h0
  have HBEL := hide hbel
  have HF : Hid (∀ p ∈ L, Lk.opFault p.1 = 0) := hide (fun p hp => Lk.opsFault_mem _ hf p.1 (List.mem_map_of_mem hp))
  have HW := hide hw
  clear s ht hr hb hov h0 hbel hf hw
  obtain ⟨O, hO⟩ : ∃ O, O = Lk.exec m h (opsOf L) (stk K) := ⟨_, rfl⟩
  rw [← hO]
  have HO := hide hO
  clear hO
  generalize hn : L.length = n at *
  have HN := hide hn
  clear hn
  go_enter Tryd.func45, Tryd.ntmps45
  go_wp2
  go_loopw [4] (fun i wr => ∃ (k : Nat) (K' : List (List Int × Value)), k ≤ n + 1 ∧ i = .int .i64 k ∧ St wr R base m h K' ∧ Below base w wr ∧ Lk.exec m h ((opsOf L).drop k) (stk K') = O) (fun i _ => n + 1 - (intOf i).toNat)
  case atStart => exact ⟨0, K, by omega, rfl, HS.out, Below.refl _ _, HO.out.symm⟩
  case round =>
    obtain ⟨k, K', hk, rfl, hs, hb, ha⟩ := hrel
    have HSW := hide hs
    have HBW := hide hb
    have HRK : Hid (wr.rangeAt b off (opCells L)) := hide (range_keep HR.out (HBEL.out.trans (hb.mono H0.out)) HB.out)
    clear hs hb
    by_cases hlt : k < n
    · have hkL : k < L.length := by rw [HN.out]; exact hlt
      obtain ⟨hc0, hc1, hc2⟩ := range_op HRK.out k hkL
      rw [opsOf_drop L k hkL] at ha
      have HA := hide ha
      clear ha
      by_cases h11 : L[k].1.op = 11
      · have HA2 := HA.out
        rw [Lk.exec_if _ _ _ _ _ h11] at HA2
        rw [h11] at hc0
        clear HA h11 hc1 hc2
        rcases snoc_cases K' with rfl | ⟨K', p, rfl⟩
        · have HO2 : Hid (O = .err 7) := hide HA2.symm
          have HTK := hide (take_none R base m h _ HSW.out)
          clear HA2
          go_wp2_with fail
          refine HTK.out.mono ?_
          rintro e w1 ⟨rfl, rfl⟩
          exact ⟨rfl, by rw [HO2.out]; exact Does.err HBW.out⟩
        · rw [show p = (p.1, p.2) from rfl, stk_snoc] at HA2
          have HA3 : Hid ((if Lk.isTrue p.1 then Lk.exec m h ((opsOf L).drop (k + 1)) (stk K') else Lk.exec m h (Lk.skip 0 ((opsOf L).drop (k + 1))) (stk K')) = O) := hide HA2
          clear HA2
          have HTK := hide (take_ok R base m h K' p _ HSW.out)
          obtain ⟨pa, pc, hpe, _, _⟩ := (HSW.out.has p (by simp)).1.has.shape
          obtain ⟨px, pv⟩ := p
          simp only at hpe
          subst hpe
          cases hT : Lk.isTrue px with
          | true =>
            have HA4 : Hid (Lk.exec m h ((opsOf L).drop (k + 1)) (stk K') = O) := hide (by have := HA3.out; simp only [hT, if_true] at this; exact this)
            clear HA3
            go_wp2_with fail
            refine HTK.out.mono ?_
            rintro e w1 ⟨rfl, t1, t2, t3, t4, t5⟩
            have HI := hide (isTrue_any _ px w1 t2.has)
            rw [hT] at HI
            have HS1 := hide t1
            have HB1 := hide (HBW.out.trans t4)
            clear t1 t2 t3 t4 t5 hT
            go_wp2_with fail
            refine HI.out.mono ?_
            rintro e w2 ⟨rfl, rfl⟩
            go_wp2
            go_roundw
            case rel => exact ⟨k + 1, K', by omega, by go_num, HS1.out, HB1.out, HA4.out⟩
            case measure => simp [intOf]; omega
          | false =>
            have HA4 : Hid (Lk.exec m h (Lk.skip 0 ((opsOf L).drop (k + 1))) (stk K') = O) := hide (by have := HA3.out; simp only [hT, Bool.false_eq_true, if_false] at this; exact this)
            clear HA3
            go_wp2_with fail
            refine HTK.out.mono ?_
            rintro e w1 ⟨rfl, t1, t2, t3, t4, t5⟩
            have HI := hide (isTrue_any _ px w1 t2.has)
            rw [hT] at HI
            have HS1 := hide t1
            have HB1 := hide (HBW.out.trans t4)
            have HWE := hide (wayEnd_any L b off cap k w1 hkL (by rw [HN.out]; unfold maxLen; omega) (range_keep HRK.out (t4.mono H0.out) HB.out))
            rw [HN.out] at HWE
            clear t1 t2 t3 t4 t5 hT
            go_wp2_with fail
            refine HI.out.mono ?_
            rintro e w2 ⟨rfl, rfl⟩
            go_wp2_with fail
            refine HWE.out.mono ?_
            rintro e w2 ⟨rfl, q, rfl, q1, q2, q3⟩
            have HQ3 := hide q3
            clear q3
            go_wp2
            go_roundw
            case rel => exact ⟨q + 1, K', by omega, by go_num, HS1.out, HB1.out, by rw [HQ3.out]; exact HA4.out⟩
            case measure => simp [intOf]; omega
      by_cases h12 : L[k].1.op = 12
      · have HA2 := HA.out
        rw [Lk.exec_else _ _ _ _ _ h12] at HA2
        have HA4 := hide HA2
        rw [h12] at hc0
        clear HA HA2 h11 h12 hc1 hc2
        have HWE := hide (wayEnd_any L b off cap k wr hkL (by rw [HN.out]; unfold maxLen; omega) HRK.out)
        rw [HN.out] at HWE
        go_wp2_with fail
        refine HWE.out.mono ?_
        rintro e w2 ⟨rfl, q, rfl, q1, q2, q3⟩
        have HQ3 := hide q3
        clear q3
        go_wp2
        go_roundw
        case rel => exact ⟨q + 1, K', by omega, by go_num, HSW.out, HBW.out, by rw [HQ3.out]; exact HA4.out⟩
        case measure => simp [intOf]; omega
      by_cases h13 : L[k].1.op = 13
      · have HA2 := HA.out
        rw [Lk.exec_end _ _ _ _ _ h13] at HA2
        have HA4 := hide HA2
        rw [h13] at hc0
        clear HA HA2 h11 h12 h13 hc1 hc2
        go_wp2
        go_roundw
        case rel => exact ⟨k + 1, K', by omega, by go_num, HSW.out, HBW.out, HA4.out⟩
        case measure => simp [intOf]; omega
      · have HA2 := HA.out
        rw [Lk.exec_do _ _ _ _ _ h11 h12 h13] at HA2
        obtain ⟨ho1, ho2⟩ := HOV.out L[k] (List.getElem_mem hkL)
        have HD := hide (do_any R base m h K' wr L[k].1 L[k].2 HSW.out (HT.out.below HBW.out HW.out) HW.out (HF.out L[k] (List.getElem_mem hkL)) h11 h12 h13 (has_under HSW.out ho1 H0.out (HBEL.out.trans (HBW.out.mono H0.out))) ho2)
        obtain ⟨oa, oc, hoe, _, _⟩ := ho1.shape
        have e11 : (L[k].1.op == 11) = false := by simpa using h11
        have e12 : (L[k].1.op == 12) = false := by simpa using h12
        have e13 : (L[k].1.op == 13) = false := by simpa using h13
        obtain ⟨r, hr⟩ : ∃ r, r = Lk.doOp m h L[k].1 (stk K') := ⟨_, rfl⟩
        rw [← hr] at HA2 HD
        have HA4 := hide HA2
        rw [hoe] at hc2 HD
        clear HA HA2 h11 h12 h13 ho1 ho2 hoe hr
        generalize L[k].1.data.length = ol at *
        generalize L[k].1.op = op at *
        generalize L[k].1.n = on at *
        go_wp2_with fail
        refine HD.out.mono ?_
        intro e w1 hd
        cases r with
        | err c =>
          obtain ⟨rfl, h1⟩ := hd
          have HO2 : Hid (O = .err c) := hide HA4.out.symm
          exact ⟨rfl, by rw [HO2.out]; exact Does.err (HBW.out.trans h1)⟩
        | ok s1 =>
          obtain ⟨rfl, K1, h1, h2, h3⟩ := hd
          have HA5 : Hid (Lk.exec m h ((opsOf L).drop (k + 1)) (stk K1) = O) := hide (by rw [h2]; exact HA4.out)
          have HS1 := hide h1
          have HB1 := hide (HBW.out.trans h3)
          clear h1 h2 h3 HA4
          go_wp2
          go_roundw
          case rel => exact ⟨k + 1, K1, by omega, by go_num, HS1.out, HB1.out, HA5.out⟩
          case measure => simp [intOf]; omega
    · have hkn : ¬ (k : Int) < n := by omega
      rw [List.drop_eq_nil_of_le (by rw [opsOf_length, HN.out]; omega), Lk.exec_nil] at ha
      have HO2 : Hid (O = .ok (stk K')) := hide ha.symm
      clear ha
      go_wp2
      go_end0
      exact (by rw [HO2.out]; exact Does.ok HSW.out rfl HBW.out)

theorem doAll_any (R base : Nat) (m : List Int) (h : Int) (K : List (List Int × Value)) (L : List (Lk.Op × Value)) (lv : Value) (w0 w : World) (s : St w R base m h K) (ht : Tab w) (hw : 1 < base) (h60 : L.length ≤ 60) (hl : HasOps w0 lv L)
    (h0 : w0.heap.size ≤ base) (hbel : Below w0.heap.size w0 w) (hf : Lk.opsFault (opsOf L) = 0) :
    Calls Tryd.prog 45 #[.pointer (some ⟨R, 0, none⟩), lv] w fun e w' => Does R base m h (Lk.exec m h (opsOf L) (stk K)) e w w' := by
  rcases hl.1 with ⟨a, cap, rfl, rfl⟩ | ⟨b, off, cap, rfl, k0, k1, k2, k3, hc⟩
  · have e : Lk.exec m h (opsOf []) (stk K) = .ok (stk K) := Lk.exec_nil _ _ _
    rw [e]
    have HQ := hide (Does.ok s rfl (Below.refl base w))
    clear s ht hl e hbel hf
    go_enter Tryd.func45, Tryd.ntmps45
    go_wp2
    refine wp_loop_rounds 1 ?_
    rw [rounds_succ]
    go_wp2
    go_end0
    exact HQ.out
  · exact doAll_some R base m h K L b off cap w0 w s ht hw h60 hc k3 hl.2 h0 hbel hf

/-- What the run's end asks. -/
def Left (s : List (List Int)) : Bool := match s with
  | [t] => Lk.isTrue t
  | _ => false
theorem ending_left (s : List (List Int)) : Lk.ending (.ok s) = if Left s then 0 else 7 := by
  unfold Lk.ending Left
  match s with
  | [] => rfl
  | [t] => rfl
  | _ :: _ :: _ => rfl

set_option maxRecDepth 100000 in
set_option maxHeartbeats 1600000 in
theorem end_any (R base : Nat) (m : List Int) (h : Int) (K : List (List Int × Value)) (w : World) (s : St w R base m h K) :
    Calls Tryd.prog 46 #[.pointer (some ⟨R, 0, none⟩)] w fun e w' => e = (if Left (stk K) then .returned (.tuple #[]) else .panicked (pan 7)) ∧ Below base w w' := by
  obtain ⟨a, cap, e⟩ := s.form
  have hc := s.cell
  rw [e] at hc
  have h30 := s.few
  clear e
  by_cases h1 : K.length = 1
  · obtain ⟨p, rfl⟩ : ∃ p, K = [] ++ [p] := by
      match K, h1 with
      | [p], _ => exact ⟨p, rfl⟩
    have e1 : Left (stk ([] ++ [p])) = Lk.isTrue p.1 := rfl
    rw [e1]
    have HTK := hide (take_ok R base m h [] p _ s)
    obtain ⟨pa, pc, hpe, _, _⟩ := (s.has p (by simp)).1.has.shape
    obtain ⟨px, pv⟩ := p
    simp only at hpe
    subst hpe
    clear s e1
    rw [h1] at hc
    cases hT : Lk.isTrue px with
    | true =>
      go_enter Tryd.func46, Tryd.ntmps46
      go_wp2_with fail
      refine (must_true _ w).mono ?_
      rintro e w1 ⟨rfl, rfl⟩
      go_wp2_with fail
      refine HTK.out.mono ?_
      rintro e w1 ⟨rfl, t1, t2, t3, t4, t5⟩
      have HI := hide (isTrue_any _ px w1 t2.has)
      rw [hT] at HI
      have HB1 := hide t4
      clear t1 t2 t3 t4 t5 hT
      go_wp2_with fail
      refine HI.out.mono ?_
      rintro e w2 ⟨rfl, rfl⟩
      go_wp2_with fail
      refine (must_true _ _).mono ?_
      rintro e w2 ⟨rfl, rfl⟩
      go_wp2
      go_end0
      exact ⟨rfl, HB1.out⟩
    | false =>
      go_enter Tryd.func46, Tryd.ntmps46
      go_wp2_with fail
      refine (must_true _ w).mono ?_
      rintro e w1 ⟨rfl, rfl⟩
      go_wp2_with fail
      refine HTK.out.mono ?_
      rintro e w1 ⟨rfl, t1, t2, t3, t4, t5⟩
      have HI := hide (isTrue_any _ px w1 t2.has)
      rw [hT] at HI
      have HB1 := hide t4
      clear t1 t2 t3 t4 t5 hT
      go_wp2_with fail
      refine HI.out.mono ?_
      rintro e w2 ⟨rfl, rfl⟩
      go_wp2_with fail
      refine (must_false _ _).mono ?_
      rintro e w2 ⟨rfl, rfl⟩
      exact ⟨rfl, rfl, HB1.out⟩
  · have e1 : Left (stk K) = false := by
      have hl : (stk K).length ≠ 1 := by rw [stk_length]; exact h1
      match hs : stk K with
      | [] => rfl
      | [t] => rw [hs] at hl; exact absurd rfl hl
      | _ :: _ :: _ => rfl
    rw [e1]
    have h1' : ((K.length : Int) == 1) = false := by rw [beq_eq_false_iff_ne]; omega
    clear s e1 h1
    generalize K.length = kl at *
    go_enter Tryd.func46, Tryd.ntmps46
    go_wp2_with fail
    refine (must_false _ w).mono ?_
    rintro e w1 ⟨rfl, rfl⟩
    exact ⟨rfl, rfl, Below.refl _ _⟩
end Go.Proofs.YtkdihbgjeanjdaaDoor
