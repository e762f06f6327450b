/- The walk of KeyApart: of two digests that differ each has a digit that is less than the other one's. -/
import Derived.Test.YtdeddnlagbeanaaKeDig
namespace Go.Proofs.Ytdeddnlagbeanaa
open Go.RowKit
set_option linter.unusedVariables false

/-- An operation under a guard that is met. -/
theorem wpList_wanted {ops : Array Oper} {rest : List Oper} {o : Oper} {a : Act} {w : World} {Q : Exit → Act → World → Prop} (hw : Region.wanted o (yielded ops a.tmps) = true)
    (h : ∀ K : Act → World → Prop, (∀ a w, wpList Try.prog ops Q rest a w → K a w) → o.wp Try.prog a w K Q) : wpList Try.prog ops Q (o :: rest) a w :=
  wpList_step fun K hK => by rw [if_pos hw]; exact h K hK
theorem wpList_load_arrG (t : TypeId) (c : List Value) (b : Nat) {n m : Nat} {e : TypeId} {w : World} {ops : Array Oper} {rest : List Oper} {o : Oper} {a : Act} {Q : Exit → Act → World → Prop} (s : Operand) (ho : o.op = .load t s) (hs : a.eval s = .pointer (some ⟨b, 0, none⟩)) (hw : Region.wanted o (yielded ops a.tmps) = true)
    (hi : Is w b c t) (hu : Try.prog.underlying t = some (.array n e)) (hz : Sized t m) (hc : c.length = m)
    (h : wpList Try.prog ops Q rest (a.put o.dst (.agg c.toArray)) w) : wpList Try.prog ops Q (o :: rest) a w := by
  refine wpList_wanted hw fun K hK => ?_
  have hl := hi.load hu (by rw [hc]; exact hz)
  unfold Oper.wp
  simp only [execOp, ho, hs, Sem.run_bind, Sem.run_pure, Result.andThen_ok, hl]
  exact hK _ _ h

/-- Is one of the first k numbers less? -/
def lessTo (A B : List Nat) (k : Nat) : Bool := (List.range k).any fun i => decide (A.getD i 0 < B.getD i 0)
theorem lessTo_succ (A B : List Nat) (k : Nat) : lessTo A B (k + 1) = (lessTo A B k || decide (A.getD k 0 < B.getD k 0)) := by simp [lessTo, List.range_succ]
theorem less_same (m o : List Int) (hm : Sz.Byt m) (ho : Sz.Byt o) (lm : m.length = 32) (lo : o.length = 32) : lessTo (Ky.digits m) (Ky.digits o) 67 = !decide (m = o) := by
  by_cases e : m = o
  · subst e
    rw [decide_eq_true rfl]
    simp [lessTo]
  · rw [decide_eq_false e]
    by_cases h : lessTo (Ky.digits m) (Ky.digits o) 67 = true
    · rw [h]; rfl
    · exfalso
      apply e
      apply Ky.digits_apart m o hm ho lm lo
      intro i hi
      simp only [lessTo, List.any_eq_true, decide_eq_true_eq, not_exists, not_and, List.mem_range] at h
      have := h i hi
      omega

set_option maxRecDepth 100000 in
set_option maxHeartbeats 4000000 in
theorem apart_any (m o : List Int) (w : World) (hm : m.length = 32) (ho : o.length = 32) (hmb : Sz.Byt m) (hob : Sz.Byt o) :
    Calls Try.prog 3 #[.agg (vals m).toArray, .agg (vals o).toArray] w fun e w' => e = .returned (.bool true) ∧ Below w.heap.size w w' := by
  have HD1 : Hid (∀ w', Calls Try.prog 4 #[.agg (vals m).toArray] w' fun e w'' => ∃ b, w'.heap.size ≤ b ∧ e = .returned (.slice (some ⟨b, 0, none⟩) 67 67) ∧ Is w'' b (ivals (Ky.digits m)) 27 ∧ Below w'.heap.size w' w'') := fun w' => digits_any m w' hm hmb
  have HD2 : Hid (∀ w', Calls Try.prog 4 #[.agg (vals o).toArray] w' fun e w'' => ∃ b, w'.heap.size ≤ b ∧ e = .returned (.slice (some ⟨b, 0, none⟩) 67 67) ∧ Is w'' b (ivals (Ky.digits o)) 27 ∧ Below w'.heap.size w' w'') := fun w' => digits_any o w' ho hob
  have HL1 := hide (less_same m o hmb hob hm ho)
  have HL2 := hide (less_same o m hob hmb ho hm)
  have HA : Hid (∀ i, (Ky.digits m).getD i 0 ≤ 15) := Ky.digits_le m hmb
  have hAl := Ky.digits_length m
  have hBl := Ky.digits_length o
  generalize Ky.digits m = A at *
  generalize Ky.digits o = B at *
  have hI0 := (Is.new w (vals m) 23).alloc (.cells (vals o).toArray 23)
  have hJ0 : Is ((w.alloc (.cells (vals m).toArray 23)).alloc (.cells (vals o).toArray 23)) (w.heap.size + 1) (vals o) 23 := Is.new' _ 23 (by simp)
  have HB0 := hide (below_alloc2 w (.cells (vals m).toArray 23) (.cells (vals o).toArray 23))
  have HI0 := hide hI0
  have HJ0 := hide hJ0
  have HM := hide hm
  have HO := hide ho
  have HAL := hide hAl
  have HBL := hide hBl
  have heq := dig_eq m o hm ho
  have hgd := guard_dig
  clear hI0 hJ0 hm ho hAl hBl hmb hob
  go_enter Try.func3, Try.ntmps3
  go_wp2_with (refine wpList_load_arr2 23 (vals m) w.heap.size rfl (.tmp 2) rfl rfl HI0.out Try.underlying23 size_dig (by rw [vals_length]; exact HM.out) ?_)
  refine (HD1.out _).mono ?_
  rintro e w1 ⟨ba, hba, rfl, hA1, hb1⟩
  have hI1 := HI0.out.below hb1 HI0.out.lt
  have hJ1 := HJ0.out.below hb1 HJ0.out.lt
  have hb1' := HB0.out.trans (hb1.mono HB0.out.size)
  have HJ1 := hide hJ1
  clear hJ1
  go_wp2_with (refine wpList_load_arr2 23 (vals o) (w.heap.size + 1) rfl (.tmp 3) rfl rfl HJ1.out Try.underlying23 size_dig (by rw [vals_length]; exact HO.out) ?_)
  refine (HD2.out _).mono ?_
  rintro e w2 ⟨bb, hbb, rfl, hB2, hb2⟩
  have hI2 := hI1.below hb2 hI1.lt
  have hJ2 := HJ1.out.below hb2 HJ1.out.lt
  have hA2 := hA1.below hb2 hA1.lt
  have hb2' := hb1'.trans (hb2.mono hb1'.size)
  have HI2 := hide hI2
  have HJ2 := hide hJ2
  have HA2 := hide hA2
  have HB2 := hide hB2
  have HBB := hide hb2'
  clear hI1 hI2 hJ2 hA2 hB2 hb1 hb1' hb2 hb2' hA1 hba hbb HI0 HJ0 HB0 HJ1 HD1 HD2
  go_wp2
  go_loopw [7, 8, 9] (fun p q i wr => ∃ k : Nat, k ≤ 67 ∧ p = .bool (lessTo A B k) ∧ q = .bool (lessTo B A k) ∧ i = .int .i64 k ∧ Below w.heap.size w wr ∧ Is wr ba (ivals A) 27 ∧ Is wr bb (ivals B) 27 ∧ Is wr w.heap.size (vals m) 23 ∧ Is wr (w.heap.size + 1) (vals o) 23) (fun _ _ i _ => 67 - (intOf i).toNat)
  case atStart => exact ⟨0, by omega, rfl, rfl, rfl, HBB.out, HA2.out, HB2.out, HI2.out, HJ2.out⟩
  case round =>
    obtain ⟨k, hk, rfl, rfl, rfl, hbel, h1, h2, h3, h4⟩ := hrel
    clear HI2 HJ2 HA2 HB2 HBB
    by_cases hk8 : k < 67
    · have g1 := h1.cell k
      have g2 := h2.cell k
      rw [ivals_get _ _ (by rw [HAL.out]; exact hk8)] at g1
      rw [ivals_get _ _ (by rw [HBL.out]; exact hk8)] at g2
      have hs1 := lessTo_succ A B k
      have hs2 := lessTo_succ B A k
      have hx := HA.out k
      generalize A.getD k 0 = x at *
      generalize B.getD k 0 = y at *
      generalize lessTo A B k = p at *
      generalize lessTo B A k = q at *
      have hx0 : ¬ (x : Int) < 0 := by omega
      have hx1 : ¬ (15 : Int) < (x : Int) := by omega
      have HS1 := hide hs1
      have HS2 := hide hs2
      have H := hide (And.intro h1 (And.intro h2 (And.intro h3 h4)))
      clear h1 h2 h3 h4 hs1 hs2
      have fin : ∀ (P Q : Bool), P = (p || decide (x < y)) → Q = (q || decide (y < x)) → ∀ W : World, Below w.heap.size w W → (Is W ba (ivals A) 27 ∧ Is W bb (ivals B) 27 ∧ Is W w.heap.size (vals m) 23 ∧ Is W (w.heap.size + 1) (vals o) 23) →
        ∃ k_1 : Nat, k_1 ≤ 67 ∧ Value.bool P = .bool (lessTo A B k_1) ∧ Value.bool Q = .bool (lessTo B A k_1) ∧ Value.int .i64 ((k : Int) + 1) = .int .i64 k_1 ∧ Below w.heap.size w W ∧ Is W ba (ivals A) 27 ∧ Is W bb (ivals B) 27 ∧ Is W w.heap.size (vals m) 23 ∧ Is W (w.heap.size + 1) (vals o) 23 :=
        fun P Q hP hQ W hW hh => ⟨k + 1, by omega, by rw [HS1.out, hP], by rw [HS2.out, hQ], by go_num, hW, hh⟩
      have FIN := hide fin
      clear fin
      by_cases hlt : x < y
      · have h1i : (x : Int) < (y : Int) := by omega
        have h2i : ¬ (y : Int) < (x : Int) := by omega
        go_wp2
        go_quiet (fail)
        go_wp2
        go_quiet (fail)
        go_wp2
        go_roundw
        case rel => exact FIN.out _ _ (by simp [hlt]) (by simp; omega) _ (below_drewN hbel _) H.out
        case measure => simp [intOf]; omega
      · by_cases hgt : y < x
        · have h1i : ¬ (x : Int) < (y : Int) := by omega
          have h2i : (y : Int) < (x : Int) := by omega
          go_wp2
          go_quiet (fail)
          go_wp2
          go_quiet (fail)
          go_wp2
          go_roundw
          case rel => exact FIN.out _ _ (by simp [hlt]) (by simp [hgt]) _ (below_drewN hbel _) H.out
          case measure => simp [intOf]; omega
        · have h1i : ¬ (x : Int) < (y : Int) := by omega
          have h2i : ¬ (y : Int) < (x : Int) := by omega
          go_wp2
          go_quiet (fail)
          go_wp2
          go_quiet (fail)
          go_wp2
          go_roundw
          case rel => exact FIN.out _ _ (by simp [hlt]) (by simp [hgt]) _ (below_drewN hbel _) H.out
          case measure => simp [intOf]; omega
    · have hk' : k = 67 := by omega
      have hkn : ¬ (k : Int) < 67 := by omega
      have e1 : lessTo A B k = !decide (m = o) := by rw [hk']; exact HL1.out
      have e2 : lessTo B A k = !decide (m = o) := by
        rw [hk', HL2.out]
        by_cases e : m = o
        · subst e; rfl
        · rw [decide_eq_false e, decide_eq_false (fun h => e h.symm)]
      rw [e1, e2]
      have H3 := hide h3
      have H4 := hide h4
      clear h1 h2 h3 h4 e1 e2 hk' hk8 hk HL1 HL2
      generalize decide (m = o) = T at *
      cases T with
      | true =>
        go_wp2_with (first
          | (refine wpList_load_arrG 23 (vals m) w.heap.size (.tmp 2) rfl rfl rfl H3.out Try.underlying23 size_dig (by rw [vals_length]; exact HM.out) ?_)
          | (refine wpList_load_arrG 23 (vals o) (w.heap.size + 1) (.tmp 3) rfl rfl rfl H4.out Try.underlying23 size_dig (by rw [vals_length]; exact HO.out) ?_))
        go_ret
        exact ⟨rfl, hbel⟩
      | false =>
        go_wp2_with (first
          | (refine wpList_load_arrG 23 (vals m) w.heap.size (.tmp 2) rfl rfl rfl H3.out Try.underlying23 size_dig (by rw [vals_length]; exact HM.out) ?_)
          | (refine wpList_load_arrG 23 (vals o) (w.heap.size + 1) (.tmp 3) rfl rfl rfl H4.out Try.underlying23 size_dig (by rw [vals_length]; exact HO.out) ?_))
        go_ret
        exact ⟨rfl, hbel⟩
end Go.Proofs.Ytdeddnlagbeanaa
