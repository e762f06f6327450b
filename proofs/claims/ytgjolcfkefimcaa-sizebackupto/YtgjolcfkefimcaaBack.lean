/- SizeBack: what is written is read, behind any bytes and with any behind it, and what is read is written so. -/
import Derived.Test.YtgjolcfkefimcaaUnpack
import Derived.Test.YtgjolcfkefimcaaBytes
namespace Go.Proofs.Ytgjolcfkefimcaa
open Go.RowKit
set_option linter.unusedVariables false

theorem wr300v : Sz.wr 300 = [253, 1, 44] := by decide
theorem known300 : sameB [253, 1, 44] [253, 1, 44] = true := by decide
theorem same_self (l : List Int) : sameB l l = true := by unfold sameB; simp
theorem has_three (w : World) : Has (w.alloc (.cells #[.int .u8 253, .int .u8 1, .int .u8 44] 5)) (.slice (some ⟨w.heap.size, 0, none⟩) 3 3) [253, 1, 44] := by
  refine .inr ⟨w.heap.size, 0, 3, rfl, by decide, by decide, by unfold maxLen; omega, fun j hj => ?_⟩
  have : j = 0 ∨ j = 1 ∨ j = 2 := by simp at hj; omega
  rcases this with rfl | rfl | rfl <;> simp
theorem bstep {w w' w'' : World} {B : Nat} (h : Below B w w') (k : Below w'.heap.size w' w'') (hB : B ≤ w'.heap.size) : Below B w w'' := h.trans (k.mono hB)
/-- Behind an append onto a new empty slice nothing old has turned. -/
theorem below_empty {w wA : World} {o : Obj} (hg : (w.alloc o).grownBy wA (Value.ownBlock (.slice (some ⟨w.heap.size, 0, none⟩) 0 0))) : Below w.heap.size w wA :=
  ((Below.refl _ _).alloc (Nat.le_refl _) o).grown hg (by simp) (fun q hq => by simp [Value.ownBlock] at hq; omega)
/-- Behind an append onto a slice that lies in newer memory nothing old has turned. -/
theorem below_own {w w1 w2 : World} {base : Nat} {v : Value} {l : List Int} (h : Below base w w1) (ho : Own w1 base v l) (hb : base ≤ w1.heap.size) (hg : w1.grownBy w2 v.ownBlock) : Below base w w2 :=
  h.grown hg hb (fun q hq => (ho.block q hq).1)

set_option maxRecDepth 100000 in
set_option maxHeartbeats 3200000 in
theorem back_walk (va vb vc : Value) (la lb lc : List Int) (n : Int) (w : World) (ha : Has w va la) (hb : Has w vb lb) (hc : Has w vc lc) (hn : -9223372036854775808 ≤ n ∧ n ≤ 9223372036854775807)
    (ba : Sz.Byt la) (bb : Sz.Byt lb) (bc : Sz.Byt lc) (hla : la.length ≤ 10000000000000) (hlb : lb.length ≤ 10000000000000) (hlc : lc.length ≤ 10000000000000) :
    Calls Try.prog 3 #[va, .int .i64 n, vb, vc] w fun e w' => e = .returned (.bool true) ∧ Below w.heap.size w w' := by
  have HA := hide ha
  have HB := hide hb
  have HC := hide hc
  obtain ⟨aa, ca, rfl, -, -⟩ := ha.slice
  obtain ⟨ac, cc, rfl, -, -⟩ := hc.slice
  clear ha hb hc
  go_enter Try.func3, Try.ntmps3
  go_wp2_with fail
  refine (write_yes 300 _ (by decide) (by decide)).mono ?_
  rintro e w1 ⟨rfl, hx1, hb1⟩
  rw [wr300v] at hx1 ⊢
  go_wp2_with fail
  refine (bytes_any _ _ [253, 1, 44] [253, 1, 44] _ (hx1.below ((Below.refl _ _).alloc (Nat.le_refl _) _)) (has_three _)).mono ?_
  rintro e w2 ⟨rfl, hb2⟩
  rw [known300]
  have hS2 : Below w.heap.size w w2 := bstep (hb1.alloc hb1.size _) hb2 (Nat.le_trans hb1.size (by simp))
  clear hx1 hb2 hb1
  go_wp2_with fail
  by_cases cn : n < 0
  · refine (write_neg n _ cn).mono ?_
    rintro e w3 ⟨rfl, rfl⟩
    obtain ⟨wS, hwS⟩ : ∃ wS, wS = w2 := ⟨_, rfl⟩
    subst hwS
    have hS : Below w.heap.size w wS := hS2
    clear hS2
    have HB1 : Hid (([] : List Int).length + la.length ≤ 180000000000000) := by show 0 + _ ≤ _; omega
    go_wp2_with (at_builtin; refine wpList_append_bytes _ rfl _ _ rfl w.heap.size _ [] rfl (Own.empty _ _ hS.size) _ la rfl (HA.out.below (hS.alloc hS.size _)) HB1.out (hS.alloc hS.size _).size ?_; intro v4 w4 ho4 hg4; have hb4 := below_empty hg4; have hS4 := bstep hS hb4 hS.size)
    refine (pack_any vb lb _ (HB.out.below hS4) (by omega)).mono ?_
    rintro e w5 ⟨vp, rfl, hop, hb5⟩
    have hS5 : Below w.heap.size w w5 := bstep hS4 hb5 hS4.size
    have ho5 := ho4.below hb5
    have hp9 := Sz.wr_le9 (lb.length : Nat)
    have hpk : (Sz.wr (lb.length : Nat) ++ lb).length = (Sz.wr (lb.length : Nat)).length + lb.length := List.length_append
    have HB2 : Hid (([] ++ la : List Int).length + (Sz.wr (lb.length : Nat) ++ lb).length ≤ 180000000000000) := by show (la.length) + _ ≤ _; rw [hpk]; omega
    have HB3 : Hid (([] ++ la ++ (Sz.wr (lb.length : Nat) ++ lb) : List Int).length + lc.length ≤ 180000000000000) := by show (la ++ (Sz.wr (lb.length : Nat) ++ lb)).length + _ ≤ _; rw [List.length_append, hpk]; omega
    clear hpk
    go_wp2_with (first
      | (at_builtin; refine wpList_append_bytes _ rfl _ _ rfl w.heap.size _ _ rfl ho5 _ _ rfl hop.has HB2.out hS5.size ?_; intro v6 w6 ho6 hg6; have hS6 := below_own hS5 ho5 hS5.size hg6)
      | (at_builtin; refine wpList_append_bytes _ rfl _ _ rfl w.heap.size _ _ rfl ho6 _ lc rfl (HC.out.below hS6) HB3.out hS6.size ?_; intro v7 w7 ho7 hg7; have hS7 := below_own hS6 ho6 hS6.size hg7))
    have hunp : Sz.unp ([] ++ la ++ (Sz.wr (lb.length : Nat) ++ lb) ++ lc) (la.length : Nat) = (lb, (la.length : Int) + ((Sz.pk lb).length : Nat), 0) := Sz.unp_pk la lb lc (by omega)
    have hlen : ([] ++ la ++ (Sz.wr (lb.length : Nat) ++ lb) ++ lc : List Int).length = la.length + (Sz.pk lb).length + lc.length := by
      show (la ++ Sz.pk lb ++ lc).length = _; rw [List.length_append, List.length_append]
    have hpkl := Sz.pk_length lb
    have hup := unpack_any v7 _ (la.length : Nat) w7 ho7.has (((Sz.Byt.nil.append ba).append ((Sz.wr_byt _ (by omega)).append bb)).append bc) (by rw [hlen, hpkl]; omega)
    rw [hunp] at hup
    obtain ⟨a7, c7, hv7, -, -⟩ := ho7.form
    rw [hlen] at hv7
    subst hv7
    have hPb : (Sz.pk lb).length ≤ 20000000000000 := by rw [hpkl]; omega
    clear hunp hlen hpkl ho4 hg4 ho5 ho6 hg6 ho7 hg7 hop HB2 HB3 hS4 hS5 hS6 hb4 hb5
    generalize (Sz.pk lb).length = P at *
    refine hup.mono ?_
    rintro e w8 ⟨vy, rfl, hhy, hb8⟩
    have hS8 : Below w.heap.size w w8 := bstep hS7 hb8 hS7.size
    simp only [errV, if_true]
    clear hup
    have hself := bytes_any vy vb lb lb w8 hhy (HB.out.below hS8)
    rw [same_self] at hself
    have HSE := hide hself
    clear hself hhy
    have hT : ((la.length : Int) + (P : Int) != ((la.length + P + lc.length : Nat) : Int) - (lc.length : Int)) = false := by rw [bne_eq_false_iff_eq]; omega
    have hT2 : ((la.length : Int) + (P : Int) != (la.length : Int) + (P : Int) + (lc.length : Int) - (lc.length : Int)) = false := by rw [bne_eq_false_iff_eq]; omega
    go_wp2_with fail
    refine HSE.out.mono ?_
    rintro e w9 ⟨rfl, hb9⟩
    have hS9 : Below w.heap.size w w9 := bstep hS8 hb9 hS8.size
    clear HSE hb9 hb8
    go_wp2_with fail
    have hrc := read_any _ lc 0 w9 (HC.out.below hS9) bc
    by_cases he : (Sz.rd lc 0).2.2 = 0
    · obtain ⟨m, q, hr⟩ : ∃ m q, Sz.rd lc 0 = (m, q, 0) := ⟨(Sz.rd lc 0).1, (Sz.rd lc 0).2.1, Prod.ext rfl (Prod.ext rfl he)⟩
      rw [hr] at hrc
      obtain ⟨hm0, hm1, hq, hle, htk⟩ := Sz.wr_rd lc 0 m q bc hr
      simp only [Nat.zero_add, List.drop_zero] at hq hle htk
      have hq2 : q = ((Sz.wr m).length : Nat) := by omega
      subst hq2
      have hpos := Sz.wr_pos m
      have hs : sameB (Sz.wr m) (lc.take (Sz.wr m).length) = true := by rw [← htk]; exact same_self _
      clear he hr hq htk
      rcases HC.out with ⟨a, cap, hv, hnil, _⟩ | ⟨b, off, cap, hv, h0, hcap, hm, hcells⟩
      · exact absurd hle (by rw [hnil, List.length_nil]; omega)
      · obtain ⟨rfl, rfl⟩ : ac = some ⟨b, off, none⟩ ∧ cc = cap := by
          injection hv with e1 e2 e3
          exact ⟨e1, e3⟩
        have hfr := Has.front hcells hcap hm (Sz.wr m).length hle
        have HF := hide hfr
        have HSM := hide hs
        clear hv hcells hfr hs
        refine hrc.mono ?_
        rintro e w10 ⟨rfl, hb10⟩
        have hS10 : Below w.heap.size w w10 := bstep hS9 hb10 hS9.size
        simp only [errV, if_true]
        clear hrc
        go_wp2_with fail
        refine (write_yes m _ hm0 hm1).mono ?_
        rintro e w11 ⟨rfl, hx11, hb11⟩
        have hS11 : Below w.heap.size w w11 := bstep hS10 hb11 hS10.size
        unfold maxLen at hm
        have hle' : ((Sz.wr m).length : Int) ≤ (lc.length : Int) := by omega
        have hlc' : ((Sz.wr m).length : Int) ≤ (cc : Int) := by omega
        have hby := bytes_any _ _ _ _ w11 hx11 (HF.out.below hS11)
        rw [HSM.out] at hby
        have HBY := hide hby
        clear hby hx11
        generalize (Sz.wr m).length = k at *
        go_wp2_with fail
        refine HBY.out.mono ?_
        rintro e w12 ⟨rfl, hb12⟩
        go_wp2
        go_ret
        exact ⟨rfl, bstep hS11 hb12 hS11.size⟩
    · have hV : errV (Sz.rd lc 0).2.2 = .iface 37 (.int .i64 (Sz.rd lc 0).2.2) := by unfold errV; rw [if_neg he]
      rw [hV] at hrc
      generalize (Sz.rd lc 0).1 = r1 at *
      generalize (Sz.rd lc 0).2.1 = r2 at *
      generalize (Sz.rd lc 0).2.2 = r3 at *
      clear hV he
      refine hrc.mono ?_
      rintro e w10 ⟨rfl, hb10⟩
      clear hrc
      go_wp2
      go_ret
      exact ⟨rfl, bstep hS9 hb10 hS9.size⟩
  · refine (write_yes n _ (by omega) hn.2).mono ?_
    rintro e w3 ⟨rfl, hx3, hb3⟩
    have hS3 : Below w.heap.size w w3 := bstep hS2 hb3 hS2.size
    clear hS2 hb3
    have h9 := Sz.wr_le9 n
    have HB1 : Hid (([] : List Int).length + la.length ≤ 180000000000000) := by show 0 + _ ≤ _; omega
    have HB2 : Hid (([] ++ la : List Int).length + (Sz.wr n).length ≤ 180000000000000) := by show (la.length) + _ ≤ _; omega
    have HB3 : Hid (([] ++ la ++ Sz.wr n : List Int).length + lc.length ≤ 180000000000000) := by show (la ++ Sz.wr n).length + _ ≤ _; rw [List.length_append]; omega
    go_wp2_with (first
      | (at_builtin; refine wpList_append_bytes _ rfl _ _ rfl w.heap.size _ [] rfl (Own.empty _ _ hS3.size) _ la rfl (HA.out.below (hS3.alloc hS3.size _)) HB1.out (hS3.alloc hS3.size _).size ?_; intro v4 w4 ho4 hg4; have hb4 := below_empty hg4; have hS4 := bstep hS3 hb4 hS3.size)
      | (at_builtin; refine wpList_append_bytes _ rfl _ _ rfl w.heap.size _ _ rfl ho4 _ (Sz.wr n) rfl (hx3.below hb4) HB2.out hS4.size ?_; intro v5 w5 ho5 hg5; have hS5 := below_own hS4 ho4 hS4.size hg5)
      | (at_builtin; refine wpList_append_bytes _ rfl _ _ rfl w.heap.size _ _ rfl ho5 _ lc rfl (HC.out.below hS5) HB3.out hS5.size ?_; intro v6 w6 ho6 hg6; have hS6 := below_own hS5 ho5 hS5.size hg6))
    have hrd : Sz.rd ([] ++ la ++ Sz.wr n ++ lc) (la.length : Nat) = (n, (la.length : Int) + ((Sz.wr n).length : Nat), 0) := Sz.rd_wr la lc n (by omega) hn.2
    have hread := read_any v6 _ (la.length : Nat) w6 ho6.has (((Sz.Byt.nil.append ba).append (Sz.wr_byt n (by omega))).append bc)
    rw [hrd] at hread
    refine hread.mono ?_
    rintro e w7 ⟨rfl, hb7⟩
    have hS7 : Below w.heap.size w w7 := bstep hS6 hb7 hS6.size
    simp only [errV, if_true]
    clear hread hrd ho4 hg4 ho5 hg5 ho6 hg6 hS3 hS4 hS5 hS6 hb4 hb7 hx3 HB1 HB2 HB3
    have hne : (n != n) = false := by simp
    obtain ⟨wS, hwS⟩ : ∃ wS, wS = w7 := ⟨_, rfl⟩
    subst hwS
    have hS : Below w.heap.size w wS := hS7
    clear hS7
    have HB1 : Hid (([] : List Int).length + la.length ≤ 180000000000000) := by show 0 + _ ≤ _; omega
    go_wp2_with (at_builtin; refine wpList_append_bytes _ rfl _ _ rfl w.heap.size _ [] rfl (Own.empty _ _ hS.size) _ la rfl (HA.out.below (hS.alloc hS.size _)) HB1.out (hS.alloc hS.size _).size ?_; intro v4 w4 ho4 hg4; have hb4 := below_empty hg4; have hS4 := bstep hS hb4 hS.size)
    refine (pack_any vb lb _ (HB.out.below hS4) (by omega)).mono ?_
    rintro e w5 ⟨vp, rfl, hop, hb5⟩
    have hS5 : Below w.heap.size w w5 := bstep hS4 hb5 hS4.size
    have ho5 := ho4.below hb5
    have hp9 := Sz.wr_le9 (lb.length : Nat)
    have hpk : (Sz.wr (lb.length : Nat) ++ lb).length = (Sz.wr (lb.length : Nat)).length + lb.length := List.length_append
    have HB2 : Hid (([] ++ la : List Int).length + (Sz.wr (lb.length : Nat) ++ lb).length ≤ 180000000000000) := by show (la.length) + _ ≤ _; rw [hpk]; omega
    have HB3 : Hid (([] ++ la ++ (Sz.wr (lb.length : Nat) ++ lb) : List Int).length + lc.length ≤ 180000000000000) := by show (la ++ (Sz.wr (lb.length : Nat) ++ lb)).length + _ ≤ _; rw [List.length_append, hpk]; omega
    clear hpk
    go_wp2_with (first
      | (at_builtin; refine wpList_append_bytes _ rfl _ _ rfl w.heap.size _ _ rfl ho5 _ _ rfl hop.has HB2.out hS5.size ?_; intro v6 w6 ho6 hg6; have hS6 := below_own hS5 ho5 hS5.size hg6)
      | (at_builtin; refine wpList_append_bytes _ rfl _ _ rfl w.heap.size _ _ rfl ho6 _ lc rfl (HC.out.below hS6) HB3.out hS6.size ?_; intro v7 w7 ho7 hg7; have hS7 := below_own hS6 ho6 hS6.size hg7))
    have hunp : Sz.unp ([] ++ la ++ (Sz.wr (lb.length : Nat) ++ lb) ++ lc) (la.length : Nat) = (lb, (la.length : Int) + ((Sz.pk lb).length : Nat), 0) := Sz.unp_pk la lb lc (by omega)
    have hlen : ([] ++ la ++ (Sz.wr (lb.length : Nat) ++ lb) ++ lc : List Int).length = la.length + (Sz.pk lb).length + lc.length := by
      show (la ++ Sz.pk lb ++ lc).length = _; rw [List.length_append, List.length_append]
    have hpkl := Sz.pk_length lb
    have hup := unpack_any v7 _ (la.length : Nat) w7 ho7.has (((Sz.Byt.nil.append ba).append ((Sz.wr_byt _ (by omega)).append bb)).append bc) (by rw [hlen, hpkl]; omega)
    rw [hunp] at hup
    obtain ⟨a7, c7, hv7, -, -⟩ := ho7.form
    rw [hlen] at hv7
    subst hv7
    have hPb : (Sz.pk lb).length ≤ 20000000000000 := by rw [hpkl]; omega
    clear hunp hlen hpkl ho4 hg4 ho5 ho6 hg6 ho7 hg7 hop HB2 HB3 hS4 hS5 hS6 hb4 hb5
    generalize (Sz.pk lb).length = P at *
    refine hup.mono ?_
    rintro e w8 ⟨vy, rfl, hhy, hb8⟩
    have hS8 : Below w.heap.size w w8 := bstep hS7 hb8 hS7.size
    simp only [errV, if_true]
    clear hup
    have hself := bytes_any vy vb lb lb w8 hhy (HB.out.below hS8)
    rw [same_self] at hself
    have HSE := hide hself
    clear hself hhy
    have hT : ((la.length : Int) + (P : Int) != ((la.length + P + lc.length : Nat) : Int) - (lc.length : Int)) = false := by rw [bne_eq_false_iff_eq]; omega
    have hT2 : ((la.length : Int) + (P : Int) != (la.length : Int) + (P : Int) + (lc.length : Int) - (lc.length : Int)) = false := by rw [bne_eq_false_iff_eq]; omega
    go_wp2_with fail
    refine HSE.out.mono ?_
    rintro e w9 ⟨rfl, hb9⟩
    have hS9 : Below w.heap.size w w9 := bstep hS8 hb9 hS8.size
    clear HSE hb9 hb8
    go_wp2_with fail
    have hrc := read_any _ lc 0 w9 (HC.out.below hS9) bc
    by_cases he : (Sz.rd lc 0).2.2 = 0
    · obtain ⟨m, q, hr⟩ : ∃ m q, Sz.rd lc 0 = (m, q, 0) := ⟨(Sz.rd lc 0).1, (Sz.rd lc 0).2.1, Prod.ext rfl (Prod.ext rfl he)⟩
      rw [hr] at hrc
      obtain ⟨hm0, hm1, hq, hle, htk⟩ := Sz.wr_rd lc 0 m q bc hr
      simp only [Nat.zero_add, List.drop_zero] at hq hle htk
      have hq2 : q = ((Sz.wr m).length : Nat) := by omega
      subst hq2
      have hpos := Sz.wr_pos m
      have hs : sameB (Sz.wr m) (lc.take (Sz.wr m).length) = true := by rw [← htk]; exact same_self _
      clear he hr hq htk
      rcases HC.out with ⟨a, cap, hv, hnil, _⟩ | ⟨b, off, cap, hv, h0, hcap, hm, hcells⟩
      · exact absurd hle (by rw [hnil, List.length_nil]; omega)
      · obtain ⟨rfl, rfl⟩ : ac = some ⟨b, off, none⟩ ∧ cc = cap := by
          injection hv with e1 e2 e3
          exact ⟨e1, e3⟩
        have hfr := Has.front hcells hcap hm (Sz.wr m).length hle
        have HF := hide hfr
        have HSM := hide hs
        clear hv hcells hfr hs
        refine hrc.mono ?_
        rintro e w10 ⟨rfl, hb10⟩
        have hS10 : Below w.heap.size w w10 := bstep hS9 hb10 hS9.size
        simp only [errV, if_true]
        clear hrc
        go_wp2_with fail
        refine (write_yes m _ hm0 hm1).mono ?_
        rintro e w11 ⟨rfl, hx11, hb11⟩
        have hS11 : Below w.heap.size w w11 := bstep hS10 hb11 hS10.size
        unfold maxLen at hm
        have hle' : ((Sz.wr m).length : Int) ≤ (lc.length : Int) := by omega
        have hlc' : ((Sz.wr m).length : Int) ≤ (cc : Int) := by omega
        have hby := bytes_any _ _ _ _ w11 hx11 (HF.out.below hS11)
        rw [HSM.out] at hby
        have HBY := hide hby
        clear hby hx11
        generalize (Sz.wr m).length = k at *
        go_wp2_with fail
        refine HBY.out.mono ?_
        rintro e w12 ⟨rfl, hb12⟩
        go_wp2
        go_ret
        exact ⟨rfl, bstep hS11 hb12 hS11.size⟩
    · have hV : errV (Sz.rd lc 0).2.2 = .iface 37 (.int .i64 (Sz.rd lc 0).2.2) := by unfold errV; rw [if_neg he]
      rw [hV] at hrc
      generalize (Sz.rd lc 0).1 = r1 at *
      generalize (Sz.rd lc 0).2.1 = r2 at *
      generalize (Sz.rd lc 0).2.2 = r3 at *
      clear hV he
      refine hrc.mono ?_
      rintro e w10 ⟨rfl, hb10⟩
      clear hrc
      go_wp2
      go_ret
      exact ⟨rfl, bstep hS9 hb10 hS9.size⟩
end Go.Proofs.Ytgjolcfkefimcaa
