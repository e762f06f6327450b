/- MoneySums: amounts in whatever order and in whatever parts, for any two lists. -/
import Derived.Test.YtlcajpfalggheaaMoSum
import Derived.Test.YtlcajpfalggheaaOwnI
namespace Go.Proofs.Ytlcajpfalggheaa
open Go.RowKit
set_option linter.unusedVariables false

theorem drop_back (l : List Int) (k : Nat) (h : k < l.length) : (l.drop k).reverse = (l.drop (k + 1)).reverse ++ [l.getD k 0] := by
  have e : l.drop k = l.getD k 0 :: l.drop (k + 1) := by
    rw [List.drop_eq_getElem_cons h]; simp [List.getD, List.getElem?_eq_getElem h]
  rw [e, List.reverse_cons]

theorem len_of {la lb L : List Int} (h : la.length + lb.length ≤ 17592186044416) (e : L = [] ++ la ++ lb) : L.length ≤ 17592186044416 := by rw [e]; simp; omega

set_option maxHeartbeats 2000000 in
theorem moneySums_any (va vb : Value) (la lb : List Int) (w : World) (ha : HasI w va la) (hb : HasI w vb lb) (hbd : la.length + lb.length ≤ 17592186044416) :
    Calls Try.prog 3 #[va, vb] w fun e w' => e = .returned (.bool true) ∧ Below w.heap.size w w' := by
  have c1 := msum_any (.slice (some ⟨w.heap.size, 0, none⟩) 2 2) [2, 3] (w.alloc (.cells #[.int .i64 2, .int .i64 3] 3)) (OwnI.two w w.heap.size 2 3 (Nat.le_refl _)).has
  rw [show Mo.tot 0 [2, 3] = (5, 0) from rfl, errV_nil] at c1
  have C1 := hide c1
  have hB1 : Below w.heap.size w (w.alloc (.cells #[.int .i64 2, .int .i64 3] 3)) := (Below.refl _ _).alloc (Nat.le_refl _) _
  have hB2 := hB1.alloc (hB1.size) (.cells #[] 3)
  have hE2 := OwnI.empty (w.alloc (.cells #[.int .i64 2, .int .i64 3] 3)) w.heap.size hB1.size
  have hsz : (w.alloc (.cells #[.int .i64 2, .int .i64 3] 3)).heap.size = w.heap.size + 1 := by simp
  rw [hsz] at hE2
  have ha2 := ha.below hB2
  have hb2 := hb.below hB2
  have HE := hide hE2
  have HA := hide ha2
  have HBB := hide hb2
  have HB2 := hide hB2
  have HBD := hide hbd
  clear c1 hB1 hB2 hE2 hsz ha2 hb2 hbd
  go_enter Try.func3, Try.ntmps3
  go_wp2_with fail
  refine C1.out.mono ?_
  rintro e w1 ⟨rfl, rfl⟩
  go_wp2_with (first
    | (at_builtin; refine wpList_append_ints _ rfl (.tmp 32) (.tmp 33) rfl w.heap.size _ [] rfl HE.out va la rfl HA.out ?hbd1 HB2.out.size ?_; rotate_left; intro v3 w3 ho3 hg3; have hb3 := HB2.out.grown hg3 HB2.out.size (fun q hq => (HE.out.block q hq).1))
    | (at_builtin; refine wpList_append_ints _ rfl (.tmp 34) (.tmp 35) rfl w.heap.size v3 _ rfl ho3 vb lb rfl (hb.below hb3) ?hbd2 hb3.size ?_; rotate_left; intro v4 w4 ho4 hg4; have hb4 := hb3.grown hg4 hb3.size (fun q hq => (ho3.block q hq).1); obtain ⟨L, hL⟩ : ∃ L, L = [] ++ la ++ lb := ⟨_, rfl⟩; rw [← hL] at ho4; have hLl := len_of HBD.out hL; have HL0 := hide hL; clear hL; obtain ⟨a4, c4, rfl, hc4, hm4⟩ := ho4.form))
  case hbd2 => have := HBD.out; simp; omega
  case hbd1 => have := HBD.out; simp; omega
  have hL2 : L = la ++ lb := by have := HL0.out; simpa using this
  have HL := hide hL2
  clear hL2
  have HO4 := hide ho4
  have HB4 := hide hb4
  clear HL0 ho3 hg3 hb3 hg4 HE HA HBB HB2 C1 ho4 hb4 hc4 hm4
  have hcases : L = [] ∨ ∃ b off, a4 = some ⟨b, off, none⟩ ∧ 0 < L.length ∧ ∀ j, j < L.length → w4.cell? ⟨b, off + j, none⟩ = some (.int .i64 (L.getD j 0)) := by
    rcases HO4.out.has with ⟨a, cap, hv, h0, _⟩ | ⟨b, off, cap, hv, h0, hm, hc⟩
    · exact .inl h0
    · injection hv with e1 e2 e3
      exact .inr ⟨b, off, e1, h0, hc⟩
  rcases hcases with hL0 | ⟨b, off, ha4, h0, hc⟩
  · subst hL0
    have hab := HL.out
    obtain ⟨rfl, rfl⟩ : la = [] ∧ lb = [] := by simpa using hab.symm
    have d1 := msum_any (.slice a4 0 c4) [] w4 HO4.out.has
    have d2 := msum_any (.slice none 0 0) [] w4 (OwnI.nil w4 0).has
    have d3 := msum_any va [] w4 (ha.below HB4.out)
    have d4 := msum_any vb [] w4 (hb.below HB4.out)
    have d5 := madd_any 0 0 w4
    rw [show Mo.tot 0 [] = (0, 0) from rfl, errV_nil] at d1 d2 d3 d4
    rw [show Mo.add 0 0 = (0, 0) from rfl, errV_nil] at d5
    have D1 := hide d1
    have D2 := hide d2
    have D3 := hide d3
    have D4 := hide d4
    have D5 := hide d5
    clear d1 d2 d3 d4 d5 hab HL HBD hLl
    go_wp2
    refine wp_loop_rounds 1 ?_
    rw [rounds_succ]
    go_wp2_with fail
    refine D1.out.mono ?_
    rintro e w1 ⟨rfl, rfl⟩
    go_wp2_with fail
    refine D2.out.mono ?_
    rintro e w1 ⟨rfl, rfl⟩
    go_wp2_with fail
    refine D3.out.mono ?_
    rintro e w1 ⟨rfl, rfl⟩
    go_wp2_with fail
    refine D4.out.mono ?_
    rintro e w1 ⟨rfl, rfl⟩
    go_wp2_with fail
    refine D5.out.mono ?_
    rintro e w1 ⟨rfl, rfl⟩
    go_wp2
    refine wp_loop_rounds 1 ?_
    rw [rounds_succ]
    go_wp2
    go_ret
    exact ⟨rfl, HB4.out⟩
  · rw [ha4] at HO4 ⊢
    have HC := hide hc
    clear hc ha4
    have hlt : b < w4.heap.size := World.block_lt_of_cell? w4 ⟨b, off + 0, none⟩ (HC.out 0 h0)
    go_wp2
    go_loopw [8, 9] (fun v i wr => ∃ m : Nat, m ≤ L.length ∧ i = .int .i64 ((m : Int) - 1) ∧ OwnI wr w4.heap.size v ((L.drop m).reverse) ∧ Below w4.heap.size w4 wr) (fun _ i _ => ((intOf i) + 1).toNat)
    case atStart => exact ⟨L.length, Nat.le_refl _, by simp, by rw [List.drop_length]; exact OwnI.nil _ _, Below.refl _ _⟩
    case round =>
      obtain ⟨m, hm, rfl, hown, hbel⟩ := hrel
      by_cases hpos : 0 < m
      · obtain ⟨k, rfl⟩ : ∃ k, m = k + 1 := ⟨m - 1, by omega⟩
        have ek : ((k + 1 : Nat) : Int) - 1 = (k : Int) := by omega
        rw [ek]
        have hck : wr.cell? ⟨b, off + k, none⟩ = some (.int .i64 (L.getD k 0)) := by rw [hbel.cell (p := ⟨b, off + k, none⟩) hlt]; exact HC.out k (by omega)
        have HD : Hid ((L.drop k).reverse = (L.drop (k + 1)).reverse ++ [L.getD k 0]) := drop_back L k (by omega)
        have hlen : ((L.drop (k + 1)).reverse).length + 1 ≤ L.length := by rw [List.length_reverse, List.length_drop]; omega
        have HN := hide hlen
        generalize L.getD k 0 = x at *
        have hb1 : Below wr.heap.size wr (wr.alloc (.cells #[.int .i64 x] 3)) := (Below.refl _ _).alloc (Nat.le_refl _) _
        have hown1 := hown.below hb1
        have hbel1 := hbel.trans (hb1.mono hbel.size)
        have hx := (OwnI.one wr wr.heap.size x (Nat.le_refl _)).has
        have HX := hide hx
        have HO1 := hide hown1
        have HBE := hide hbel1
        clear hb1 hx hown1 hlen hown hbel1 ek
        generalize hG : (L.drop (k + 1)).reverse = G at *
        clear hG
        obtain ⟨vk, hvk⟩ : ∃ q, q = wr := ⟨_, rfl⟩
        go_wp2_with (at_builtin; refine wpList_append_ints _ rfl (.tmp 44) (.tmp 49) rfl w4.heap.size _ G rfl HO1.out (.slice (some ⟨wr.heap.size, 0, none⟩) 1 1) [x] rfl HX.out ?hbd3 HBE.out.size ?_; rotate_left; intro v6 w6 ho6 hg6)
        case hbd3 => have := HN.out; rw [List.length_singleton]; omega
        refine ⟨⟨k, by omega, by simp, by rw [HD.out]; exact ho6, HBE.out.grown hg6 HBE.out.size (fun q hq => (HO1.out.block q hq).1)⟩, by simp [intOf]⟩
      · obtain rfl : m = 0 := by omega
        have hvv := hown.has
        rw [List.drop_zero] at hvv
        have hA : HasI wr (.slice (some ⟨b, off, none⟩) L.length c4) L := HO4.out.has.below hbel
        have hbw := HB4.out.trans (hbel.mono HB4.out.size)
        have d1 := msum_any _ L wr hA
        have d2 := msum_any _ L.reverse wr hvv
        have d3 := msum_any va la wr (ha.below hbw)
        have d4 := msum_any vb lb wr (hb.below hbw)
        have HBW := hide hbw
        have HBL := hide hbel
        obtain ⟨wx, hwx⟩ : ∃ q, q = wr := ⟨_, rfl⟩
        subst hwx
        clear hvv hA hbw hown hbel
        by_cases hf : Mo.fits 0 L
        · have t1 := Mo.tot_fits L 0 (by decide) (by decide) hf
          have t2 := Mo.tot_fits L.reverse 0 (by decide) (by decide) ((Mo.fits_rev L).2 hf)
          obtain ⟨f3, f4, k3, k4⟩ := Mo.fits_parts la lb (by rw [← HL.out]; exact hf)
          have t3 := Mo.tot_fits la 0 (by decide) (by decide) f3
          have t4 := Mo.tot_fits lb 0 (by decide) (by decide) f4
          have hs : Mo.sum L = Mo.sum la + Mo.sum lb := by rw [HL.out, Mo.sum_append]
          have hle : ∀ j, j < L.length → L.getD j 0 ≤ Mo.sum L := fun j hj => Mo.sum_ge L hf.1 _ (by simp [List.getD, List.getElem?_eq_getElem hj])
          have hmx := hf.2
          have d5 := madd_any (Mo.sum la) (Mo.sum lb) wx
          have e5 : Mo.add (Mo.sum la) (Mo.sum lb) = (Mo.sum la + Mo.sum lb, 0) := by
            unfold Mo.add; rw [if_pos (show Mo.ok (Mo.sum la) ∧ Mo.ok (Mo.sum lb) from ⟨k3, k4⟩), if_pos (by omega)]
          rw [e5] at d5
          rw [Mo.sum_reverse] at t2
          rw [t1] at d1
          rw [t2] at d2
          rw [t3] at d3
          rw [t4] at d4
          rw [Int.zero_add] at d1 d2 d3 d4
          rw [errV_nil] at d1 d2 d3 d4 d5
          have b3 := k3.1
          have b4 := k4.1
          clear t1 t2 t3 t4 f3 f4 k3 k4 hf e5
          obtain ⟨Y, hY⟩ : ∃ Y, Y = Mo.sum L := ⟨_, rfl⟩
          rw [← hY] at d2
          generalize Mo.sum L = X at *
          generalize Mo.sum la = p at *
          generalize Mo.sum lb = q at *
          obtain ⟨S, hS⟩ : ∃ S, S = p + q := ⟨_, rfl⟩
          rw [← hS] at d5
          have j1 : (X != Y) = false := by rw [hY]; simp
          have j2 : (S != X) = false := by rw [hS, hs]; simp
          have D1 := hide d1
          have D2 := hide d2
          have D3 := hide d3
          have D4 := hide d4
          have D5 := hide d5
          have HLE := hide hle
          clear d1 d2 d3 d4 d5 hle hY hS hs
          go_wp2_with fail
          refine D1.out.mono ?_
          rintro e w1 ⟨rfl, rfl⟩
          go_wp2_with fail
          refine D2.out.mono ?_
          rintro e w1 ⟨rfl, rfl⟩
          go_wp2_with fail
          refine D3.out.mono ?_
          rintro e w1 ⟨rfl, rfl⟩
          go_wp2_with fail
          refine D4.out.mono ?_
          rintro e w1 ⟨rfl, rfl⟩
          go_wp2_with fail
          refine D5.out.mono ?_
          rintro e w1 ⟨rfl, rfl⟩
          go_wp2
          go_loop [20] (fun i => ∃ k : Nat, k ≤ L.length ∧ i = .int .i64 k) (fun i => L.length - (intOf i).toNat)
          case atStart => exact ⟨0, Nat.zero_le _, rfl⟩
          case round =>
            obtain ⟨k, hk, rfl⟩ := hrel
            by_cases hk2 : k < L.length
            · have hck : wx.cell? ⟨b, off + k, none⟩ = some (.int .i64 (L.getD k 0)) := by rw [HBL.out.cell (p := ⟨b, off + k, none⟩) hlt]; exact HC.out k hk2
              have hxk := HLE.out k hk2
              generalize L.getD k 0 = x at *
              have hxk2 : ¬ X < x := by omega
              go_wp2
              go_round
              case rel => exact ⟨k + 1, by omega, by go_num⟩
              case measure => simp [intOf]; omega
            · go_wp2
              go_ret
              exact ⟨rfl, HBW.out⟩
        · have t1 := Mo.tot_misfit L 0 (by decide) (by decide) hf
          have t2 := Mo.tot_misfit L.reverse 0 (by decide) (by decide) (fun h => hf ((Mo.fits_rev L).1 h))
          generalize (Mo.tot 0 L).1 = x1 at *
          generalize (Mo.tot 0 L).2 = y1 at *
          generalize (Mo.tot 0 L.reverse).1 = x2 at *
          generalize (Mo.tot 0 L.reverse).2 = y2 at *
          generalize (Mo.tot 0 la).1 = x3 at *
          generalize (Mo.tot 0 la).2 = y3 at *
          generalize (Mo.tot 0 lb).1 = x4 at *
          generalize (Mo.tot 0 lb).2 = y4 at *
          have e1 : errV y1 = .iface 32 (.int .i64 y1) := by unfold errV; rw [if_neg t1.2]
          have e2 : errV y2 = .iface 32 (.int .i64 y2) := by unfold errV; rw [if_neg t2.2]
          rw [e1] at d1
          rw [e2] at d2
          generalize errV y3 = z3 at *
          generalize errV y4 = z4 at *
          have D1 := hide d1
          have D2 := hide d2
          have D3 := hide d3
          have D4 := hide d4
          clear d1 d2 d3 d4 t1 t2 e1 e2 hf
          go_wp2_with fail
          refine D1.out.mono ?_
          rintro e w1 ⟨rfl, rfl⟩
          go_wp2_with fail
          refine D2.out.mono ?_
          rintro e w1 ⟨rfl, rfl⟩
          go_wp2_with fail
          refine D3.out.mono ?_
          rintro e w1 ⟨rfl, rfl⟩
          go_wp2_with fail
          refine D4.out.mono ?_
          rintro e w1 ⟨rfl, rfl⟩
          go_wp2
          go_ret
          exact ⟨rfl, HBW.out⟩

theorem moneySums_walk (va : Value) (la : List Int) (vb : Value) (lb : List Int) (w : World) (ha : HasI w va la) (h1 : I64s la) (hb : HasI w vb lb) (h2 : I64s lb) (hbd : la.length + lb.length ≤ 1048576) :
    Calls Try.prog 3 #[va, vb] w fun e w' => e = .returned (.bool true) ∧ Below w.heap.size w w' := moneySums_any va vb la lb w ha hb (by omega)
end Go.Proofs.Ytlcajpfalggheaa
