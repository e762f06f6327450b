/- The texts TxRb, TxRd, TxRt, one behind the other. -/
import Derived.Test.YtmjilohlchkicaaGreatDoorZTw
import Derived.Test.YtmjilohlchkicaaGreatDoorTxMa
import Derived.Test.YtmjilohlchkicaaGreatDoorZTf
import Derived.Test.YtmjilohlchkicaaGreatDoorRef
import Derived.Test.YtmjilohlchkicaaGreatDoorZTs
import Derived.Test.YtmjilohlchkicaaGreatDoorOwnNew
/- The document's bytes of a payment: what is appended so far, and the boxes. -/
namespace Go.Proofs.YtmjilohlchkicaaGreatDoor
open Go.RowKit
set_option linter.unusedVariables false
set_option linter.unusedSimpArgs false

/-- What is written so far, no more than B; the payment's box. -/
structure RbS (w : World) (c0 : List Value) (v : Value) (xs : List Int) (B : Nat) (W : World) : Prop where
  below : Below w.heap.size w W
  box : Is W w.heap.size c0 26
  own : Own W (w.heap.size + 1) v xs
  len : xs.length ≤ B
theorem RbS.call {w W W' : World} {c0 : List Value} {v : Value} {xs : List Int} {B : Nat} (h : RbS w c0 v xs B W) (hb : Below W.heap.size W W') : RbS w c0 v xs B W' :=
  ⟨h.below.trans (hb.mono h.below.size), h.box.below hb h.box.lt, h.own.below hb, h.len⟩
theorem RbS.drew {w W : World} {c0 : List Value} {v : Value} {xs : List Int} {B : Nat} (h : RbS w c0 v xs B W) : RbS w c0 v xs B W.drew := h.call (Below.refl _ _).drew
theorem RbS.to {w W : World} {c0 : List Value} {v : Value} {xs ys : List Int} {B C : Nat} (h : RbS w c0 v xs B W) (e : xs = ys) (hC : ys.length ≤ C) : RbS w c0 v ys C W := by
  subst e; exact ⟨h.below, h.box, h.own, hC⟩
theorem RbS.app {w W W' : World} {c0 : List Value} {v v' : Value} {xs l : List Int} {B m : Nat} (h : RbS w c0 v xs B W) (hl : l.length ≤ m) (ha : AppB W (w.heap.size + 1) v (xs ++ l) v' W') : RbS w c0 v' (xs ++ l) (B + m) W' := by
  obtain ⟨h1, h2, h3⟩ := ha
  have hne : some w.heap.size ≠ v.ownBlock := fun e => by have := (World.ownsRow.lt h.own w.heap.size e.symm).1; omega
  refine ⟨h.below.grown h2 h.below.size (fun q hq => by have := (World.ownsRow.lt h.own q hq).1; omega), ?_, h1, by rw [List.length_append]; have := h.len; omega⟩
  unfold Is; rw [h2.block w.heap.size h.box.lt hne]; exact h.box
theorem RbS.base {w W : World} {c0 : List Value} {v : Value} {xs : List Int} {B : Nat} (h : RbS w c0 v xs B W) : w.heap.size + 1 ≤ W.heap.size := h.box.lt
theorem RbS.room {w W : World} {c0 : List Value} {v : Value} {xs : List Int} {B : Nat} (h : RbS w c0 v xs B W) (l : List Int) (m : Nat) (hl : l.length ≤ m) (hB : B + m ≤ 1000000000) : xs.length + l.length ≤ 1000000000 := by have := h.len; omega
/-- And a box of a part. -/
structure RbT (w : World) (c0 : List Value) (v : Value) (xs : List Int) (B b : Nat) (c : List Value) (t : TypeId) (W : World) : Prop where
  s : RbS w c0 v xs B W
  bx : Is W b c t
  ap : v.ownBlock ≠ some b
theorem RbT.call {w W W' : World} {c0 c : List Value} {v : Value} {xs : List Int} {B b : Nat} {t : TypeId} (h : RbT w c0 v xs B b c t W) (hb : Below W.heap.size W W') : RbT w c0 v xs B b c t W' :=
  ⟨h.s.call hb, h.bx.below hb h.bx.lt, h.ap⟩
theorem RbT.drew {w W : World} {c0 c : List Value} {v : Value} {xs : List Int} {B b : Nat} {t : TypeId} (h : RbT w c0 v xs B b c t W) : RbT w c0 v xs B b c t W.drew := h.call (Below.refl _ _).drew
theorem RbT.app {w W W' : World} {c0 c : List Value} {v v' : Value} {xs l : List Int} {B b m : Nat} {t : TypeId} (h : RbT w c0 v xs B b c t W) (hl : l.length ≤ m) (ha : AppB W (w.heap.size + 1) v (xs ++ l) v' W') : RbT w c0 v' (xs ++ l) (B + m) b c t W' := by
  refine ⟨h.s.app hl ha, ?_, ?_⟩
  · unfold Is; rw [ha.2.1.block b h.bx.lt (fun e => h.ap e.symm)]; exact h.bx
  · rcases ha.2.2 with e | e
    · rw [e]; exact h.ap
    · rw [e]; intro e; injection e with e; have := h.bx.lt; omega
theorem RbT.start {w W W' : World} {c0 c : List Value} {v : Value} {xs : List Int} {B b : Nat} {t : TypeId} (h : RbS w c0 v xs B W) (hb : Below W.heap.size W W') (hi : Is W' b c t) (hw : W.heap.size ≤ b) : RbT w c0 v xs B b c t W' :=
  ⟨h.call hb, hi, fun e => by have := (World.ownsRow.lt h.own b e).2; omega⟩
theorem RbT.to {w W : World} {c0 c : List Value} {v : Value} {xs ys : List Int} {B C b : Nat} {t : TypeId} (h : RbT w c0 v xs B b c t W) (e : xs = ys) (hC : ys.length ≤ C) : RbT w c0 v ys C b c t W := ⟨h.s.to e hC, h.bx, h.ap⟩
theorem appB_form {W W' : World} {base : Nat} {v v' : Value} {ys : List Int} (h : AppB W base v ys v' W') : ∃ a n c, v' = .slice a n c := by
  obtain ⟨a, c, e, _⟩ := Own.form h.1
  exact ⟨a, _, c, e⟩
/-- A digest's box as a slice of bytes. -/
theorem dig_has {W : World} {b : Nat} {l : List Int} {t : TypeId} (h : Is W b (vals l) t) (h32 : l.length = 32) : Has W (.slice (some ⟨b, 0, none⟩) 32 32) l := by
  refine .inr ⟨b, 0, 32, by rw [h32], by omega, by omega, by unfold maxLen; omega, fun j hj => ?_⟩
  rw [Nat.zero_add, h.cell, vals_get _ _ hj]
theorem wr_ne (n : Int) : 0 < (Sz.wr n).length := Sz.wr_pos n
theorem pk_len (l : List Int) : (Sz.wr (l.length : Nat) ++ l).length ≤ l.length + 9 := by rw [List.length_append]; have := Sz.wr_le9 (l.length : Nat); omega
end Go.Proofs.YtmjilohlchkicaaGreatDoor

/- The document's bytes of a payment: with its keys, and without. -/
namespace Go.Proofs.YtmjilohlchkicaaGreatDoor
open Go.RowKit
set_option linter.unusedVariables false
set_option linter.unusedSimpArgs false

theorem own_zeroB (W : World) : Has (W.alloc (.cells #[.int .u8 0] 5)) (.slice (some ⟨W.heap.size, 0, none⟩) 1 1) [0] := Own.byte W 0
theorem own_byteB (W : World) (x : Int) : Has (W.alloc (.cells #[.int .u8 x] 5)) (.slice (some ⟨W.heap.size, 0, none⟩) 1 1) [x] := Own.byte W x

set_option maxRecDepth 100000 in
set_option maxHeartbeats 8000000 in
theorem rtb_bare (t : TxV) (w : World) (ht : HasTx w t) (hc : Tm.check t.it = 0) :
    Calls Tryz.prog 49 #[t.val, .bool false] w fun e w' => ∃ v, e = .returned v ∧ Own w' w.heap.size v (Tm.bytes (Tm.bare t.it)) ∧ Below w.heap.size w w' := by
  obtain ⟨c1, c2, c3, c4, c5, c6, c7⟩ := Tm.check_zero _ hc
  have cI := Tm.insF_zero _ _ c6
  have cO := Tm.outsF_zero _ c7
  obtain ⟨iv, ins, ov, outs, time⟩ := t
  obtain ⟨hi, ho⟩ := ht
  obtain ⟨ia, ic, hie, him, hir⟩ := hi.form
  obtain ⟨oa, oc, hoe, hom, hor⟩ := outs_form ho
  simp only at hi ho hie hoe hir hor
  subst hie hoe
  simp only [TxV.it, List.length_map] at c1 c2 c3 c4 c5 cI cO
  unfold maxLen at him hom
  have hIK : ∀ x ∈ ins, 0 ≤ x.at' ∧ x.at' < 40 ∧ x.K.length ≤ 30 ∧ ∀ p ∈ x.K, p.1.length ≤ 3000 := fun x hx => by
    obtain ⟨a, b, c⟩ := cI x.it (List.mem_map_of_mem hx)
    obtain ⟨d, e⟩ := Tm.keysF_zero _ c
    exact ⟨a, b, by simpa [InV.it] using d, fun p hp => e p.1 (List.mem_map_of_mem hp)⟩
  have hOK : ∀ x ∈ outs, Mo.ok x.amount ∧ x.L.length ≤ 60 ∧ ∀ p ∈ x.L, 1 ≤ p.1.op ∧ p.1.op ≤ 14 ∧ 0 ≤ p.1.n ∧ p.1.n ≤ 1073741824 ∧ p.1.data.length ≤ 300 := fun x hx => by
    obtain ⟨a, b⟩ := cO x.it (List.mem_map_of_mem hx)
    obtain ⟨d, e⟩ := Tm.lock_ok _ b
    exact ⟨a, by simpa [OutV.it, opsOf_length] using d, fun p hp => e p.1 (by simp only [OutV.it, opsOf, List.mem_map]; exact ⟨p, hp, rfl⟩)⟩
  obtain ⟨G, hG⟩ : ∃ G : InV → List Int, G = (fun x : InV => Tm.inB (Tm.bareI x.it)) := ⟨_, rfl⟩
  have hIL : ∀ k, (((ins.take k).map G).flatten).length ≤ 40 * 90400 := fun k => by
    have := flatten_le G 90400 (ins.take k) (fun x hx => by
      have hx := List.mem_of_mem_take hx
      obtain ⟨_, _, b, c⟩ := hIK x hx
      rw [hG]
      exact inB_le _ (hi.2 x hx).1 (by simp [InV.it, Tm.bareI]) (fun k hk => by
        simp only [InV.it, Tm.bareI, List.mem_map, List.not_mem_nil] at hk
        try cases hk))
    exact Nat.le_trans this (Nat.mul_le_mul (by rw [List.length_take]; omega) (Nat.le_refl _))
  have hOL : ∀ k, (((outs.take k).map fun x => Tm.outB x.it).flatten).length ≤ 40 * 20000 := fun k => by
    have := flatten_le (fun x : OutV => Tm.outB x.it) 20000 (outs.take k) (fun x hx => by
      have hx := List.mem_of_mem_take hx
      obtain ⟨_, b, c⟩ := hOK x hx
      exact outB_le _ (by simpa [OutV.it, opsOf_length] using b) (fun k hk => by
        simp only [OutV.it, opsOf, List.mem_map] at hk
        obtain ⟨p, hp, rfl⟩ := hk
        exact (c p hp).2.2.2.2))
    exact Nat.le_trans this (Nat.mul_le_mul (by rw [List.length_take]; omega) (Nat.le_refl _))
  have hend : Tm.bytes (Tm.bare (TxV.it ⟨.slice ia ins.length ic, ins, .slice oa outs.length oc, outs, time⟩)) = Sz.wr (ins.length : Nat) ++ (ins.map G).flatten ++ Sz.wr (outs.length : Nat) ++ (outs.map fun x => Tm.outB x.it).flatten ++ Sz.wr time := by
    rw [hG]
    simp [Tm.bytes, TxV.it, Tm.bare, List.append_assoc, Function.comp_def]
  rw [hend]
  show Calls Tryz.prog 49 #[.agg #[.slice ia ins.length ic, .slice oa outs.length oc, .int .i64 time], .bool false] w _
  have HGG0 := hide (fun x => congrFun hG x)
  have HIK := hide hIK
  have HOK := hide hOK
  have HID := hide hi.2
  have HOD := hide ho.2
  have HIR := hide hir
  have HOR := hide hor
  have HTM : Hid (0 ≤ time ∧ time ≤ 9223372036854775807) := hide ⟨c4, by omega⟩
  have hzi := zero_in
  obtain ⟨Y, hY⟩ : ∃ Y, Y = vals (List.replicate 32 0) ++ ([.int .i64 0, .slice none 0 0] : List Value) := ⟨_, rfl⟩
  rw [← hY] at hzi
  have hYl : Y.length = 34 := by rw [hY]; simp [vals]
  have hYp : ¬ Y = [] := by intro h; rw [h] at hYl; cases hYl
  have HYL := hide hYl
  have hzd := zero_dig
  obtain ⟨Zd, hZ⟩ : ∃ Z, Z = vals (List.replicate 32 0) := ⟨_, rfl⟩
  rw [← hZ] at hzd
  have hZl : Zd.length = 32 := by rw [hZ]; simp [vals]
  have hZp : ¬ Zd = [] := by intro h; rw [h] at hZl; cases hZl
  have HZL := hide hZl
  obtain ⟨il, hil⟩ : ∃ n, n = ins.length := ⟨_, rfl⟩
  obtain ⟨ol, hol⟩ : ∃ n, n = outs.length := ⟨_, rfl⟩
  have HIL : Hid (∀ k, (Sz.wr (il : Nat) ++ ((ins.take k).map G).flatten).length ≤ 4000000) := hide (fun k => by rw [List.length_append]; have := hIL k; have := Sz.wr_le9 (il : Nat); omega)
  have HOL := hide hOL
  rw [← hil] at c1 him HIR ⊢
  rw [← hol] at c2 hom ⊢
  have HIN : Hid (ins.length = il) := hide hil.symm
  have HON : Hid (outs.length = ol) := hide hol.symm
  have HBB := hide (below_alloc w (.cells #[.slice ia il ic, .slice oa ol oc, .int .i64 time] 26))
  have HII := hide (Is.new w [.slice ia il ic, .slice oa ol oc, .int .i64 time] 26)
  have HRB := hide (rbytes_any (il : Nat) (w.alloc (.cells #[.slice ia il ic, .slice oa ol oc, .int .i64 time] 26)) (by omega) (by omega))
  clear c3 c4 c5 c6 c7 cI cO hi ho hir hor hIK hOK hIL hOL hY hYl hZ hZl hG hc hend hil hol
  go_enter Tryz.func49, Tryz.ntmps49
  go_wp2_with fail
  refine HRB.out.mono ?_
  rintro e w1 ⟨v1, rfl, ho1, hb1⟩
  obtain ⟨z1, zn1, zc1, ez1⟩ : ∃ a n c, v1 = .slice a n c := by obtain ⟨a, c, e, _⟩ := Own.form ho1; exact ⟨a, _, c, e⟩
  subst ez1
  have HXA : Hid (RbS w [.slice ia il ic, .slice oa ol oc, .int .i64 time] (.slice z1 zn1 zc1) (Sz.wr (il : Nat) ++ ((ins.take 0).map G).flatten) 4000000 w1) := hide
    ⟨HBB.out.trans (hb1.mono HBB.out.size), HII.out.below hb1 HII.out.lt, by simpa using ho1.mono (by simp), HIL.out 0⟩
  clear ho1 hb1 HRB HBB HII
  go_wp2
  go_loopw [5, 6] (fun o i wr => ∃ k : Nat, k ≤ il ∧ i = .int .i64 k ∧ ∃ a n c, o = .slice a n c ∧ RbS w [.slice ia il ic, .slice oa ol oc, .int .i64 time] (.slice a n c) (Sz.wr (il : Nat) ++ ((ins.take k).map G).flatten) 4000000 wr) (fun _ i _ => il - (intOf i).toNat)
  case atStart => exact ⟨0, by omega, rfl, z1, zn1, zc1, rfl, HXA.out⟩
  case round =>
    obtain ⟨k, hk, rfl, a0, n0, c0, rfl, hrb⟩ := hrel
    have hcA := hrb.box.cell 0
    simp only [List.getElem?_cons_zero, List.getElem?_cons_succ] at hcA
    by_cases hlt : k < il
    · have hkI : k < ins.length := by rw [HIN.out]; exact hlt
      have HX0 := hide hrb
      obtain ⟨b, off, rfl, hb1, hb2, hb3, hbr⟩ := HIR.out k hlt
      obtain ⟨d1, d2, d3⟩ := HID.out ins[k] (List.getElem_mem hkI)
      obtain ⟨e1, e2, e3, e4⟩ := HIK.out ins[k] (List.getElem_mem hkI)
      have hin := range_at (range_keep hbr hrb.below hb3) (fun x hx => inCell_length x (HID.out x hx).1) k hkI
      have hcl := inCell_length ins[k] d1
      have hone : ∀ v ∈ inCell ins[k], v.oneCell' = true := by
        intro v hv
        unfold inCell at hv
        rcases List.mem_append.1 hv with hv | hv
        · exact vals_one _ v hv
        · simp only [List.mem_cons, List.not_mem_nil, or_false] at hv
          rcases hv with rfl | rfl
          · rfl
          · obtain ⟨a, c, e, _⟩ := d3.form; rw [e]; rfl
      have HNX : Hid (Sz.wr (il : Nat) ++ ((ins.take (k + 1)).map G).flatten = Sz.wr (il : Nat) ++ ((ins.take k).map G).flatten ++ G ins[k]) := hide (by
        rw [List.take_succ_eq_append_getElem hkI, List.map_append, List.flatten_append, ← List.append_assoc]; simp)
      have HGG1 := hide (HGG0.out ins[k])
      obtain ⟨q, hq⟩ : ∃ q, q = ins[k] := ⟨_, rfl⟩
      rw [← hq] at d1 d2 d3 e1 e2 e3 e4 hin hcl hone HNX HGG1
      obtain ⟨tx, at', kv, K⟩ := q
      simp only at d1 d2 d3 e1 e2 e3 e4
      obtain ⟨ka, kc, hke, hkm, hkl, hkf⟩ := keys_form d3
      subst hke
      have HKF := hide hkf
      have HKH := hide d3.2
      have HK3 := hide e4
      have HK30 := hide e3
      have HAT : Hid (0 ≤ at' ∧ at' ≤ 9223372036854775807) := hide ⟨e1, by omega⟩
      have HT32 := hide d1
      have HTL : Hid ((vals tx).length = 32) := hide (by rw [vals_length]; exact d1)
      obtain ⟨kn, hkn⟩ : ∃ n, n = K.length := ⟨_, rfl⟩
      have HKN := hide hkn.symm
      rw [← hkn] at hkl hin hcl hone HK30
      unfold maxLen at hkl
      obtain ⟨KF, hKF⟩ : ∃ KF, KF = K.map Prod.fst := ⟨_, rfl⟩
      have HKD := hide hKF
      have HKL : Hid (KF.length = kn) := hide (by rw [hKF, List.length_map]; exact HKN.out)
      obtain ⟨X, hX⟩ : ∃ X, X = Sz.wr (il : Nat) ++ ((ins.take k).map G).flatten := ⟨_, rfl⟩
      have HXX := hide hX
      have HXL : Hid (X.length ≤ 4000000) := hide (by rw [hX]; exact HIL.out k)
      have HKB : Hid (∀ j, (X ++ (tx ++ (Sz.wr at' ++ (Sz.wr (kn : Int) ++ ((KF.take j).map Sz.pk).flatten)))).length ≤ 4200000) := hide (fun j => by
        have h1 := tx_flat_le (KF.take j) 3000 (fun l hl => by
          rw [hKF] at hl
          obtain ⟨p, hp, rfl⟩ := List.mem_map.1 (List.mem_of_mem_take hl)
          exact e4 p hp)
        have h2 : (KF.take j).length * (3000 + 9) ≤ 30 * 3009 := Nat.mul_le_mul (by rw [List.length_take]; have := HKL.out; omega) (by omega)
        have := HXL.out
        have := Sz.wr_le9 at'
        have := Sz.wr_le9 (kn : Int)
        simp only [List.length_append]
        omega)
      rw [← hX] at HX0
      have HGG : Hid (G ⟨tx, at', .slice ka K.length kc, K⟩ = tx ++ (Sz.wr at' ++ (Sz.wr 0 ++ []))) := hide (by
        rw [HGG1.out]
        simp [Tm.inB, InV.it, Tm.bareI])
      have hsub : inCell ⟨tx, at', .slice ka kn kc, K⟩ = vals tx ++ [.int .i64 at', .slice ka kn kc] := rfl
      have hHC : inCell ⟨tx, at', .slice ka K.length kc, K⟩ = vals tx ++ [.int .i64 at', .slice ka kn kc] := by rw [hkn]; rfl
      rw [← hkn] at HGG HNX
      obtain ⟨C, hC⟩ : ∃ C, C = inCell ⟨tx, at', .slice ka kn kc, K⟩ := ⟨_, rfl⟩
      rw [← hC] at hin hcl hone
      have HC32 : Hid (∀ W b, Is W b C 49 → W.cell? ⟨b, 32, none⟩ = some (.int .i64 at')) := hide (fun W b h => by rw [h.cell, hC, hsub, in_get32 _ _ _ HTL.out])
      have HC33 : Hid (∀ W b, Is W b C 49 → W.cell? ⟨b, 33, none⟩ = some (.slice ka kn kc)) := hide (fun W b h => by rw [h.cell, hC, hsub, in_get33 _ _ _ HTL.out])
      have HCD : Hid (∀ W b, Is W b C 49 → W.rangeAt b 0 (vals tx)) := hide (fun W b h => by rw [hC, hsub] at h; exact (tx_range_part (is_range h)).1)
      have HIC := hide hin
      have HCL := hide hcl
      have HONE := hide hone
      have hki : (k : Int) < (il : Int) := by omega
      have hzk := HKN.out
      clear hrb hbr d1 d2 d3 e1 e2 e3 e4 hin hcl hone hb1 hb2 hb3 hkf hKF hX hHC hsub hC hq HGG1 hzk hkn hkm
      go_wp2_with (first
        | (refine wpList_load_part 49 C b (off + k * 34) rfl (.tmp 27) rfl rfl HIC.out Tryz.underlying49 rfl size_in HCL.out ?_)
        | (refine wpList_store_any3 49 Y C wr.heap.size rfl (.tmp 7) (.tmp 28) rfl rfl rfl rfl (Is.new wr _ _) size_in HYL.out HCL.out HONE.out ?_; intro w5 hi5 hw5; have hb5 : Below wr.heap.size wr w5 := (by rw [hw5]; exact below_row); have HX1 := hide (RbT.start HX0.out hb5 hi5 (Nat.le_refl _)); clear hw5)
        | (refine wpList_load_part 44 (vals tx) wr.heap.size 0 rfl (.tmp 30) rfl rfl (HCD.out _ _ HX1.out.bx) Tryz.underlying44 rfl size_dig HTL.out ?_)
        | (refine wpList_store_any3 44 Zd (vals tx) w5.heap.size rfl (.tmp 8) (.tmp 31) rfl rfl rfl rfl (Is.new w5 _ _) size_dig HZL.out HTL.out (vals_one _) ?_; intro w6 hi6 hw6; have hb6 : Below w5.heap.size w5 w6 := (by rw [hw6]; exact below_row); have HX1 := hide (HX1.out.call hb6); have HY1 := hide (dig_has hi6 HT32.out); clear hw6)
        | (at_builtin; refine wpList_append_by (AppB _ (w.heap.size + 1) (.slice a0 n0 c0) (X ++ tx)) rfl (.tmp 32) (.tmp 33) rfl (.slice a0 n0 c0) (.slice (some ⟨w5.heap.size, 0, none⟩) 32 32) rfl rfl (fun ty => run_append_src _ _ _ _ (X) (tx) HX1.out.s.own HY1.out (by rw [HT32.out]; omega) (HX1.out.s.room _ 32 (Nat.le_of_eq HT32.out) (by omega)) HX1.out.s.base ty) ?_; intro v2 W2 h2; obtain ⟨a2, n2, c2, e2⟩ := appB_form h2; subst e2; have HX2 := hide (HX1.out.app (m := 32) (Nat.le_of_eq HT32.out) h2); clear h2; have hc32 := HC32.out _ _ HX2.out.bx))
      refine (rbytes_any at' _ HAT.out.1 HAT.out.2).mono ?_
      rintro e wy2 ⟨vy2, rfl, hy2, hby2⟩
      obtain ⟨ya2, yn2, yc2, ey2⟩ : ∃ a n c, vy2 = .slice a n c := by obtain ⟨a, c, e, _⟩ := Own.form hy2; exact ⟨a, _, c, e⟩
      subst ey2
      have HY2 := hide (Own.has hy2)
      have HX2 := hide (HX2.out.call hby2)
      clear hy2 hby2
      go_wp2_with (first
        | (at_builtin; refine wpList_append_by (AppB _ (w.heap.size + 1) (.slice a2 n2 c2) (X ++ tx ++ Sz.wr at')) rfl (.tmp 35) (.tmp 39) rfl (.slice a2 n2 c2) (.slice ya2 yn2 yc2) rfl rfl (fun ty => run_append_src _ _ _ _ (X ++ tx) (Sz.wr at') HX2.out.s.own HY2.out (wr_ne _) (HX2.out.s.room _ 9 (Sz.wr_le9 _) (by omega)) HX2.out.s.base ty) ?_; intro v3 W3 h3; obtain ⟨a3, n3, c3, e3⟩ := appB_form h3; subst e3; have HX3 := hide (HX2.out.app (m := 9) (Sz.wr_le9 _) h3); clear h3; have hc33 := HC33.out _ _ HX3.out.bx; clear hc32)
        | (at_builtin; refine wpList_append_by (AppB _ (w.heap.size + 1) (.slice a3 n3 c3) (X ++ tx ++ Sz.wr at' ++ [0])) rfl (.tmp 43) (.tmp 44) rfl (.slice a3 n3 c3) (.slice (some ⟨W3.heap.size, 0, none⟩) 1 1) rfl rfl (fun ty => run_append_src _ _ _ _ (X ++ tx ++ Sz.wr at') ([0]) (HX3.out.call (below_alloc W3 _)).s.own (own_zeroB W3) (by decide) (HX3.out.s.room _ 1 (by decide) (by omega)) (HX3.out.call (below_alloc W3 _)).s.base ty) ?_; intro v4 W4 h4; obtain ⟨a4, n4, c4, e4⟩ := appB_form h4; subst e4; have HX4 := hide ((HX3.out.call (below_alloc W3 _)).app (m := 1) (by decide) h4); clear h4))
      have HX5 := hide (HX4.out.s.to (ys := Sz.wr (il : Nat) ++ ((ins.take (k + 1)).map G).flatten) (by rw [HNX.out, HGG.out, ← HXX.out, show Sz.wr 0 = [0] from wr_small 0 (by omega) (by omega)]; simp [List.append_assoc]) (HIL.out (k + 1)))
      go_wp2
      go_roundw
      case rel => exact ⟨k + 1, by omega, by go_num, a4, n4, c4, rfl, HX5.out⟩
      case measure => simp [intOf]; omega
    · have hke : k = il := by omega
      rw [List.take_of_length_le (by rw [HIN.out]; omega)] at hrb
      have HXI := hide hrb
      have hcO := hrb.box.cell 1
      simp only [List.getElem?_cons_zero, List.getElem?_cons_succ] at hcO
      clear hrb hke
      have HX0 := HXI
      obtain ⟨X, hX⟩ : ∃ X, X = Sz.wr (il : Nat) ++ (ins.map G).flatten := ⟨_, rfl⟩
      rw [← hX] at HX0
      have HXX := hide hX
      clear hX HXI
      go_wp2_with fail
      refine (rbytes_any (ol : Int) _ (by omega) (by omega)).mono ?_
      rintro e wy0 ⟨vy0, rfl, hy0, hby0⟩
      obtain ⟨ya0, yn0, yc0, ey0⟩ : ∃ a n c, vy0 = .slice a n c := by obtain ⟨a, c, e, _⟩ := Own.form hy0; exact ⟨a, _, c, e⟩
      subst ey0
      have HY0 := hide (Own.has hy0)
      have HX0 := hide (HX0.out.call hby0)
      clear hy0 hby0 hcO hcA
      go_wp2_with (at_builtin; refine wpList_append_by (AppB _ (w.heap.size + 1) (.slice a0 n0 c0) (X ++ Sz.wr (ol : Int))) rfl (.tmp 67) (.tmp 71) rfl (.slice a0 n0 c0) (.slice ya0 yn0 yc0) rfl rfl (fun ty => run_append_src _ _ _ _ (X) (Sz.wr (ol : Int)) HX0.out.own HY0.out (wr_ne _) (HX0.out.room _ 9 (Sz.wr_le9 _) (by omega)) HX0.out.base ty) ?_; intro v1 W1 h1; obtain ⟨a1, n1, c1, e1⟩ := appB_form h1; subst e1; have HX1 := hide (HX0.out.app (m := 9) (Sz.wr_le9 _) h1); clear h1)
      have HXL : Hid (∀ k, (X ++ Sz.wr (ol : Int) ++ ((outs.take k).map fun x => Tm.outB x.it).flatten).length ≤ 5000000) := hide (fun k => by
        rw [List.length_append]; have := HX1.out.len; have := HOL.out k; omega)
      have HXB : Hid (RbS w [.slice ia il ic, .slice oa ol oc, .int .i64 time] (.slice a1 n1 c1) (X ++ Sz.wr (ol : Int) ++ ((outs.take 0).map fun x => Tm.outB x.it).flatten) 5000000 W1) := hide (HX1.out.to (by simp) (HXL.out 0))
      clear HX0 HX1
      go_loopw [5, 10] (fun o i wr => ∃ k : Nat, k ≤ ol ∧ i = .int .i64 k ∧ ∃ a n c, o = .slice a n c ∧ RbS w [.slice ia il ic, .slice oa ol oc, .int .i64 time] (.slice a n c) (X ++ Sz.wr (ol : Int) ++ ((outs.take k).map fun x => Tm.outB x.it).flatten) 5000000 wr) (fun _ i _ => ol - (intOf i).toNat)
      case atStart => exact ⟨0, by omega, rfl, a1, n1, c1, rfl, HXB.out⟩
      case round =>
        obtain ⟨k2, hk2, rfl, a0, n0, c0, rfl, hrb⟩ := hrel
        have hcA := hrb.box.cell 1
        have hcT := hrb.box.cell 2
        simp only [List.getElem?_cons_zero, List.getElem?_cons_succ] at hcA hcT
        by_cases hlt : k2 < ol
        · clear hcT
          have hkO : k2 < outs.length := by rw [HON.out]; exact hlt
          have HX0 := hide hrb
          obtain ⟨b, off, rfl, hb1, hb2, hb3, hq0, hq1⟩ := HOR.out k2 hkO
          have d3 := HOD.out outs[k2] (List.getElem_mem hkO)
          obtain ⟨e1, e2, e3⟩ := HOK.out outs[k2] (List.getElem_mem hkO)
          have hc0 : wr.cell? ⟨b, off + k2 * 2, none⟩ = some (.int .i64 outs[k2].amount) := sm_cell hq0 hrb.below
          have hc1 : wr.cell? ⟨b, off + k2 * 2 + 1, none⟩ = some outs[k2].lv := sm_cell hq1 hrb.below
          have HNX : Hid (X ++ Sz.wr (ol : Int) ++ ((outs.take (k2 + 1)).map fun x => Tm.outB x.it).flatten = X ++ Sz.wr (ol : Int) ++ ((outs.take k2).map fun x => Tm.outB x.it).flatten ++ Tm.outB outs[k2].it) := hide (by
            rw [List.take_succ_eq_append_getElem hkO, List.map_append, List.flatten_append, ← List.append_assoc]; simp)
          obtain ⟨q, hq⟩ : ∃ q, q = outs[k2] := ⟨_, rfl⟩
          rw [← hq] at d3 e1 e2 e3 hc0 hc1 HNX
          obtain ⟨am, lv, L⟩ := q
          simp only at d3 e1 e2 e3 hc0 hc1
          obtain ⟨la, lc, hle, hlm, hlf⟩ := ops_form d3
          subst hle
          obtain ⟨ln, hln⟩ : ∃ n, n = L.length := ⟨_, rfl⟩
          have HLN := hide hln.symm
          rw [HON.out] at hb1
          have HLF := hide hlf
          have HLH := hide d3.2
          have HL3 := hide e3
          have HAM : Hid (0 ≤ am ∧ am ≤ 9223372036854775807) := hide ⟨e1.1, by have := e1.2; omega⟩
          have hOB : Tm.outB (OutV.it ⟨am, .slice la L.length lc, L⟩) = Sz.wr am ++ (Sz.wr (ln : Int) ++ ((opsOf L).map Tm.opB).flatten) := by
            rw [hln]; simp [Tm.outB, OutV.it, opsOf_length]
          rw [hOB] at HNX
          obtain ⟨OF, hOF⟩ : ∃ OF, OF = opsOf L := ⟨_, rfl⟩
          have HOF := hide hOF
          have HOFL : Hid (OF.length = ln) := hide (by rw [hOF, opsOf_length]; exact hln.symm)
          have HL60 : Hid (ln ≤ 60) := hide (by rw [hln]; exact e2)
          rw [← hOF] at HNX
          rw [← hln] at hc1 hlm
          unfold maxLen at hlm
          obtain ⟨V, hV⟩ : ∃ V, V = X ++ Sz.wr (ol : Int) ++ ((outs.take k2).map fun x => Tm.outB x.it).flatten := ⟨_, rfl⟩
          rw [← hV] at HX0 HNX
          have HVL : Hid (V.length ≤ 5000000) := hide (by rw [hV]; exact HXL.out k2)
          have HVB : Hid (∀ j, (V ++ (Sz.wr am ++ (Sz.wr (ln : Int) ++ ((OF.take j).map Tm.opB).flatten))).length ≤ 5100000) := hide (fun j => by
            have h1 := flat_ops_le (OF.take j) 300 (fun x hx => by
              have hx := List.mem_of_mem_take hx
              rw [hOF] at hx
              simp only [opsOf, List.mem_map] at hx
              obtain ⟨p, hp, rfl⟩ := hx
              exact (e3 p hp).2.2.2.2)
            have h2 : (OF.take j).length * (300 + 27) ≤ 60 * 327 := Nat.mul_le_mul (by rw [List.length_take]; have := HOFL.out; have := HL60.out; omega) (by omega)
            have := HVL.out
            have := Sz.wr_le9 am
            have := Sz.wr_le9 (ln : Int)
            simp only [List.length_append]
            omega)
          have hki : (k2 : Int) < (ol : Int) := by omega
          have HX1 := hide (RbT.start HX0.out (below_alloc wr (.cells #[.int .i64 am, .slice la ln lc] 52)) (Is.new wr [.int .i64 am, .slice la ln lc] 52) (Nat.le_refl _))
          clear hrb d3 e1 e2 e3 hq0 hq1 hb2 hb3 hlf hOB hOF hV hq hln
          go_wp2_with fail
          refine (rbytes_any am _ HAM.out.1 HAM.out.2).mono ?_
          rintro e wy1 ⟨vy1, rfl, hy1, hby1⟩
          obtain ⟨ya1, yn1, yc1, ey1⟩ : ∃ a n c, vy1 = .slice a n c := by obtain ⟨a, c, e, _⟩ := Own.form hy1; exact ⟨a, _, c, e⟩
          subst ey1
          have HY1 := hide (Own.has hy1)
          have HX1 := hide (HX1.out.call hby1)
          clear hy1 hby1
          go_wp2_with (at_builtin; refine wpList_append_by (AppB _ (w.heap.size + 1) (.slice a0 n0 c0) (V ++ Sz.wr am)) rfl (.tmp 85) (.tmp 88) rfl (.slice a0 n0 c0) (.slice ya1 yn1 yc1) rfl rfl (fun ty => run_append_src _ _ _ _ (V) (Sz.wr am) HX1.out.s.own HY1.out (wr_ne _) (HX1.out.s.room _ 9 (Sz.wr_le9 _) (by omega)) HX1.out.s.base ty) ?_; intro v2 W2 h2; obtain ⟨a2, n2, c2, e2⟩ := appB_form h2; subst e2; have HX2 := hide (HX1.out.app (m := 9) (Sz.wr_le9 _) h2); clear h2; have hd1 := HX2.out.bx.cell 1; simp only [List.getElem?_cons_zero, List.getElem?_cons_succ] at hd1)
          refine (rbytes_any (ln : Int) _ (by omega) (by have := HL60.out; omega)).mono ?_
          rintro e wy2 ⟨vy2, rfl, hy2, hby2⟩
          obtain ⟨ya2, yn2, yc2, ey2⟩ : ∃ a n c, vy2 = .slice a n c := by obtain ⟨a, c, e, _⟩ := Own.form hy2; exact ⟨a, _, c, e⟩
          subst ey2
          have HY2 := hide (Own.has hy2)
          have HX2 := hide (HX2.out.call hby2)
          clear hy2 hby2
          go_wp2_with (at_builtin; refine wpList_append_by (AppB _ (w.heap.size + 1) (.slice a2 n2 c2) (V ++ Sz.wr am ++ Sz.wr (ln : Int))) rfl (.tmp 90) (.tmp 94) rfl (.slice a2 n2 c2) (.slice ya2 yn2 yc2) rfl rfl (fun ty => run_append_src _ _ _ _ (V ++ Sz.wr am) (Sz.wr (ln : Int)) HX2.out.s.own HY2.out (wr_ne _) (HX2.out.s.room _ 9 (Sz.wr_le9 _) (by omega)) HX2.out.s.base ty) ?_; intro v3 W3 h3; obtain ⟨a3, n3, c3, e3⟩ := appB_form h3; subst e3; have HX3 := hide (HX2.out.app (m := 9) (Sz.wr_le9 _) h3); clear h3; clear hd1)
          have HX4 := hide (HX3.out.to (ys := V ++ (Sz.wr am ++ (Sz.wr (ln : Int) ++ ((OF.take 0).map Tm.opB).flatten))) (by simp [List.append_assoc]) (HVB.out 0))
          obtain ⟨wA, rfl⟩ : ∃ wA, wA = wr := ⟨_, rfl⟩
          go_loopw [5, 12] (fun o i wq => ∃ j : Nat, j ≤ ln ∧ i = .int .i64 j ∧ ∃ a n c, o = .slice a n c ∧ RbT w [.slice ia il ic, .slice (some ⟨b, off, none⟩) ol oc, .int .i64 time] (.slice a n c) (V ++ (Sz.wr am ++ (Sz.wr (ln : Int) ++ ((OF.take j).map Tm.opB).flatten))) 5100000 wA.heap.size [.int .i64 am, .slice la ln lc] 52 wq) (fun _ i _ => ln - (intOf i).toNat)
          case atStart => exact ⟨0, by omega, rfl, a3, n3, c3, rfl, HX4.out⟩
          case round =>
            obtain ⟨wq, rfl⟩ : ∃ wq, wq = wr := ⟨_, rfl⟩
            obtain ⟨j, hj, rfl, a5, n5, c5, rfl, hrt⟩ := hrel
            have HX5 := hide hrt
            have hd1 := hrt.bx.cell 1
            simp only [List.getElem?_cons_zero, List.getElem?_cons_succ] at hd1
            clear hrt
            by_cases hjt : j < ln
            · have hjL : j < L.length := by rw [HLN.out]; exact hjt
              obtain ⟨lb, lo, rfl, hlc1, hlc2, hlb, hx0, hx1, hx2⟩ := HLF.out j hjL
              rw [HLN.out] at hlc1
              unfold maxLen at hlc2
              have hp0 : wq.cell? ⟨lb, lo + j * 3, none⟩ = some (.int .i64 L[j].1.op) := sm_cell hx0 HX5.out.s.below
              have HP1 : Hid (∀ W, Below w.heap.size w W → W.cell? ⟨lb, lo + j * 3 + 1, none⟩ = some (.int .i64 L[j].1.n)) := hide (fun W hW => sm_cell hx1 hW)
              have HP2 : Hid (∀ W, Below w.heap.size w W → W.cell? ⟨lb, lo + j * 3 + 2, none⟩ = some L[j].2) := hide (fun W hW => sm_cell hx2 hW)
              have hk1 := (HLH.out L[j] (List.getElem_mem hjL)).1
              obtain ⟨sa, sc, hse, _, _⟩ := hk1.shape
              obtain ⟨f1, f2, f3, f4, f5⟩ := HL3.out L[j] (List.getElem_mem hjL)
              have HPK : Hid (∀ W, Below w.heap.size w W → Calls Tryz.prog 74 #[L[j].2] W fun e w' => ∃ v', e = .returned v' ∧ Own w' W.heap.size v' (Sz.pk L[j].1.data) ∧ Below W.heap.size W w') := hide (fun W hW => rpacked_any _ _ W (hk1.below hW) (by omega))
              have HPL : Hid ((Sz.pk L[j].1.data).length ≤ 309) := hide (by rw [Sz.pk_length]; have := Sz.wr_le9 (L[j].1.data.length : Nat); omega)
              have HNK : Hid (V ++ (Sz.wr am ++ (Sz.wr (ln : Int) ++ ((OF.take j).map Tm.opB).flatten)) ++ [L[j].1.op] ++ Sz.wr L[j].1.n ++ Sz.pk L[j].1.data = V ++ (Sz.wr am ++ (Sz.wr (ln : Int) ++ ((OF.take (j + 1)).map Tm.opB).flatten))) := hide (by
                have hjF : j < OF.length := by rw [HOFL.out]; exact hjt
                rw [List.take_succ_eq_append_getElem hjF, List.map_append, List.flatten_append]
                have e1 : OF[j] = L[j].1 := by simp [HOF.out, opsOf]
                have e2 : Tm.opB L[j].1 = [L[j].1.op] ++ Sz.wr L[j].1.n ++ Sz.pk L[j].1.data := by rw [Tm.opB, wr_small _ (by omega) (by omega)]; simp [List.append_assoc]
                simp [e1, e2, List.append_assoc])
              have HNL := hide (HVB.out (j + 1))
              have HN : Hid (0 ≤ L[j].1.n ∧ L[j].1.n ≤ 9223372036854775807) := hide ⟨f3, by omega⟩
              have hki2 : (j : Int) < (ln : Int) := by omega
              rw [hse] at HP2 HPK
              clear hk1 hse hx0 hx1 hx2 f3 f4 f5
              generalize L[j].1.data = od at *
              generalize L[j].1.op = oo at *
              generalize L[j].1.n = on at *
              generalize od.length = dl at *
              obtain ⟨Q, hQ⟩ : ∃ Q, Q = V ++ (Sz.wr am ++ (Sz.wr (ln : Int) ++ ((OF.take j).map Tm.opB).flatten)) := ⟨_, rfl⟩
              rw [← hQ] at HX5 HNK
              clear hQ
              have hwo : IntKind.u8.wrap oo = oo := by simp [IntKind.wrap, IntKind.bits, IntKind.signed]; omega
              have hwm : oo % 256 = oo := by omega
              go_wp2_with (at_builtin; refine wpList_append_by (AppB _ (w.heap.size + 1) (.slice a5 n5 c5) (Q ++ [oo])) rfl (.tmp 103) (.tmp 111) rfl (.slice a5 n5 c5) (.slice (some ⟨wq.heap.size, 0, none⟩) 1 1) rfl rfl (fun ty => run_append_src _ _ _ _ (Q) ([oo]) (HX5.out.call (below_alloc wq _)).s.own (own_byteB wq oo) (by simp) (HX5.out.s.room _ 1 (by simp) (by omega)) (HX5.out.call (below_alloc wq _)).s.base ty) ?_; intro v6 W6 h6; obtain ⟨a6, n6, c6, e6⟩ := appB_form h6; subst e6; have HX6 := hide ((HX5.out.call (below_alloc wq _)).app (m := 1) (by simp) h6); clear h6; have hp1 := HP1.out _ HX6.out.s.below; have hd2 := HX6.out.bx.cell 1; simp only [List.getElem?_cons_zero, List.getElem?_cons_succ] at hd2)
              refine (rbytes_any on _ HN.out.1 HN.out.2).mono ?_
              rintro e wy6 ⟨vy6, rfl, hy6, hby6⟩
              obtain ⟨ya6, yn6, yc6, ey6⟩ : ∃ a n c, vy6 = .slice a n c := by obtain ⟨a, c, e, _⟩ := Own.form hy6; exact ⟨a, _, c, e⟩
              subst ey6
              have HY6 := hide (Own.has hy6)
              have HX6 := hide (HX6.out.call hby6)
              clear hy6 hby6 hp0 hp1
              go_wp2_with (at_builtin; refine wpList_append_by (AppB _ (w.heap.size + 1) (.slice a6 n6 c6) (Q ++ [oo] ++ Sz.wr on)) rfl (.tmp 113) (.tmp 120) rfl (.slice a6 n6 c6) (.slice ya6 yn6 yc6) rfl rfl (fun ty => run_append_src _ _ _ _ (Q ++ [oo]) (Sz.wr on) HX6.out.s.own HY6.out (wr_ne _) (HX6.out.s.room _ 9 (Sz.wr_le9 _) (by omega)) HX6.out.s.base ty) ?_; intro v7 W7 h7; obtain ⟨a7, n7, c7, e7⟩ := appB_form h7; subst e7; have HX7 := hide (HX6.out.app (m := 9) (Sz.wr_le9 _) h7); clear h7; have hp2 := HP2.out _ HX7.out.s.below; have hd3 := HX7.out.bx.cell 1; simp only [List.getElem?_cons_zero, List.getElem?_cons_succ] at hd3; clear hd2)
              refine (HPK.out _ HX7.out.s.below).mono ?_
              rintro e wy7 ⟨vy7, rfl, hy7, hby7⟩
              obtain ⟨ya7, yn7, yc7, ey7⟩ : ∃ a n c, vy7 = .slice a n c := by obtain ⟨a, c, e, _⟩ := Own.form hy7; exact ⟨a, _, c, e⟩
              subst ey7
              have HY7 := hide (Own.has hy7)
              have HX7 := hide (HX7.out.call hby7)
              clear hy7 hby7 hp2 hd1
              go_wp2_with (at_builtin; refine wpList_append_by (AppB _ (w.heap.size + 1) (.slice a7 n7 c7) (Q ++ [oo] ++ Sz.wr on ++ Sz.pk od)) rfl (.tmp 122) (.tmp 129) rfl (.slice a7 n7 c7) (.slice ya7 yn7 yc7) rfl rfl (fun ty => run_append_src _ _ _ _ (Q ++ [oo] ++ Sz.wr on) (Sz.pk od) HX7.out.s.own HY7.out (by rw [Sz.pk_length]; have := Sz.wr_pos ((od).length : Nat); omega) (HX7.out.s.room _ 309 HPL.out (by omega)) HX7.out.s.base ty) ?_; intro v8 W8 h8; obtain ⟨a8, n8, c8, e8⟩ := appB_form h8; subst e8; have HX8 := hide (HX7.out.app (m := 309) HPL.out h8); clear h8; clear hd3)
              have HX9 := hide (HX8.out.to HNK.out HNL.out)
              go_wp2
              go_roundw
              case rel => exact ⟨j + 1, by omega, by go_num, a8, n8, c8, rfl, HX9.out⟩
              case measure => simp [intOf]; omega
            · have hje : j = ln := by omega
              have HX6 := hide (HX5.out.s.to (ys := X ++ Sz.wr (ol : Int) ++ ((outs.take (k2 + 1)).map fun x => Tm.outB x.it).flatten) (by rw [HNX.out, hje, List.take_of_length_le (by rw [HOFL.out]; exact Nat.le_refl _)]) (HXL.out (k2 + 1)))
              clear hje
              go_wp2
              go_roundw
              case rel => exact ⟨k2 + 1, by omega, by go_num, a5, n5, c5, rfl, HX6.out⟩
              case measure => simp [intOf]; omega
        · have hke : k2 = ol := by omega
          rw [List.take_of_length_le (by rw [HON.out]; omega)] at hrb
          have HX0 := hide hrb
          obtain ⟨V, hV⟩ : ∃ V, V = X ++ Sz.wr (ol : Int) ++ (outs.map fun x => Tm.outB x.it).flatten := ⟨_, rfl⟩
          rw [← hV] at HX0
          have HVX := hide hV
          clear hrb hke hV
          go_wp2_with fail
          refine (rbytes_any time _ HTM.out.1 HTM.out.2).mono ?_
          rintro e wy0 ⟨vy0, rfl, hy0, hby0⟩
          obtain ⟨ya0, yn0, yc0, ey0⟩ : ∃ a n c, vy0 = .slice a n c := by obtain ⟨a, c, e, _⟩ := Own.form hy0; exact ⟨a, _, c, e⟩
          subst ey0
          have HY0 := hide (Own.has hy0)
          have HX0 := hide (HX0.out.call hby0)
          clear hy0 hby0
          go_wp2_with (at_builtin; refine wpList_append_by (AppB _ (w.heap.size + 1) (.slice a0 n0 c0) (V ++ Sz.wr time)) rfl (.tmp 131) (.tmp 134) rfl (.slice a0 n0 c0) (.slice ya0 yn0 yc0) rfl rfl (fun ty => run_append_src _ _ _ _ (V) (Sz.wr time) HX0.out.own HY0.out (wr_ne _) (HX0.out.room _ 9 (Sz.wr_le9 _) (by omega)) HX0.out.base ty) ?_; intro v1 W1 h1; obtain ⟨a1, n1, c1, e1⟩ := appB_form h1; subst e1; have HX1 := hide (HX0.out.app (m := 9) (Sz.wr_le9 _) h1); clear h1)
          have HO := hide (HX1.out.own.mono (Nat.le_succ w.heap.size))
          rw [HVX.out, HXX.out] at HO
          go_ret
          exact ⟨_, rfl, HO.out, HX1.out.below⟩
end Go.Proofs.YtmjilohlchkicaaGreatDoor

/- The document's text of a payment's ID. -/
namespace Go.Proofs.YtmjilohlchkicaaGreatDoor
open Go.RowKit
set_option linter.unusedVariables false
set_option linter.unusedSimpArgs false

theorem rt_own {w w1 w2 : World} {base : Nat} {v : Value} {l : List Int} (h : Below base w w1) (ho : Own w1 base v l) (hb : base ≤ w1.heap.size) (hg : w1.grownBy w2 v.ownBlock) : Below base w w2 :=
  h.grown hg hb (fun q hq => (ho.block q hq).1)
set_option maxRecDepth 100000 in
set_option maxHeartbeats 4000000 in
theorem ridtext_any (t : TxV) (w : World) (ht : HasTx w t) (hc : Tm.check t.it = 0) :
    Calls Tryz.prog 32 #[t.val] w fun e w' => ∃ v, e = .returned v ∧ Own w' w.heap.size v (Tm.idText t.it) ∧ Below w.heap.size w w' := by
  have HRB := hide (fun W (hW : Below w.heap.size w W) => rtb_bare t W (ht.below hW) hc)
  have HLE := hide (bytes_le _ (Tm.check_bare t.it hc) (Tm.bare_byt _ ht.byt))
  have htxt : Tm.idText t.it = [21] ++ Tm.bytes (Tm.bare t.it) := rfl
  obtain ⟨X, hX⟩ : ∃ X, X = Tm.bytes (Tm.bare t.it) := ⟨_, rfl⟩
  rw [htxt]
  rw [← hX] at HRB HLE ⊢
  have HL1 : Hid (([21] : List Int).length + X.length ≤ 180000000000000) := hide (by have := HLE.out; simp only [List.length_cons, List.length_nil]; omega)
  obtain ⟨iv, ins, ov, outs, time⟩ := t
  obtain ⟨ia, ic, hie, him, _⟩ := ht.1.form
  obtain ⟨oa, oc, hoe, hom, _⟩ := ht.2.form
  simp only at hie hoe
  subst hie hoe
  unfold maxLen at him hom
  show Calls Tryz.prog 32 #[.agg #[.slice ia ins.length ic, .slice oa outs.length oc, .int .i64 time]] w _
  have HRB2 : Hid (∀ W, Below w.heap.size w W → Calls Tryz.prog 49 #[.agg #[.slice ia ins.length ic, .slice oa outs.length oc, .int .i64 time], .bool false] W fun e w' => ∃ v, e = .returned v ∧ Own w' W.heap.size v X ∧ Below W.heap.size W w') := HRB
  clear HRB hX htxt ht hc
  generalize ins.length = il at *
  generalize outs.length = ol at *
  have HB0 := hide (below_alloc2 w (.cells #[.slice ia il ic, .slice oa ol oc, .int .i64 time] 26) (.cells #[.int .u8 21] 5))
  have HO0 : Hid (Own ((w.alloc (.cells #[.slice ia il ic, .slice oa ol oc, .int .i64 time] 26)).alloc (.cells #[.int .u8 21] 5)) w.heap.size (.slice (some ⟨w.heap.size + 1, 0, none⟩) 1 1) [21]) := hide (by
    have := Own.one (w.alloc (.cells #[.slice ia il ic, .slice oa ol oc, .int .i64 time] 26)) w.heap.size 21 (by simp)
    simpa using this)
  go_enter Tryz.func32, Tryz.ntmps32
  go_wp2_with fail
  refine (HRB2.out _ HB0.out).mono ?_
  rintro e w1 ⟨v1, rfl, ho1, hb1⟩
  obtain ⟨ya, yn, yc, ey⟩ : ∃ a n c, v1 = .slice a n c := by obtain ⟨a, c, e, _⟩ := Own.form ho1; exact ⟨a, _, c, e⟩
  subst ey
  have HB1 := hide (HB0.out.trans (hb1.mono HB0.out.size))
  have HO1 := hide (HO0.out.below hb1)
  have HY1 := hide (Own.has ho1)
  clear ho1 hb1 HB0 HO0
  go_wp2_with (at_builtin; refine wpList_append_bytes _ rfl _ _ rfl w.heap.size _ [21] rfl HO1.out _ X rfl HY1.out HL1.out HB1.out.size ?_; intro v2 w2 ho2 hg2; obtain ⟨va2, vn2, vc2, e2⟩ : ∃ a n c, v2 = .slice a n c := (by obtain ⟨a, c, e, _⟩ := Own.form ho2; exact ⟨a, _, c, e⟩); subst e2; have HB2 := hide (rt_own HB1.out HO1.out HB1.out.size hg2); have HO2 := hide ho2; clear ho2 hg2)
  go_ret
  exact ⟨_, rfl, HO2.out, HB2.out⟩
end Go.Proofs.YtmjilohlchkicaaGreatDoor
