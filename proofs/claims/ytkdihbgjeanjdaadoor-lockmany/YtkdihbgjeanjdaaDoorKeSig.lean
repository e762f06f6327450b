/- The contracts of key.Public, key.Sign and key.Recover. -/
import Derived.Test.YtkdihbgjeanjdaaDoorKeEnds
import Derived.Test.YtkdihbgjeanjdaaDoorKeFns
import Derived.Test.YtkdihbgjeanjdaaDoorOwnNew
namespace Go.Proofs.YtkdihbgjeanjdaaDoor
open Go.RowKit
set_option linter.unusedVariables false

theorem call_publicF (xs : Array Value) (w : World) : (callFunc 33 xs).run Tryd.prog w = .ok (.enter 33 xs) w := by
  simp [callFunc, Tryd.func33, Tryd.f33]
theorem call_signF (xs : Array Value) (w : World) : (callFunc 38 xs).run Tryd.prog w = .ok (.enter 38 xs) w := by
  simp [callFunc, Tryd.func38, Tryd.f38]
theorem call_recoverF (xs : Array Value) (w : World) : (callFunc 39 xs).run Tryd.prog w = .ok (.enter 39 xs) w := by
  simp [callFunc, Tryd.func39, Tryd.f39]

set_option maxRecDepth 100000 in
set_option maxHeartbeats 4000000 in
theorem public_any (seed : List Int) (w : World) (hs : seed.length = 32) (hsb : Sz.Byt seed) (ht : Tab w) (hw : 1 < w.heap.size) :
    Calls Tryd.prog 16 #[.agg (vals seed).toArray] w fun e w' => e = .returned (.agg (vals (Ky.pub seed)).toArray) ∧ Below w.heap.size w w' := by
  have HE : Hid (∀ W, Below w.heap.size w W → Is W w.heap.size (vals seed) 25 → Calls Tryd.prog 32 #[.func (.func 33) #[] #[.pointer (some ⟨w.heap.size, 0, none⟩)]] W fun e w' => e = .returned (.agg (vals (Ky.rowsOf (fun i => Ky.steps (Ky.secret seed i) 15) 67)).toArray) ∧ Below W.heap.size W w') := fun W hW hI =>
    ends_any 33 #[.pointer (some ⟨w.heap.size, 0, none⟩)] (fun i => Ky.steps (Ky.secret seed i) 15) W (fun k => Ky.steps_length _ (Ky.secret_length _ _) _) call_publicF (fun W2 k hW2 hk => publicF_any w.heap.size seed k W2 (hI.below hW2 hI.lt) hs hsb hk (ht.below (hW.trans (hW2.mono hW.size)) hw) (Nat.lt_of_lt_of_le hw (Nat.le_trans hW.size hW2.size)))
  have hRl : (Ky.rowsOf (fun i => Ky.steps (Ky.secret seed i) 15) 67).length = 2144 := Ky.rowsOf_length _ (fun k => Ky.steps_length _ (Ky.secret_length _ _) _) 67
  have hRb : Sz.Byt (Ky.rowsOf (fun i => Ky.steps (Ky.secret seed i) 15) 67) := Ky.rowsOf_byt _ (fun k => Ky.steps_byt _ (Ky.secret_byt _ _) _) 67
  have HK : Hid (∀ W b, Below w.heap.size w W → Is W b (vals (Ky.rowsOf (fun i => Ky.steps (Ky.secret seed i) 15) 67)) 67 → Calls Tryd.prog 36 #[.int .u8 7, .slice (some ⟨b, 0, none⟩) 67 67] W fun e w' => e = .returned (.agg (vals (Ky.pub seed)).toArray) ∧ Below W.heap.size W w') := fun W b hW hI => by
    have := ksum_any 7 b 0 67 67 _ W (by omega) (by omega) (by rw [hRl]) hI.range hI.lt hRb (ht.below hW hw) (Nat.lt_of_lt_of_le hw hW.size)
    rw [Ky.pub_rows]
    exact this
  have hPl : (Ky.pub seed).length = 32 := Ky.pub_length seed
  generalize Ky.pub seed = D at *
  generalize Ky.rowsOf (fun i => Ky.steps (Ky.secret seed i) 15) 67 = R at *
  obtain ⟨Z, hZ⟩ : ∃ Z, Z = vals (List.replicate 2144 0) := ⟨_, rfl⟩
  have hz := zero_ends
  rw [← hZ] at hz
  have hZl : Z.length = 2144 := by rw [hZ, vals_length, List.length_replicate]
  have hZp : ¬ Z = [] := by intro h; rw [h] at hZl; cases hZl
  have HZL := hide hZl
  have HRL := hide hRl
  have HPL := hide hPl
  have HI0 := hide ((Is.new w (vals seed) 25).alloc (.cells (vals (List.replicate 32 0)).toArray 25))
  have HJ0 : Hid (Is ((w.alloc (.cells (vals seed).toArray 25)).alloc (.cells (vals (List.replicate 32 0)).toArray 25)) (w.heap.size + 1) (vals (List.replicate 32 0)) 25) := Is.new' _ 25 (by simp)
  have HB0 := hide (below_alloc2 w (.cells (vals seed).toArray 25) (.cells (vals (List.replicate 32 0)).toArray 25))
  clear hZ hZl hRl hPl hRb hs hsb ht
  go_enter Tryd.func16, Tryd.ntmps16
  go_wp2_with (first
    | (go_at_call 32; refine (HE.out _ HB0.out HI0.out).mono ?_; rintro e w1 ⟨rfl, hb1⟩; have hb1' := HB0.out.trans (hb1.mono HB0.out.size); have hJ1 := HJ0.out.below hb1 HJ0.out.lt)
    | (refine wpList_store_any2 67 Z (vals R) w1.heap.size rfl (.tmp 3) (.tmp 5) rfl rfl rfl rfl (Is.new w1 _ _) size_ends HZL.out (by rw [vals_length]; exact HRL.out) (vals_one _) ?_; intro w2 hi2 hb2 hk2 hz2; have hb2' := hb2 _ _ (hb1'.alloc hb1'.size _) hb1'.size; have hJ2 := hk2 _ _ _ (by have := hJ1.lt; omega) (hJ1.alloc (.cells Z.toArray 67)))
    | (go_at_call 36; refine (HK.out _ w1.heap.size hb2' hi2).mono ?_; rintro e w3 ⟨rfl, hb3⟩; have hb3' := hb2'.trans (hb3.mono hb2'.size); have hJ3 := hJ2.below hb3 hJ2.lt)
    | (refine wpList_store_any2 25 (vals (List.replicate 32 0)) (vals D) (w.heap.size + 1) rfl (.tmp 2) (.tmp 7) rfl rfl rfl rfl hJ3 size_dig (by simp [vals]) (by rw [vals_length]; exact HPL.out) (vals_one _) ?_; intro w7 hi7 hb7 hk7 hz7))
  have hr := hi7.cellsOf Tryd.underlying25 (by rw [vals_length, HPL.out]; exact size_dig)
  exact bodyPost_ret (v := .agg (vals D).toArray) (results_cell1 Tryd.results16 rfl hr) rfl ⟨rfl, hb7 _ _ hb3' (Nat.le_succ _)⟩

/-- An element of an array by value that is an array itself. -/
theorem run_index_row (t e : TypeId) (n k m : Nat) (c : List Value) (w : World) (hu : Tryd.prog.underlying t = some (.array n e)) (hz : Sized e m) (ha : ∀ w, (isAgg e).run Tryd.prog w = .ok true w) (hk : k < n) :
    (Instr.index t (.agg c.toArray) (.int .i64 (k : Int))).run Tryd.prog w = .ok (.agg ((c.drop (k * m)).take m).toArray) w := by
  have hs : ∀ w, (sizeOf e).run Tryd.prog w = .ok m w := fun w => by
    unfold Sized at hz
    cases hq : Tryd.prog.info? e with
    | none => simp [hq] at hz
    | some i => simp [hq] at hz; simp [sizeOf, typeInfo, hq, hz]
  have hun : (underlying t).run Tryd.prog w = .ok (.array n e) w := by simp [underlying, hu]
  simp [Instr.index, asIntOf, hun, hs, hk, part, ha, Result.andThen]
theorem wpList_index_row (t e : TypeId) (n k m : Nat) (c : List Value) {w : World} {ops : Array Oper} {rest : List Oper} {o : Oper} {a : Act} {Q : Exit → Act → World → Prop} (hgd : o.guard = none) (x i : Operand) (ho : o.op = .index t x i) (hx : a.eval x = .agg c.toArray) (hi : a.eval i = .int .i64 (k : Int))
    (hu : Tryd.prog.underlying t = some (.array n e)) (hz : Sized e m) (ha : ∀ w, (isAgg e).run Tryd.prog w = .ok true w) (hk : k < n) (v : List Value) (hv : (c.drop (k * m)).take m = v)
    (h : wpList Tryd.prog ops Q rest (a.put o.dst (.agg v.toArray)) w) : wpList Tryd.prog ops Q (o :: rest) a w := by
  subst hv
  refine wpList_plain hgd fun K hK => ?_
  unfold Oper.wp
  simp only [execOp, ho, hx, hi, Sem.run_bind, Sem.run_pure, Result.andThen_ok, run_index_row t e n k m c w hu hz ha hk]
  exact hK _ _ h
theorem agg_dig (w : World) : (isAgg 25).run Tryd.prog w = .ok true w := by simp [isAgg, underlying, Tryd.underlying25]
theorem vals_part (L : List Int) (k : Nat) : ((vals L).drop (k * 32)).take 32 = vals (Ky.sigAt L k) := by
  unfold Ky.sigAt vals
  rw [List.map_take, List.map_drop, Nat.mul_comm]
theorem make_room (n : Nat) (h : n ≤ 281474976710656) (w : World) : (Instr.makeSlice 36 (.int .i64 0) (.int .i64 (n : Int))).run Tryd.prog w = .ok (.slice (some ⟨w.heap.size, 0, none⟩) 0 n) (w.alloc (.cells (zeros n) 5)) := by
  obtain ⟨i, hi, hz, hs, hby⟩ := info_u8
  have hr := run_make (P := Tryd.prog) w 36 5 i (.int .u8 0) Tryd.underlying36 hi hz .i64 .i64 0 n (by omega) (by omega) (by rw [hby]; omega) (by omega)
  simpa [zeros, Value.cells, hs] using hr
theorem Own.room (w : World) (base n : Nat) (hb : base ≤ w.heap.size) (hn : n ≤ 140737488355328) : Own (w.alloc (.cells (zeros n) 5)) base (.slice (some ⟨w.heap.size, 0, none⟩) 0 n) [] :=
  ⟨rfl, .inr ⟨w.heap.size, n, zeros n, rfl, hb, heap_alloc_new w _, Nat.zero_le _, by unfold maxLen; omega, by simp [zeros, madeCells], rfl⟩⟩

set_option maxRecDepth 100000 in
set_option maxHeartbeats 4000000 in
theorem sign_any (seed m : List Int) (w : World) (hs : seed.length = 32) (hsb : Sz.Byt seed) (hm : m.length = 32) (hmb : Sz.Byt m) (ht : Tab w) (hw : 1 < w.heap.size) :
    Calls Tryd.prog 17 #[.agg (vals seed).toArray, .agg (vals m).toArray] w fun e w' => ∃ v, e = .returned v ∧ Own w' w.heap.size v (Ky.sign seed m) ∧ Below w.heap.size w w' := by
  have hdl := Ky.digits_length m
  have HG : Hid (∀ W, Calls Tryd.prog 37 #[.agg (vals m).toArray] W fun e w' => e = .returned (.agg (ivals (Ky.digits m)).toArray) ∧ Below W.heap.size W w') := fun W => digitsOf_any m W hm hmb
  have HE : Hid (∀ W gd, Below w.heap.size w W → Is W w.heap.size (vals seed) 25 → Is W gd (ivals (Ky.digits m)) 72 → Calls Tryd.prog 32 #[.func (.func 38) #[] #[.pointer (some ⟨w.heap.size, 0, none⟩), .pointer (some ⟨gd, 0, none⟩)]] W fun e w' => e = .returned (.agg (vals (Ky.sign seed m)).toArray) ∧ Below W.heap.size W w') := fun W gd hW hI hG =>
    ends_any 38 #[.pointer (some ⟨w.heap.size, 0, none⟩), .pointer (some ⟨gd, 0, none⟩)] (Ky.signed seed m) W (Ky.signed_length seed m) call_signF (fun W2 k hW2 hk => signF_any w.heap.size gd (Ky.dig m k) seed k W2 (hI.below hW2 hI.lt) hs hsb (by rw [(hG.below hW2 hG.lt).cell, ivals_get _ _ (by rw [hdl]; exact hk)]; rfl) (Ky.digits_le m hmb k) hk (ht.below (hW.trans (hW2.mono hW.size)) hw) (Nat.lt_of_lt_of_le hw (Nat.le_trans hW.size hW2.size)))
  have hSl : (Ky.sign seed m).length = 2144 := Ky.sign_length seed m
  generalize Ky.digits m = G at *
  generalize Ky.sign seed m = R at *
  obtain ⟨Z, hZ⟩ : ∃ Z, Z = vals (List.replicate 2144 0) := ⟨_, rfl⟩
  have hz := zero_ends
  rw [← hZ] at hz
  have hZl : Z.length = 2144 := by rw [hZ, vals_length, List.length_replicate]
  have hZp : ¬ Z = [] := by intro h; rw [h] at hZl; cases hZl
  obtain ⟨Y, hY⟩ : ∃ Y, Y = ivals (List.replicate 67 0) := ⟨_, rfl⟩
  have hzy := zero_dg67
  rw [← hY] at hzy
  have hYl : Y.length = 67 := by rw [hY]; simp [ivals]
  have hYp : ¬ Y = [] := by intro h; rw [h] at hYl; cases hYl
  obtain ⟨ZZ, hZZ⟩ : ∃ zz, zz = zeros 2144 := ⟨_, rfl⟩
  have hmk : ∀ W : World, (Instr.makeSlice 36 (.int .i64 0) (.int .i64 2144)).run Tryd.prog W = .ok (.slice (some ⟨W.heap.size, 0, none⟩) 0 2144) (W.alloc (.cells ZZ 5)) := fun W => by rw [hZZ]; exact make_room 2144 (by omega) W
  have HRM : Hid (∀ W : World, w.heap.size ≤ W.heap.size → Own (W.alloc (.cells ZZ 5)) w.heap.size (.slice (some ⟨W.heap.size, 0, none⟩) 0 2144) []) := fun W hW => by rw [hZZ]; exact Own.room W _ 2144 hW (by omega)
  have HZL := hide hZl
  have HYL := hide hYl
  have HSL := hide hSl
  have HML := hide hm
  have HDL := hide hdl
  have HI0 := hide ((Is.new w (vals seed) 25).alloc (.cells (vals m).toArray 25))
  have HJ0 : Hid (Is ((w.alloc (.cells (vals seed).toArray 25)).alloc (.cells (vals m).toArray 25)) (w.heap.size + 1) (vals m) 25) := Is.new' _ 25 (by simp)
  have HB0 := hide (below_alloc2 w (.cells (vals seed).toArray 25) (.cells (vals m).toArray 25))
  clear hZ hZl hY hYl hSl hs hsb ht hm hmb hdl hZZ
  go_enter Tryd.func17, Tryd.ntmps17
  go_wp2_with (first
    | (refine wpList_load_arr2 25 (vals m) (w.heap.size + 1) rfl (.tmp 3) rfl rfl HJ0.out Tryd.underlying25 size_dig (by rw [vals_length]; exact HML.out) ?_)
    | (go_at_call 37; refine (HG.out _).mono ?_; rintro e w1 ⟨rfl, hb1⟩; have hb1' := HB0.out.trans (hb1.mono HB0.out.size); have hI1 := HI0.out.below hb1 HI0.out.lt)
    | (refine wpList_store_any2 72 Y (ivals G) w1.heap.size rfl (.tmp 5) (.tmp 11) rfl rfl rfl rfl (Is.new w1 _ _) size_dg67 HYL.out (by rw [ivals_length]; exact HDL.out) (ivals_one _) ?_; intro w2 hi2 hb2 hk2 hz2; have hb2' := hb2 _ _ (hb1'.alloc hb1'.size _) hb1'.size; have hI2 := hk2 _ _ _ (by have := hI1.lt; omega) (hI1.alloc (.cells Y.toArray 72)))
    | (go_at_call 32; refine (HE.out _ w1.heap.size hb2' hI2 hi2).mono ?_; rintro e w3 ⟨rfl, hb3⟩; have hb3' := hb2'.trans (hb3.mono hb2'.size))
    | (refine wpList_store_any2 67 Z (vals R) w3.heap.size rfl (.tmp 6) (.tmp 13) rfl rfl rfl rfl (Is.new w3 _ _) size_ends HZL.out (by rw [vals_length]; exact HSL.out) (vals_one _) ?_; intro w4 hi4 hb4 hk4 hz4; clear hz4; have hb4' := hb4 _ _ (hb3'.alloc hb3'.size _) hb3'.size)
    | (refine wpList_load_arr2 67 (vals R) w3.heap.size rfl (.tmp 6) rfl rfl (hi4.alloc _) Tryd.underlying67 size_ends (by rw [vals_length]; exact HSL.out) ?_))
  have ho4 := HRM.out w4 hb4'.size
  have hbA := hb4'.alloc hb4'.size (.cells ZZ 5)
  have HO := hide ho4
  have HB := hide hbA
  clear hb1 hb1' hI1 hi2 hb2 hk2 hz2 hb2' hI2 hb3 hb3' hi4 hb4 hk4 hb4' ho4 hbA HI0 HJ0 HB0 HE HG HRM hmk
  go_loopw [7, 16] (fun v i wr => ∃ k : Nat, k ≤ 67 ∧ i = .int .i64 k ∧ Own wr w.heap.size v (R.take (32 * k)) ∧ Below w.heap.size w wr) (fun _ i _ => 67 - (intOf i).toNat)
  case atStart => exact ⟨0, by omega, rfl, by rw [Nat.mul_zero, List.take_zero]; exact HO.out, HB.out⟩
  case round =>
    obtain ⟨k, hk, rfl, ho, hb⟩ := hrel
    clear HO HB
    obtain ⟨oa, oc, rfl, hoc1, hoc2⟩ := ho.form
    clear hoc1 hoc2
    by_cases hkl : k < 67
    · have hki : (k : Int) < 67 := by omega
      have hDl := Ky.sigAt_length R k (by rw [HSL.out]; omega)
      have hnx := take_row R k
      have hvp := vals_part R k
      have hbd : (R.take (32 * k)).length + 32 ≤ 180000000000000 := by rw [List.length_take]; omega
      generalize Ky.sigAt R k = D at *
      generalize R.take (32 * k) = X at *
      have HNX := hide hnx
      have HO := hide ho
      have HDL := hide hDl
      have HVP := hide hvp
      have HBD := hide hbd
      clear hnx ho hDl hvp hbd
      obtain ⟨wA, hwA⟩ : ∃ wA, wA = wr := ⟨_, rfl⟩
      subst hwA
      go_wp2_with (first
        | (refine wpList_index_row 67 25 67 k 32 (vals R) rfl (.tmp 15) (.tmp 16) rfl rfl rfl Tryd.underlying67 size_dig agg_dig hkl (vals D) HVP.out ?_)
        | (refine wpList_store_any2 25 (vals (List.replicate 32 0)) (vals D) wA.heap.size rfl (.tmp 9) (.tmp 18) rfl rfl rfl rfl (Is.new wA _ _) size_dig (by simp [vals]) (by rw [vals_length]; exact HDL.out) (vals_one _) ?_; intro w4 hi4 hb4 hk4 hz4; have hb4' := hb4 _ _ (below_alloc wA _) (Nat.le_refl _))
        | (at_builtin; refine wpList_append_bytes _ rfl (.tmp 19) (.tmp 20) rfl w.heap.size (.slice oa X.length oc) X rfl (HO.out.below hb4') (.slice (some ⟨wA.heap.size, 0, none⟩) 32 32) D rfl (hi4.has HDL.out (by omega)) (by rw [HDL.out]; exact HBD.out) (Nat.le_trans hb.size hb4'.size) ?_; intro v6 w6 ho6 hg6))
      go_roundw
      case rel =>
        exact ⟨k + 1, by omega, by go_num, by rw [HNX.out]; exact ho6, (hb.trans (hb4'.mono hb.size)).grown hg6 (Nat.le_trans hb.size hb4'.size) (fun r hr => (HO.out.block r hr).1)⟩
      case measure => simp [intOf]; omega
    · have hki : ¬ (k : Int) < 67 := by omega
      have hke : R.take (32 * k) = R := List.take_of_length_le (by rw [HSL.out]; omega)
      have HO : Hid (Own wr w.heap.size (.slice oa (R.take (32 * k)).length oc) R) := by have := ho; rw [hke] at this; rw [hke]; exact this
      generalize (R.take (32 * k)).length = ol at *
      clear ho hke
      go_wp2
      go_ret
      exact ⟨_, rfl, HO.out, hb⟩
end Go.Proofs.YtkdihbgjeanjdaaDoor
