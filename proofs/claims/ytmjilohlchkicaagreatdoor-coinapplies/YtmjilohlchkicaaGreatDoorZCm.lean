/- The texts CnM, CnCmp, CnCp, CnPl, CnCo, CnSw, CnSo, CnSt, one behind the other. -/
import Derived.Test.YtmjilohlchkicaaGreatDoorZCl
import Derived.Test.YtmjilohlchkicaaGreatDoorZLk
import Derived.Test.YtmjilohlchkicaaGreatDoorZTc
import Derived.Test.YtmjilohlchkicaaGreatDoorZTr
import Derived.Test.YtmjilohlchkicaaGreatDoorOpenD
import Derived.Lib.BytesEntry
import Derived.Lib.Bytealg
import Derived.Test.YtmjilohlchkicaaGreatDoorZSh
import Derived.Deep.RegionHeld2
import Derived.Deep.QuietTactic
import Derived.BigQuiet
import Derived.Test.YtmjilohlchkicaaGreatDoorBytes
import Derived.Test.YtmjilohlchkicaaGreatDoorZRd
import Derived.Shelf.SlSortCmp.WholeK
import Derived.Test.YtmjilohlchkicaaGreatDoorSoLay
/- Coins in memory. -/
namespace Go.Proofs.YtmjilohlchkicaaGreatDoor
open Go.RowKit Go.Maps
set_option linter.unusedVariables false
set_option linter.unusedSimpArgs false

structure CoinV where
  tx : List Int
  at' : Int
  amount : Int
  lv : Value
  L : List (Lk.Op × Value)
  height : Int
def CoinV.it (x : CoinV) : Cn.Coin := ⟨x.tx, x.at', x.amount, opsOf x.L, x.height⟩
def coinCell (x : CoinV) : List Value := vals x.tx ++ [.int .i64 x.at', .int .i64 x.amount, x.lv, .int .i64 x.height]
def coinCells (R : List CoinV) : List Value := (R.map coinCell).flatten
theorem coinCell_length (x : CoinV) (h : x.tx.length = 32) : (coinCell x).length = 36 := by simp [coinCell, vals_length, h]
/-- What is said of a coin. -/
def CoinOk (w : World) (x : CoinV) : Prop := x.tx.length = 32 ∧ Sz.Byt x.tx ∧ HasOps w x.lv x.L
theorem CoinOk.below {w w' : World} {x : CoinV} (h : CoinOk w x) (hb : Below w.heap.size w w') : CoinOk w' x := ⟨h.1, h.2.1, h.2.2.below hb⟩
def HasCoins (w : World) (v : Value) (R : List CoinV) : Prop :=
  ((∃ a cap, v = .slice a 0 cap ∧ R = []) ∨ ∃ b off cap, v = .slice (some ⟨b, off, none⟩) R.length cap ∧ 0 < R.length ∧ R.length ≤ cap ∧ cap ≤ maxLen ∧ b < w.heap.size ∧ w.rangeAt b off (coinCells R)) ∧
  ∀ x ∈ R, CoinOk w x
theorem HasCoins.below {w w' : World} {v : Value} {R : List CoinV} (h : HasCoins w v R) (hb : Below w.heap.size w w') : HasCoins w' v R := by
  refine ⟨?_, fun x hx => (h.2 x hx).below hb⟩
  rcases h.1 with h | ⟨b, off, cap, hv, h0, h1, h2, h3, hc⟩
  · exact .inl h
  · exact .inr ⟨b, off, cap, hv, h0, h1, h2, Nat.lt_of_lt_of_le h3 hb.size, range_keep hc hb h3⟩
theorem hasOps_slice {w : World} {v : Value} {R : List (Lk.Op × Value)} (h : HasOps w v R) : ∃ a n c, v = .slice a n c := by
  rcases h.1 with ⟨a, c, e, _⟩ | ⟨b, off, c, e, _⟩
  · exact ⟨a, 0, c, e⟩
  · exact ⟨_, _, c, e⟩
theorem size_coin : Sized 54 36 := by unfold Sized; kernel_rfl
theorem size_placeC : Sized 46 33 := by unfold Sized; kernel_rfl
theorem zero_coin (w : World) : (zeroValue 54).run Tryz.prog w = .ok (.agg (vals (List.replicate 32 0) ++ ([.int .i64 0, .int .i64 0, .slice none 0 0, .int .i64 0] : List Value)).toArray) w := by kernel_rfl
theorem coin_ones (x : CoinV) (h : ∃ a n c, x.lv = .slice a n c) : ∀ v ∈ coinCell x, v.oneCell' = true := by
  obtain ⟨a, n, c, e⟩ := h
  intro v hv
  unfold coinCell at hv
  rcases List.mem_append.1 hv with hv | hv
  · exact vals_one _ v hv
  · simp only [List.mem_cons, List.not_mem_nil, or_false] at hv
    rcases hv with rfl | rfl | rfl | rfl
    · rfl
    · rfl
    · rw [e]; rfl
    · rfl
theorem coin_get {x : CoinV} (h : x.tx.length = 32) : (coinCell x)[32]? = some (.int .i64 x.at') ∧ (coinCell x)[33]? = some (.int .i64 x.amount) ∧ (coinCell x)[34]? = some x.lv ∧ (coinCell x)[35]? = some (.int .i64 x.height) := by
  unfold coinCell
  refine ⟨?_, ?_, ?_, ?_⟩ <;> rw [List.getElem?_append_right (by rw [vals_length, h]; omega), vals_length, h] <;> rfl
theorem coin_parts (x : CoinV) : coinCell x = (vals x.tx ++ [.int .i64 x.at']) ++ [.int .i64 x.amount, x.lv, .int .i64 x.height] := by unfold coinCell; simp
/-- Where a coin lies: its place, and the rest. -/
theorem coin_range {w : World} {b o : Nat} {x : CoinV} (h : w.rangeAt b o (coinCell x)) (h32 : x.tx.length = 32) :
    w.rangeAt b o (vals x.tx ++ [.int .i64 x.at']) ∧ w.cell? ⟨b, o + 32, none⟩ = some (.int .i64 x.at') ∧ w.cell? ⟨b, o + 33, none⟩ = some (.int .i64 x.amount) ∧ w.cell? ⟨b, o + 34, none⟩ = some x.lv ∧ w.cell? ⟨b, o + 35, none⟩ = some (.int .i64 x.height) := by
  obtain ⟨g1, g2, g3, g4⟩ := coin_get h32
  refine ⟨?_, h 32 _ g1, h 33 _ g2, h 34 _ g3, h 35 _ g4⟩
  rw [coin_parts] at h
  exact (tx_range_part h).1
theorem coins_form {w : World} {v : Value} {R : List CoinV} (h : HasCoins w v R) : ∃ a cap, v = .slice a R.length cap ∧ R.length ≤ maxLen ∧ ∀ k (hk : k < R.length), ∃ b off, a = some ⟨b, off, none⟩ ∧ R.length ≤ cap ∧ cap ≤ maxLen ∧ b < w.heap.size ∧ w.rangeAt b (off + k * 36) (coinCell R[k]) := by
  rcases h.1 with ⟨a, cap, rfl, rfl⟩ | ⟨b, off, cap, rfl, h0, h1, h2, h3, hc⟩
  · exact ⟨a, cap, rfl, by simp, fun k hk => absurd hk (by simp)⟩
  · exact ⟨_, cap, rfl, by omega, fun k hk => ⟨b, off, rfl, h1, h2, h3, range_at hc (fun x hx => coinCell_length x (h.2 x hx).1) k hk⟩⟩
end Go.Proofs.YtmjilohlchkicaaGreatDoor

/- Places compared: the parts. -/
namespace Go.Proofs.YtmjilohlchkicaaGreatDoor
open Go.RowKit
set_option linter.unusedVariables false
set_option linter.unusedSimpArgs false

theorem u8_lt (x y : Int) (hx : 0 ≤ x ∧ x < 256) (hy : 0 ≤ y ∧ y < 256) : x.toNat.toUInt8 < y.toNat.toUInt8 ↔ x < y := by
  rw [UInt8.lt_iff_toNat_lt]
  simp only [Nat.toUInt8, UInt8.toNat_ofNat', Nat.reducePow]
  omega
theorem cmp_bytes : ∀ (A B : List Int), Sz.Byt A → Sz.Byt B → Go.Lib.compareBytes (Go.Lib.bytesOf A) (Go.Lib.bytesOf B) = Cn.cmpB A B
  | [], [], _, _ => rfl
  | [], _ :: _, _, _ => rfl
  | _ :: _, [], _, _ => rfl
  | a :: l, b :: m, hA, hB => by
    have ih := cmp_bytes l m (fun x hx => hA x (List.mem_cons_of_mem _ hx)) (fun x hx => hB x (List.mem_cons_of_mem _ hx))
    have ha := hA a (by simp)
    have hb := hB b (by simp)
    show (if a.toNat.toUInt8 < b.toNat.toUInt8 then (-1 : Int) else if b.toNat.toUInt8 < a.toNat.toUInt8 then 1 else Go.Lib.compareBytes (Go.Lib.bytesOf l) (Go.Lib.bytesOf m)) = _
    unfold Cn.cmpB
    rw [ih]
    simp only [u8_lt a b ha hb, u8_lt b a hb ha]
theorem load_range (b o : Nat) (A : List Int) (w : World) (h : w.rangeAt b o (vals A)) : (Extern.Bytes.loadBytes ⟨b, o, none⟩ A.length .empty).run Tryz.prog w = .ok ⟨(Go.Lib.bytesOf A).toArray⟩ w := by
  have := Go.Lib.run_loadBytesX (P := Tryz.prog) w A ⟨b, o, none⟩ .empty (fun j x hj => by
    have hl : j < A.length := (List.getElem?_eq_some_iff.1 hj).1
    rw [Addr.add_lit]
    refine h j _ ?_
    rw [vals_get A j hl, List.getD_eq_getElem?_getD, hj]; rfl)
  rw [this]
  congr 1
  apply ByteArray.ext
  simp
theorem run_compare (b o c b' o' c' : Nat) (A B : List Int) (w : World) (hA : w.rangeAt b o (vals A)) (hB : w.rangeAt b' o' (vals B)) (hAl : A.length = 32) (hBl : B.length = 32) (hAb : Sz.Byt A) (hBb : Sz.Byt B) :
    (Extern.BytealgCompare.compare #[.slice (some ⟨b, o, none⟩) 32 c, .slice (some ⟨b', o', none⟩) 32 c']).run Tryz.prog w = .ok (.int .i64 (Cn.cmpB A B)) w := by
  have h1 := load_range b o A w hA
  have h2 := load_range b' o' B w hB
  rw [hAl] at h1
  rw [hBl] at h2
  change Sem.run Tryz.prog (do pure (goInt (Extern.BytealgCompare.cmp (← Extern.Bytes.bytesOf (.slice (some ⟨b, o, none⟩) 32 c)) (← Extern.Bytes.bytesOf (.slice (some ⟨b', o', none⟩) 32 c'))))) w = _
  simp only [Extern.Bytes.bytesOf, Sem.run_bind, Sem.run_pure, Result.andThen, h1, h2]
  rw [Go.Lib.cmp_eq]
  rw [← cmp_bytes A B hAb hBb]
  rfl
set_option maxRecDepth 100000 in
set_option maxHeartbeats 1000000 in
theorem byCompare_any (b o c b' o' c' : Nat) (A B : List Int) (w : World) (hA : w.rangeAt b o (vals A)) (hB : w.rangeAt b' o' (vals B)) (hAl : A.length = 32) (hBl : B.length = 32) (hAb : Sz.Byt A) (hBb : Sz.Byt B) :
    Calls Tryz.prog 51 #[.slice (some ⟨b, o, none⟩) 32 c, .slice (some ⟨b', o', none⟩) 32 c'] w fun e w' => e = .returned (.int .i64 (Cn.cmpB A B)) ∧ w = w' := by
  have hr := run_compare b o c b' o' c' A B w hA hB hAl hBl hAb hBb
  clear hA hB hAl hBl hAb hBb
  go_enter Tryz.func51, Tryz.ntmps51
  go_wp2
  rw [run_callFunc_extern Tryz.func75 (by kernel_rfl) (by kernel_rfl) (by kernel_rfl) (e := Extern.BytealgCompare.compare) (by kernel_rfl), hr]
  simp only [Result.andThen]
  rw [Oper.upon_value]
  go_wp2
  go_ret
  exact ⟨rfl, rfl⟩
set_option maxHeartbeats 1000000 in
theorem cmpCompare_any (a b : Int) (w : World) : Calls Tryz.prog 52 #[.int .i64 a, .int .i64 b] w fun e w' => e = .returned (.int .i64 (Cn.cmpI a b)) ∧ w = w' := by
  unfold Cn.cmpI
  by_cases h1 : a < b
  · rw [if_pos h1]
    go_enter Tryz.func52, Tryz.ntmps52
    go_wp2
    go_ret
    exact ⟨rfl, rfl⟩
  · rw [if_neg h1]
    by_cases h2 : b < a
    · rw [if_pos h2]
      go_enter Tryz.func52, Tryz.ntmps52
      go_wp2
      go_ret
      exact ⟨rfl, rfl⟩
    · rw [if_neg h2]
      go_enter Tryz.func52, Tryz.ntmps52
      go_wp2
      go_ret
      exact ⟨rfl, rfl⟩
set_option maxHeartbeats 1000000 in
theorem cmpOr_two (b : Nat) (x y : Int) (w : World) (h : Is w b [.int .i64 x, .int .i64 y] 3) : Calls Tryz.prog 50 #[.slice (some ⟨b, 0, none⟩) 2 2] w fun e w' => e = .returned (.int .i64 (if x = 0 then y else x)) ∧ w = w' := by
  have h0 := h.cell 0
  have h1 := h.cell 1
  simp only [List.getElem?_cons_zero, List.getElem?_cons_succ] at h0 h1
  clear h
  by_cases hx : x = 0
  · subst hx
    rw [if_pos rfl]
    by_cases hy : y = 0
    · subst hy
      go_enter Tryz.func50, Tryz.ntmps50
      go_wp2
      refine wp_loop_rounds 3 ?_
      rw [rounds_succ]
      go_wp2
      rw [rounds_succ]
      go_wp2
      rw [rounds_succ]
      go_wp2
      go_ret
      exact ⟨rfl, rfl⟩
    · have hyb : (y == 0) = false := by simpa using hy
      have hyd : decide (y = 0) = false := decide_eq_false hy
      go_enter Tryz.func50, Tryz.ntmps50
      go_wp2
      refine wp_loop_rounds 3 ?_
      rw [rounds_succ]
      go_wp2
      rw [rounds_succ]
      go_wp2
      go_ret
      exact ⟨rfl, rfl⟩
  · rw [if_neg hx]
    have hxb : (x == 0) = false := by simpa using hx
    have hxd : decide (x = 0) = false := decide_eq_false hx
    go_enter Tryz.func50, Tryz.ntmps50
    go_wp2
    refine wp_loop_rounds 3 ?_
    rw [rounds_succ]
    go_wp2
    go_ret
    exact ⟨rfl, rfl⟩
theorem slice_dig (g o : Nat) (w : World) : (Instr.sliceAt 44 (.pointer (some ⟨g, o, none⟩)) none none none).run Tryz.prog w = .ok (.slice (some ⟨g, o, none⟩) 32 32) w := by
  have hu := Tryz.underlying44
  have ha : Tryz.prog.arrayLen 44 = 32 := by simp [Program.arrayLen, hu]
  have he : Tryz.prog.elem 44 = 5 := by simp [Program.elem, hu]
  have := run_sliceAt_array_all (P := Tryz.prog) w 44 ⟨g, o, none⟩ (by rw [ha, he]; exact hu)
  rw [this, he, size_u8', ha]
  simp [slicedAt, Addr.add_lit]
end Go.Proofs.YtmjilohlchkicaaGreatDoor

/- Places compared. -/
namespace Go.Proofs.YtmjilohlchkicaaGreatDoor
open Go.RowKit
set_option linter.unusedVariables false
set_option linter.unusedSimpArgs false

theorem cp_alloc {w W : World} {A B : List Int} {x y : Int} (h : Hid (W.rangeAt w.heap.size 0 (vals A) ∧ W.rangeAt (w.heap.size + 1) 0 (vals B) ∧ Below w.heap.size w W ∧ w.heap.size + 2 ≤ W.heap.size ∧ w.drawn ≤ W.drawn) ∧ W.cell? ⟨w.heap.size, 32, none⟩ = some (.int .i64 x) ∧ W.cell? ⟨w.heap.size + 1, 32, none⟩ = some (.int .i64 y)) (o : Obj) :
    Hid ((W.alloc o).rangeAt w.heap.size 0 (vals A) ∧ (W.alloc o).rangeAt (w.heap.size + 1) 0 (vals B) ∧ Below w.heap.size w (W.alloc o) ∧ w.heap.size + 2 ≤ (W.alloc o).heap.size ∧ w.drawn ≤ (W.alloc o).drawn) ∧ (W.alloc o).cell? ⟨w.heap.size, 32, none⟩ = some (.int .i64 x) ∧ (W.alloc o).cell? ⟨w.heap.size + 1, 32, none⟩ = some (.int .i64 y) := by
  obtain ⟨h1, h2, h3⟩ := h
  obtain ⟨a, b, c, d, f⟩ := h1.out
  have hb := below_alloc W o
  exact ⟨hide ⟨range_keep a hb (by omega), range_keep b hb (by omega), c.trans (hb.mono c.size), by have := hb.size; omega, f⟩, by rw [hb.cell (p := ⟨w.heap.size, 32, none⟩) (by show w.heap.size < _; omega)]; exact h2, by rw [hb.cell (p := ⟨w.heap.size + 1, 32, none⟩) (by show w.heap.size + 1 < _; omega)]; exact h3⟩
theorem is_newq {w : World} {b : Nat} (c : List Value) (t : TypeId) (h : b = w.heap.size) : Is (w.alloc (.cells c.toArray t)) b c t := Is.new' c t h
set_option maxRecDepth 100000 in
set_option maxHeartbeats 1000000 in
theorem compareD_any (A B : List Int) (x y : Int) (w : World) (hA : A.length = 32) (hB : B.length = 32) (hAb : Sz.Byt A) (hBb : Sz.Byt B) :
    Calls Tryz.prog 33 #[.agg (vals A ++ [Value.int .i64 x]).toArray, .agg (vals B ++ [Value.int .i64 y]).toArray] w fun e w' => e = .returned (.int .i64 (Cn.pl (A, x) (B, y))) ∧ Below w.heap.size w w' ∧ w.drawn ≤ w'.drawn := by
  obtain ⟨r, hr⟩ : ∃ r, r = Cn.pl (A, x) (B, y) := ⟨_, rfl⟩
  obtain ⟨c1, hc1⟩ : ∃ c, c = Cn.cmpB A B := ⟨_, rfl⟩
  obtain ⟨c2, hc2⟩ : ∃ c, c = Cn.cmpI x y := ⟨_, rfl⟩
  have HBC : Hid (∀ (W : World) (u : Unit), W.rangeAt w.heap.size 0 (vals A) → W.rangeAt (w.heap.size + 1) 0 (vals B) → Calls Tryz.prog 51 #[.slice (some ⟨w.heap.size, 0, none⟩) 32 32, .slice (some ⟨w.heap.size + 1, 0, none⟩) 32 32] W fun e w' => e = .returned (.int .i64 c1) ∧ W = w') := hide (fun W _ h1 h2 => by rw [hc1]; exact byCompare_any _ _ _ _ _ _ A B W h1 h2 hA hB hAb hBb)
  have HCC : Hid (∀ W : World, Calls Tryz.prog 52 #[.int .i64 x, .int .i64 y] W fun e w' => e = .returned (.int .i64 c2) ∧ W = w') := hide (fun W => by rw [hc2]; exact cmpCompare_any x y W)
  have HOR : Hid (∀ (b : Nat) (W : World), Is W b [.int .i64 c1, .int .i64 c2] 3 → Calls Tryz.prog 50 #[.slice (some ⟨b, 0, none⟩) 2 2] W fun e w' => e = .returned (.int .i64 r) ∧ W = w') := hide (fun b W h => by rw [hr]; have := cmpOr_two b c1 c2 W h; rw [hc1, hc2] at this; exact this)
  obtain ⟨P, hP⟩ : ∃ P, P = vals A ++ [Value.int .i64 x] := ⟨_, rfl⟩
  obtain ⟨Q, hQ⟩ : ∃ Q, Q = vals B ++ [Value.int .i64 y] := ⟨_, rfl⟩
  have HX0 := (Is.new w P 46).alloc (.cells Q.toArray 46)
  have HY0 : Is ((w.alloc (.cells P.toArray 46)).alloc (.cells Q.toArray 46)) (w.heap.size + 1) Q 46 := Is.new' Q 46 (by simp)
  have hcA : ((w.alloc (.cells P.toArray 46)).alloc (.cells Q.toArray 46)).drew.cell? ⟨w.heap.size, 32, none⟩ = some (.int .i64 x) := by
    rw [HX0.drew.cell 32, hP, List.getElem?_append_right (by rw [vals_length, hA]; omega), vals_length, hA]; rfl
  have hcB : ((w.alloc (.cells P.toArray 46)).alloc (.cells Q.toArray 46)).drew.cell? ⟨w.heap.size + 1, 32, none⟩ = some (.int .i64 y) := by
    rw [HY0.drew.cell 32, hQ, List.getElem?_append_right (by rw [vals_length, hB]; omega), vals_length, hB]; rfl
  have HRA : Hid (((w.alloc (.cells P.toArray 46)).alloc (.cells Q.toArray 46)).drew.rangeAt w.heap.size 0 (vals A)) := hide (by have h := is_range HX0.drew; rw [hP] at h; rw [hP]; exact (tx_range_part h).1)
  have HRB : Hid (((w.alloc (.cells P.toArray 46)).alloc (.cells Q.toArray 46)).drew.rangeAt (w.heap.size + 1) 0 (vals B)) := hide (by have h := is_range HY0.drew; rw [hQ] at h; rw [hQ]; exact (tx_range_part h).1)
  have HBL0 : Hid (Below w.heap.size w ((w.alloc (.cells P.toArray 46)).alloc (.cells Q.toArray 46)).drew) := hide (below_alloc2 w _ _).drew
  have HSZ : Hid (w.heap.size + 2 ≤ ((w.alloc (.cells P.toArray 46)).alloc (.cells Q.toArray 46)).drew.heap.size) := hide (by show _ ≤ ((w.alloc _).alloc _).heap.size; simp)
  have HDR : Hid (w.drawn ≤ ((w.alloc (.cells P.toArray 46)).alloc (.cells Q.toArray 46)).drew.drawn) := hide (Nat.le_succ _)
  have hPl : P.length = 33 := by rw [hP]; simp [vals_length, hA]
  have hQl : Q.length = 33 := by rw [hQ]; simp [vals_length, hB]
  have hsl := fun g o w => slice_dig g o w
  rw [← hr, ← hP, ← hQ]
  clear hr hc1 hc2 hP hQ HX0 HY0 hA hB hAb hBb
  go_enter Tryz.func33, Tryz.ntmps33
  go_wp2_with fail
  refine wp_region_held_drew (S := fun W : World => Hid (W.rangeAt w.heap.size 0 (vals A) ∧ W.rangeAt (w.heap.size + 1) 0 (vals B) ∧ Below w.heap.size w W ∧ w.heap.size + 2 ≤ W.heap.size ∧ w.drawn ≤ W.drawn) ∧ W.cell? ⟨w.heap.size, 32, none⟩ = some (.int .i64 x) ∧ W.cell? ⟨w.heap.size + 1, 32, none⟩ = some (.int .i64 y)) (by kernel_rfl) ?_ (fun hHeld0 => ?_)
  · exact ⟨hide ⟨HRA.out, HRB.out, HBL0.out, HSZ.out, HDR.out⟩, hcA, hcB⟩
  refine wpAnyH_take (i := 0) (v := ?_) rfl (by kernel_rfl) (by kernel_rfl) (by kernel_rfl) (fun _ _ _ h => h) (Or.inl ⟨by rfl, ?_⟩) hHeld0 ?_
  rotate_left
  · (intro w hSw; (try dsimp only at hSw); go_simp <;> (try with_reducible rfl))
  simp only [Act.put, List.getElem_toArray, List.getElem_cons_zero, List.getElem_cons_succ, List.setIfInBounds_toArray, List.set_cons_zero, List.set_cons_succ]
  refine wpAnyH_take (i := 1) (v := ?_) rfl (by kernel_rfl) (by kernel_rfl) (by kernel_rfl) (fun _ _ _ h => h) (Or.inl ⟨by rfl, ?_⟩) hHeld0 ?_
  rotate_left
  · (intro w hSw; (try dsimp only at hSw); go_simp <;> (try with_reducible rfl))
  simp only [Act.put, List.getElem_toArray, List.getElem_cons_zero, List.getElem_cons_succ, List.setIfInBounds_toArray, List.set_cons_zero, List.set_cons_succ]
  refine wpAnyH_take (i := 2) (v := ?_) rfl (by kernel_rfl) (by kernel_rfl) (by kernel_rfl) (fun _ _ _ h => h) (Or.inl ⟨by rfl, ?_⟩) hHeld0 ?_
  rotate_left
  · (intro w hSw; (try dsimp only at hSw); go_simp <;> (try with_reducible rfl))
  simp only [Act.put, List.getElem_toArray, List.getElem_cons_zero, List.getElem_cons_succ, List.setIfInBounds_toArray, List.set_cons_zero, List.set_cons_succ]
  refine wpAnyH_take (i := 3) (v := ?_) rfl (by kernel_rfl) (by kernel_rfl) (by kernel_rfl) (fun _ _ _ h => h) (Or.inl ⟨by rfl, ?_⟩) hHeld0 ?_
  rotate_left
  · (intro w hSw; (try dsimp only at hSw); go_simp <;> (try with_reducible rfl))
  simp only [Act.put, List.getElem_toArray, List.getElem_cons_zero, List.getElem_cons_succ, List.setIfInBounds_toArray, List.set_cons_zero, List.set_cons_succ]
  refine wpAnyH_take (i := 5) (v := ?_) rfl (by kernel_rfl) (by kernel_rfl) (by kernel_rfl) (fun _ _ _ h => h) (Or.inl ⟨by rfl, ?_⟩) hHeld0 ?_
  rotate_left
  · (intro w hSw; (try dsimp only at hSw); go_simp <;> (try with_reducible rfl))
  simp only [Act.put, List.getElem_toArray, List.getElem_cons_zero, List.getElem_cons_succ, List.setIfInBounds_toArray, List.set_cons_zero, List.set_cons_succ]
  refine wpAnyH_take (i := 6) (v := ?_) rfl (by kernel_rfl) (by kernel_rfl) (by kernel_rfl) (fun _ _ _ h => h) (Or.inl ⟨by rfl, ?_⟩) hHeld0 ?_
  rotate_left
  · (intro w hSw; (try dsimp only at hSw); go_simp <;> (try with_reducible rfl))
  simp only [Act.put, List.getElem_toArray, List.getElem_cons_zero, List.getElem_cons_succ, List.setIfInBounds_toArray, List.set_cons_zero, List.set_cons_succ]
  refine wpAnyH_take (i := 7) (v := ?_) rfl (by kernel_rfl) (by kernel_rfl) (by kernel_rfl) (fun _ _ _ h => h) (Or.inl ⟨by rfl, ?_⟩) hHeld0 ?_
  rotate_left
  · (intro w hSw; (try dsimp only at hSw); go_simp <;> (try with_reducible rfl))
  simp only [Act.put, List.getElem_toArray, List.getElem_cons_zero, List.getElem_cons_succ, List.setIfInBounds_toArray, List.set_cons_zero, List.set_cons_succ]
  refine wpAnyH_take (i := 8) (v := ?_) rfl (by kernel_rfl) (by kernel_rfl) (by kernel_rfl) (fun _ _ _ h => h) (Or.inl ⟨by rfl, ?_⟩) hHeld0 ?_
  rotate_left
  · (intro w hSw; (try dsimp only at hSw); go_simp <;> (try with_reducible rfl))
  simp only [Act.put, List.getElem_toArray, List.getElem_cons_zero, List.getElem_cons_succ, List.setIfInBounds_toArray, List.set_cons_zero, List.set_cons_succ]
  refine wpAnyH_ready (rs := [4]) (by kernel_rfl) (by simp) ?_
  refine AllReadyH.cons rfl (fun K hK => ?_) AllReadyH.nil
  go_simp
  go_wp2_with ((go_at_call 51; refine (HBC.out _ () hHeld0.1.out.1 hHeld0.1.out.2.1).mono ?_; rintro e W1 ⟨rfl, rfl⟩))
  refine hK.out _ _ (by exact hHeld0) (fun hHeld1 => ?_)
  clear hK K hHeld0
  try simp only [Act.put, List.getElem_toArray, List.getElem_cons_zero, List.getElem_cons_succ, List.setIfInBounds_toArray, List.set_cons_zero, List.set_cons_succ]
  refine wpAnyH_ready (rs := [9]) (by kernel_rfl) (by simp) ?_
  refine AllReadyH.cons rfl (fun K hK => ?_) AllReadyH.nil
  go_simp
  go_wp2_with ((go_at_call 52; refine (HCC.out _).mono ?_; rintro e W2 ⟨rfl, rfl⟩))
  refine hK.out _ _ (by exact hHeld1) (fun hHeld2 => ?_)
  clear hK K hHeld1
  try simp only [Act.put, List.getElem_toArray, List.getElem_cons_zero, List.getElem_cons_succ, List.setIfInBounds_toArray, List.set_cons_zero, List.set_cons_succ]
  refine wpAnyH_ready (rs := [10]) (by kernel_rfl) (by simp) ?_
  refine AllReadyH.cons rfl (fun K hK => ?_) AllReadyH.nil
  go_simp
  refine hK.out _ _ (by exact cp_alloc hHeld2 _) (fun hHeld3 => ?_)
  clear hK K hHeld2
  try simp only [Act.put, List.getElem_toArray, List.getElem_cons_zero, List.getElem_cons_succ, List.setIfInBounds_toArray, List.set_cons_zero, List.set_cons_succ]
  refine wpAnyH_ready (rs := [11]) (by kernel_rfl) (by simp) ?_
  refine AllReadyH.cons rfl (fun K hK => ?_) AllReadyH.nil
  go_simp
  go_wp2_with ((go_at_call 50; refine (HOR.out (w.heap.size + 1 + 1) _ (Is.drew (is_newq [.int .i64 c1, .int .i64 c2] 3 (by simp)))).mono ?_; rintro e W3 ⟨rfl, rfl⟩))
  refine hK.out _ _ (by exact hHeld3) (fun hHeld4 => ?_)
  clear hK K hHeld3
  try simp only [Act.put, List.getElem_toArray, List.getElem_cons_zero, List.getElem_cons_succ, List.setIfInBounds_toArray, List.set_cons_zero, List.set_cons_succ]
  refine wpAnyH_take (i := 12) (v := ?_) rfl (by kernel_rfl) (by kernel_rfl) (by kernel_rfl) (fun _ _ _ h => h) (Or.inl ⟨by rfl, ?_⟩) hHeld4 ?_
  rotate_left
  · (intro w hSw; (try dsimp only at hSw); go_simp <;> (try with_reducible rfl))
  simp only [Act.put, List.getElem_toArray, List.getElem_cons_zero, List.getElem_cons_succ, List.setIfInBounds_toArray, List.set_cons_zero, List.set_cons_succ]
  refine wpAnyH_done (by kernel_rfl) ?_ _
  go_wp2
  go_ret
  exact ⟨rfl, hHeld4.1.out.2.2.1, hHeld4.1.out.2.2.2.2⟩

theorem compare_any (A B : List Int) (x y : Int) (w : World) (hA : A.length = 32) (hB : B.length = 32) (hAb : Sz.Byt A) (hBb : Sz.Byt B) :
    Calls Tryz.prog 33 #[.agg (vals A ++ [Value.int .i64 x]).toArray, .agg (vals B ++ [Value.int .i64 y]).toArray] w fun e w' => e = .returned (.int .i64 (Cn.pl (A, x) (B, y))) ∧ Below w.heap.size w w' :=
  (compareD_any A B x y w hA hB hAb hBb).mono fun _ _ h => ⟨h.1, h.2.1⟩
end Go.Proofs.YtmjilohlchkicaaGreatDoor

/- The document's places. -/
namespace Go.Proofs.YtmjilohlchkicaaGreatDoor
open Go.RowKit
set_option linter.unusedVariables false
set_option linter.unusedSimpArgs false

theorem cmpB_at : ∀ (A B : List Int) (k : Nat), A.length = B.length → k < A.length → (∀ j, j < k → A.getD j 0 = B.getD j 0) → (A.getD k 0 < B.getD k 0 → Cn.cmpB A B = -1) ∧ (B.getD k 0 < A.getD k 0 → Cn.cmpB A B = 1)
  | [], [], k, _, hk, _ => absurd hk (by simp)
  | [], _ :: _, k, h, _, _ => by simp at h
  | _ :: _, [], k, h, _, _ => by simp at h
  | a :: l, b :: m, 0, _, _, _ => by
    refine ⟨fun h => ?_, fun h => ?_⟩
    · have h' : a < b := h
      unfold Cn.cmpB; rw [if_pos h']
    · have h' : b < a := h
      unfold Cn.cmpB; rw [if_neg (by omega), if_pos h']
  | a :: l, b :: m, k + 1, h, hk, hj => by
    have e : a = b := hj 0 (by omega)
    have ih := cmpB_at l m k (by simpa using h) (by simpa using hk) (fun j hj' => hj (j + 1) (by omega))
    refine ⟨fun h => ?_, fun h => ?_⟩
    · unfold Cn.cmpB; rw [if_neg (by omega), if_neg (by omega)]; exact ih.1 h
    · unfold Cn.cmpB; rw [if_neg (by omega), if_neg (by omega)]; exact ih.2 h
theorem getD_ext (A B : List Int) (h : A.length = B.length) (hj : ∀ j, j < A.length → A.getD j 0 = B.getD j 0) : A = B := by
  apply List.ext_getElem h
  intro i h1 h2
  have := hj i h1
  simpa [List.getD, List.getElem?_eq_getElem h1, List.getElem?_eq_getElem h2] using this
set_option maxRecDepth 100000 in
set_option maxHeartbeats 2000000 in
theorem rplaces_any (A B : List Int) (x y : Int) (w : World) (hA : A.length = 32) (hB : B.length = 32) :
    Calls Tryz.prog 27 #[.agg (vals A ++ [Value.int .i64 x]).toArray, .agg (vals B ++ [Value.int .i64 y]).toArray] w fun e w' => e = .returned (.int .i64 (Cn.pl (A, x) (B, y))) ∧ Below w.heap.size w w' := by
  obtain ⟨P, hP⟩ : ∃ P, P = vals A ++ [Value.int .i64 x] := ⟨_, rfl⟩
  obtain ⟨Q, hQ⟩ : ∃ Q, Q = vals B ++ [Value.int .i64 y] := ⟨_, rfl⟩
  obtain ⟨W0, hW0⟩ : ∃ W0, W0 = (w.alloc (.cells P.toArray 46)).alloc (.cells Q.toArray 46) := ⟨_, rfl⟩
  have HX0 : Hid (Is W0 w.heap.size P 46) := hide (by rw [hW0]; exact (Is.new w P 46).alloc (.cells Q.toArray 46))
  have HY0 : Hid (Is W0 (w.heap.size + 1) Q 46) := hide (by rw [hW0]; exact Is.new' Q 46 (by simp))
  have HB0 : Hid (Below w.heap.size w W0) := hide (by rw [hW0]; exact below_alloc2 w _ _)
  have HCA : Hid (∀ W, Is W w.heap.size P 46 → ∀ j, j < 32 → W.cell? ⟨w.heap.size, j, none⟩ = some (.int .u8 (A.getD j 0))) := hide (fun W h j hj => by rw [h.cell j, hP, List.getElem?_append_left (by rw [vals_length, hA]; exact hj)]; exact vals_get A j (by omega))
  have HCB : Hid (∀ W, Is W (w.heap.size + 1) Q 46 → ∀ j, j < 32 → W.cell? ⟨w.heap.size + 1, j, none⟩ = some (.int .u8 (B.getD j 0))) := hide (fun W h j hj => by rw [h.cell j, hQ, List.getElem?_append_left (by rw [vals_length, hB]; exact hj)]; exact vals_get B j (by omega))
  have HAX : Hid (∀ W, Is W w.heap.size P 46 → W.cell? ⟨w.heap.size, 32, none⟩ = some (.int .i64 x)) := hide (fun W h => by rw [h.cell 32, hP, List.getElem?_append_right (by rw [vals_length, hA]; omega), vals_length, hA]; rfl)
  have HBY : Hid (∀ W, Is W (w.heap.size + 1) Q 46 → W.cell? ⟨w.heap.size + 1, 32, none⟩ = some (.int .i64 y)) := hide (fun W h => by rw [h.cell 32, hQ, List.getElem?_append_right (by rw [vals_length, hB]; omega), vals_length, hB]; rfl)
  have HLE := hide (hA.trans hB.symm)
  have HLA := hide hA
  obtain ⟨r, hr⟩ : ∃ r, r = Cn.pl (A, x) (B, y) := ⟨_, rfl⟩
  have HR := hide hr
  rw [← hr, ← hP, ← hQ]
  clear hr hP hQ hA hB
  go_enter Tryz.func27, Tryz.ntmps27
  go_wp2
  rw [← hW0]
  clear hW0
  go_loopw [5] (fun i wr => ∃ k : Nat, k ≤ 32 ∧ i = .int .i64 k ∧ (∀ j, j < k → A.getD j 0 = B.getD j 0) ∧ Below W0.heap.size W0 wr) (fun i _ => 32 - (intOf i).toNat)
  case atStart => exact ⟨0, by omega, rfl, fun j hj => absurd hj (by omega), Below.refl _ _⟩
  case round =>
    obtain ⟨k, hk, rfl, heq, hbel⟩ := hrel
    have HBL := hide hbel
    have HEQ := hide heq
    have HX := hide (HX0.out.below hbel HX0.out.lt)
    have HY := hide (HY0.out.below hbel HY0.out.lt)
    clear heq hbel
    by_cases hlt : k < 32
    · have hki : (k : Int) < 32 := by omega
      have hc1 := HCA.out _ HX.out k hlt
      have hc2 := HCB.out _ HY.out k hlt
      have HAT := hide (cmpB_at A B k HLE.out (by rw [HLA.out]; exact hlt) HEQ.out)
      obtain ⟨a, ha⟩ : ∃ a, a = A.getD k 0 := ⟨_, rfl⟩
      obtain ⟨b, hb⟩ : ∃ b, b = B.getD k 0 := ⟨_, rfl⟩
      rw [← ha] at hc1
      rw [← hb] at hc2
      rw [← ha, ← hb] at HAT
      have HAE := hide ha
      have HBE := hide hb
      clear ha hb
      by_cases h1 : a < b
      · have hd : decide (a < b) = true := decide_eq_true h1
        have HRV : Hid (r = -1) := hide (by rw [HR.out]; have := HAT.out.1 h1; unfold Cn.pl; rw [this]; rfl)
        go_wp2
        go_quiet (fail)
        go_wp2
        go_ret
        exact ⟨by rw [HRV.out]; rfl, HB0.out.trans ((HBL.out.trans ((quietBelow _ _).mono HBL.out.size)).mono HB0.out.size)⟩
      · have hd : decide (a < b) = false := decide_eq_false h1
        by_cases h2 : b < a
        · have hd2 : decide (b < a) = true := decide_eq_true h2
          have HRV : Hid (r = 1) := hide (by rw [HR.out]; have := HAT.out.2 h2; unfold Cn.pl; rw [this]; rfl)
          go_wp2
          go_quiet (fail)
          go_wp2
          go_quiet (fail)
          go_wp2
          go_ret
          exact ⟨by rw [HRV.out]; rfl, HB0.out.trans (((HBL.out.trans ((quietBelow _ _).mono HBL.out.size)).trans ((quietBelow _ _).mono (Nat.le_trans HBL.out.size (quietBelow _ _).size))).mono HB0.out.size)⟩
        · have hd2 : decide (b < a) = false := decide_eq_false h2
          go_wp2
          go_quiet (fail)
          go_wp2
          go_quiet (fail)
          go_wp2
          go_roundw
          case rel =>
            refine ⟨k + 1, by omega, by go_num, fun j hj => ?_, HBL.out.trans ((quietBelow _ _).mono HBL.out.size)⟩
            by_cases e : j = k
            · subst e; rw [← HAE.out, ← HBE.out]; omega
            · exact HEQ.out j (by omega)
          case measure => simp [intOf]; omega
    · have hki : ¬ (k : Int) < 32 := by omega
      have HAB : Hid (A = B) := hide (getD_ext A B HLE.out (fun j hj => HEQ.out j (by rw [HLA.out] at hj; omega)))
      have hx := HAX.out _ HX.out
      have hy := HBY.out _ HY.out
      have HRV : Hid (r = Cn.cmpI x y) := hide (by rw [HR.out, HAB.out]; unfold Cn.pl; rw [Cn.cmpB_self]; rfl)
      by_cases h1 : x < y
      · have hd : decide (x < y) = true := decide_eq_true h1
        go_wp2
        go_ret
        exact ⟨by rw [HRV.out]; unfold Cn.cmpI; rw [if_pos (by omega)]; rfl, HB0.out.trans (HBL.out.mono HB0.out.size)⟩
      · have hd : decide (x < y) = false := decide_eq_false h1
        by_cases h2 : y < x
        · have hd2 : decide (y < x) = true := decide_eq_true h2
          go_wp2
          go_ret
          exact ⟨by rw [HRV.out]; unfold Cn.cmpI; rw [if_neg (by omega), if_pos (by omega)]; rfl, HB0.out.trans (HBL.out.mono HB0.out.size)⟩
        · have hd2 : decide (y < x) = false := decide_eq_false h2
          go_wp2
          go_ret
          exact ⟨by rw [HRV.out]; unfold Cn.cmpI; rw [if_neg (by omega), if_neg (by omega)]; rfl, HB0.out.trans (HBL.out.mono HB0.out.size)⟩
end Go.Proofs.YtmjilohlchkicaaGreatDoor

/- Copies: bytes, ops. -/
namespace Go.Proofs.YtmjilohlchkicaaGreatDoor
open Go.RowKit
set_option linter.unusedVariables false
set_option linter.unusedSimpArgs false

set_option maxHeartbeats 400000 in
theorem cl_bytes (v : Value) (l : List Int) (w : World) (h : Has w v l) (hn : l.length ≤ 180000000000000) :
    Calls Tryz.prog 65 #[v] w fun e w' => ∃ a n c, e = .returned (.slice a n c) ∧ Own w' w.heap.size (.slice a n c) l ∧ Below w.heap.size w w' := by
  obtain ⟨a, cap, rfl, hc, hl⟩ := h.shape
  cases a with
  | none =>
    have h0 : l = [] := by
      rcases h with ⟨a, c, e, e2, _⟩ | ⟨b, off, c, e, _⟩
      · exact e2
      · cases e
    subst h0
    have heq : ∀ w, (binOp .eql 73 (.slice none 0 cap) (.slice none 0 0)).run Tryz.prog w = .ok (.bool true) w := fun w => Go.Lib.run_eql_slice_nil w _ _ none 0 cap 0 0 Tryz.underlying73
    have hlen : (([] : List Int).length : Nat) = 0 := rfl
    rw [hlen]
    clear h
    go_enter Tryz.func65, Tryz.ntmps65
    go_wp2
    go_ret
    exact ⟨none, 0, 0, rfl, World.ownsRow_nil w w.heap.size 5 1, Below.refl _ _⟩
  | some a =>
    refine (clone_some a l.length cap l w h hn).mono ?_
    rintro e w' ⟨v, rfl, ho, hb⟩
    obtain ⟨a2, c2, rfl, _, _⟩ := ho.form
    exact ⟨a2, _, c2, rfl, ho, hb⟩
theorem cl_elem : Elem 50 95 3 := elem_of (.agg #[.int .i64 0, .int .i64 0, .slice none 0 0]) 40 Tryz.underlying50 (by kernel_rfl) (by omega) rfl (by omega)
theorem cl_empty (w : World) (base : Nat) (v : Value) (n : Nat) (xs : List Value) (hown : w.ownsRow base 95 3 v n xs) (hm : n * 10000 ≤ 140737488355328) (hbase : base ≤ w.heap.size) (a : Option Addr) (c : Nat) (ty : TypeId) :
    ∃ v' w', (Builtin.append_ #[50, 50] ty #[v, .slice a 0 c]).run Tryz.prog w = .ok v' w' ∧ w'.ownsRow base 95 3 v' n xs ∧ w.grownBy w' v.ownBlock := by
  obtain ⟨i, z, hu, hi, hz, hs, hby, hzs, hsz⟩ := cl_elem
  cases a with
  | none =>
    refine ⟨v, w, ?_, hown, ⟨rfl, rfl, rfl, Nat.le_refl _, fun _ _ _ => rfl⟩⟩
    rcases hown.2 with ⟨rfl, rfl⟩ | ⟨g, cap, cur, rfl, _, _, hnc, _⟩
    · simp [Builtin.append_, run_underlying hu, sizeOf, typeInfo, hi, Builtin.lenOf, Builtin.firstCells]
    · simp [Builtin.append_, run_underlying hu, sizeOf, typeInfo, hi, Builtin.lenOf, Builtin.firstCells, hnc, storeCells]
  | some a =>
    have hmul : (n + 0) * i.bytes ≤ n * 10000 := Nat.mul_le_mul (by omega) hby
    obtain ⟨v', w', hr, h2, h3, _⟩ := run_append_own (P := Tryz.prog) w base 50 ty 95 i z 3 i.bytes hu hi hz hs rfl hzs hsz v n xs hown a 0 c [] (by simp) (fun j u hu => by simp at hu) (fun u hu => by cases hu) (by unfold maxLen; omega) (by omega) hbase
    exact ⟨v', w', hr, by simpa using h2, h3⟩
theorem cl_ones : ∀ (L : List (Lk.Op × Value)), (∀ p ∈ L, p.2.oneCell' = true) → ∀ u ∈ opCells L, u.oneCell' = true
  | [], _, u, hu => by cases hu
  | p :: L, h, u, hu => by
    simp only [opCells, List.mem_cons] at hu
    rcases hu with rfl | rfl | rfl | hu
    · rfl
    · rfl
    · exact h p (by simp)
    · exact cl_ones L (fun q hq => h q (by simp [hq])) u hu
theorem has_oneC {w : World} {v : Value} {l : List Int} (h : Has w v l) : v.oneCell' = true := by
  obtain ⟨a, c, rfl, _⟩ := h.shape; rfl
theorem cl_append_by {t : TypeId} {w : World} {ops : Array Oper} {rest : List Oper} {o : Oper} {a : Act} {Q : Exit → Act → World → Prop} (P : Value → World → Prop) (hgd : o.guard = none) (s y : Operand)
    (ho : o.op = .call { callee := .builtin .append, args := #[s, y], argTypes := #[t, t] }) (v x : Value) (hs : a.eval s = v) (hy : a.eval y = x)
    (hr : ∀ ty, ∃ v' w', (Builtin.append_ #[t, t] ty #[v, x]).run Tryz.prog w = .ok v' w' ∧ P v' w')
    (h : ∀ v' w', P v' w' → wpList Tryz.prog ops Q rest (a.put o.dst v') w') : wpList Tryz.prog ops Q (o :: rest) a w := by
  refine wpList_plain hgd fun K hK => ?_
  obtain ⟨v', w', hr', h2⟩ := hr o.type
  unfold Oper.wp
  simp only [execOp, ho, resolve, invoke, builtin, Sem.run_bind, Sem.run_pure, Result.andThen_ok, List.map_toArray, List.map_cons, List.map_nil, hs, hy, hr']
  exact hK _ _ (h v' w' h2)
/-- What an append of ops onto nothing leaves. -/
def AppC (W0 : World) (L : List (Lk.Op × Value)) (v' : Value) (W' : World) : Prop := W'.ownsRow W0.heap.size 95 3 v' L.length (opCells L) ∧ Below W0.heap.size W0 W'
theorem cl_app (W : World) (v : Value) (L : List (Lk.Op × Value)) (h : HasOps W v L) (hm : L.length ≤ 1000) (ty : TypeId) :
    ∃ v' W', (Builtin.append_ #[50, 50] ty #[.slice (some ⟨W.heap.size, 0, none⟩) 0 0, v]).run Tryz.prog (W.alloc (.cells #[] 95)) = .ok v' W' ∧ AppC W L v' W' := by
  have hown : (W.alloc (.cells #[] 95)).ownsRow W.heap.size 95 3 (.slice (some ⟨W.heap.size, 0, none⟩) 0 0) 0 [] :=
    ⟨by simp, .inr ⟨W.heap.size, 0, #[], rfl, Nat.le_refl _, heap_alloc_new W _, Nat.le_refl _, Nat.zero_le _, by simp, by simp⟩⟩
  have hbl : ∀ W', (W.alloc (.cells #[] 95)).grownBy W' (Value.ownBlock (.slice (some ⟨W.heap.size, 0, none⟩) 0 0)) → Below W.heap.size W W' := fun W' hg =>
    ((Below.refl _ _).alloc (Nat.le_refl _) _).grown hg (by simp) (fun q hq => by simp [Value.ownBlock] at hq; omega)
  rcases h.1 with ⟨a, cap, rfl, rfl⟩ | ⟨b, off, cap, rfl, h0, h1, h2, h3, hc⟩
  · obtain ⟨v', W', hr, ho, hg⟩ := cl_empty _ W.heap.size _ 0 [] hown (by omega) (by simp) a cap ty
    exact ⟨_, W', hr, ho, hbl W' hg⟩
  · have hb := below_alloc W (.cells #[] 95)
    obtain ⟨v', W', hr, ho, hg, _⟩ := run_append_gen _ W.heap.size 50 95 3 cl_elem _ 0 [] hown ⟨b, off, none⟩ L.length cap h0 (opCells L) (opCells_length L) (fun j u hu => by rw [Addr.add_lit]; exact range_keep hc hb h3 j u hu) (cl_ones L (fun p hp => has_oneC (h.2 p hp).1)) (by omega) (by simp) ty
    rw [Nat.zero_add, List.nil_append] at ho
    exact ⟨v', W', hr, ho, hbl W' hg⟩
set_option maxHeartbeats 400000 in
theorem cloneOps_any (v : Value) (L : List (Lk.Op × Value)) (w : World) (h : HasOps w v L) (hm : L.length ≤ 1000) :
    Calls Tryz.prog 64 #[v] w fun e w' => ∃ a n c, e = .returned (.slice a n c) ∧ w'.ownsRow w.heap.size 95 3 (.slice a n c) L.length (opCells L) ∧ Below w.heap.size w w' := by
  obtain ⟨a, n, cap, hv⟩ := hasOps_slice h
  subst hv
  cases a with
  | none =>
    have h0 : L = [] ∧ n = 0 := by
      rcases h.1 with ⟨a, c, e, e2⟩ | ⟨b, off, c, e, _⟩
      · exact ⟨e2, by injection e⟩
      · cases e
    obtain ⟨rfl, rfl⟩ := h0
    have heq : ∀ w, (binOp .eql 50 (.slice none 0 cap) (.slice none 0 0)).run Tryz.prog w = .ok (.bool true) w := fun w => Go.Lib.run_eql_slice_nil w _ _ none 0 cap 0 0 Tryz.underlying50
    clear h
    go_enter Tryz.func64, Tryz.ntmps64
    go_wp2
    go_ret
    exact ⟨none, 0, 0, rfl, World.ownsRow_nil w w.heap.size 95 3, Below.refl _ _⟩
  | some a =>
    have heq : ∀ w, (binOp .eql 50 (.slice (some a) n cap) (.slice none 0 0)).run Tryz.prog w = .ok (.bool false) w := fun w => Go.Lib.run_eql_slice_nil w _ _ (some a) n cap 0 0 Tryz.underlying50
    have HA := hide (fun ty => cl_app w (.slice (some a) n cap) L h hm ty)
    clear h
    go_enter Tryz.func64, Tryz.ntmps64
    go_wp2_with (at_builtin; refine cl_append_by (AppC w L) rfl (.tmp 5) (.tmp 6) rfl (.slice (some ⟨w.heap.size, 0, none⟩) 0 0) (.slice (some a) n cap) rfl rfl (fun ty => HA.out ty) ?_; intro v2 w2 h3; obtain ⟨a2, c2, hv2⟩ := owns_form h3.1; subst hv2)
    go_ret
    exact ⟨a2, _, c2, rfl, h3.1, h3.2⟩
end Go.Proofs.YtmjilohlchkicaaGreatDoor

/- Coins in a row that is sorted: how the library's contract is met, and what it tells. -/
namespace Go.Proofs.YtmjilohlchkicaaGreatDoor
open Go.RowKit Go.Sort
set_option linter.unusedVariables false
set_option linter.unusedSimpArgs false

/-- A coin whose cells are 36. -/
def CkP (x : CoinV) : Prop := x.tx.length = 32 ∧ Sz.Byt x.tx ∧ ∃ a n c, x.lv = .slice a n c
abbrev CoinK := {x : CoinV // CkP x}
instance : Inhabited CoinK := ⟨⟨⟨List.replicate 32 0, 0, 0, .slice none 0 0, [], 0⟩, by simp, fun x hx => by rw [List.eq_of_mem_replicate hx]; omega, none, 0, 0, rfl⟩⟩
def ckEnc (x : CoinK) : List Value := coinCell x.1
theorem ckEnc_len (x : CoinK) : (ckEnc x).length = 36 := coinCell_length x.1 x.2.1
theorem ckEnc_one (x : CoinK) : ∀ v ∈ ckEnc x, v.oneCell' = true := coin_ones x.1 x.2.2.2
def ckCf (x y : CoinK) : Int := Cn.pl (Cn.place x.1.it) (Cn.place y.1.it)
theorem ck_lt (x y : CoinK) : ltOf ckCf x y = decide (Cn.pl (Cn.place x.1.it) (Cn.place y.1.it) < 0) := rfl
theorem ck_swo : SWO (ltOf ckCf) where
  irrefl x := by rw [ck_lt, Cn.pl_self]; rfl
  trans x y z h k := by rw [ck_lt] at *; simp only [decide_eq_true_eq] at *; exact Cn.pl_trans h k
  ntrans x y z h k := by rw [ck_lt] at *; simp only [decide_eq_false_iff_not] at *; exact Cn.pl_ntrans h k
theorem grow_of {w w' : World} (h : Below w.heap.size w w') (hd : w.drawn ≤ w'.drawn) : ∃ q os', w' = grow (w.drewN q) os' := by
  refine ⟨w'.drawn - w.drawn, w'.heap.extract w.heap.size w'.heap.size, ?_⟩
  obtain ⟨hp, tp, dr, os, ou⟩ := w'
  obtain ⟨h1, h2, h3, h4, h5⟩ := h
  dsimp only at *
  unfold grow World.drewN
  dsimp only
  congr 1
  · apply Array.ext_getElem?
    intro k
    rw [Array.getElem?_append]
    by_cases hk : k < w.heap.size
    · rw [if_pos hk]; exact h5 k hk
    · rw [if_neg hk, Array.getElem?_extract]
      by_cases hk2 : k < hp.size
      · rw [if_pos (by omega)]; congr 1; omega
      · rw [if_neg (by omega), Array.getElem?_eq_none (by omega)]
  · omega
theorem coinCells_at : ∀ (R : List CoinV), (∀ x ∈ R, x.tx.length = 32) → ∀ t, t < R.length * 36 → ∃ hk : t / 36 < R.length, (coinCells R)[t]? = (coinCell R[t / 36])[t % 36]?
  | [], _, t, ht => by simp at ht
  | x :: R, h, t, ht => by
    have hx := coinCell_length x (h x (by simp))
    have e : coinCells (x :: R) = coinCell x ++ coinCells R := by simp [coinCells]
    by_cases h1 : t < 36
    · have h2 : t / 36 = 0 := by omega
      refine ⟨by rw [h2]; simp, ?_⟩
      rw [e, List.getElem?_append_left (by omega)]
      simp only [h2, List.getElem_cons_zero]
      rw [Nat.mod_eq_of_lt h1]
    · obtain ⟨u, rfl⟩ : ∃ u, t = u + 36 := ⟨t - 36, by omega⟩
      obtain ⟨hk, hv⟩ := coinCells_at R (fun y hy => h y (by simp [hy])) u (by simp at ht; omega)
      have h2 : (u + 36) / 36 = u / 36 + 1 := by omega
      have h3 : (u + 36) % 36 = u % 36 := by omega
      refine ⟨by rw [h2]; simpa using hk, ?_⟩
      rw [e, List.getElem?_append_right (by omega), hx, Nat.add_sub_cancel, hv, h3]
      simp only [h2, List.getElem_cons_succ]
theorem coinCells_length (R : List CoinV) (h : ∀ x ∈ R, x.tx.length = 32) : (coinCells R).length = R.length * 36 := by
  induction R with
  | nil => rfl
  | cons x R ih =>
    have e : coinCells (x :: R) = coinCell x ++ coinCells R := by simp [coinCells]
    rw [e, List.length_append, coinCell_length x (h x (by simp)), ih (fun y hy => h y (by simp [hy])), List.length_cons]; omega
/-- A row of coins, as the library holds it. -/
def ckArr (R : List CoinV) (h : ∀ x ∈ R, CkP x) : Array CoinK := (R.attachWith CkP h).toArray
theorem ckArr_size (R : List CoinV) (h : ∀ x ∈ R, CkP x) : (ckArr R h).size = R.length := by simp [ckArr]
theorem ckArr_get (R : List CoinV) (h : ∀ x ∈ R, CkP x) (k : Nat) (hk : k < R.length) : ((ckArr R h)[k]!).1 = R[k] := by
  rw [getElem!_pos _ k (by rw [ckArr_size]; exact hk)]
  simp [ckArr]
theorem ck_holds {w : World} {b off : Nat} {R : List CoinV} (h : ∀ x ∈ R, CkP x) (hr : w.rangeAt b off (coinCells R)) (hf : ∀ j, w.frozen? ⟨b, j, none⟩ = false) : HoldsK ckEnc 36 w b off (ckArr R h) := by
  intro t ht
  rw [size_flatK, ckArr_size] at ht
  refine ⟨?_, hf _⟩
  rw [get_flatK _ _ _ _ (by rw [ckArr_size]; exact ht)]
  obtain ⟨hk, hv⟩ := coinCells_at R (fun x hx => (h x hx).1) t ht
  have hlen := coinCell_length R[t / 36] (h _ (List.getElem_mem hk)).1
  have hm : t % 36 < (coinCell R[t / 36]).length := by rw [hlen]; omega
  have e : (ckEnc (ckArr R h)[t / 36]!)[t % 36]! = (coinCell R[t / 36])[t % 36] := by
    unfold ckEnc
    rw [ckArr_get R h _ hk]; exact getElem!_pos (coinCell R[t / 36]) (t % 36) hm
  rw [e]
  refine hr t _ ?_
  rw [hv, List.getElem?_eq_getElem hm]; rfl
theorem ck_range {w : World} {b off : Nat} {d : Array CoinK} (h : HoldsK ckEnc 36 w b off d) : w.rangeAt b off (coinCells (d.toList.map Subtype.val)) := by
  have h32 : ∀ x ∈ d.toList.map Subtype.val, x.tx.length = 32 := by
    intro x hx
    obtain ⟨y, _, rfl⟩ := List.mem_map.1 hx
    exact y.2.1
  intro t v hv
  have ht : t < (d.toList.map Subtype.val).length * 36 := by
    rw [← coinCells_length _ h32]; exact (List.getElem?_eq_some_iff.1 hv).1
  obtain ⟨hk, he⟩ := coinCells_at _ h32 t ht
  rw [he] at hv
  rw [List.length_map, Array.length_toList] at hk ht
  have hc := (HoldsK.cell h (i := t / 36) (c := t % 36) hk (by omega)).1
  rw [show off + t / 36 * 36 + t % 36 = off + t from by omega] at hc
  rw [hc]
  have e2 : (d.toList.map Subtype.val)[t / 36]'(by simpa using hk) = (d[t / 36]!).1 := by
    rw [getElem!_pos d _ hk]; simp
  rw [e2] at hv
  unfold ckEnc
  obtain ⟨h1, h2⟩ := List.getElem?_eq_some_iff.1 hv
  rw [getElem!_pos (coinCell (d[t / 36]!).1) (t % 36) h1, h2]
/-- What the library tells of the row behind it: the same coins, none ahead of an earlier one. -/
theorem ck_sorted {R : List CoinV} {h : ∀ x ∈ R, CkP x} {d : Array CoinK} (hp : PermIn 0 (ckArr R h).size (ckArr R h) d) (hs : SortedIn (ltOf ckCf) 0 (ckArr R h).size d) :
    (d.toList.map Subtype.val).Perm R ∧ ∀ i j (hi : i < j) (hj : j < (d.toList.map Subtype.val).length), ¬ Cn.pl (Cn.place ((d.toList.map Subtype.val)[j]).it) (Cn.place ((d.toList.map Subtype.val)[i]'(by omega)).it) < 0 := by
  obtain ⟨h1, _, h3⟩ := hp
  have e1 : d.extract 0 (ckArr R h).size = d := by rw [← h1]; simp
  have e2 : (ckArr R h).extract 0 (ckArr R h).size = ckArr R h := by simp
  rw [e1, e2] at h3
  constructor
  · have := h3.map Subtype.val
    have e3 : (ckArr R h).toList.map Subtype.val = R := by simp [ckArr]
    rwa [e3] at this
  · intro i j hi hj
    have hj' : j < d.size := by simpa using hj
    have := hs i j (by omega) hi (by rw [← h1]; exact hj')
    rw [ck_lt, decide_eq_false_iff_not, getElem!_pos d i (by omega), getElem!_pos d j hj'] at this
    simpa using this
theorem ck_size {R : List CoinV} {h : ∀ x ∈ R, CkP x} {d : Array CoinK} (hp : PermIn 0 (ckArr R h).size (ckArr R h) d) : (d.toList.map Subtype.val).length = R.length := by
  rw [List.length_map, Array.length_toList, hp.1, ckArr_size]
/-- The world behind a sort: only the row has turned. -/
theorem sorted_only (w : World) (b off n : Nat) (d : Array CoinK) (os : Array Obj) : But b w (sortWorldK ckEnc 36 w b off n d os) := by
  refine ⟨rfl, rfl, rfl, ?_, fun k hk hne => ?_⟩
  · unfold sortWorldK
    rw [size_grow]
    have : (putRowK ckEnc 36 (Go.Sort.ahead w n) b off d).heap.size = w.heap.size := by unfold putRowK; rw [size_putRow]; rfl
    omega
  · unfold sortWorldK grow putRowK putRow mapBlock
    dsimp only
    rw [Array.getElem?_append_left (by simp [Go.Sort.ahead]; exact hk), Array.getElem?_modify, if_neg (fun e => hne e.symm)]
    rfl
end Go.Proofs.YtmjilohlchkicaaGreatDoor

/- Coins sorted by their places: the closure. -/

namespace Go.Proofs.YtmjilohlchkicaaGreatDoor
open Go.RowKit Go.Sort
set_option linter.unusedVariables false
set_option linter.unusedSimpArgs false

theorem place_rangeS {W : World} {g : Nat} {x : CoinV} (h : Is W g (coinCell x) 54) : W.rangeAt g 0 (vals x.tx ++ [.int .i64 x.at']) := by
  have h2 := is_range h
  rw [coin_parts] at h2
  exact (tx_range_part h2).1
set_option maxRecDepth 100000 in
set_option maxHeartbeats 1000000 in
theorem exF_any (x y : CoinV) (w : World) (hx : CkP x) (hy : CkP y) :
    Calls Tryz.prog 40 #[.agg (coinCell x).toArray, .agg (coinCell y).toArray] w fun e w' => e = .returned (.int .i64 (Cn.pl (Cn.place x.it) (Cn.place y.it))) ∧ Below w.heap.size w w' ∧ w.drawn ≤ w'.drawn := by
  obtain ⟨C, hC⟩ : ∃ C, C = coinCell x := ⟨_, rfl⟩
  obtain ⟨D, hD⟩ : ∃ D, D = coinCell y := ⟨_, rfl⟩
  obtain ⟨P, hP⟩ : ∃ P, P = vals x.tx ++ [Value.int .i64 x.at'] := ⟨_, rfl⟩
  obtain ⟨Q, hQ⟩ : ∃ Q, Q = vals y.tx ++ [Value.int .i64 y.at'] := ⟨_, rfl⟩
  obtain ⟨r, hr⟩ : ∃ r, r = Cn.pl (Cn.place x.it) (Cn.place y.it) := ⟨_, rfl⟩
  have hPl : P.length = 33 := by rw [hP]; simp [vals_length, hx.1]
  have hQl : Q.length = 33 := by rw [hQ]; simp [vals_length, hy.1]
  have hCl : C.length = 36 := by rw [hC]; exact coinCell_length x hx.1
  have hDl : D.length = 36 := by rw [hD]; exact coinCell_length y hy.1
  have HPL := hide hPl
  have HQL := hide hQl
  have hCp : ¬ C = [] := by intro h; rw [h] at hCl; cases hCl
  have hDp : ¬ D = [] := by intro h; rw [h] at hDl; cases hDl
  have HI0 : Hid (Is ((w.alloc (.cells C.toArray 54)).alloc (.cells D.toArray 54)) w.heap.size C 54) := hide ((Is.new w C 54).alloc _)
  have HQ0 : Hid (Is ((w.alloc (.cells C.toArray 54)).alloc (.cells D.toArray 54)) (w.heap.size + 1) D 54) := hide (Is.new' D 54 (by simp))
  have HR0 : Hid (((w.alloc (.cells C.toArray 54)).alloc (.cells D.toArray 54)).rangeAt w.heap.size 0 P) := hide (by have h := HI0.out; rw [hC] at h; rw [hC, hP]; exact place_rangeS h)
  have HR1 : Hid (((w.alloc (.cells C.toArray 54)).alloc (.cells D.toArray 54)).rangeAt (w.heap.size + 1) 0 Q) := hide (by have h := HQ0.out; rw [hD] at h; rw [hD, hQ]; exact place_rangeS h)
  have HB0 := hide (below_alloc2 w (.cells C.toArray 54) (.cells D.toArray 54))
  have HDW : Hid (w.drawn ≤ ((w.alloc (.cells C.toArray 54)).alloc (.cells D.toArray 54)).drawn) := hide (Nat.le_refl _)
  have HCM : Hid (∀ W : World, Calls Tryz.prog 33 #[.agg P.toArray, .agg Q.toArray] W fun e w' => e = .returned (.int .i64 r) ∧ Below W.heap.size W w' ∧ W.drawn ≤ w'.drawn) := hide (fun W => by rw [hP, hQ, hr]; exact compareD_any x.tx y.tx x.at' y.at' W hx.1 hy.1 hx.2.1 hy.2.1)
  rw [← hr, ← hC, ← hD]
  clear hr hC hD hQ hP hPl hQl hx hy
  go_enter Tryz.func40, Tryz.ntmps40
  go_wp2_with (first
    | (refine wpList_load_part 46 P w.heap.size 0 rfl (.tmp 5) rfl rfl HR0.out Tryz.underlying46 rfl size_placeC HPL.out ?_)
    | (refine wpList_load_part 46 Q (w.heap.size + 1) 0 rfl (.tmp 7) rfl rfl HR1.out Tryz.underlying46 rfl size_placeC HQL.out ?_)
    | (go_at_call 33; refine (HCM.out _).mono ?_; rintro e w1 ⟨rfl, hb1, hd1⟩))
  go_ret
  exact ⟨rfl, HB0.out.trans (hb1.mono HB0.out.size), Nat.le_trans HDW.out hd1⟩
theorem call_exF (xs : Array Value) (W : World) : (callFunc 40 xs).run Tryz.prog W = .ok (.enter 40 xs) W := by
  simp [callFunc, Tryz.func40, Tryz.f40]
theorem ck_lays (b off n : Nat) (w : World) : CmpLays Tryz.prog 40 #[] ckEnc 36 ckCf b off n w := fun m os dk hs x y =>
  (exF_any x.1 y.1 (sortWorldK ckEnc 36 w b off m dk os) x.2 y.2).mono fun _ _ h => ⟨h.1, grow_of h.2.1 h.2.2⟩
end Go.Proofs.YtmjilohlchkicaaGreatDoor

/- Coins sorted by their places. -/
namespace Go.Proofs.YtmjilohlchkicaaGreatDoor
open Go.RowKit Go.Sort
set_option linter.unusedVariables false

theorem agg_coin (w : World) : (isAgg 54).run Tryz.prog w = .ok true w := by kernel_rfl
theorem sizeof_coin (w : World) : (Go.sizeOf 54).run Tryz.prog w = .ok 36 w := by kernel_rfl
/-- None ahead of an earlier one. -/
def Rising (R : List CoinV) : Prop := ∀ i j (hi : i < j) (hj : j < R.length), ¬ Cn.pl (Cn.place (R[j]).it) (Cn.place (R[i]'(by omega)).it) < 0
theorem sort_any (R : List CoinV) (b off cap : Nat) (w : World) (h : ∀ x ∈ R, CkP x) (hr : w.rangeAt b off (coinCells R)) (hf : ∀ j, w.frozen? ⟨b, j, none⟩ = false) (hb : b < w.heap.size) (hn : R.length < 4611686018427387904) :
    Calls Tryz.prog 39 #[.slice (some ⟨b, off, none⟩) R.length cap, .func (.func 40) #[] #[]] w fun e w' => e = .returned (.tuple #[]) ∧ ∃ R' : List CoinV, R'.Perm R ∧ Rising R' ∧ w'.rangeAt b off (coinCells R') ∧ But b w w' := by
  have hcon := AnyQ.slices_SortFunc Tryz.sortCoins 36 agg_coin sizeof_coin ckEnc ckEnc_len ckEnc_one ckCf ck_swo 40 #[] b off cap (ckArr R h) w call_exF (ck_lays b off (ckArr R h).size w) (ck_holds h hr hf) hb (by rw [ckArr_size]; exact hn)
  change Calls Tryz.prog 39 _ _ _ at hcon
  rw [show R.length = (ckArr R h).size from (ckArr_size R h).symm]
  refine hcon.mono ?_
  rintro e w' ⟨he, d', n, os, hp, hs, rfl⟩
  obtain ⟨h1, h2⟩ := ck_sorted hp hs
  exact ⟨he, d'.toList.map Subtype.val, h1, h2, ck_range (holdsK_sortWorldK_c ckEnc 36 w b off (ckArr R h) d' n os (ck_holds h hr hf) hb hp.1), sorted_only w b off n d' os⟩
end Go.Proofs.YtmjilohlchkicaaGreatDoor
