/- Places compared: the parts. -/
import Derived.Test.YtifoldkbmpopnaaDoorCnM
import Derived.Lib.BytesEntry
import Derived.Lib.Bytealg
import Derived.Test.YtifoldkbmpopnaaDoorZSh
namespace Go.Proofs.YtifoldkbmpopnaaDoor
open Go.RowKit
set_option linter.unusedVariables false
set_option linter.unusedSimpArgs false

theorem u8_lt (x y : Int) (hx : 0 ≤ x ∧ x < 256) (hy : 0 ≤ y ∧ y < 256) : x.toNat.toUInt8 < y.toNat.toUInt8 ↔ x < y := by
  rw [UInt8.lt_iff_toNat_lt]
  simp only [Nat.toUInt8, UInt8.toNat_ofNat', Nat.reducePow]
  omega
theorem cmp_bytes : ∀ (A B : List Int), Sz.Byt A → Sz.Byt B → Go.Lib.compareBytes (Go.Lib.bytesOf A) (Go.Lib.bytesOf B) = Cn.cmpB A B
  | [], [], _, _ => rfl
  | [], _ :: _, _, _ => rfl
  | _ :: _, [], _, _ => rfl
  | a :: l, b :: m, hA, hB => by
    have ih := cmp_bytes l m (fun x hx => hA x (List.mem_cons_of_mem _ hx)) (fun x hx => hB x (List.mem_cons_of_mem _ hx))
    have ha := hA a (by simp)
    have hb := hB b (by simp)
    show (if a.toNat.toUInt8 < b.toNat.toUInt8 then (-1 : Int) else if b.toNat.toUInt8 < a.toNat.toUInt8 then 1 else Go.Lib.compareBytes (Go.Lib.bytesOf l) (Go.Lib.bytesOf m)) = _
    unfold Cn.cmpB
    rw [ih]
    simp only [u8_lt a b ha hb, u8_lt b a hb ha]
theorem load_range (b o : Nat) (A : List Int) (w : World) (h : w.rangeAt b o (vals A)) : (Extern.Bytes.loadBytes ⟨b, o, none⟩ A.length .empty).run Tryd.prog w = .ok ⟨(Go.Lib.bytesOf A).toArray⟩ w := by
  have := Go.Lib.run_loadBytesX (P := Tryd.prog) w A ⟨b, o, none⟩ .empty (fun j x hj => by
    have hl : j < A.length := (List.getElem?_eq_some_iff.1 hj).1
    rw [Addr.add_lit]
    refine h j _ ?_
    rw [vals_get A j hl, List.getD_eq_getElem?_getD, hj]; rfl)
  rw [this]
  congr 1
  apply ByteArray.ext
  simp
theorem run_compare (b o c b' o' c' : Nat) (A B : List Int) (w : World) (hA : w.rangeAt b o (vals A)) (hB : w.rangeAt b' o' (vals B)) (hAl : A.length = 32) (hBl : B.length = 32) (hAb : Sz.Byt A) (hBb : Sz.Byt B) :
    (Extern.BytealgCompare.compare #[.slice (some ⟨b, o, none⟩) 32 c, .slice (some ⟨b', o', none⟩) 32 c']).run Tryd.prog w = .ok (.int .i64 (Cn.cmpB A B)) w := by
  have h1 := load_range b o A w hA
  have h2 := load_range b' o' B w hB
  rw [hAl] at h1
  rw [hBl] at h2
  change Sem.run Tryd.prog (do pure (goInt (Extern.BytealgCompare.cmp (← Extern.Bytes.bytesOf (.slice (some ⟨b, o, none⟩) 32 c)) (← Extern.Bytes.bytesOf (.slice (some ⟨b', o', none⟩) 32 c'))))) w = _
  simp only [Extern.Bytes.bytesOf, Sem.run_bind, Sem.run_pure, Result.andThen, h1, h2]
  rw [Go.Lib.cmp_eq]
  rw [← cmp_bytes A B hAb hBb]
  rfl
set_option maxRecDepth 100000 in
set_option maxHeartbeats 1000000 in
theorem byCompare_any (b o c b' o' c' : Nat) (A B : List Int) (w : World) (hA : w.rangeAt b o (vals A)) (hB : w.rangeAt b' o' (vals B)) (hAl : A.length = 32) (hBl : B.length = 32) (hAb : Sz.Byt A) (hBb : Sz.Byt B) :
    Calls Tryd.prog 15 #[.slice (some ⟨b, o, none⟩) 32 c, .slice (some ⟨b', o', none⟩) 32 c'] w fun e w' => e = .returned (.int .i64 (Cn.cmpB A B)) ∧ w = w' := by
  have hr := run_compare b o c b' o' c' A B w hA hB hAl hBl hAb hBb
  clear hA hB hAl hBl hAb hBb
  go_enter Tryd.func15, Tryd.ntmps15
  go_wp2
  rw [run_callFunc_extern Tryd.func27 (by kernel_rfl) (by kernel_rfl) (by kernel_rfl) (e := Extern.BytealgCompare.compare) (by kernel_rfl), hr]
  simp only [Result.andThen]
  rw [Oper.upon_value]
  go_wp2
  go_ret
  exact ⟨rfl, rfl⟩
set_option maxHeartbeats 1000000 in
theorem cmpCompare_any (a b : Int) (w : World) : Calls Tryd.prog 16 #[.int .i64 a, .int .i64 b] w fun e w' => e = .returned (.int .i64 (Cn.cmpI a b)) ∧ w = w' := by
  unfold Cn.cmpI
  by_cases h1 : a < b
  · rw [if_pos h1]
    go_enter Tryd.func16, Tryd.ntmps16
    go_wp2
    go_ret
    exact ⟨rfl, rfl⟩
  · rw [if_neg h1]
    by_cases h2 : b < a
    · rw [if_pos h2]
      go_enter Tryd.func16, Tryd.ntmps16
      go_wp2
      go_ret
      exact ⟨rfl, rfl⟩
    · rw [if_neg h2]
      go_enter Tryd.func16, Tryd.ntmps16
      go_wp2
      go_ret
      exact ⟨rfl, rfl⟩
set_option maxHeartbeats 1000000 in
theorem cmpOr_two (b : Nat) (x y : Int) (w : World) (h : Is w b [.int .i64 x, .int .i64 y] 3) : Calls Tryd.prog 14 #[.slice (some ⟨b, 0, none⟩) 2 2] w fun e w' => e = .returned (.int .i64 (if x = 0 then y else x)) ∧ w = w' := by
  have h0 := h.cell 0
  have h1 := h.cell 1
  simp only [List.getElem?_cons_zero, List.getElem?_cons_succ] at h0 h1
  clear h
  by_cases hx : x = 0
  · subst hx
    rw [if_pos rfl]
    by_cases hy : y = 0
    · subst hy
      go_enter Tryd.func14, Tryd.ntmps14
      go_wp2
      refine wp_loop_rounds 3 ?_
      rw [rounds_succ]
      go_wp2
      rw [rounds_succ]
      go_wp2
      rw [rounds_succ]
      go_wp2
      go_ret
      exact ⟨rfl, rfl⟩
    · have hyb : (y == 0) = false := by simpa using hy
      have hyd : decide (y = 0) = false := decide_eq_false hy
      go_enter Tryd.func14, Tryd.ntmps14
      go_wp2
      refine wp_loop_rounds 3 ?_
      rw [rounds_succ]
      go_wp2
      rw [rounds_succ]
      go_wp2
      go_ret
      exact ⟨rfl, rfl⟩
  · rw [if_neg hx]
    have hxb : (x == 0) = false := by simpa using hx
    have hxd : decide (x = 0) = false := decide_eq_false hx
    go_enter Tryd.func14, Tryd.ntmps14
    go_wp2
    refine wp_loop_rounds 3 ?_
    rw [rounds_succ]
    go_wp2
    go_ret
    exact ⟨rfl, rfl⟩
theorem slice_dig (g o : Nat) (w : World) : (Instr.sliceAt 23 (.pointer (some ⟨g, o, none⟩)) none none none).run Tryd.prog w = .ok (.slice (some ⟨g, o, none⟩) 32 32) w := by
  have hu := Tryd.underlying23
  have ha : Tryd.prog.arrayLen 23 = 32 := by simp [Program.arrayLen, hu]
  have he : Tryd.prog.elem 23 = 5 := by simp [Program.elem, hu]
  have := run_sliceAt_array_all (P := Tryd.prog) w 23 ⟨g, o, none⟩ (by rw [ha, he]; exact hu)
  rw [this, he, size_u8', ha]
  simp [slicedAt, Addr.add_lit]
end Go.Proofs.YtifoldkbmpopnaaDoor
