/- Signatures: isSigned, and the functions that it asks. -/
import Derived.Test.YtkdihbgjeanjdaaDoorZLk
import Derived.Test.YtkdihbgjeanjdaaDoorZKe
namespace Go.Proofs.YtkdihbgjeanjdaaDoor
open Go.RowKit
set_option linter.unusedVariables false

theorem St.mrange {w : World} {R base : Nat} {m : List Int} {h : Int} {K : List (List Int × Value)} (s : St w R base m h K) : w.rangeAt R 1 (vals m) := fun j v hv => by
  rw [s.is.cell, Nat.add_comm 1 j]
  show (vals m ++ [Value.int .i64 h])[j]? = some v
  rw [List.getElem?_append_left (List.getElem?_eq_some_iff.1 hv).1]; exact hv
theorem St.hcell {w : World} {R base : Nat} {m : List Int} {h : Int} {K : List (List Int × Value)} (s : St w R base m h K) : w.cell? ⟨R, 33, none⟩ = some (.int .i64 h) := by
  rw [s.is.cell]
  show (vals m ++ [Value.int .i64 h])[32]? = _
  rw [List.getElem?_append_right (by rw [vals_length, s.mlen]; omega), vals_length, s.mlen]; rfl

set_option maxRecDepth 100000 in
set_option maxHeartbeats 4000000 in
theorem isSigned_bad (R base : Nat) (m : List Int) (h : Int) (K : List (List Int × Value)) (sig : List Int) (v fv : Value) (w : World) (s : St w R base m h K) (hs : Has w v sig) (hl : sig.length ≠ 2144) (hsb : Sz.Byt sig) (ht : Tab w) (hw : 1 < w.heap.size) :
    Calls Tryd.prog 78 #[.pointer (some ⟨R, 0, none⟩), v, fv] w fun e w' => e = .returned (.bool false) ∧ Below w.heap.size w w' := by
  have HR := hide (recover_any v m sig w hs s.mlen s.mbyt hsb ht hw)
  rw [if_neg hl, if_neg hl] at HR
  have HM := hide s.mrange
  have hsz : Hid ((Tryd.prog.info? 25).map (·.size) = some (vals m).length) := by rw [vals_length, s.mlen]; exact size_dig
  have hzd := zero_dig
  obtain ⟨Z, hZ⟩ : ∃ Z, Z = vals (List.replicate 32 0) := ⟨_, rfl⟩
  rw [← hZ] at hzd HR
  have hZl : Z.length = 32 := by rw [hZ]; simp [vals]
  have hZ1 : ∀ v ∈ Z, v.oneCell' = true := by rw [hZ]; exact vals_one _
  have hZp : ¬ Z = [] := by intro h; rw [h] at hZl; cases hZl
  have HZL := hide hZl
  have HZ1 := hide hZ1
  clear s hs hl hsb ht hw hZ hZl hZ1
  go_enter Tryd.func78, Tryd.ntmps78
  go_wp2_with (first
    | (refine wpList_load_mid (P := Tryd.prog) rfl 25 (.tmp 12) rfl R 1 rfl (vals m) _ HM.out Tryd.underlying25 rfl hsz.out ?_)
    | (go_at_call 18; refine HR.out.mono ?_; rintro e w1 ⟨rfl, hb1⟩)
    | (refine wpList_store_any2 25 Z Z w1.heap.size rfl (.tmp 7) (.tmp 16) rfl rfl rfl rfl (Is.new w1 _ _) size_dig HZL.out HZL.out HZ1.out ?_; intro w7 hi7 hb7 hk7 hz7))
  go_ret
  exact ⟨rfl, hb7 _ _ (hb1.alloc hb1.size _) hb1.size⟩


/-- What a function that is asked leaves: its answer, and whatever else Q says. -/
theorem isSigned_good (R base : Nat) (m : List Int) (h : Int) (K : List (List Int × Value)) (sig : List Int) (v : Value) (G : Nat) (caps : Array Value) (r : Bool) (Q : World → World → Prop) (w : World) (s : St w R base m h K) (hs : Has w v sig) (hl : sig.length = 2144) (hsb : Sz.Byt sig) (ht : Tab w) (hw : 1 < w.heap.size)
    (hcall : ∀ xs W, (callFunc G xs).run Tryd.prog W = .ok (.enter G xs) W)
    (hG : ∀ W b, Below w.heap.size w W → w.heap.size ≤ b → Is W b (vals (Ky.recov m sig)) 25 → Calls Tryd.prog G (#[.slice (some ⟨b, 0, none⟩) 32 32] ++ caps) W fun e w' => e = .returned (.bool r) ∧ Q W w') :
    Calls Tryd.prog 78 #[.pointer (some ⟨R, 0, none⟩), v, .func (.func G) #[] caps] w fun e w' => e = .returned (.bool r) ∧ ∃ W, Below w.heap.size w W ∧ Q W w' := by
  have HR := hide (recover_any v m sig w hs s.mlen s.mbyt hsb ht hw)
  rw [if_pos hl, if_pos hl] at HR
  have HM := hide s.mrange
  have hsz : Hid ((Tryd.prog.info? 25).map (·.size) = some (vals m).length) := by rw [vals_length, s.mlen]; exact size_dig
  have hDl := Ky.recov_length m sig
  have HG := hide hG
  generalize Ky.recov m sig = D at *
  have hzd := zero_dig
  obtain ⟨Z, hZ⟩ : ∃ Z, Z = vals (List.replicate 32 0) := ⟨_, rfl⟩
  rw [← hZ] at hzd
  have hZl : Z.length = 32 := by rw [hZ]; simp [vals]
  have hZp : ¬ Z = [] := by intro h; rw [h] at hZl; cases hZl
  have HZL := hide hZl
  have HDL := hide hDl
  have HPOST : ∃ PQ : World → Prop, PQ = fun w' => ∃ W, Below w.heap.size w W ∧ Q W w' := ⟨_, rfl⟩
  obtain ⟨PQ, hPQ⟩ := HPOST
  have hPQ2 : ∀ w', (∃ W, Below w.heap.size w W ∧ Q W w') = PQ w' := fun w' => by rw [hPQ]
  simp only [hPQ2]
  have HPQ : Hid (∀ W w', Below w.heap.size w W → Q W w' → PQ w') := hide (fun W w' h1 h2 => by rw [hPQ]; exact ⟨W, h1, h2⟩)
  clear s hs hl hsb ht hw hZ hZl hG hDl hPQ hPQ2
  go_enter Tryd.func78, Tryd.ntmps78
  go_wp2_with (first
    | (refine wpList_load_mid (P := Tryd.prog) rfl 25 (.tmp 12) rfl R 1 rfl (vals m) _ HM.out Tryd.underlying25 rfl hsz.out ?_)
    | (go_at_call 18; refine HR.out.mono ?_; rintro e w1 ⟨rfl, hb1⟩)
    | (refine wpList_store_any2 25 Z (vals D) w1.heap.size rfl (.tmp 7) (.tmp 16) rfl rfl rfl rfl (Is.new w1 _ _) size_dig HZL.out (by rw [vals_length]; exact HDL.out) (vals_one _) ?_; intro w7 hi7 hb7 hk7 hz7; have hb7' := hb7 _ _ (hb1.alloc hb1.size _) hb1.size)
    | (refine (HG.out _ w1.heap.size hb7' hb1.size hi7).mono ?_; rintro e w8 ⟨rfl, hq8⟩))
  go_ret
  exact ⟨rfl, HPQ.out _ _ hb7' hq8⟩

theorem call_doF (xs : Array Value) (w : World) : (callFunc 79 xs).run Tryd.prog w = .ok (.enter 79 xs) w := by
  simp [callFunc, Tryd.func79, Tryd.f79]
theorem call_inOrderF (xs : Array Value) (w : World) : (callFunc 95 xs).run Tryd.prog w = .ok (.enter 95 xs) w := by
  simp [callFunc, Tryd.func95, Tryd.f95]

theorem doF_any (v kv : Value) (x k : List Int) (c : Nat) (w : World) (h : Has w v x) (hk : Has w kv k) (hx : Sz.Byt x) (hkb : Sz.Byt k) (hc : w.cell? ⟨c, 0, none⟩ = some kv) :
    Calls Tryd.prog 79 #[v, .pointer (some ⟨c, 0, none⟩)] w fun e w' => e = .returned (.bool (decide (x = k))) ∧ w = w' := by
  have HE := hide (bequal_any v kv x k w h hk hx hkb)
  obtain ⟨ka, kc, rfl, _, _⟩ := hk.shape
  clear h hk
  go_enter Tryd.func79, Tryd.ntmps79
  go_wp2_with fail
  refine HE.out.mono ?_
  rintro e w1 ⟨rfl, rfl⟩
  go_wp2
  go_ret
  exact ⟨rfl, rfl⟩
end Go.Proofs.YtkdihbgjeanjdaaDoor
