/- The contract of mac.Mac. -/
import Derived.Test.YtdeddnlagbeanaaDoorMaWith
namespace Go.Proofs.YtdeddnlagbeanaaDoor
open Go.RowKit
set_option linter.unusedVariables false

theorem Has.form {w : World} {v : Value} {l : List Int} (h : Has w v l) : ∃ a c, v = .slice a l.length c := by
  rcases h with ⟨a, c, rfl, rfl, _⟩ | ⟨b, off, cap, rfl, _⟩
  · exact ⟨a, c, rfl⟩
  · exact ⟨_, _, rfl⟩
/-- A block of one slice. -/
theorem rows_one {W : World} {K : Nat} {a : Option Addr} {n c : Nat} {l : List Int} (hK : Is W K [.slice a n c] 24) (h : Has W (.slice a n c) l) : HasRows W (some ⟨K, 0, none⟩) 1 [l] :=
  ⟨rfl, fun i hi => by
    have : i = 0 := by omega
    subst this
    exact ⟨K, 0, a, n, c, rfl, by rw [hK.cell]; rfl, h⟩⟩

set_option maxRecDepth 100000 in
set_option maxHeartbeats 400000 in
theorem mac_any (vk vb : Value) (k l : List Int) (w : World) (hk : Has w vk k) (hl : Has w vb l) (hkb : Sz.Byt k) (hlb : Sz.Byt l) (ht : Tab w) (hw : 1 < w.heap.size) (hkn : k.length < 500000000000000) (hln : l.length < 500000000000000) :
    Calls Tryd.prog 35 #[vk, vb] w fun e w' => e = .returned (.agg (vals (Mc.mac k l)).toArray) ∧ Below w.heap.size w w' := by
  obtain ⟨va, vc, rfl⟩ := hl.form
  have HK : Hid (∀ w', Below w.heap.size w w' → Calls Tryd.prog 45 #[vk] w' fun e w'' => e = .returned (.agg (vals (Mc.block k)).toArray) ∧ Below w'.heap.size w' w'') := fun w' hb => keyBlock_any vk k w' (hk.below hb) hkb (ht.below hb hw) (Nat.lt_of_lt_of_le hw hb.size) (by omega)
  have HW : Hid (∀ W K, Below w.heap.size w W → Is W K [.slice va l.length vc] 24 → Calls Tryd.prog 44 #[.agg (vals (Mc.block k)).toArray, .slice (some ⟨K, 0, none⟩) 1 1] W fun e w'' => e = .returned (.agg (vals (Mc.mac k l)).toArray) ∧ Below W.heap.size W w'') := fun W K hb hK => by
    have := withBlock_any (Mc.block k) (some ⟨K, 0, none⟩) 1 [l] W (Mc.block_length k) (Mc.block_byt k hkb) (rows_one hK (hl.below hb)) (fun x hx => by simp at hx; subst hx; exact hlb) (by simp) (by simp; omega) (ht.below hb hw) (Nat.lt_of_lt_of_le hw hb.size)
    simpa [Mc.mac] using this
  have hD : (Mc.mac k l).length = 32 := Mc.mac_length _ _
  generalize Mc.mac k l = D at *
  generalize Mc.block k = B at *
  have HD := hide hD
  have HI := hide (Is.new w (vals (List.replicate 32 0)) 23)
  have HB := hide (below_alloc w (.cells (vals (List.replicate 32 0)).toArray 23))
  generalize l.length = n at *
  clear hD hk hl ht hkb hlb hkn
  go_enter Tryd.func35, Tryd.ntmps35
  go_wp2_with (first
    | (go_at_call 45; refine (HK.out _ HB.out).mono ?_; rintro e w1 ⟨rfl, hb1⟩; have hb1' := HB.out.trans (hb1.mono HB.out.size); have hI1 := HI.out.below hb1 HI.out.lt)
    | (go_at_call 44; refine (HW.out _ w1.heap.size (hb1'.alloc hb1'.size _) (Is.new w1 _ 24)).mono ?_; rintro e w2 ⟨rfl, hb2⟩; have hI2 := (hI1.alloc _).below hb2 (hI1.alloc _).lt; have hb2' := (hb1'.alloc hb1'.size _).trans (hb2.mono (hb1'.alloc hb1'.size _).size))
    | (refine wpList_store_any 23 (vals (List.replicate 32 0)) (vals D) w.heap.size hI2 size_dig (by simp [vals]) (by rw [vals_length]; exact HD.out) (vals_one _) rfl (.tmp 4) (.tmp 9) rfl rfl rfl rfl ?_; intro w7 hi7 hb7 hk7 hz7))
  have hr := hi7.cellsOf Tryd.underlying23 (by rw [vals_length, HD.out]; exact size_dig)
  exact bodyPost_ret (v := .agg (vals D).toArray) (results_cell1 Tryd.results35 rfl hr) rfl ⟨rfl, hb7 _ _ hb2' (Nat.le_refl _)⟩
end Go.Proofs.YtdeddnlagbeanaaDoor
