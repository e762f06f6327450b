/- The walk of MacTells: mac.Mac and mac.Expand tell what the document's functions tell, for any key, any bytes and any count. -/
import Derived.Test.YtpmiaimpemkefaaDoorRExp
import Derived.Test.YtpmiaimpemkefaaDoorTold2
namespace Go.Proofs.YtpmiaimpemkefaaDoor
open Go.RowKit
set_option linter.unusedVariables false

theorem same_refl (l : List Int) : sameB l l = true := by unfold sameB; simp
theorem eq_refl (c : Int) : (c == c) = true := by simp

set_option maxRecDepth 100000 in
set_option maxHeartbeats 1600000 in
theorem mtells_below (vk vb : Value) (k l : List Int) (n : Int) (w : World) (hE : ErrVar w) (ht : Tab w) (hw : 1 < w.heap.size) (hk : Has w vk k) (hl : Has w vb l) (hkb : Sz.Byt k) (hlb : Sz.Byt l) (hkn : k.length ≤ 147000000000000) (hln : l.length ≤ 147000000000000) (h0 : n < 0) :
    Calls Tryd.prog 3 #[vk, vb, .int .i64 n] w fun e w' => e = .returned (.bool true) ∧ Below w.heap.size w w' := by
  have HM0 := hide (mac_any (.slice none 0 0) (.slice none 0 0) [] [] w (nil_has w) (nil_has w) Sz.Byt.nil Sz.Byt.nil ht hw (by simp) (by simp))
  have HM1 : Hid (∀ w', Below w.heap.size w w' → Calls Tryd.prog 6 #[vk, vb] w' fun e w'' => e = .returned (.agg (vals (Mc.mac k l)).toArray) ∧ Below w'.heap.size w' w'') := fun w' hb => mac_any _ vb k l w' (hk.below hb) (hl.below hb) hkb hlb (ht.below hb hw) (Nat.lt_of_lt_of_le hw hb.size) (by omega) (by omega)
  have HM2 : Hid (∀ w', Below w.heap.size w w' → Calls Tryd.prog 7 #[vk, vb] w' fun e w'' => e = .returned (.agg (vals (Mc.mac k l)).toArray) ∧ Below w'.heap.size w' w'') := fun w' hb => rmac_any _ vb k l w' (hk.below hb) (hl.below hb) hkb hlb (by omega) (by omega)
  have hne := none_ne
  have h0l : (Mc.mac [] []).length = 32 := Mc.mac_length _ _
  have hDl : (Mc.mac k l).length = 32 := Mc.mac_length _ _
  have heq0 := dig_zero (Mc.mac [] []) h0l hne
  have hzd := zero_dig
  obtain ⟨Zd, hZd⟩ : ∃ Zd, Zd = vals (List.replicate 32 0) := ⟨_, rfl⟩
  rw [← hZd] at heq0 hzd
  have hZl : Zd.length = 32 := by rw [hZd]; simp [vals]
  have hZp : ¬ Zd = [] := by intro h; rw [h] at hZl; cases hZl
  have HZL := hide hZl
  have heqD : ∀ w', (Op.equalIn 10000 24 (.agg (vals (Mc.mac k l)).toArray) (.agg (vals (Mc.mac k l)).toArray)).run Tryd.prog w' = .ok true w' := fun w' => by rw [dig_eq _ _ hDl hDl]; simp
  have hgd := guard_dig
  generalize Mc.mac [] [] = D0 at *
  generalize Mc.mac k l = D at *
  have HD0 := hide h0l
  have HEV := hide hE
  clear hZd hZl hne h0l hDl hk hl ht hkb hlb hkn hln hE
  go_enter Tryd.func3, Tryd.ntmps3
  go_wp2_with fail
  refine HM0.out.mono ?_
  rintro e w1 ⟨rfl, hb1⟩
  go_wp2_with (first
    | (refine wpList_store_any 24 Zd (vals D0) w1.heap.size (Is.new w1 _ _) size_dig HZL.out (by rw [vals_length]; exact HD0.out) (vals_one _) rfl (.tmp 7) (.tmp 14) rfl rfl rfl rfl ?_; intro w2 hi2 hb2 hk2 hz2; have hb2' := hb2 _ _ (hb1.alloc hb1.size _) hb1.size)
    | (refine wpList_load_arr 24 (vals D0) w1.heap.size hi2 Tryd.underlying24 size_dig (by rw [vals_length]; exact HD0.out) rfl (.tmp 7) rfl rfl ?_))
  refine (HM1.out _ hb2').mono ?_
  rintro e w3 ⟨rfl, hb3⟩
  have hb3' := hb2'.trans (hb3.mono hb2'.size)
  clear hi2 hb2 hk2 hz2 hb3
  go_wp2_with fail
  refine (HM2.out _ hb3').mono ?_
  rintro e w4 ⟨rfl, hb4⟩
  have hb4' := hb3'.trans (hb4.mono hb3'.size)
  clear hb3' hb2' hb1 hb4 HM0 HM1 HM2
  go_wp2_with fail
  refine (expand_out vk vb n _ (.inl h0)).mono ?_
  rintro e w5 ⟨rfl, rfl⟩
  have herr := error_any 2 2 w4 (HEV.out.below hb4')
  have e2 : errV 2 = .iface 26 (.int .i64 2) := rfl
  rw [e2, eq_refl] at herr
  have HER := hide herr
  clear herr e2
  go_wp2_with fail
  refine HER.out.mono ?_
  rintro e w6 ⟨rfl, hb6⟩
  have hby := bytes_any (.slice none 0 0) (.slice none 0 0) [] [] w6 (nil_has _) (nil_has _)
  rw [same_refl] at hby
  have HBY := hide hby
  clear hby
  go_wp2_with fail
  refine HBY.out.mono ?_
  rintro e w7 ⟨rfl, hb7⟩
  go_wp2
  go_ret
  have hb6' := hb4'.trans (hb6.mono hb4'.size)
  exact ⟨rfl, hb6'.trans (hb7.mono hb6'.size)⟩

set_option maxRecDepth 100000 in
set_option maxHeartbeats 1600000 in
theorem mtells_above (vk vb : Value) (k l : List Int) (n : Int) (w : World) (hE : ErrVar w) (ht : Tab w) (hw : 1 < w.heap.size) (hk : Has w vk k) (hl : Has w vb l) (hkb : Sz.Byt k) (hlb : Sz.Byt l) (hkn : k.length ≤ 147000000000000) (hln : l.length ≤ 147000000000000) (h0 : ¬ n < 0) (h1 : 2000 < n) :
    Calls Tryd.prog 3 #[vk, vb, .int .i64 n] w fun e w' => e = .returned (.bool true) ∧ Below w.heap.size w w' := by
  have HM0 := hide (mac_any (.slice none 0 0) (.slice none 0 0) [] [] w (nil_has w) (nil_has w) Sz.Byt.nil Sz.Byt.nil ht hw (by simp) (by simp))
  have HM1 : Hid (∀ w', Below w.heap.size w w' → Calls Tryd.prog 6 #[vk, vb] w' fun e w'' => e = .returned (.agg (vals (Mc.mac k l)).toArray) ∧ Below w'.heap.size w' w'') := fun w' hb => mac_any _ vb k l w' (hk.below hb) (hl.below hb) hkb hlb (ht.below hb hw) (Nat.lt_of_lt_of_le hw hb.size) (by omega) (by omega)
  have HM2 : Hid (∀ w', Below w.heap.size w w' → Calls Tryd.prog 7 #[vk, vb] w' fun e w'' => e = .returned (.agg (vals (Mc.mac k l)).toArray) ∧ Below w'.heap.size w' w'') := fun w' hb => rmac_any _ vb k l w' (hk.below hb) (hl.below hb) hkb hlb (by omega) (by omega)
  have hne := none_ne
  have h0l : (Mc.mac [] []).length = 32 := Mc.mac_length _ _
  have hDl : (Mc.mac k l).length = 32 := Mc.mac_length _ _
  have heq0 := dig_zero (Mc.mac [] []) h0l hne
  have hzd := zero_dig
  obtain ⟨Zd, hZd⟩ : ∃ Zd, Zd = vals (List.replicate 32 0) := ⟨_, rfl⟩
  rw [← hZd] at heq0 hzd
  have hZl : Zd.length = 32 := by rw [hZd]; simp [vals]
  have hZp : ¬ Zd = [] := by intro h; rw [h] at hZl; cases hZl
  have HZL := hide hZl
  have heqD : ∀ w', (Op.equalIn 10000 24 (.agg (vals (Mc.mac k l)).toArray) (.agg (vals (Mc.mac k l)).toArray)).run Tryd.prog w' = .ok true w' := fun w' => by rw [dig_eq _ _ hDl hDl]; simp
  have hgd := guard_dig
  generalize Mc.mac [] [] = D0 at *
  generalize Mc.mac k l = D at *
  have HD0 := hide h0l
  have HEV := hide hE
  clear hZd hZl hne h0l hDl hk hl ht hkb hlb hkn hln hE
  go_enter Tryd.func3, Tryd.ntmps3
  go_wp2_with fail
  refine HM0.out.mono ?_
  rintro e w1 ⟨rfl, hb1⟩
  go_wp2_with (first
    | (refine wpList_store_any 24 Zd (vals D0) w1.heap.size (Is.new w1 _ _) size_dig HZL.out (by rw [vals_length]; exact HD0.out) (vals_one _) rfl (.tmp 7) (.tmp 14) rfl rfl rfl rfl ?_; intro w2 hi2 hb2 hk2 hz2; have hb2' := hb2 _ _ (hb1.alloc hb1.size _) hb1.size)
    | (refine wpList_load_arr 24 (vals D0) w1.heap.size hi2 Tryd.underlying24 size_dig (by rw [vals_length]; exact HD0.out) rfl (.tmp 7) rfl rfl ?_))
  refine (HM1.out _ hb2').mono ?_
  rintro e w3 ⟨rfl, hb3⟩
  have hb3' := hb2'.trans (hb3.mono hb2'.size)
  clear hi2 hb2 hk2 hz2 hb3
  go_wp2_with fail
  refine (HM2.out _ hb3').mono ?_
  rintro e w4 ⟨rfl, hb4⟩
  have hb4' := hb3'.trans (hb4.mono hb3'.size)
  clear hb3' hb2' hb1 hb4 HM0 HM1 HM2
  go_wp2_with fail
  refine (expand_out vk vb n _ (.inr h1)).mono ?_
  rintro e w5 ⟨rfl, rfl⟩
  have herr := error_any 2 2 w4 (HEV.out.below hb4')
  have e2 : errV 2 = .iface 26 (.int .i64 2) := rfl
  rw [e2, eq_refl] at herr
  have HER := hide herr
  clear herr e2
  go_wp2_with fail
  refine HER.out.mono ?_
  rintro e w6 ⟨rfl, hb6⟩
  have hby := bytes_any (.slice none 0 0) (.slice none 0 0) [] [] w6 (nil_has _) (nil_has _)
  rw [same_refl] at hby
  have HBY := hide hby
  clear hby
  go_wp2_with fail
  refine HBY.out.mono ?_
  rintro e w7 ⟨rfl, hb7⟩
  go_wp2
  go_ret
  have hb6' := hb4'.trans (hb6.mono hb4'.size)
  exact ⟨rfl, hb6'.trans (hb7.mono hb6'.size)⟩

set_option maxRecDepth 100000 in
set_option maxHeartbeats 1600000 in
theorem mtells_in (vk vb : Value) (k l : List Int) (n : Int) (w : World) (hE : ErrVar w) (ht : Tab w) (hw : 1 < w.heap.size) (hk : Has w vk k) (hl : Has w vb l) (hkb : Sz.Byt k) (hlb : Sz.Byt l) (hkn : k.length ≤ 147000000000000) (hln : l.length ≤ 147000000000000) (h0 : 0 ≤ n) (h1 : n ≤ 2000) :
    Calls Tryd.prog 3 #[vk, vb, .int .i64 n] w fun e w' => e = .returned (.bool true) ∧ Below w.heap.size w w' := by
  obtain ⟨N, rfl⟩ := Int.eq_ofNat_of_zero_le h0
  have hN : N ≤ 2000 := by omega
  have hn0 : ¬ (N : Int) < 0 := by omega
  have hn1 : ¬ (2000 : Int) < (N : Int) := by omega
  have HX : Hid (∀ w', Below w.heap.size w w' → Calls Tryd.prog 9 #[vk, vb, .int .i64 (N : Int)] w' fun e w'' => ∃ v, e = .returned (.tuple #[v, .nilIface]) ∧ Own w'' w'.heap.size v (Mc.expand k l N) ∧ Below w'.heap.size w' w'') := fun w' hb => expand_in vk vb k l N w' (hk.below hb) (hl.below hb) hkb hlb (ht.below hb hw) (Nat.lt_of_lt_of_le hw hb.size) (by omega) (by omega) hN
  have HR : Hid (∀ w', Below w.heap.size w w' → Calls Tryd.prog 8 #[vk, vb, .int .i64 (N : Int)] w' fun e w'' => ∃ v, e = .returned v ∧ Has w'' v (Mc.expand k l N) ∧ Below w'.heap.size w' w'') := fun w' hb => rexp_any vk vb k l N w' (hk.below hb) (hl.below hb) hkb hlb (by omega) (by omega) hN
  generalize Mc.expand k l N = X at *
  have HM0 := hide (mac_any (.slice none 0 0) (.slice none 0 0) [] [] w (nil_has w) (nil_has w) Sz.Byt.nil Sz.Byt.nil ht hw (by simp) (by simp))
  have HM1 : Hid (∀ w', Below w.heap.size w w' → Calls Tryd.prog 6 #[vk, vb] w' fun e w'' => e = .returned (.agg (vals (Mc.mac k l)).toArray) ∧ Below w'.heap.size w' w'') := fun w' hb => mac_any _ vb k l w' (hk.below hb) (hl.below hb) hkb hlb (ht.below hb hw) (Nat.lt_of_lt_of_le hw hb.size) (by omega) (by omega)
  have HM2 : Hid (∀ w', Below w.heap.size w w' → Calls Tryd.prog 7 #[vk, vb] w' fun e w'' => e = .returned (.agg (vals (Mc.mac k l)).toArray) ∧ Below w'.heap.size w' w'') := fun w' hb => rmac_any _ vb k l w' (hk.below hb) (hl.below hb) hkb hlb (by omega) (by omega)
  have hne := none_ne
  have h0l : (Mc.mac [] []).length = 32 := Mc.mac_length _ _
  have hDl : (Mc.mac k l).length = 32 := Mc.mac_length _ _
  have heq0 := dig_zero (Mc.mac [] []) h0l hne
  have hzd := zero_dig
  obtain ⟨Zd, hZd⟩ : ∃ Zd, Zd = vals (List.replicate 32 0) := ⟨_, rfl⟩
  rw [← hZd] at heq0 hzd
  have hZl : Zd.length = 32 := by rw [hZd]; simp [vals]
  have hZp : ¬ Zd = [] := by intro h; rw [h] at hZl; cases hZl
  have HZL := hide hZl
  have heqD : ∀ w', (Op.equalIn 10000 24 (.agg (vals (Mc.mac k l)).toArray) (.agg (vals (Mc.mac k l)).toArray)).run Tryd.prog w' = .ok true w' := fun w' => by rw [dig_eq _ _ hDl hDl]; simp
  have hgd := guard_dig
  generalize Mc.mac [] [] = D0 at *
  generalize Mc.mac k l = D at *
  have HD0 := hide h0l
  have HEV := hide hE
  clear hZd hZl hne h0l hDl hk hl ht hkb hlb hkn hln hE
  go_enter Tryd.func3, Tryd.ntmps3
  go_wp2_with fail
  refine HM0.out.mono ?_
  rintro e w1 ⟨rfl, hb1⟩
  go_wp2_with (first
    | (refine wpList_store_any 24 Zd (vals D0) w1.heap.size (Is.new w1 _ _) size_dig HZL.out (by rw [vals_length]; exact HD0.out) (vals_one _) rfl (.tmp 7) (.tmp 14) rfl rfl rfl rfl ?_; intro w2 hi2 hb2 hk2 hz2; have hb2' := hb2 _ _ (hb1.alloc hb1.size _) hb1.size)
    | (refine wpList_load_arr 24 (vals D0) w1.heap.size hi2 Tryd.underlying24 size_dig (by rw [vals_length]; exact HD0.out) rfl (.tmp 7) rfl rfl ?_))
  refine (HM1.out _ hb2').mono ?_
  rintro e w3 ⟨rfl, hb3⟩
  have hb3' := hb2'.trans (hb3.mono hb2'.size)
  clear hi2 hb2 hk2 hz2 hb3
  go_wp2_with fail
  refine (HM2.out _ hb3').mono ?_
  rintro e w4 ⟨rfl, hb4⟩
  have hb4' := hb3'.trans (hb4.mono hb3'.size)
  clear hb3' hb2' hb1 hb4 HM0 HM1 HM2
  go_wp2_with fail
  refine (HR.out _ hb4').mono ?_
  rintro e w5 ⟨v5, rfl, hv5, hb5⟩
  have hb5' := hb4'.trans (hb5.mono hb4'.size)
  go_wp2_with fail
  refine (HX.out _ hb5').mono ?_
  rintro e w6 ⟨v6, rfl, ho6, hb6⟩
  have hb6' := hb5'.trans (hb6.mono hb5'.size)
  have herr := error_any 0 0 w6 (HEV.out.below hb6')
  have e2 : errV 0 = .nilIface := rfl
  rw [e2, eq_refl] at herr
  have HER := hide herr
  clear herr e2
  go_wp2_with fail
  refine HER.out.mono ?_
  rintro e w7 ⟨rfl, hb7⟩
  have hb7' := hb6'.trans (hb7.mono hb6'.size)
  have hby := bytes_any v6 v5 X X w7 (ho6.has.below hb7) ((hv5.below hb6).below hb7)
  rw [same_refl] at hby
  have HBY := hide hby
  clear hby
  go_wp2_with fail
  refine HBY.out.mono ?_
  rintro e w8 ⟨rfl, hb8⟩
  go_wp2
  go_ret
  exact ⟨rfl, hb7'.trans (hb8.mono hb7'.size)⟩

theorem mtells_walk (vk vb : Value) (k l : List Int) (n : Int) (w : World) (hE : ErrVar w) (ht : Tab w) (hw : 1 < w.heap.size) (hk : Has w vk k) (hl : Has w vb l) (hkb : Sz.Byt k) (hlb : Sz.Byt l) (hkn : k.length ≤ 147000000000000) (hln : l.length ≤ 147000000000000) :
    Calls Tryd.prog 3 #[vk, vb, .int .i64 n] w fun e w' => e = .returned (.bool true) ∧ Below w.heap.size w w' := by
  by_cases h0 : n < 0
  · exact mtells_below vk vb k l n w hE ht hw hk hl hkb hlb hkn hln h0
  · by_cases h1 : 2000 < n
    · exact mtells_above vk vb k l n w hE ht hw hk hl hkb hlb hkn hln h0 h1
    · exact mtells_in vk vb k l n w hE ht hw hk hl hkb hlb hkn hln (by omega) (by omega)
end Go.Proofs.YtpmiaimpemkefaaDoor
