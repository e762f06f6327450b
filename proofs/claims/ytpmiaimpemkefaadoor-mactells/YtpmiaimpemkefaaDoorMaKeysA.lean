/- The walk of MacKeys where the key is long, or the count is out of range: a key longer than a block is as its Sum; bytes 0 behind a shorter one, to a block, change nothing. -/
import Derived.Test.YtpmiaimpemkefaaDoorMaExp
import Derived.Test.YtpmiaimpemkefaaDoorOwnNew
namespace Go.Proofs.YtpmiaimpemkefaaDoor
open Go.RowKit
set_option linter.unusedVariables false

theorem nil_has (w : World) : Has w (.slice none 0 0) [] := .inl ⟨none, 0, rfl, rfl, by unfold maxLen; omega, fun _ => rfl⟩
theorem none_ne : Mc.mac [] [] ≠ List.replicate 32 0 := fun e => by
  have := Mc.none_at
  rw [e] at this
  cases this
theorem zero_dig (w : World) : (zeroValue 24).run Tryd.prog w = .ok (.agg (vals (List.replicate 32 0)).toArray) w := by
  have h : (Tryd.prog.info? 24).map (fun i => (i.zero, i.size)) = some (some (.agg (vals (List.replicate 32 0)).toArray), 32) := by kernel_rfl
  exact (zero_of_info h).1 w
/-- A digest held against the one of bytes 0. -/
theorem dig_zero (D : List Int) (hD : D.length = 32) (hne : D ≠ List.replicate 32 0) (w : World) : (Op.equalIn 10000 24 (.agg (vals D).toArray) (.agg (vals (List.replicate 32 0)).toArray)).run Tryd.prog w = .ok false w := by
  rw [dig_eq _ _ hD (by simp), decide_eq_false hne]

/-- What stands while the other digest is told. -/
theorem kept_below {w W W' : World} {D x : List Int} {b : Nat} {v : Value} (h : W.rangeAt b 0 (vals D) ∧ Below w.heap.size w W ∧ Has W v x) (hb : Below W.heap.size W W') : W'.rangeAt b 0 (vals D) ∧ Below w.heap.size w W' ∧ Has W' v x :=
  ⟨range_below h.1 hb, h.2.1.trans (hb.mono h.2.1.size), h.2.2.below hb⟩

set_option maxRecDepth 100000 in
set_option maxHeartbeats 4000000 in
theorem keys_long (vk vb : Value) (k l : List Int) (z : Int) (w : World) (hk : Has w vk k) (hl : Has w vb l) (hkb : Sz.Byt k) (hlb : Sz.Byt l) (ht : Tab w) (hw : 1 < w.heap.size) (hkn : k.length < 400000000000000) (hln : l.length < 400000000000000) (hlong : 64 < k.length) :
    Calls Tryd.prog 4 #[vk, vb, .int .i64 z] w fun e w' => e = .returned (.bool true) ∧ Below w.heap.size w w' := by
  obtain ⟨ka, kc, rfl⟩ := hk.form
  have HM0 := hide (mac_any (.slice none 0 0) (.slice none 0 0) [] [] w (nil_has w) (nil_has w) Sz.Byt.nil Sz.Byt.nil ht hw (by simp) (by simp))
  have HM1 : Hid (∀ w', Below w.heap.size w w' → Calls Tryd.prog 6 #[.slice ka k.length kc, vb] w' fun e w'' => e = .returned (.agg (vals (Mc.mac k l)).toArray) ∧ Below w'.heap.size w' w'') := fun w' hb => mac_any _ vb k l w' (hk.below hb) (hl.below hb) hkb hlb (ht.below hb hw) (Nat.lt_of_lt_of_le hw hb.size) (by omega) (by omega)
  have HM2 : Hid (∀ w' v x, Below w.heap.size w w' → Has w' v x → Sz.Byt x → x.length < 400000000000000 → Calls Tryd.prog 6 #[v, vb] w' fun e w'' => e = .returned (.agg (vals (Mc.mac x l)).toArray) ∧ Below w'.heap.size w' w'') := fun w' v x hb hx hxb hxn => mac_any _ vb x l w' hx (hl.below hb) hxb hlb (ht.below hb hw) (Nat.lt_of_lt_of_le hw hb.size) (by omega) (by omega)
  have hne := none_ne
  have h0l : (Mc.mac [] []).length = 32 := Mc.mac_length _ _
  have hDl : (Mc.mac k l).length = 32 := Mc.mac_length _ _
  have heq0 := dig_zero (Mc.mac [] []) h0l hne
  have hzd := zero_dig
  obtain ⟨Zd, hZd⟩ : ∃ Zd, Zd = vals (List.replicate 32 0) := ⟨_, rfl⟩
  rw [← hZd] at heq0 hzd
  have hZl : Zd.length = 32 := by rw [hZd]; simp [vals]
  have hZp : ¬ Zd = [] := by intro h; rw [h] at hZl; cases hZl
  have HZL := hide hZl
  clear hZd hZl
  have heqD : ∀ w', (Op.equalIn 10000 24 (.agg (vals (Mc.mac k l)).toArray) (.agg (vals (Mc.mac k l)).toArray)).run Tryd.prog w' = .ok true w' := fun w' => by rw [dig_eq _ _ hDl hDl]; simp
  have hgd := guard_dig
  have HLONG : Hid (64 < k.length → Mc.mac (Sh.sum k) l = Mc.mac k l) := Mc.mac_long k l
  have HZER : Hid (∀ q, k.length + q ≤ 64 → Mc.mac (k ++ List.replicate q 0) l = Mc.mac k l) := Mc.mac_zeros k l
  generalize Mc.mac [] [] = D0 at *
  generalize Mc.mac k l = D at *
  have HD0 := hide h0l
  have HD := hide hDl
  have HKH := hide hk
  have HSUM : Hid (∀ w', Below w.heap.size w w' → Calls Tryd.prog 12 #[.slice ka k.length kc] w' fun e w'' => e = .returned (.agg (vals (Sh.sum k)).toArray) ∧ Below w'.heap.size w' w'') := fun w' hb => sum_any _ k w' (hk.below hb) hkb (ht.below hb hw) (Nat.lt_of_lt_of_le hw hb.size) (by omega)
  clear hne h0l hDl hk hl ht hlb hln
  have hli : (64 : Int) < (k.length : Int) := by omega
  have hS := HLONG.out hlong
  have hSl := Mc.sum_length k
  have hSb := Mc.sum_byt k
  generalize Sh.sum k = S at *
  have HS := hide hS
  have HSL := hide hSl
  generalize k.length = n at *
  clear hS hSl HLONG HZER HKH hkb
  go_enter Tryd.func4, Tryd.ntmps4
  go_wp2_with (first
    | (go_at_call 6; refine HM0.out.mono ?_; rintro e w1 ⟨rfl, hb1⟩)
    | (refine wpList_store_any 24 Zd (vals D0) w1.heap.size (Is.new w1 _ _) size_dig HZL.out (by rw [vals_length]; exact HD0.out) (vals_one _) rfl (.tmp 7) (.tmp 12) rfl rfl rfl rfl ?_; intro w2 hi2 hb2 hk2 hz2; have hb2' := hb2 _ _ (hb1.alloc hb1.size _) hb1.size)
    | (refine wpList_load_arr 24 (vals D0) w1.heap.size hi2 Tryd.underlying24 size_dig (by rw [vals_length]; exact HD0.out) rfl (.tmp 7) rfl rfl ?_)
    | (go_at_call 6; refine (HM1.out _ hb2').mono ?_; rintro e w3 ⟨rfl, hb3⟩; have hb3' := hb2'.trans (hb3.mono hb2'.size))
    | (refine wpList_store_any 24 Zd (vals D) w3.heap.size (Is.new w3 _ _) size_dig HZL.out (by rw [vals_length]; exact HD.out) (vals_one _) rfl (.tmp 8) (.tmp 18) rfl rfl rfl rfl ?_; intro w4 hi4 hb4 hk4 hz4; have hb4' := hb4 _ _ (hb3'.alloc hb3'.size _) hb3'.size)
    | (go_at_call 12; refine (HSUM.out _ hb4').mono ?_; rintro e w5 ⟨rfl, hb5⟩; have hb5' := hb4'.trans (hb5.mono hb4'.size))
    | (refine wpList_store_any 24 Zd (vals S) w5.heap.size (Is.new w5 _ _) size_dig HZL.out (by rw [vals_length]; exact HSL.out) (vals_one _) rfl (.tmp 9) (.tmp 23) rfl rfl rfl rfl ?_; intro w6 hi6 hb6 hk6 hz6; have hb6' := hb6 _ _ (hb5'.alloc hb5'.size _) hb5'.size))
  have hI6 : Is w6 w3.heap.size (vals D) 24 := hk6 _ _ _ (by have := hi4.lt; have := hb5.size; omega) ((hi4.below hb5 hi4.lt).alloc _)
  have hS0 : w6.rangeAt w3.heap.size 0 (vals D) ∧ Below w.heap.size w w6 ∧ Has w6 (.slice (some ⟨w5.heap.size, 0, none⟩) 32 32) S := ⟨hI6.range, hb6', hi6.has HSL.out (by omega)⟩
  obtain ⟨b8, hb8⟩ : ∃ b8, b8 = w3.heap.size := ⟨_, rfl⟩
  obtain ⟨b9, hb9⟩ : ∃ b9, b9 = w5.heap.size := ⟨_, rfl⟩
  rw [← hb8, ← hb9] at hS0 ⊢
  have HM3 : Hid (∀ W, (W.rangeAt b8 0 (vals D) ∧ Below w.heap.size w W ∧ Has W (.slice (some ⟨b9, 0, none⟩) 32 32) S) → Calls Tryd.prog 6 #[.slice (some ⟨b9, 0, none⟩) 32 32, vb] W fun e w'' => e = .returned (.agg (vals D).toArray) ∧ Below W.heap.size W w'') := fun W h => by
    have := HM2.out W _ S h.2.1 h.2.2 hSb (by rw [HSL.out]; omega)
    rwa [HS.out] at this
  have HS0 := hide hS0
  have hul2 := Tryd.underlying24
  have hsz2 : (Tryd.prog.info? 24).map (·.size) = some (vals D).length := by rw [vals_length, HD.out]; exact size_dig
  have HB6 := hide hb6'
  clear hb1 hi2 hb2 hk2 hz2 hb2' hb3 hb3' hi4 hb4 hk4 hz4 hb4' hb5 hb5' hi6 hb6 hk6 hz6 hb6' hI6 hS0 hb8 hb9 HM0 HM1 HM2 HSUM heq0 hzd
  go_region_held2 (fun W : World => W.rangeAt b8 0 (vals D) ∧ Below w.heap.size w W ∧ Has W (.slice (some ⟨b9, 0, none⟩) 32 32) S)
    ((first
      | exact kept_below HS0.out ((Below.refl _ _).drew)
      | assumption
      | exact kept_below (by assumption) hb7))
    ((go_at_call 6; refine (HM3.out _ (by assumption)).mono ?_; rintro e w7 ⟨rfl, hb7⟩))
  · go_wp2
    go_ret
    exact ⟨rfl, HB6.out.drew.trans (hb7.mono HB6.out.size)⟩

set_option maxRecDepth 100000 in
set_option maxHeartbeats 4000000 in
theorem keys_below (vk vb : Value) (k l : List Int) (z : Int) (w : World) (hk : Has w vk k) (hl : Has w vb l) (hkb : Sz.Byt k) (hlb : Sz.Byt l) (ht : Tab w) (hw : 1 < w.heap.size) (hkn : k.length < 400000000000000) (hln : l.length < 400000000000000) (hshort : k.length ≤ 64) (hz0 : z < 0) :
    Calls Tryd.prog 4 #[vk, vb, .int .i64 z] w fun e w' => e = .returned (.bool true) ∧ Below w.heap.size w w' := by
  obtain ⟨ka, kc, rfl⟩ := hk.form
  have HM0 := hide (mac_any (.slice none 0 0) (.slice none 0 0) [] [] w (nil_has w) (nil_has w) Sz.Byt.nil Sz.Byt.nil ht hw (by simp) (by simp))
  have HM1 : Hid (∀ w', Below w.heap.size w w' → Calls Tryd.prog 6 #[.slice ka k.length kc, vb] w' fun e w'' => e = .returned (.agg (vals (Mc.mac k l)).toArray) ∧ Below w'.heap.size w' w'') := fun w' hb => mac_any _ vb k l w' (hk.below hb) (hl.below hb) hkb hlb (ht.below hb hw) (Nat.lt_of_lt_of_le hw hb.size) (by omega) (by omega)
  have HM2 : Hid (∀ w' v x, Below w.heap.size w w' → Has w' v x → Sz.Byt x → x.length < 400000000000000 → Calls Tryd.prog 6 #[v, vb] w' fun e w'' => e = .returned (.agg (vals (Mc.mac x l)).toArray) ∧ Below w'.heap.size w' w'') := fun w' v x hb hx hxb hxn => mac_any _ vb x l w' hx (hl.below hb) hxb hlb (ht.below hb hw) (Nat.lt_of_lt_of_le hw hb.size) (by omega) (by omega)
  have hne := none_ne
  have h0l : (Mc.mac [] []).length = 32 := Mc.mac_length _ _
  have hDl : (Mc.mac k l).length = 32 := Mc.mac_length _ _
  have heq0 := dig_zero (Mc.mac [] []) h0l hne
  have hzd := zero_dig
  obtain ⟨Zd, hZd⟩ : ∃ Zd, Zd = vals (List.replicate 32 0) := ⟨_, rfl⟩
  rw [← hZd] at heq0 hzd
  have hZl : Zd.length = 32 := by rw [hZd]; simp [vals]
  have hZp : ¬ Zd = [] := by intro h; rw [h] at hZl; cases hZl
  have HZL := hide hZl
  clear hZd hZl
  have heqD : ∀ w', (Op.equalIn 10000 24 (.agg (vals (Mc.mac k l)).toArray) (.agg (vals (Mc.mac k l)).toArray)).run Tryd.prog w' = .ok true w' := fun w' => by rw [dig_eq _ _ hDl hDl]; simp
  have hgd := guard_dig
  have HLONG : Hid (64 < k.length → Mc.mac (Sh.sum k) l = Mc.mac k l) := Mc.mac_long k l
  have HZER : Hid (∀ q, k.length + q ≤ 64 → Mc.mac (k ++ List.replicate q 0) l = Mc.mac k l) := Mc.mac_zeros k l
  generalize Mc.mac [] [] = D0 at *
  generalize Mc.mac k l = D at *
  have HD0 := hide h0l
  have HD := hide hDl
  have HKH := hide hk
  have HSUM : Hid (∀ w', Below w.heap.size w w' → Calls Tryd.prog 12 #[.slice ka k.length kc] w' fun e w'' => e = .returned (.agg (vals (Sh.sum k)).toArray) ∧ Below w'.heap.size w' w'') := fun w' hb => sum_any _ k w' (hk.below hb) hkb (ht.below hb hw) (Nat.lt_of_lt_of_le hw hb.size) (by omega)
  clear hne h0l hDl hk hl ht hlb hln
  have hli : ¬ (64 : Int) < (k.length : Int) := by omega
  generalize k.length = n at *
  clear HLONG HZER HKH hkb HM2 HSUM
  go_enter Tryd.func4, Tryd.ntmps4
  go_wp2_with (first
  | (go_at_call 6; refine HM0.out.mono ?_; rintro e w1 ⟨rfl, hb1⟩)
  | (refine wpList_store_any 24 Zd (vals D0) w1.heap.size (Is.new w1 _ _) size_dig HZL.out (by rw [vals_length]; exact HD0.out) (vals_one _) rfl (.tmp 7) (.tmp 12) rfl rfl rfl rfl ?_; intro w2 hi2 hb2 hk2 hz2; have hb2' := hb2 _ _ (hb1.alloc hb1.size _) hb1.size)
  | (refine wpList_load_arr 24 (vals D0) w1.heap.size hi2 Tryd.underlying24 size_dig (by rw [vals_length]; exact HD0.out) rfl (.tmp 7) rfl rfl ?_)
  | (go_at_call 6; refine (HM1.out _ hb2').mono ?_; rintro e w3 ⟨rfl, hb3⟩; have hb3' := hb2'.trans (hb3.mono hb2'.size))
  | (refine wpList_store_any 24 Zd (vals D) w3.heap.size (Is.new w3 _ _) size_dig HZL.out (by rw [vals_length]; exact HD.out) (vals_one _) rfl (.tmp 8) (.tmp 18) rfl rfl rfl rfl ?_; intro w4 hi4 hb4 hk4 hz4; have hb4' := hb4 _ _ (hb3'.alloc hb3'.size _) hb3'.size))
  go_ret
  exact ⟨rfl, hb4'⟩

set_option maxRecDepth 100000 in
set_option maxHeartbeats 4000000 in
theorem keys_above (vk vb : Value) (k l : List Int) (z : Int) (w : World) (hk : Has w vk k) (hl : Has w vb l) (hkb : Sz.Byt k) (hlb : Sz.Byt l) (ht : Tab w) (hw : 1 < w.heap.size) (hkn : k.length < 400000000000000) (hln : l.length < 400000000000000) (hshort : k.length ≤ 64) (hz0 : ¬ z < 0) (hz1 : 64 - (k.length : Int) < z) :
    Calls Tryd.prog 4 #[vk, vb, .int .i64 z] w fun e w' => e = .returned (.bool true) ∧ Below w.heap.size w w' := by
  obtain ⟨ka, kc, rfl⟩ := hk.form
  have HM0 := hide (mac_any (.slice none 0 0) (.slice none 0 0) [] [] w (nil_has w) (nil_has w) Sz.Byt.nil Sz.Byt.nil ht hw (by simp) (by simp))
  have HM1 : Hid (∀ w', Below w.heap.size w w' → Calls Tryd.prog 6 #[.slice ka k.length kc, vb] w' fun e w'' => e = .returned (.agg (vals (Mc.mac k l)).toArray) ∧ Below w'.heap.size w' w'') := fun w' hb => mac_any _ vb k l w' (hk.below hb) (hl.below hb) hkb hlb (ht.below hb hw) (Nat.lt_of_lt_of_le hw hb.size) (by omega) (by omega)
  have HM2 : Hid (∀ w' v x, Below w.heap.size w w' → Has w' v x → Sz.Byt x → x.length < 400000000000000 → Calls Tryd.prog 6 #[v, vb] w' fun e w'' => e = .returned (.agg (vals (Mc.mac x l)).toArray) ∧ Below w'.heap.size w' w'') := fun w' v x hb hx hxb hxn => mac_any _ vb x l w' hx (hl.below hb) hxb hlb (ht.below hb hw) (Nat.lt_of_lt_of_le hw hb.size) (by omega) (by omega)
  have hne := none_ne
  have h0l : (Mc.mac [] []).length = 32 := Mc.mac_length _ _
  have hDl : (Mc.mac k l).length = 32 := Mc.mac_length _ _
  have heq0 := dig_zero (Mc.mac [] []) h0l hne
  have hzd := zero_dig
  obtain ⟨Zd, hZd⟩ : ∃ Zd, Zd = vals (List.replicate 32 0) := ⟨_, rfl⟩
  rw [← hZd] at heq0 hzd
  have hZl : Zd.length = 32 := by rw [hZd]; simp [vals]
  have hZp : ¬ Zd = [] := by intro h; rw [h] at hZl; cases hZl
  have HZL := hide hZl
  clear hZd hZl
  have heqD : ∀ w', (Op.equalIn 10000 24 (.agg (vals (Mc.mac k l)).toArray) (.agg (vals (Mc.mac k l)).toArray)).run Tryd.prog w' = .ok true w' := fun w' => by rw [dig_eq _ _ hDl hDl]; simp
  have hgd := guard_dig
  have HLONG : Hid (64 < k.length → Mc.mac (Sh.sum k) l = Mc.mac k l) := Mc.mac_long k l
  have HZER : Hid (∀ q, k.length + q ≤ 64 → Mc.mac (k ++ List.replicate q 0) l = Mc.mac k l) := Mc.mac_zeros k l
  generalize Mc.mac [] [] = D0 at *
  generalize Mc.mac k l = D at *
  have HD0 := hide h0l
  have HD := hide hDl
  have HKH := hide hk
  have HSUM : Hid (∀ w', Below w.heap.size w w' → Calls Tryd.prog 12 #[.slice ka k.length kc] w' fun e w'' => e = .returned (.agg (vals (Sh.sum k)).toArray) ∧ Below w'.heap.size w' w'') := fun w' hb => sum_any _ k w' (hk.below hb) hkb (ht.below hb hw) (Nat.lt_of_lt_of_le hw hb.size) (by omega)
  clear hne h0l hDl hk hl ht hlb hln
  have hli : ¬ (64 : Int) < (k.length : Int) := by omega
  generalize k.length = n at *
  clear HLONG HZER HKH hkb HM2 HSUM
  go_enter Tryd.func4, Tryd.ntmps4
  go_wp2_with (first
  | (go_at_call 6; refine HM0.out.mono ?_; rintro e w1 ⟨rfl, hb1⟩)
  | (refine wpList_store_any 24 Zd (vals D0) w1.heap.size (Is.new w1 _ _) size_dig HZL.out (by rw [vals_length]; exact HD0.out) (vals_one _) rfl (.tmp 7) (.tmp 12) rfl rfl rfl rfl ?_; intro w2 hi2 hb2 hk2 hz2; have hb2' := hb2 _ _ (hb1.alloc hb1.size _) hb1.size)
  | (refine wpList_load_arr 24 (vals D0) w1.heap.size hi2 Tryd.underlying24 size_dig (by rw [vals_length]; exact HD0.out) rfl (.tmp 7) rfl rfl ?_)
  | (go_at_call 6; refine (HM1.out _ hb2').mono ?_; rintro e w3 ⟨rfl, hb3⟩; have hb3' := hb2'.trans (hb3.mono hb2'.size))
  | (refine wpList_store_any 24 Zd (vals D) w3.heap.size (Is.new w3 _ _) size_dig HZL.out (by rw [vals_length]; exact HD.out) (vals_one _) rfl (.tmp 8) (.tmp 18) rfl rfl rfl rfl ?_; intro w4 hi4 hb4 hk4 hz4; have hb4' := hb4 _ _ (hb3'.alloc hb3'.size _) hb3'.size))
  go_ret
  exact ⟨rfl, hb4'⟩
end Go.Proofs.YtpmiaimpemkefaaDoor
