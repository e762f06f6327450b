/- The walk of MacKeys: a key longer than a block is as its Sum; bytes 0 behind a shorter one, to a block, change nothing. -/
import Derived.Test.YtpmiaimpemkefaaDoorMaKeysA
namespace Go.Proofs.YtpmiaimpemkefaaDoor
open Go.RowKit
set_option linter.unusedVariables false

set_option maxRecDepth 100000 in
set_option maxHeartbeats 4000000 in
theorem keys_zeros (vk vb : Value) (k l : List Int) (z : Int) (w : World) (hk : Has w vk k) (hl : Has w vb l) (hkb : Sz.Byt k) (hlb : Sz.Byt l) (ht : Tab w) (hw : 1 < w.heap.size) (hkn : k.length < 400000000000000) (hln : l.length < 400000000000000) (hshort : k.length ≤ 64) (hz0 : ¬ z < 0) (hz1 : ¬ 64 - (k.length : Int) < z) :
    Calls Tryd.prog 4 #[vk, vb, .int .i64 z] w fun e w' => e = .returned (.bool true) ∧ Below w.heap.size w w' := by
  obtain ⟨ka, kc, rfl⟩ := hk.form
  have HM0 := hide (mac_any (.slice none 0 0) (.slice none 0 0) [] [] w (nil_has w) (nil_has w) Sz.Byt.nil Sz.Byt.nil ht hw (by simp) (by simp))
  have HM1 : Hid (∀ w', Below w.heap.size w w' → Calls Tryd.prog 6 #[.slice ka k.length kc, vb] w' fun e w'' => e = .returned (.agg (vals (Mc.mac k l)).toArray) ∧ Below w'.heap.size w' w'') := fun w' hb => mac_any _ vb k l w' (hk.below hb) (hl.below hb) hkb hlb (ht.below hb hw) (Nat.lt_of_lt_of_le hw hb.size) (by omega) (by omega)
  have HM2 : Hid (∀ w' v x, Below w.heap.size w w' → Has w' v x → Sz.Byt x → x.length < 400000000000000 → Calls Tryd.prog 6 #[v, vb] w' fun e w'' => e = .returned (.agg (vals (Mc.mac x l)).toArray) ∧ Below w'.heap.size w' w'') := fun w' v x hb hx hxb hxn => mac_any _ vb x l w' hx (hl.below hb) hxb hlb (ht.below hb hw) (Nat.lt_of_lt_of_le hw hb.size) (by omega) (by omega)
  have hne := none_ne
  have h0l : (Mc.mac [] []).length = 32 := Mc.mac_length _ _
  have hDl : (Mc.mac k l).length = 32 := Mc.mac_length _ _
  have heq0 := dig_zero (Mc.mac [] []) h0l hne
  have hzd := zero_dig
  obtain ⟨Zd, hZd⟩ : ∃ Zd, Zd = vals (List.replicate 32 0) := ⟨_, rfl⟩
  rw [← hZd] at heq0 hzd
  have hZl : Zd.length = 32 := by rw [hZd]; simp [vals]
  have hZp : ¬ Zd = [] := by intro h; rw [h] at hZl; cases hZl
  have HZL := hide hZl
  clear hZd hZl
  have heqD : ∀ w', (Op.equalIn 10000 24 (.agg (vals (Mc.mac k l)).toArray) (.agg (vals (Mc.mac k l)).toArray)).run Tryd.prog w' = .ok true w' := fun w' => by rw [dig_eq _ _ hDl hDl]; simp
  have hgd := guard_dig
  have HLONG : Hid (64 < k.length → Mc.mac (Sh.sum k) l = Mc.mac k l) := Mc.mac_long k l
  have HZER : Hid (∀ q, k.length + q ≤ 64 → Mc.mac (k ++ List.replicate q 0) l = Mc.mac k l) := Mc.mac_zeros k l
  generalize Mc.mac [] [] = D0 at *
  generalize Mc.mac k l = D at *
  have HD0 := hide h0l
  have HD := hide hDl
  have HKH := hide hk
  have HSUM : Hid (∀ w', Below w.heap.size w w' → Calls Tryd.prog 12 #[.slice ka k.length kc] w' fun e w'' => e = .returned (.agg (vals (Sh.sum k)).toArray) ∧ Below w'.heap.size w' w'') := fun w' hb => sum_any _ k w' (hk.below hb) hkb (ht.below hb hw) (Nat.lt_of_lt_of_le hw hb.size) (by omega)
  clear hne h0l hDl hk hl ht hlb hln
  have hli : ¬ (64 : Int) < (k.length : Int) := by omega
  obtain ⟨Z, rfl⟩ := Int.eq_ofNat_of_zero_le (show 0 ≤ z by omega)
  have hZn : k.length + Z ≤ 64 := by omega
  obtain ⟨n, hn⟩ : ∃ n, n = k.length := ⟨_, rfl⟩
  have HN := hide hn
  rw [← hn] at HM1 hli hz1 hZn HKH ⊢
  clear hn HLONG HSUM
  have hd0 : decide ((Z : Int) < 0) = false := by simp
  have hd1 : decide (64 - (n : Int) < (Z : Int)) = false := decide_eq_false hz1
  have hd2 : decide ((64 : Int) < (n : Int)) = false := decide_eq_false hli
  clear hz0
  go_enter Tryd.func4, Tryd.ntmps4
  go_wp2_with (first
| (go_at_call 6; refine HM0.out.mono ?_; rintro e w1 ⟨rfl, hb1⟩)
| (refine wpList_store_any 24 Zd (vals D0) w1.heap.size (Is.new w1 _ _) size_dig HZL.out (by rw [vals_length]; exact HD0.out) (vals_one _) rfl (.tmp 7) (.tmp 12) rfl rfl rfl rfl ?_; intro w2 hi2 hb2 hk2 hz2; have hb2' := hb2 _ _ (hb1.alloc hb1.size _) hb1.size)
| (refine wpList_load_arr 24 (vals D0) w1.heap.size hi2 Tryd.underlying24 size_dig (by rw [vals_length]; exact HD0.out) rfl (.tmp 7) rfl rfl ?_)
| (go_at_call 6; refine (HM1.out _ hb2').mono ?_; rintro e w3 ⟨rfl, hb3⟩; have hb3' := hb2'.trans (hb3.mono hb2'.size))
| (refine wpList_store_any 24 Zd (vals D) w3.heap.size (Is.new w3 _ _) size_dig HZL.out (by rw [vals_length]; exact HD.out) (vals_one _) rfl (.tmp 8) (.tmp 18) rfl rfl rfl rfl ?_; intro w4 hi4 hb4 hk4 hz4; have hb4' := hb4 _ _ (hb3'.alloc hb3'.size _) hb3'.size)
| (at_builtin; refine wpList_append_bytes _ rfl _ _ rfl (w3.heap.size + 1) _ _ rfl (Own.empty' (k := w3.heap.size + 1) (w3.heap.size + 1) (by rw [hz4]; simp) (by rw [hz4]; simp)) _ _ rfl (HKH.out.below (hb4'.alloc hb4'.size _)) (by rw [← HN.out]; show 0 + n ≤ _; omega) (by simp [hz4]) ?_; intro v5 w5 ho5 hg5))
  rw [List.nil_append] at ho5
  have hgw : w.heap.size ≤ w3.heap.size := hb3'.size
  have hE4 := Own.empty' (w := w4) (k := w3.heap.size + 1) (w3.heap.size + 1) (by rw [hz4]; simp) (by rw [hz4]; simp)
  have hb5 : Below w.heap.size w w5 := (hb4'.alloc hb4'.size _).grown hg5 (Nat.le_trans hb4'.size (by simp)) (fun q hq => by have := (hE4.block q hq).1; omega)
  have hI5 : Is w5 w3.heap.size (vals D) 24 := (hi4.alloc _).grown hg5 (fun e => by have := (hE4.block _ e).1; omega)
  obtain ⟨g, hg⟩ : ∃ g, g = w3.heap.size := ⟨_, rfl⟩
  rw [← hg] at hgw hI5 ho5 ⊢
  have HO5 := hide ho5
  have HI5 := hide hI5
  have HB5 := hide hb5
  have hZi : ¬ (Z : Int) < 0 := by omega
  have HKB := hide hkb
  clear hE4 hb1 hi2 hb2 hk2 hz2 hb2' hb3 hb3' hi4 hb4 hk4 hz4 hb4' ho5 hI5 hb5 hg5 hg HM0 HM1 heq0 hzd HKH hkb
  go_loopw [10, 11] (fun v i wr => ∃ q : Nat, q ≤ Z ∧ i = .int .i64 q ∧ Own wr (g + 1) v (k ++ List.replicate q 0) ∧ Is wr g (vals D) 24 ∧ Below w.heap.size w wr) (fun _ i _ => Z - (intOf i).toNat)
  case atStart => exact ⟨0, by omega, rfl, by simpa using HO5.out, HI5.out, HB5.out⟩
  case round =>
    obtain ⟨q, hq, rfl, ho, hI, hb⟩ := hrel
    clear HO5 HI5 HB5
    obtain ⟨oa, oc, rfl, hoc1, hoc2⟩ := ho.form
    clear hoc1 hoc2
    generalize (k ++ List.replicate q 0).length = ol at *
    by_cases hqz : q < Z
    · have hqi : (q : Int) < (Z : Int) := by omega
      have HO := hide ho
      have hIl := hI.lt
      have HBD : Hid ((k ++ List.replicate q 0).length + 1 ≤ 180000000000000) := by show _ ≤ _; rw [List.length_append, List.length_replicate, ← HN.out]; omega
      have HI := hide hI
      have hxx : k ++ List.replicate (q + 1) 0 = (k ++ List.replicate q 0) ++ [0] := by rw [List.replicate_succ', List.append_assoc]
      have HXX := hide hxx
      clear ho hI hxx
      obtain ⟨wA, hwA⟩ : ∃ wA, wA = wr := ⟨_, rfl⟩
      subst hwA
      go_wp2_with (at_builtin; refine wpList_append_bytes _ rfl _ _ rfl (g + 1) _ _ rfl (HO.out.below (below_alloc wA _)) _ _ rfl (Own.byte wA 0) HBD.out (by simp; omega) ?_; intro v6 w6 ho6 hg6)
      go_roundw
      case rel =>
        refine ⟨q + 1, by omega, by go_num, by rw [HXX.out]; exact ho6, (HI.out.alloc _).grown hg6 (fun e => by have := (HO.out.block g e).1; omega), (hb.alloc hb.size _).grown hg6 (Nat.le_trans hb.size (by simp)) (fun r hr => by have := (HO.out.block r hr).1; omega)⟩
      case measure => simp [intOf]; omega
    · have hqe : q = Z := by omega
      have hqi : ¬ (q : Int) < (Z : Int) := by omega
      obtain ⟨v, hv⟩ : ∃ v, v = Value.slice oa ol oc := ⟨_, rfl⟩
      rw [← hv] at ho ⊢
      have hS0 : wr.rangeAt g 0 (vals D) ∧ Below w.heap.size w wr ∧ Has wr v (k ++ List.replicate q 0) := ⟨hI.range, hb, ho.has⟩
      have HM3 : Hid (∀ W, (W.rangeAt g 0 (vals D) ∧ Below w.heap.size w W ∧ Has W v (k ++ List.replicate q 0)) → Calls Tryd.prog 6 #[v, vb] W fun e w'' => e = .returned (.agg (vals D).toArray) ∧ Below W.heap.size W w'') := fun W h => by
        have := HM2.out W _ _ h.2.1 h.2.2 (HKB.out.append (fun x hx => by rw [List.eq_of_mem_replicate hx]; omega)) (by rw [List.length_append, List.length_replicate, ← HN.out]; omega)
        rwa [HZER.out q (by rw [← HN.out]; omega)] at this
      have HS0 := hide hS0
      have hul2 := Tryd.underlying24
      have hsz2 : (Tryd.prog.info? 24).map (·.size) = some (vals D).length := by rw [vals_length, HD.out]; exact size_dig
      have HB := hide hb
      generalize k ++ List.replicate q 0 = X at *
      clear hb ho hI hS0 hqe hqz hq HZER HM2 hv
      obtain ⟨wA, hwA⟩ : ∃ wA, wA = wr := ⟨_, rfl⟩
      subst hwA
      go_wp2
      go_region_held2 (fun W : World => W.rangeAt g 0 (vals D) ∧ Below w.heap.size w W ∧ Has W v X)
        ((first
          | exact kept_below HS0.out ((Below.refl _ _).drew)
          | assumption
          | exact kept_below (by assumption) hb7))
        ((go_at_call 6; refine (HM3.out _ (by assumption)).mono ?_; rintro e w7 ⟨rfl, hb7⟩))
      · go_wp2
        go_ret
        exact ⟨rfl, HB.out.drew.trans (hb7.mono HB.out.size)⟩

theorem keys_walk (vk vb : Value) (k l : List Int) (z : Int) (w : World) (hk : Has w vk k) (hl : Has w vb l) (hkb : Sz.Byt k) (hlb : Sz.Byt l) (ht : Tab w) (hw : 1 < w.heap.size) (hkn : k.length < 400000000000000) (hln : l.length < 400000000000000) :
    Calls Tryd.prog 4 #[vk, vb, .int .i64 z] w fun e w' => e = .returned (.bool true) ∧ Below w.heap.size w w' := by
  by_cases h1 : 64 < k.length
  · exact keys_long vk vb k l z w hk hl hkb hlb ht hw hkn hln h1
  · by_cases h2 : z < 0
    · exact keys_below vk vb k l z w hk hl hkb hlb ht hw hkn hln (by omega) h2
    · by_cases h3 : 64 - (k.length : Int) < z
      · exact keys_above vk vb k l z w hk hl hkb hlb ht hw hkn hln (by omega) h2 h3
      · exact keys_zeros vk vb k l z w hk hl hkb hlb ht hw hkn hln (by omega) h2 h3
end Go.Proofs.YtpmiaimpemkefaaDoor
