/- The texts LkS, LkI, LkD, LkE, LkF, LkG, LkRun, one behind the other. -/
import Derived.Test.YtgkpbglllnmbeaaGreatDoorZLk
import Derived.Test.YtgkpbglllnmbeaaGreatDoorZKe
import Derived.Test.YtgkpbglllnmbeaaGreatDoorZKg
import Derived.Defers
import Derived.Recover
import Derived.Test.YtgkpbglllnmbeaaGreatDoorOpen
import Derived.Deep.Slices
import Derived.Deep.Matrix
import Derived.SizedLaws
import Derived.Test.YtgkpbglllnmbeaaGreatDoorBuild1
import Derived.Test.YtgkpbglllnmbeaaGreatDoorLkK
/- Signatures: isSigned, and the functions that it asks. -/
namespace Go.Proofs.YtgkpbglllnmbeaaGreatDoor
open Go.RowKit
set_option linter.unusedVariables false

theorem St.mrange {w : World} {R base : Nat} {m : List Int} {h : Int} {K : List (List Int × Value)} (s : St w R base m h K) : w.rangeAt R 1 (vals m) := fun j v hv => by
  rw [s.is.cell, Nat.add_comm 1 j]
  show (vals m ++ [Value.int .i64 h])[j]? = some v
  rw [List.getElem?_append_left (List.getElem?_eq_some_iff.1 hv).1]; exact hv
theorem St.hcell {w : World} {R base : Nat} {m : List Int} {h : Int} {K : List (List Int × Value)} (s : St w R base m h K) : w.cell? ⟨R, 33, none⟩ = some (.int .i64 h) := by
  rw [s.is.cell]
  show (vals m ++ [Value.int .i64 h])[32]? = _
  rw [List.getElem?_append_right (by rw [vals_length, s.mlen]; omega), vals_length, s.mlen]; rfl

set_option maxRecDepth 100000 in
set_option maxHeartbeats 4000000 in
theorem isSigned_bad (R base : Nat) (m : List Int) (h : Int) (K : List (List Int × Value)) (sig : List Int) (v fv : Value) (w : World) (s : St w R base m h K) (hs : Has w v sig) (hl : sig.length ≠ 2144) (hsb : Sz.Byt sig) (ht : Tab w) (hw : 0 < w.heap.size) :
    Calls Tryz.prog 95 #[.pointer (some ⟨R, 0, none⟩), v, fv] w fun e w' => e = .returned (.bool false) ∧ Below w.heap.size w w' := by
  have HR := hide (recover_any v m sig w hs s.mlen s.mbyt hsb ht hw)
  rw [if_neg hl, if_neg hl] at HR
  have HM := hide s.mrange
  have hsz : Hid ((Tryz.prog.info? 34).map (·.size) = some (vals m).length) := by rw [vals_length, s.mlen]; exact size_dig
  have hzd := zero_dig
  obtain ⟨Z, hZ⟩ : ∃ Z, Z = vals (List.replicate 32 0) := ⟨_, rfl⟩
  rw [← hZ] at hzd HR
  have hZl : Z.length = 32 := by rw [hZ]; simp [vals]
  have hZ1 : ∀ v ∈ Z, v.oneCell' = true := by rw [hZ]; exact vals_one _
  have hZp : ¬ Z = [] := by intro h; rw [h] at hZl; cases hZl
  have HZL := hide hZl
  have HZ1 := hide hZ1
  clear s hs hl hsb ht hw hZ hZl hZ1
  go_enter Tryz.func95, Tryz.ntmps95
  go_wp2_with (first
    | (refine wpList_load_mid (P := Tryz.prog) rfl 34 (.tmp 12) rfl R 1 rfl (vals m) _ HM.out Tryz.underlying34 rfl hsz.out ?_)
    | (go_at_call 104; refine HR.out.mono ?_; rintro e w1 ⟨rfl, hb1⟩)
    | (refine wpList_store_any2 34 Z Z w1.heap.size rfl (.tmp 7) (.tmp 16) rfl rfl rfl rfl (Is.new w1 _ _) size_dig HZL.out HZL.out HZ1.out ?_; intro w7 hi7 hb7 hk7 hz7))
  go_ret
  exact ⟨rfl, hb7 _ _ (hb1.alloc hb1.size _) hb1.size⟩


/-- What a function that is asked leaves: its answer, and whatever else Q says. -/
theorem isSigned_good (R base : Nat) (m : List Int) (h : Int) (K : List (List Int × Value)) (sig : List Int) (v : Value) (G : Nat) (caps : Array Value) (r : Bool) (Q : World → World → Prop) (w : World) (s : St w R base m h K) (hs : Has w v sig) (hl : sig.length = 2144) (hsb : Sz.Byt sig) (ht : Tab w) (hw : 0 < w.heap.size)
    (hcall : ∀ xs W, (callFunc G xs).run Tryz.prog W = .ok (.enter G xs) W)
    (hG : ∀ W b, Below w.heap.size w W → w.heap.size ≤ b → Is W b (vals (Ky.recov m sig)) 34 → Calls Tryz.prog G (#[.slice (some ⟨b, 0, none⟩) 32 32] ++ caps) W fun e w' => e = .returned (.bool r) ∧ Q W w') :
    Calls Tryz.prog 95 #[.pointer (some ⟨R, 0, none⟩), v, .func (.func G) #[] caps] w fun e w' => e = .returned (.bool r) ∧ ∃ W, Below w.heap.size w W ∧ Q W w' := by
  have HR := hide (recover_any v m sig w hs s.mlen s.mbyt hsb ht hw)
  rw [if_pos hl, if_pos hl] at HR
  have HM := hide s.mrange
  have hsz : Hid ((Tryz.prog.info? 34).map (·.size) = some (vals m).length) := by rw [vals_length, s.mlen]; exact size_dig
  have hDl := Ky.recov_length m sig
  have HG := hide hG
  generalize Ky.recov m sig = D at *
  have hzd := zero_dig
  obtain ⟨Z, hZ⟩ : ∃ Z, Z = vals (List.replicate 32 0) := ⟨_, rfl⟩
  rw [← hZ] at hzd
  have hZl : Z.length = 32 := by rw [hZ]; simp [vals]
  have hZp : ¬ Z = [] := by intro h; rw [h] at hZl; cases hZl
  have HZL := hide hZl
  have HDL := hide hDl
  have HPOST : ∃ PQ : World → Prop, PQ = fun w' => ∃ W, Below w.heap.size w W ∧ Q W w' := ⟨_, rfl⟩
  obtain ⟨PQ, hPQ⟩ := HPOST
  have hPQ2 : ∀ w', (∃ W, Below w.heap.size w W ∧ Q W w') = PQ w' := fun w' => by rw [hPQ]
  simp only [hPQ2]
  have HPQ : Hid (∀ W w', Below w.heap.size w W → Q W w' → PQ w') := hide (fun W w' h1 h2 => by rw [hPQ]; exact ⟨W, h1, h2⟩)
  clear s hs hl hsb ht hw hZ hZl hG hDl hPQ hPQ2
  go_enter Tryz.func95, Tryz.ntmps95
  go_wp2_with (first
    | (refine wpList_load_mid (P := Tryz.prog) rfl 34 (.tmp 12) rfl R 1 rfl (vals m) _ HM.out Tryz.underlying34 rfl hsz.out ?_)
    | (go_at_call 104; refine HR.out.mono ?_; rintro e w1 ⟨rfl, hb1⟩)
    | (refine wpList_store_any2 34 Z (vals D) w1.heap.size rfl (.tmp 7) (.tmp 16) rfl rfl rfl rfl (Is.new w1 _ _) size_dig HZL.out (by rw [vals_length]; exact HDL.out) (vals_one _) ?_; intro w7 hi7 hb7 hk7 hz7; have hb7' := hb7 _ _ (hb1.alloc hb1.size _) hb1.size)
    | (refine (HG.out _ w1.heap.size hb7' hb1.size hi7).mono ?_; rintro e w8 ⟨rfl, hq8⟩))
  go_ret
  exact ⟨rfl, HPQ.out _ _ hb7' hq8⟩

theorem call_doF (xs : Array Value) (w : World) : (callFunc 96 xs).run Tryz.prog w = .ok (.enter 96 xs) w := by
  simp [callFunc, Tryz.func96, Tryz.f96]
theorem call_inOrderF (xs : Array Value) (w : World) : (callFunc 114 xs).run Tryz.prog w = .ok (.enter 114 xs) w := by
  simp [callFunc, Tryz.func114, Tryz.f114]

theorem doF_any (v kv : Value) (x k : List Int) (c : Nat) (w : World) (h : Has w v x) (hk : Has w kv k) (hx : Sz.Byt x) (hkb : Sz.Byt k) (hc : w.cell? ⟨c, 0, none⟩ = some kv) :
    Calls Tryz.prog 96 #[v, .pointer (some ⟨c, 0, none⟩)] w fun e w' => e = .returned (.bool (decide (x = k))) ∧ w = w' := by
  have HE := hide (bequal_any v kv x k w h hk hx hkb)
  obtain ⟨ka, kc, rfl, _, _⟩ := hk.shape
  clear h hk
  go_enter Tryz.func96, Tryz.ntmps96
  go_wp2_with fail
  refine HE.out.mono ?_
  rintro e w1 ⟨rfl, rfl⟩
  go_wp2
  go_ret
  exact ⟨rfl, rfl⟩
end Go.Proofs.YtgkpbglllnmbeaaGreatDoor

/- The keys in their order: inOrder, and areSigned. -/
namespace Go.Proofs.YtgkpbglllnmbeaaGreatDoor
open Go.RowKit
set_option linter.unusedVariables false

/-- The keys that the variable in block c holds from here on. -/
def Sought (c : Nat) (o : Option (List Int)) (w w' : World) : Prop :=
  Only c w.heap.size w w' ∧ ∃ kv ks, w'.cell? ⟨c, 0, none⟩ = some kv ∧ w'.frozen? ⟨c, 0, none⟩ = false ∧ HasX w' (fun b => b ≠ c) kv ks ∧ Sz.Byt ks ∧ ks.length % 32 = 0 ∧ ∀ k2, o = some k2 → k2 = ks

theorem seek_nil (n : Nat) (x : List Int) : Lk.seek n [] x = none := by cases n <;> rfl
theorem seek_hit (n : Nat) (ks x : List Int) (h0 : 0 < ks.length) (h : ks.take 32 = x) : Lk.seek (n + 1) ks x = some (ks.drop 32) := by
  rw [Lk.seek, if_neg (by omega), if_pos h]
theorem seek_miss (n : Nat) (ks x : List Int) (h0 : 0 < ks.length) (h : ks.take 32 ≠ x) : Lk.seek (n + 1) ks x = Lk.seek n (ks.drop 32) x := by
  rw [Lk.seek, if_neg (by omega), if_neg h]
theorem seek_more (x : List Int) : ∀ (n k : Nat) (ks : List Int), ks.length ≤ n → Lk.seek (n + k) ks x = Lk.seek n ks x := by
  intro n
  induction n with
  | zero =>
    intro k ks h
    have : ks = [] := List.eq_nil_of_length_eq_zero (by omega)
    subst this
    rw [seek_nil, seek_nil]
  | succ n ih =>
    intro k ks h
    by_cases h0 : ks.length = 0
    · have : ks = [] := List.eq_nil_of_length_eq_zero h0
      subst this
      rw [seek_nil, seek_nil]
    · rw [Nat.add_right_comm]
      by_cases he : ks.take 32 = x
      · rw [seek_hit _ _ _ (by omega) he, seek_hit _ _ _ (by omega) he]
      · rw [seek_miss _ _ _ (by omega) he, seek_miss _ _ _ (by omega) he]
        exact ih k _ (by rw [List.length_drop]; omega)
theorem seek_step (ks x : List Int) (h0 : 0 < ks.length) (h : ks.take 32 ≠ x) : Lk.seek ks.length ks x = Lk.seek (ks.drop 32).length (ks.drop 32) x := by
  obtain ⟨n, hn⟩ : ∃ n, ks.length = n + 1 := ⟨ks.length - 1, by omega⟩
  rw [hn, seek_miss _ _ _ h0 h]
  have e : n = (ks.drop 32).length + (n - (ks.drop 32).length) := by rw [List.length_drop]; omega
  rw [e, seek_more _ _ _ _ (Nat.le_refl _)]

theorem HasX.front {w : World} {X : Nat → Prop} {b off cap : Nat} {l : List Int} (hc : ∀ j, j < l.length → w.cell? ⟨b, off + j, none⟩ = some (.int .u8 (l.getD j 0))) (hX : X b) (hcap : l.length ≤ cap) (hm : cap ≤ maxLen) (n : Nat) (hn : n ≤ l.length) (h0 : 0 < n) :
    HasX w X (.slice (some ⟨b, off, none⟩) n cap) (l.take n) := by
  have hl : (l.take n).length = n := by rw [List.length_take]; omega
  refine .inr ⟨b, off, cap, by rw [hl], by omega, by omega, hm, hX, fun j hj => ?_⟩
  rw [hc j (by omega)]
  simp only [List.getD, List.getElem?_take]
  rw [if_pos (by omega)]
theorem HasX.back {w : World} {X : Nat → Prop} {b off cap : Nat} {l : List Int} (hc : ∀ j, j < l.length → w.cell? ⟨b, off + j, none⟩ = some (.int .u8 (l.getD j 0))) (hX : X b) (hcap : l.length ≤ cap) (hm : cap ≤ maxLen) (n : Nat) (hn : n ≤ l.length) (hne : ¬ cap = n) :
    HasX w X (.slice (some ⟨b, off + n, none⟩) (l.length - n) (cap - n)) (l.drop n) := by
  have hl : (l.drop n).length = l.length - n := by rw [List.length_drop]
  by_cases h0 : l.length - n = 0
  · refine .inl ⟨_, cap - n, by rw [h0], List.eq_nil_of_length_eq_zero (by omega), by omega, fun h => by cases h⟩
  · refine .inr ⟨b, off + n, cap - n, by rw [hl], by omega, by omega, by omega, hX, fun j hj => ?_⟩
    rw [Nat.add_assoc, hc (n + j) (by omega)]
    simp only [List.getD, List.getElem?_drop]

set_option maxRecDepth 100000 in
set_option maxHeartbeats 4000000 in
theorem inOrderF_any (bv : Value) (x : List Int) (c : Nat) (kv : Value) (ks : List Int) (w : World) (hx : HasX w (fun b => b ≠ c) bv x) (hxb : Sz.Byt x) (hk : HasX w (fun b => b ≠ c) kv ks) (hkb : Sz.Byt ks) (hm : ks.length % 32 = 0) (hc : w.cell? ⟨c, 0, none⟩ = some kv) (hf : w.frozen? ⟨c, 0, none⟩ = false) :
    Calls Tryz.prog 114 #[bv, .pointer (some ⟨c, 0, none⟩)] w fun e w' => e = .returned (.bool (Lk.seek ks.length ks x).isSome) ∧ Sought c (Lk.seek ks.length ks x) w w' := by
  obtain ⟨O, hO⟩ : ∃ O, O = Lk.seek ks.length ks x := ⟨_, rfl⟩
  rw [← hO]
  have H0 : Hid (∃ kv2 ks2, w.cell? ⟨c, 0, none⟩ = some kv2 ∧ w.frozen? ⟨c, 0, none⟩ = false ∧ HasX w (fun b => b ≠ c) kv2 ks2 ∧ Sz.Byt ks2 ∧ ks2.length % 32 = 0 ∧ Lk.seek ks2.length ks2 x = O) := ⟨kv, ks, hc, hf, hk, hkb, hm, hO.symm⟩
  have HX := hide hx
  have HXB := hide hxb
  clear hx hxb hk hkb hm hc hf hO
  go_enter Tryz.func114, Tryz.ntmps114
  go_wp2
  go_loopw [4] (fun _ wr => Only c w.heap.size w wr ∧ ∃ kv2 ks2, wr.cell? ⟨c, 0, none⟩ = some kv2 ∧ wr.frozen? ⟨c, 0, none⟩ = false ∧ HasX wr (fun b => b ≠ c) kv2 ks2 ∧ Sz.Byt ks2 ∧ ks2.length % 32 = 0 ∧ Lk.seek ks2.length ks2 x = O) (fun _ wr => lenOf ((wr.cell? ⟨c, 0, none⟩).getD .nilIface))
  case atStart => exact ⟨Only.refl _ _ _, H0.out⟩
  case round =>
    obtain ⟨hon, kv2, ks2, hc, hf, hk, hkb, hm, hO⟩ := hrel
    rcases hk with ⟨ka, kcap, rfl, rfl, hcm, hn⟩ | ⟨b, off, kcap, rfl, h0, h1, h2, h3, hcells⟩
    · rw [List.length_nil, seek_nil] at hO
      have HO := hide hO
      have HON := hide hon
      clear hO hon
      go_wp2
      go_ret
      exact ⟨by rw [← HO.out]; rfl, HON.out, _, [], hc, hf, .inl ⟨ka, kcap, rfl, rfl, hcm, hn⟩, Sz.Byt.nil, rfl, fun k2 h => by rw [← HO.out] at h; cases h⟩
    · have h32 : 32 ≤ ks2.length := by omega
      have hkc : 32 ≤ kcap := by omega
      unfold maxLen at h2
      have HF := hide (HasX.front (X := fun b => b ≠ c) hcells h3 h1 (by unfold maxLen; omega) 32 h32 (by omega))
      have HON := hide hon
      have HXW : Hid (HasX wr (fun b => b ≠ c) bv x) := hide (HX.out.move fun b hb hX => ⟨hon.block b hb hX, hX⟩)
      have HKB := hide hkb
      have HM := hide hm
      have HO := hide hO
      have HCC := hide hcells
      have H3 := hide h3
      clear hon hkb hm hO hcells h3
      have hset : ∀ rv, ∀ k, k ≠ c → (wr.setCell ⟨c, 0, none⟩ rv).heap[k]? = wr.heap[k]? := fun rv k hk => Below.heap_setCell _ _ _ _ hk
      have HSET := hide hset
      have HBE : Hid (∀ rv, Calls Tryz.prog 93 #[.slice (some ⟨b, off, none⟩) 32 kcap, bv] (wr.setCell ⟨c, 0, none⟩ rv) fun e w' => e = .returned (.bool (decide (ks2.take 32 = x))) ∧ wr.setCell ⟨c, 0, none⟩ rv = w') := hide (fun rv =>
        bequal_any _ bv (ks2.take 32) x _ (HF.out.move (Y := fun b => b ≠ c) fun b _ hX => ⟨hset rv b hX, hX⟩).has (HXW.out.move (Y := fun b => b ≠ c) fun b _ hX => ⟨hset rv b hX, hX⟩).has (HKB.out.take 32) HXB.out)
      have HCELL : Hid (∀ rv, (wr.setCell ⟨c, 0, none⟩ rv).cell? ⟨c, 0, none⟩ = some rv) := hide (fun rv => World.cell?_setCell_same _ _ _ hc)
      have HFRZ : Hid (∀ rv, (wr.setCell ⟨c, 0, none⟩ rv).frozen? ⟨c, 0, none⟩ = false) := hide (fun rv => by rw [World.frozen?_setCell]; exact hf)
      have HONS : Hid (∀ rv, Only c w.heap.size w (wr.setCell ⟨c, 0, none⟩ rv)) := hide (fun rv => HON.out.setCell (.inl rfl) rv)
      clear hset
      by_cases hcc : kcap = 32
      · subst hcc
        have hl32 : ks2.length = 32 := by omega
        have HR : Hid (HasX (wr.setCell ⟨c, 0, none⟩ (.slice (some ⟨b, off, none⟩) 0 0)) (fun b => b ≠ c) (.slice (some ⟨b, off, none⟩) 0 0) (ks2.drop 32)) := hide (.inl ⟨_, 0, rfl, List.drop_eq_nil_of_le (by omega), by omega, fun h => by cases h⟩)
        by_cases he : ks2.take 32 = x
        · have HB2 := hide (HBE.out (.slice (some ⟨b, off, none⟩) 0 0))
          rw [decide_eq_true he] at HB2
          have HO2 : Hid (O = some (ks2.drop 32)) := hide (by rw [← HO.out, hl32]; exact seek_hit 31 _ _ h0 he)
          clear he HBE HO
          rw [hl32] at hc
          go_wp2_with fail
          refine HB2.out.mono ?_
          rintro e w1 ⟨rfl, rfl⟩
          go_wp2
          go_ret
          exact ⟨by rw [HO2.out]; rfl, HONS.out _, _, _, HCELL.out _, HFRZ.out _, HR.out, HKB.out.drop 32, by rw [List.length_drop, hl32], fun k2 h => by rw [HO2.out] at h; exact (Option.some.inj h).symm⟩
        · have HB2 := hide (HBE.out (.slice (some ⟨b, off, none⟩) 0 0))
          rw [decide_eq_false he] at HB2
          have HO2 : Hid (Lk.seek (ks2.drop 32).length (ks2.drop 32) x = O) := hide (by rw [← HO.out]; exact (seek_step _ _ h0 he).symm)
          clear he HBE HO
          rw [hl32] at hc
          go_wp2_with fail
          refine HB2.out.mono ?_
          rintro e w1 ⟨rfl, rfl⟩
          go_wp2
          go_roundw
          case rel => exact ⟨HONS.out _, _, _, HCELL.out _, HFRZ.out _, HR.out, HKB.out.drop 32, by rw [List.length_drop, hl32], HO2.out⟩
          case measure => rw [HCELL.out, hc]; simp [lenOf]
      · have hlc : ks2.length ≤ kcap := h1
        have HR : Hid (HasX (wr.setCell ⟨c, 0, none⟩ (.slice (some ⟨b, off + 32, none⟩) (ks2.length - 32) (kcap - 32))) (fun b => b ≠ c) (.slice (some ⟨b, off + 32, none⟩) (ks2.length - 32) (kcap - 32)) (ks2.drop 32)) := hide ((HasX.back (X := fun b => b ≠ c) HCC.out H3.out h1 (by unfold maxLen; omega) 32 h32 hcc).move (fun b _ hX => ⟨HSET.out _ b hX, hX⟩))
        have hml : (ks2.drop 32).length % 32 = 0 := by rw [List.length_drop]; have := HM.out; omega
        have HML := hide hml
        have HKD := hide (HKB.out.drop 32)
        by_cases he : ks2.take 32 = x
        · have HB2 := hide (HBE.out (.slice (some ⟨b, off + 32, none⟩) (ks2.length - 32) (kcap - 32)))
          rw [decide_eq_true he] at HB2
          have HO2 : Hid (O = some (ks2.drop 32)) := hide (by rw [← HO.out]; obtain ⟨n, hn⟩ : ∃ n, ks2.length = n + 1 := ⟨ks2.length - 1, by omega⟩; rw [hn]; exact seek_hit n _ _ h0 he)
          clear he HBE HO hml HF HCC HM HKB
          generalize ks2.drop 32 = ks3 at *
          generalize ks2.length = kl at *
          clear ks2
          go_wp2_with fail
          refine HB2.out.mono ?_
          rintro e w1 ⟨rfl, rfl⟩
          go_wp2
          go_ret
          exact ⟨by rw [HO2.out]; rfl, HONS.out _, _, _, HCELL.out _, HFRZ.out _, HR.out, HKD.out, HML.out, fun k2 h => by rw [HO2.out] at h; exact (Option.some.inj h).symm⟩
        · have HB2 := hide (HBE.out (.slice (some ⟨b, off + 32, none⟩) (ks2.length - 32) (kcap - 32)))
          rw [decide_eq_false he] at HB2
          have HO2 : Hid (Lk.seek (ks2.drop 32).length (ks2.drop 32) x = O) := hide (by rw [← HO.out]; exact (seek_step _ _ h0 he).symm)
          clear he HBE HO hml HF HCC HM HKB
          generalize ks2.drop 32 = ks3 at *
          generalize ks2.length = kl at *
          clear ks2
          go_wp2_with fail
          refine HB2.out.mono ?_
          rintro e w1 ⟨rfl, rfl⟩
          go_wp2
          go_roundw
          case rel => exact ⟨HONS.out _, _, _, HCELL.out _, HFRZ.out _, HR.out, HKD.out, HML.out, HO2.out⟩
          case measure => rw [HCELL.out, hc]; simp [lenOf]; omega

theorem inOrder_any (a : Option Addr) (n c : Nat) (w : World) :
    Calls Tryz.prog 105 #[.slice a n c] w fun e w' => e = .returned (.func (.func 114) #[] #[.pointer (some ⟨w.heap.size, 0, none⟩)]) ∧ w' = w.alloc (.cells #[.slice a n c] 72) := by
  have hmf : ∀ (fn : Fn) (first cap : Array Value) (w : World), (Instr.makeFunc fn first cap).run Tryz.prog w = .ok (.func fn first cap) w := fun _ _ _ _ => rfl
  go_enter Tryz.func105, Tryz.ntmps105
  go_wp2
  go_ret
  exact ⟨rfl, rfl⟩

theorem areSigned_none (R : Value) (sv : Value) (a : Option Addr) (keys : List Int) (cap : Nat) (w : World) (hm : keys.length ≤ maxLen) (h : keys.length = 0 ∨ keys.length % 32 ≠ 0) :
    Calls Tryz.prog 97 #[R, sv, .slice a keys.length cap] w fun e w' => e = .returned (.bool false) ∧ w = w' := by
  unfold maxLen at hm
  generalize keys.length = n at *
  by_cases h0 : n = 0
  · subst h0
    clear h
    go_enter Tryz.func97, Tryz.ntmps97
    go_wp2
    go_ret
    exact ⟨rfl, rfl⟩
  · have h1 : ((n : Int) == 0) = false := by simp; omega
    have h3 : (Int.tmod (n : Int) 32 != 0) = true := by
      rw [Int.tmod_eq_emod_of_nonneg (by omega)]; simp; omega
    have h2 : ((n : Int) % 32 != 0) = true := by simp; omega
    clear h h0
    go_enter Tryz.func97, Tryz.ntmps97
    go_wp2
    all_goals go_ret
    all_goals exact ⟨rfl, rfl⟩
theorem among_cons (m ks sig : List Int) (r : List (List Int)) (hl : sig.length = 2144) : Lk.among m ks (sig :: r) = match Lk.seek ks.length ks (Ky.recov m sig) with
    | none => false
    | some k2 => Lk.among m k2 r := by
  rw [Lk.among, if_pos hl]
  cases Lk.seek ks.length ks (Ky.recov m sig) <;> rfl
theorem among_bad (m ks sig : List Int) (r : List (List Int)) (hl : sig.length ≠ 2144) : Lk.among m ks (sig :: r) = false := by
  rw [Lk.among, if_neg hl]

set_option maxRecDepth 100000 in
set_option maxHeartbeats 8000000 in
theorem areSigned_some (R base : Nat) (m : List Int) (h : Int) (K S : List (List Int × Value)) (keys : List Int) (g l c : Nat) (ka : Option Addr) (kcap : Nat) (w : World) (s : St w R base m h K) (hS : w.rangeAt g l (S.map Prod.snd)) (hg : g < w.heap.size) (hn : 0 < S.length) (hn9 : S.length ≤ 30) (hh : ∀ p ∈ S, Has w p.2 p.1 ∧ Sz.Byt p.1)
    (hk : Has w (.slice ka keys.length kcap) keys) (hkb : Sz.Byt keys) (hk0 : keys.length ≠ 0) (hk32 : keys.length % 32 = 0) (ht : Tab w) (hw : 0 < w.heap.size) :
    Calls Tryz.prog 97 #[.pointer (some ⟨R, 0, none⟩), .slice (some ⟨g, l, none⟩) S.length c, .slice ka keys.length kcap] w fun e w' => e = .returned (.bool (Lk.among m keys (S.map Prod.fst))) ∧ Below w.heap.size w w' := by
  have HS := hide s
  have HRG := hide hS
  have HG := hide hg
  have HH := hide hh
  have HT := hide ht
  have HW := hide hw
  have hkm : keys.length ≤ 9223372036854775807 := by obtain ⟨_, _, _, _, hm⟩ := hk.shape; unfold maxLen at hm; omega
  have hA : HasX (w.alloc (.cells #[.slice ka keys.length kcap] 72)) (fun b => b ≠ w.heap.size) (.slice ka keys.length kcap) keys := (hk.x (X := fun b => b ≠ w.heap.size) (fun b hb => by omega)).move (fun b hb hX => ⟨Below.heap_alloc _ _ _ hb, hX⟩)
  have HA := hide hA
  have HKB := hide hkb
  have HK32 := hide hk32
  obtain ⟨O, hO⟩ : ∃ O, O = Lk.among m keys (S.map Prod.fst) := ⟨_, rfl⟩
  rw [← hO]
  have HO := hide hO
  clear s hS hg hh ht hw hA hkb hk hO
  have h1 : ((keys.length : Int) == 0) = false := by rw [beq_eq_false_iff_ne]; omega
  have h2' : (keys.length : Int) % 32 = 0 := by omega
  have h2 : ((keys.length : Int) % 32 != 0) = false := by rw [h2']; rfl
  have h3 : (Int.tmod (keys.length : Int) 32 != 0) = false := by
    rw [Int.tmod_eq_emod_of_nonneg (by omega), h2']; rfl
  clear h2'
  have HIO := hide (inOrder_any ka keys.length kcap w)
  generalize hkl : keys.length = kl at *
  have HKL := hide hkl
  generalize hsl : S.length = n at *
  have HSL := hide hsl
  clear hkl hsl hk0 hk32
  go_enter Tryz.func97, Tryz.ntmps97
  go_wp2_with fail
  refine HIO.out.mono ?_
  rintro e w0 ⟨rfl, rfl⟩
  clear h1 h2 h3
  go_wp2
  go_loopw [23] (fun i wr => ∃ (k : Nat) (kv : Value) (ks : List Int), k ≤ n ∧ i = .int .i64 k ∧ Below w.heap.size w wr ∧ w.heap.size < wr.heap.size ∧ wr.cell? ⟨w.heap.size, 0, none⟩ = some kv ∧ wr.frozen? ⟨w.heap.size, 0, none⟩ = false ∧ HasX wr (fun b => b ≠ w.heap.size) kv ks ∧ Sz.Byt ks ∧ ks.length % 32 = 0 ∧ Lk.among m ks ((S.map Prod.fst).drop k) = O) (fun i _ => n - (intOf i).toNat)
  case atStart => exact ⟨0, .slice ka kl kcap, keys, by omega, rfl, below_alloc _ _, by simp, by simp, by simp, HA.out, HKB.out, by rw [HKL.out]; exact HK32.out, HO.out.symm⟩
  case round =>
    obtain ⟨k, kv, ks, hk, rfl, hb, hsz, hc, hf, hx, hkb, hm, ha⟩ := hrel
    by_cases hlt : k < n
    · have hkS : k < S.length := by rw [HSL.out]; exact hlt
      have hkS2 : k < (S.map Prod.fst).length := by rw [List.length_map]; exact hkS
      rw [List.drop_eq_getElem_cons hkS2, List.getElem_map] at ha
      obtain ⟨hp1, hp2⟩ := HH.out S[k] (List.getElem_mem hkS)
      have hcell : wr.cell? ⟨g, l + k, none⟩ = some S[k].2 := range_keep HRG.out hb HG.out k _ (by rw [List.getElem?_map, List.getElem?_eq_getElem hkS]; rfl)
      have hp1' := hp1.below hb
      obtain ⟨sa, sc, hse, _, _⟩ := hp1.shape
      rw [hse] at hcell hp1'
      have hst := HS.out.below hb
      have htb := HT.out.below hb HW.out
      have hwb := Nat.lt_of_lt_of_le HW.out hb.size
      clear hse hp1
      generalize hsig : S[k].1 = sig at *
      clear hsig
      obtain ⟨wA, hwA⟩ : ∃ wA, wA = wr := ⟨_, rfl⟩
      subst hwA
      have HBA := hide hb
      have HSZ := hide hsz
      by_cases hl : sig.length = 2144
      · rw [among_cons _ _ _ _ hl] at ha
        obtain ⟨o, ho⟩ : ∃ o, o = Lk.seek ks.length ks (Ky.recov m sig) := ⟨_, rfl⟩
        rw [← ho] at ha
        have HC := hide (isSigned_good R base m h K sig _ 114 #[.pointer (some ⟨w.heap.size, 0, none⟩)] o.isSome (Sought w.heap.size o) wA hst hp1' hl hp2 htb hwb call_inOrderF (fun W b hW hbW hI => by
          rw [ho]
          have hcW : W.cell? ⟨w.heap.size, 0, none⟩ = some kv := by rw [hW.cell (p := ⟨w.heap.size, 0, none⟩) hsz]; exact hc
          have hfW : W.frozen? ⟨w.heap.size, 0, none⟩ = false := by rw [World.frozen?_of_block (hW.block _ hsz)]; exact hf
          have hxW : HasX W (fun b => b ≠ w.heap.size) kv ks := hx.move fun b hb' hX => ⟨hW.block b hb', hX⟩
          refine inOrderF_any _ (Ky.recov m sig) w.heap.size kv ks W (.inr ⟨b, 0, 32, by rw [Ky.recov_length], by rw [Ky.recov_length]; omega, by rw [Ky.recov_length]; omega, by unfold maxLen; omega, by omega, fun j hj => ?_⟩) (Mc.sum_byt _) hxW hkb hm hcW hfW
          rw [Nat.zero_add, hI.cell, vals_get _ _ hj]))
        rw [hl] at hcell HC
        have HAA := hide ha
        clear hst hp1' htb hwb hc hf hx hkb hm ha ho hb hsz hp2
        cases o with
        | none =>
          simp only [Option.isSome_none] at HC
          have HF : Hid (O = false) := hide HAA.out.symm
          go_wp2_with fail
          refine HC.out.mono ?_
          rintro e w1 ⟨rfl, W, hW, hsgt⟩
          have HB1 : Hid (Below w.heap.size w w1) := hide ((HBA.out.trans (hW.mono HBA.out.size)).trans (hsgt.1.below (Nat.le_trans HBA.out.size hW.size) (Nat.le_refl _)))
          clear hsgt hW
          go_wp2
          go_ret
          exact ⟨by rw [HF.out]; rfl, HB1.out⟩
        | some k2 =>
          simp only [Option.isSome_some] at HC
          go_wp2_with fail
          refine HC.out.mono ?_
          rintro e w1 ⟨rfl, W, hW, hon, kv2, ks2, q1, q2, q3, q4, q5, q6⟩
          have e6 := q6 k2 rfl
          subst e6
          have HB1 : Hid (Below w.heap.size w w1) := hide ((HBA.out.trans (hW.mono HBA.out.size)).trans (hon.below (Nat.le_trans HBA.out.size hW.size) (Nat.le_refl _)))
          have HSZ1 : Hid (w.heap.size < w1.heap.size) := hide (Nat.lt_of_lt_of_le HSZ.out (Nat.le_trans hW.size hon.size))
          have HQ := hide (And.intro q1 (And.intro q2 (And.intro q3 (And.intro q4 q5))))
          clear q1 q2 q3 q4 q5 q6 hon hW
          go_wp2
          go_roundw
          case rel => exact ⟨k + 1, kv2, _, by omega, by go_num, HB1.out, HSZ1.out, HQ.out.1, HQ.out.2.1, HQ.out.2.2.1, HQ.out.2.2.2.1, HQ.out.2.2.2.2, HAA.out⟩
          case measure => simp [intOf]; omega
      · rw [among_bad _ _ _ _ hl] at ha
        have HC := hide (isSigned_bad R base m h K sig _ (.func (.func 114) #[] #[.pointer (some ⟨w.heap.size, 0, none⟩)]) wA hst hp1' hl hp2 htb hwb)
        have HF : Hid (O = false) := hide ha.symm
        clear hst hp1' htb hwb hc hf hx hkb hm ha hb hsz hp2 hl
        generalize sig.length = sl at *
        go_wp2_with fail
        refine HC.out.mono ?_
        rintro e w1 ⟨rfl, hb1⟩
        have HB1 : Hid (Below w.heap.size w w1) := hide (HBA.out.trans (hb1.mono HBA.out.size))
        clear hb1
        go_wp2
        go_ret
        exact ⟨by rw [HF.out]; rfl, HB1.out⟩
    · have hkn : ¬ (k : Int) < n := by omega
      rw [List.drop_eq_nil_of_le (by rw [List.length_map, HSL.out]; omega)] at ha
      have HF : Hid (O = true) := hide (by rw [← ha]; rw [Lk.among])
      have HBA := hide hb
      clear hc hf hx hkb hm ha hb hsz
      go_wp2
      go_ret
      exact ⟨by rw [HF.out]; rfl, HBA.out⟩
end Go.Proofs.YtgkpbglllnmbeaaGreatDoor

/- One op is done: what is put, taken, compared. -/
namespace Go.Proofs.YtgkpbglllnmbeaaGreatDoor
open Go.RowKit
set_option linter.unusedVariables false

/-- What is at hand, the top one first. -/
def stk (K : List (List Int × Value)) : List (List Int) := (K.map Prod.fst).reverse
theorem stk_snoc (K : List (List Int × Value)) (x : List Int) (v : Value) : stk (K ++ [(x, v)]) = x :: stk K := by simp [stk]
theorem stk_length (K : List (List Int × Value)) : (stk K).length = K.length := by simp [stk]
/-- How an op leaves the run. -/
def Does (R base : Nat) (m : List Int) (h : Int) (r : Lk.Out) (e : Ending) (w w' : World) : Prop :=
  match r with
  | .err c => e = .panicked (pan c) ∧ Below base w w'
  | .ok s => e = .returned (.tuple #[]) ∧ ∃ K', St w' R base m h K' ∧ stk K' = s ∧ Below base w w'
theorem Does.err {R base : Nat} {m : List Int} {h c : Int} {w w' : World} (hb : Below base w w') : Does R base m h (.err c) (.panicked (pan c)) w w' := ⟨rfl, hb⟩
theorem Does.ok {R base : Nat} {m : List Int} {h : Int} {K' : List (List Int × Value)} {s : List (List Int)} {w w' : World} (hs : St w' R base m h K') (he : stk K' = s) (hb : Below base w w') : Does R base m h (.ok s) (.returned (.tuple #[])) w w' := ⟨rfl, K', hs, he, hb⟩

theorem put_any (R base : Nat) (m : List Int) (h : Int) (K : List (List Int × Value)) (x : List Int) (v : Value) (w : World) (s : St w R base m h K) (hx : HasH R w v x) (hxb : Sm x) :
    Calls Tryz.prog 52 #[.pointer (some ⟨R, 0, none⟩), v] w fun e w' => Does R base m h (Lk.put x (stk K)) e w w' := by
  unfold Lk.put
  rw [stk_length]
  by_cases hk : K.length = 30
  · rw [if_pos hk]
    refine (put_full R base m h K v w s hk).mono ?_
    rintro e w' ⟨rfl, rfl⟩
    exact Does.err (Below.refl _ _)
  · rw [if_neg hk]
    refine (put_ok R base m h K x v w s (by have := s.few; omega) hx hxb).mono ?_
    rintro e w' ⟨rfl, h1, h2, h3⟩
    exact Does.ok h1 (stk_snoc _ _ _) h3

theorem snoc_cases (K : List (List Int × Value)) : K = [] ∨ ∃ K' p, K = K' ++ [p] := by
  rcases List.eq_nil_or_concat K with h | ⟨L, b, h⟩
  · exact .inl h
  · exact .inr ⟨L, b, by rw [h, List.concat_eq_append]⟩

theorem tell_stk (d : Bool) (K : List (List Int × Value)) (hk : K.length < 30) : Lk.tell d (stk K) = .ok (toldV d :: stk K) := by
  unfold Lk.tell Lk.put; rw [stk_length, if_neg (by omega)]; rfl

section
variable (R base : Nat) (m : List Int) (h : Int) (K : List (List Int × Value)) (n : Int) (a : Option Addr) (len cap : Nat) (w : World)

set_option maxRecDepth 100000 in
set_option maxHeartbeats 1600000 in
theorem do_push (x : List Int) (hx : HasH R w (.slice a len cap) x) (hxb : Sm x) (s : St w R base m h K) :
    Calls Tryz.prog 72 #[.pointer (some ⟨R, 0, none⟩), .agg #[.int .i64 1, .int .i64 n, .slice a len cap]] w fun e w' => Does R base m h (Lk.put x (stk K)) e w w' := by
  have hb0 := below_alloc w (.cells #[.int .i64 1, .int .i64 n, .slice a len cap] 111)
  have HP := hide (put_any R base m h K x (.slice a len cap) _ (s.below hb0) (Keep.below hb0 s.is.lt _ _ hx) hxb)
  have HB : Hid (Below base w (w.alloc (.cells #[.int .i64 1, .int .i64 n, .slice a len cap] 111))) := hide (hb0.mono (Nat.le_trans s.lay (Nat.le_of_lt s.is.lt)))
  clear s hx hb0
  generalize Lk.put x (stk K) = r at *
  go_enter Tryz.func72, Tryz.ntmps72
  go_wp2_with fail
  refine HP.out.mono ?_
  intro e w1 hd
  cases r with
  | err c =>
    obtain ⟨rfl, h1⟩ := hd
    exact ⟨rfl, Does.err (HB.out.trans h1)⟩
  | ok s1 =>
    obtain ⟨rfl, K1, h1, h2, h3⟩ := hd
    have HQ := hide (Does.ok h1 h2 (HB.out.trans h3))
    clear h1 h2 h3
    go_wp2
    go_end0
    exact HQ.out
-- by gen_lkd.py

set_option maxRecDepth 100000 in
set_option maxHeartbeats 1600000 in
theorem do_dup (s : St w R base m h K) :
    Calls Tryz.prog 72 #[.pointer (some ⟨R, 0, none⟩), .agg #[.int .i64 2, .int .i64 n, .slice a len cap]] w fun e w' => Does R base m h (match stk K with | [] => .err 7 | t :: s' => Lk.put t (t :: s')) e w w' := by
  have hb0 := below_alloc w (.cells #[.int .i64 2, .int .i64 n, .slice a len cap] 111)
  have s0 := s.below hb0
  have HB : Hid (Below base w (w.alloc (.cells #[.int .i64 2, .int .i64 n, .slice a len cap] 111))) := hide (hb0.mono (Nat.le_trans s.lay (Nat.le_of_lt s.is.lt)))
  clear s hb0
  rcases snoc_cases K with rfl | ⟨K, p, rfl⟩
  · show Calls _ _ _ _ fun e w' => Does R base m h (.err 7) e w w'
    have HT := hide (take_none R base m h _ s0)
    clear s0
    go_enter Tryz.func72, Tryz.ntmps72
    go_wp2_with fail
    refine HT.out.mono ?_
    rintro e w1 ⟨rfl, rfl⟩
    exact ⟨rfl, Does.err HB.out⟩
  · have e1 : (match stk (K ++ [p]) with | [] => Lk.Out.err 7 | t :: s' => Lk.put t (t :: s')) = Lk.put p.1 (stk (K ++ [p])) := by rw [show p = (p.1, p.2) from rfl, stk_snoc]
    rw [e1]
    obtain ⟨d, hd⟩ : ∃ d : Lk.Out, d = Lk.put p.1 (stk (K ++ [p])) := ⟨_, rfl⟩
    rw [← hd]
    have HD := hide hd
    clear hd
    have HT := hide (take_ok R base m h K p _ s0)
    have hKl : K.length < 30 := by have := s0.few; simp at this; omega
    have hpb := (s0.has p (by simp)).2
    have HPB := hide hpb
    obtain ⟨pa, pc, hpe, _, _⟩ := (s0.has p (by simp)).1.has.shape
    obtain ⟨px, pv⟩ := p
    simp only at hpe
    subst hpe
    clear s0 hpb
    go_enter Tryz.func72, Tryz.ntmps72
    go_wp2_with fail
    refine HT.out.mono ?_
    rintro e w1 ⟨rfl, t1, t2, t3, t4, t5⟩
    have HS1 := hide t1
    have HX1 := hide t2
    have HB1 := hide (HB.out.trans t4)
    clear t1 t2 t3 t4 t5
    try simp only at HX1
    have HP := hide (put_ok R base m h K px _ w1 HS1.out hKl HX1.out HPB.out)
    go_wp2_with fail
    refine HP.out.mono ?_
    rintro e w2 ⟨rfl, t1, t2, t3⟩
    have HP2 := hide (put_any R base m h _ px _ w2 t1 (t2 _ _ HX1.out) HPB.out)
    have hd := HD.out
    try simp only at hd
    rw [← hd] at HP2
    have HB2 := hide (HB1.out.trans t3)
    clear t1 t2 t3
    clear hd HD
    go_wp2_with fail
    refine HP2.out.mono ?_
    intro e w3 hd
    cases d with
    | err c =>
      obtain ⟨rfl, h1⟩ := hd
      exact ⟨rfl, Does.err (HB2.out.trans h1)⟩
    | ok s1 =>
      obtain ⟨rfl, K1, h1, h2, h3⟩ := hd
      have HQ := hide (Does.ok h1 h2 (HB2.out.trans h3))
      clear h1 h2 h3
      go_wp2
      go_end0
      exact HQ.out

set_option maxRecDepth 100000 in
set_option maxHeartbeats 1600000 in
theorem do_drop (s : St w R base m h K) :
    Calls Tryz.prog 72 #[.pointer (some ⟨R, 0, none⟩), .agg #[.int .i64 3, .int .i64 n, .slice a len cap]] w fun e w' => Does R base m h (match stk K with | [] => .err 7 | _ :: s' => .ok s') e w w' := by
  have hb0 := below_alloc w (.cells #[.int .i64 3, .int .i64 n, .slice a len cap] 111)
  have s0 := s.below hb0
  have HB : Hid (Below base w (w.alloc (.cells #[.int .i64 3, .int .i64 n, .slice a len cap] 111))) := hide (hb0.mono (Nat.le_trans s.lay (Nat.le_of_lt s.is.lt)))
  clear s hb0
  rcases snoc_cases K with rfl | ⟨K, p, rfl⟩
  · show Calls _ _ _ _ fun e w' => Does R base m h (.err 7) e w w'
    have HT := hide (take_none R base m h _ s0)
    clear s0
    go_enter Tryz.func72, Tryz.ntmps72
    go_wp2_with fail
    refine HT.out.mono ?_
    rintro e w1 ⟨rfl, rfl⟩
    exact ⟨rfl, Does.err HB.out⟩
  · have e1 : (match stk (K ++ [p]) with | [] => Lk.Out.err 7 | _ :: s' => .ok s') = .ok (stk K) := by rw [show p = (p.1, p.2) from rfl, stk_snoc]
    rw [e1]
    have HT := hide (take_ok R base m h K p _ s0)
    have hKl : K.length < 30 := by have := s0.few; simp at this; omega
    have hpb := (s0.has p (by simp)).2
    have HPB := hide hpb
    obtain ⟨pa, pc, hpe, _, _⟩ := (s0.has p (by simp)).1.has.shape
    obtain ⟨px, pv⟩ := p
    simp only at hpe
    subst hpe
    clear s0 hpb
    go_enter Tryz.func72, Tryz.ntmps72
    go_wp2_with fail
    refine HT.out.mono ?_
    rintro e w1 ⟨rfl, t1, t2, t3, t4, t5⟩
    have HS1 := hide t1
    have HX1 := hide t2
    have HB1 := hide (HB.out.trans t4)
    clear t1 t2 t3 t4 t5
    try simp only at HX1
    have HQ := hide (Does.ok HS1.out rfl HB1.out)
    go_wp2
    go_end0
    exact HQ.out

set_option maxRecDepth 100000 in
set_option maxHeartbeats 1600000 in
theorem do_swap (s : St w R base m h K) :
    Calls Tryz.prog 72 #[.pointer (some ⟨R, 0, none⟩), .agg #[.int .i64 4, .int .i64 n, .slice a len cap]] w fun e w' => Does R base m h (match stk K with | t :: u :: s' => .ok (u :: t :: s') | _ => .err 7) e w w' := by
  have hb0 := below_alloc w (.cells #[.int .i64 4, .int .i64 n, .slice a len cap] 111)
  have s0 := s.below hb0
  have HB : Hid (Below base w (w.alloc (.cells #[.int .i64 4, .int .i64 n, .slice a len cap] 111))) := hide (hb0.mono (Nat.le_trans s.lay (Nat.le_of_lt s.is.lt)))
  clear s hb0
  rcases snoc_cases K with rfl | ⟨K, p, rfl⟩
  · show Calls _ _ _ _ fun e w' => Does R base m h (.err 7) e w w'
    have HT := hide (take_none R base m h _ s0)
    clear s0
    go_enter Tryz.func72, Tryz.ntmps72
    go_wp2_with fail
    refine HT.out.mono ?_
    rintro e w1 ⟨rfl, rfl⟩
    exact ⟨rfl, Does.err HB.out⟩
  · rcases snoc_cases K with rfl | ⟨K, q, rfl⟩
    · show Calls _ _ _ _ fun e w' => Does R base m h (.err 7) e w w'
      have HT := hide (take_ok R base m h [] p _ s0)
      have hpb := (s0.has p (by simp)).2
      have HPB := hide hpb
      obtain ⟨pa, pc, hpe, _, _⟩ := (s0.has p (by simp)).1.has.shape
      obtain ⟨px, pv⟩ := p
      simp only at hpe
      subst hpe
      clear s0 hpb
      go_enter Tryz.func72, Tryz.ntmps72
      go_wp2_with fail
      refine HT.out.mono ?_
      rintro e w1 ⟨rfl, t1, t2, t3, t4, t5⟩
      have HS1 := hide t1
      have HX1 := hide t2
      have HB1 := hide (HB.out.trans t4)
      clear t1 t2 t3 t4 t5
      try simp only at HX1
      have HT2 := hide (take_none R base m h _ HS1.out)
      go_wp2_with fail
      refine HT2.out.mono ?_
      rintro e w2 ⟨rfl, rfl⟩
      exact ⟨rfl, Does.err HB1.out⟩
    · have e1 : (match stk (K ++ [q] ++ [p]) with | t :: u :: s' => Lk.Out.ok (u :: t :: s') | _ => .err 7) = .ok (stk (K ++ [p] ++ [q])) := by rw [show p = (p.1, p.2) from rfl, show q = (q.1, q.2) from rfl, stk_snoc, stk_snoc, stk_snoc, stk_snoc]
      rw [e1]
      have HT := hide (take_ok R base m h (K ++ [q]) p _ s0)
      have hKl : K.length < 29 := by have := s0.few; simp at this; omega
      have hpb := (s0.has p (by simp)).2
      have HPB := hide hpb
      obtain ⟨pa, pc, hpe, _, _⟩ := (s0.has p (by simp)).1.has.shape
      obtain ⟨px, pv⟩ := p
      simp only at hpe
      subst hpe
      clear s0 hpb
      go_enter Tryz.func72, Tryz.ntmps72
      go_wp2_with fail
      refine HT.out.mono ?_
      rintro e w1 ⟨rfl, t1, t2, t3, t4, t5⟩
      have HS1 := hide t1
      have HX1 := hide t2
      have HB1 := hide (HB.out.trans t4)
      clear t1 t2 t3 t4 t5
      try simp only at HX1
      have HT2 := hide (take_ok R base m h K q _ HS1.out)
      have HQB := hide (HS1.out.has q (by simp)).2
      obtain ⟨qa, qc, hqe, _, _⟩ := (HS1.out.has q (by simp)).1.has.shape
      obtain ⟨qx, qv⟩ := q
      simp only at hqe
      subst hqe
      go_wp2_with fail
      refine HT2.out.mono ?_
      rintro e w2 ⟨rfl, t1, t2, t3, t4, t5⟩
      have HS2 := hide t1
      have HX2 := hide t2
      have HP2 := hide (t3 _ _ HX1.out)
      have HB2 := hide (HB1.out.trans t4)
      clear t1 t2 t3 t4 t5
      try simp only at HX2
      have HP := hide (put_ok R base m h K px _ w2 HS2.out (by omega) HP2.out HPB.out)
      go_wp2_with fail
      refine HP.out.mono ?_
      rintro e w3 ⟨rfl, t1, t2, t3⟩
      have HP3 := hide (put_ok R base m h _ qx _ w3 t1 (by simp; omega) (t2 _ _ HX2.out) HQB.out)
      have HB3 := hide (HB2.out.trans t3)
      clear t1 t2 t3
      go_wp2_with fail
      refine HP3.out.mono ?_
      rintro e w4 ⟨rfl, t1, t2, t3⟩
      have HQ := hide (Does.ok t1 rfl (HB3.out.trans t3))
      clear t1 t2 t3
      go_wp2
      go_end0
      exact HQ.out

set_option maxRecDepth 100000 in
set_option maxHeartbeats 1600000 in
theorem do_equal (s : St w R base m h K) :
    Calls Tryz.prog 72 #[.pointer (some ⟨R, 0, none⟩), .agg #[.int .i64 5, .int .i64 n, .slice a len cap]] w fun e w' => Does R base m h (match stk K with | t :: u :: s' => Lk.tell (decide (t = u)) s' | _ => .err 7) e w w' := by
  have hb0 := below_alloc w (.cells #[.int .i64 5, .int .i64 n, .slice a len cap] 111)
  have s0 := s.below hb0
  have HB : Hid (Below base w (w.alloc (.cells #[.int .i64 5, .int .i64 n, .slice a len cap] 111))) := hide (hb0.mono (Nat.le_trans s.lay (Nat.le_of_lt s.is.lt)))
  clear s hb0
  rcases snoc_cases K with rfl | ⟨K, p, rfl⟩
  · show Calls _ _ _ _ fun e w' => Does R base m h (.err 7) e w w'
    have HT := hide (take_none R base m h _ s0)
    clear s0
    go_enter Tryz.func72, Tryz.ntmps72
    go_wp2_with fail
    refine HT.out.mono ?_
    rintro e w1 ⟨rfl, rfl⟩
    exact ⟨rfl, Does.err HB.out⟩
  · rcases snoc_cases K with rfl | ⟨K, q, rfl⟩
    · show Calls _ _ _ _ fun e w' => Does R base m h (.err 7) e w w'
      have HT := hide (take_ok R base m h [] p _ s0)
      have hpb := (s0.has p (by simp)).2
      have HPB := hide hpb
      obtain ⟨pa, pc, hpe, _, _⟩ := (s0.has p (by simp)).1.has.shape
      obtain ⟨px, pv⟩ := p
      simp only at hpe
      subst hpe
      clear s0 hpb
      go_enter Tryz.func72, Tryz.ntmps72
      go_wp2_with fail
      refine HT.out.mono ?_
      rintro e w1 ⟨rfl, t1, t2, t3, t4, t5⟩
      have HS1 := hide t1
      have HX1 := hide t2
      have HB1 := hide (HB.out.trans t4)
      clear t1 t2 t3 t4 t5
      try simp only at HX1
      have HT2 := hide (take_none R base m h _ HS1.out)
      go_wp2_with fail
      refine HT2.out.mono ?_
      rintro e w2 ⟨rfl, rfl⟩
      exact ⟨rfl, Does.err HB1.out⟩
    · have e1 : (match stk (K ++ [q] ++ [p]) with | t :: u :: s' => Lk.tell (decide (t = u)) s' | _ => .err 7) = Lk.tell (decide (p.1 = q.1)) (stk K) := by rw [show p = (p.1, p.2) from rfl, show q = (q.1, q.2) from rfl, stk_snoc, stk_snoc]
      rw [e1, tell_stk _ _ (by have := s0.few; simp at this; omega)]
      obtain ⟨d, hd⟩ : ∃ d : Bool, d = decide (p.1 = q.1) := ⟨_, rfl⟩
      rw [← hd]
      have HD := hide hd
      clear hd
      have HT := hide (take_ok R base m h (K ++ [q]) p _ s0)
      have hKl : K.length < 29 := by have := s0.few; simp at this; omega
      have hpb := (s0.has p (by simp)).2
      have HPB := hide hpb
      obtain ⟨pa, pc, hpe, _, _⟩ := (s0.has p (by simp)).1.has.shape
      obtain ⟨px, pv⟩ := p
      simp only at hpe
      subst hpe
      clear s0 hpb
      go_enter Tryz.func72, Tryz.ntmps72
      go_wp2_with fail
      refine HT.out.mono ?_
      rintro e w1 ⟨rfl, t1, t2, t3, t4, t5⟩
      have HS1 := hide t1
      have HX1 := hide t2
      have HB1 := hide (HB.out.trans t4)
      clear t1 t2 t3 t4 t5
      try simp only at HX1
      have HT2 := hide (take_ok R base m h K q _ HS1.out)
      have HQB := hide (HS1.out.has q (by simp)).2
      obtain ⟨qa, qc, hqe, _, _⟩ := (HS1.out.has q (by simp)).1.has.shape
      obtain ⟨qx, qv⟩ := q
      simp only at hqe
      subst hqe
      go_wp2_with fail
      refine HT2.out.mono ?_
      rintro e w2 ⟨rfl, t1, t2, t3, t4, t5⟩
      have HS2 := hide t1
      have HX2 := hide t2
      have HP2 := hide (t3 _ _ HX1.out)
      have HB2 := hide (HB1.out.trans t4)
      clear t1 t2 t3 t4 t5
      try simp only at HX2
      have HE := hide (bequal_any _ _ px qx w2 HP2.out.has HX2.out.has HPB.out.1 HQB.out.1)
      have hd := HD.out
      try simp only at hd
      rw [← hd] at HE
      clear hd HD
      go_wp2_with fail
      refine HE.out.mono ?_
      rintro e w3 ⟨rfl, rfl⟩
      have HT3 := hide (tell_ok R base m h K d w2 HS2.out (by omega))
      go_wp2_with fail
      refine HT3.out.mono ?_
      rintro e w4 ⟨rfl, v4, t1, t2, t3⟩
      have HQ := hide (Does.ok t1 (stk_snoc _ _ _) (HB2.out.trans t3))
      clear t1 t2 t3
      go_wp2
      go_end0
      exact HQ.out

set_option maxRecDepth 100000 in
set_option maxHeartbeats 1600000 in
theorem do_must (s : St w R base m h K) :
    Calls Tryz.prog 72 #[.pointer (some ⟨R, 0, none⟩), .agg #[.int .i64 6, .int .i64 n, .slice a len cap]] w fun e w' => Does R base m h (match stk K with | [] => .err 7 | t :: s' => if Lk.isTrue t then .ok s' else .err 7) e w w' := by
  have hb0 := below_alloc w (.cells #[.int .i64 6, .int .i64 n, .slice a len cap] 111)
  have s0 := s.below hb0
  have HB : Hid (Below base w (w.alloc (.cells #[.int .i64 6, .int .i64 n, .slice a len cap] 111))) := hide (hb0.mono (Nat.le_trans s.lay (Nat.le_of_lt s.is.lt)))
  clear s hb0
  rcases snoc_cases K with rfl | ⟨K, p, rfl⟩
  · show Calls _ _ _ _ fun e w' => Does R base m h (.err 7) e w w'
    have HT := hide (take_none R base m h _ s0)
    clear s0
    go_enter Tryz.func72, Tryz.ntmps72
    go_wp2_with fail
    refine HT.out.mono ?_
    rintro e w1 ⟨rfl, rfl⟩
    exact ⟨rfl, Does.err HB.out⟩
  · have e1 : (match stk (K ++ [p]) with | [] => Lk.Out.err 7 | t :: s' => if Lk.isTrue t then .ok s' else .err 7) = if Lk.isTrue p.1 then .ok (stk K) else .err 7 := by rw [show p = (p.1, p.2) from rfl, stk_snoc]
    rw [e1]
    obtain ⟨d, hd⟩ : ∃ d : Bool, d = Lk.isTrue p.1 := ⟨_, rfl⟩
    rw [← hd]
    have HD := hide hd
    clear hd
    have HT := hide (take_ok R base m h K p _ s0)
    have hKl : K.length < 30 := by have := s0.few; simp at this; omega
    have hpb := (s0.has p (by simp)).2
    have HPB := hide hpb
    obtain ⟨pa, pc, hpe, _, _⟩ := (s0.has p (by simp)).1.has.shape
    obtain ⟨px, pv⟩ := p
    simp only at hpe
    subst hpe
    clear s0 hpb
    go_enter Tryz.func72, Tryz.ntmps72
    go_wp2_with fail
    refine HT.out.mono ?_
    rintro e w1 ⟨rfl, t1, t2, t3, t4, t5⟩
    have HS1 := hide t1
    have HX1 := hide t2
    have HB1 := hide (HB.out.trans t4)
    clear t1 t2 t3 t4 t5
    try simp only at HX1
    have HE := hide (isTrue_any _ px w1 HX1.out.has)
    have hd := HD.out
    try simp only at hd
    rw [← hd] at HE
    clear hd HD
    go_wp2_with fail
    refine HE.out.mono ?_
    rintro e w2 ⟨rfl, rfl⟩
    cases d with
    | true =>
      go_wp2_with fail
      refine (must_true _ w1).mono ?_
      rintro e w2 ⟨rfl, rfl⟩
      have HQ := hide (Does.ok HS1.out rfl HB1.out)
      go_wp2
      go_end0
      exact HQ.out
    | false =>
      go_wp2_with fail
      refine (must_false _ w1).mono ?_
      rintro e w2 ⟨rfl, rfl⟩
      exact ⟨rfl, Does.err HB1.out⟩

set_option maxRecDepth 100000 in
set_option maxHeartbeats 1600000 in
theorem do_not (s : St w R base m h K) :
    Calls Tryz.prog 72 #[.pointer (some ⟨R, 0, none⟩), .agg #[.int .i64 14, .int .i64 n, .slice a len cap]] w fun e w' => Does R base m h (match stk K with | [] => .err 7 | t :: s' => Lk.tell (!Lk.isTrue t) s') e w w' := by
  have hb0 := below_alloc w (.cells #[.int .i64 14, .int .i64 n, .slice a len cap] 111)
  have s0 := s.below hb0
  have HB : Hid (Below base w (w.alloc (.cells #[.int .i64 14, .int .i64 n, .slice a len cap] 111))) := hide (hb0.mono (Nat.le_trans s.lay (Nat.le_of_lt s.is.lt)))
  clear s hb0
  rcases snoc_cases K with rfl | ⟨K, p, rfl⟩
  · show Calls _ _ _ _ fun e w' => Does R base m h (.err 7) e w w'
    have HT := hide (take_none R base m h _ s0)
    clear s0
    go_enter Tryz.func72, Tryz.ntmps72
    go_wp2_with fail
    refine HT.out.mono ?_
    rintro e w1 ⟨rfl, rfl⟩
    exact ⟨rfl, Does.err HB.out⟩
  · have e1 : (match stk (K ++ [p]) with | [] => Lk.Out.err 7 | t :: s' => Lk.tell (!Lk.isTrue t) s') = Lk.tell (!Lk.isTrue p.1) (stk K) := by rw [show p = (p.1, p.2) from rfl, stk_snoc]
    rw [e1, tell_stk _ _ (by have := s0.few; simp at this; omega)]
    obtain ⟨d, hd⟩ : ∃ d : Bool, d = Lk.isTrue p.1 := ⟨_, rfl⟩
    rw [← hd]
    have HD := hide hd
    clear hd
    have HT := hide (take_ok R base m h K p _ s0)
    have hKl : K.length < 30 := by have := s0.few; simp at this; omega
    have hpb := (s0.has p (by simp)).2
    have HPB := hide hpb
    obtain ⟨pa, pc, hpe, _, _⟩ := (s0.has p (by simp)).1.has.shape
    obtain ⟨px, pv⟩ := p
    simp only at hpe
    subst hpe
    clear s0 hpb
    go_enter Tryz.func72, Tryz.ntmps72
    go_wp2_with fail
    refine HT.out.mono ?_
    rintro e w1 ⟨rfl, t1, t2, t3, t4, t5⟩
    have HS1 := hide t1
    have HX1 := hide t2
    have HB1 := hide (HB.out.trans t4)
    clear t1 t2 t3 t4 t5
    try simp only at HX1
    have HE := hide (isTrue_any _ px w1 HX1.out.has)
    have hd := HD.out
    try simp only at hd
    rw [← hd] at HE
    clear hd HD
    go_wp2_with fail
    refine HE.out.mono ?_
    rintro e w2 ⟨rfl, rfl⟩
    have HT3 := hide (tell_ok R base m h K (!d) w1 HS1.out hKl)
    go_wp2_with fail
    refine HT3.out.mono ?_
    rintro e w4 ⟨rfl, v4, t1, t2, t3⟩
    have HQ := hide (Does.ok t1 (stk_snoc _ _ _) (HB1.out.trans t3))
    clear t1 t2 t3
    go_wp2
    go_end0
    exact HQ.out
end
end Go.Proofs.YtgkpbglllnmbeaaGreatDoor

/- One op is done: what is hashed, and what is signed. -/
namespace Go.Proofs.YtgkpbglllnmbeaaGreatDoor
open Go.RowKit
set_option linter.unusedVariables false

theorem has_dig {w : World} {b : Nat} {D : List Int} (hi : Is w b (vals D) 34) (hl : D.length = 32) : Has w (.slice (some ⟨b, 0, none⟩) 32 32) D := by
  refine .inr ⟨b, 0, 32, by rw [hl], by omega, by omega, by unfold maxLen; omega, fun j hj => ?_⟩
  rw [Nat.zero_add, hi.cell]
  simp [vals, List.getElem?_eq_getElem hj]
theorem has_new {R base : Nat} {m : List Int} {h : Int} {K : List (List Int × Value)} {D : List Int} {w w3 : World} {b : Nat} (s : St w R base m h K) (hb : Below w.heap.size w w3) (hge : w.heap.size ≤ b) (hi : Is w3 b (vals D) 34) (hl : D.length = 32) : HasH R w3 (.slice (some ⟨b, 0, none⟩) 32 32) D := by
  have h1 := s.is.lt
  refine .inr ⟨b, 0, 32, by rw [hl], by omega, by omega, by unfold maxLen; omega, ⟨by omega, fun e => ?_⟩, fun j hj => ?_⟩
  · rw [handOf_below hb h1] at e
    have := (World.ownsRow.lt s.own _ e).2
    omega
  · rw [Nat.zero_add, hi.cell]
    simp [vals, List.getElem?_eq_getElem hj]
theorem signed_f {R base : Nat} {m : List Int} {h : Int} {K : List (List Int × Value)} {sig k : List Int} {v kv : Value} (w : World) (s : St w R base m h K) (hs : Has w v sig) (hk : Has w kv k) (hsb : Sz.Byt sig) (hkb : Sz.Byt k) (c : Nat) (hc : w.cell? ⟨c, 0, none⟩ = some kv) (ht : Tab w) (hw : 0 < w.heap.size) :
    Calls Tryz.prog 95 #[.pointer (some ⟨R, 0, none⟩), v, .func (.func 96) #[] #[.pointer (some ⟨c, 0, none⟩)]] w fun e w' => e = .returned (.bool (Lk.signed m sig k)) ∧ Below w.heap.size w w' := by
  by_cases hl : sig.length = 2144
  · have e1 : Lk.signed m sig k = decide (Ky.recov m sig = k) := by unfold Lk.signed; rw [decide_eq_true hl]; rfl
    rw [e1]
    refine (isSigned_good R base m h K sig v 96 #[.pointer (some ⟨c, 0, none⟩)] (decide (Ky.recov m sig = k)) (fun W w' => W = w') w s hs hl hsb ht hw call_doF ?_).mono ?_
    · intro W b hb hge hi
      exact doF_any _ kv (Ky.recov m sig) k c W (has_dig hi (Ky.recov_length m sig)) (hk.below hb) (Mc.sum_byt _) hkb (by rw [hb.cell (p := ⟨c, 0, none⟩) (World.block_lt_of_cell? w _ hc)]; exact hc)
    · rintro e w' ⟨rfl, W, hb, rfl⟩
      exact ⟨rfl, hb⟩
  · have e1 : Lk.signed m sig k = false := by unfold Lk.signed; rw [decide_eq_false hl]; rfl
    rw [e1]
    exact isSigned_bad R base m h K sig v _ w s hs hl hsb ht hw

section
variable (R base : Nat) (m : List Int) (h : Int) (K : List (List Int × Value)) (n : Int) (a : Option Addr) (len cap : Nat) (w : World)

set_option maxRecDepth 100000 in
set_option maxHeartbeats 1600000 in
theorem do_hash (s : St w R base m h K) (ht : Tab w) (hw : 0 < base) :
    Calls Tryz.prog 72 #[.pointer (some ⟨R, 0, none⟩), .agg #[.int .i64 7, .int .i64 n, .slice a len cap]] w fun e w' => Does R base m h (match stk K with | [] => .err 7 | t :: s' => Lk.put (Sh.sum t) s') e w w' := by
  have hb0 := below_alloc w (.cells #[.int .i64 7, .int .i64 n, .slice a len cap] 111)
  have s0 := s.below hb0
  have HB : Hid (Below base w (w.alloc (.cells #[.int .i64 7, .int .i64 n, .slice a len cap] 111))) := hide (hb0.mono (Nat.le_trans s.lay (Nat.le_of_lt s.is.lt)))
  have HTAB := hide ht
  have HLAY := hide s.lay
  clear s hb0 ht
  rcases snoc_cases K with rfl | ⟨K, p, rfl⟩
  · show Calls _ _ _ _ fun e w' => Does R base m h (.err 7) e w w'
    have HT := hide (take_none R base m h _ s0)
    clear s0
    go_enter Tryz.func72, Tryz.ntmps72
    go_wp2_with fail
    refine HT.out.mono ?_
    rintro e w1 ⟨rfl, rfl⟩
    exact ⟨rfl, Does.err HB.out⟩
  · have e1 : (match stk (K ++ [p]) with | [] => Lk.Out.err 7 | t :: s' => Lk.put (Sh.sum t) s') = .ok (Sh.sum p.1 :: stk K) := by rw [show p = (p.1, p.2) from rfl, stk_snoc]; show Lk.put _ _ = _; unfold Lk.put; rw [stk_length, if_neg (by have := s0.few; simp at this; omega)]
    rw [e1]
    obtain ⟨D, hD⟩ : ∃ D, D = Sh.sum p.1 := ⟨_, rfl⟩
    have hDl : D.length = 32 := by rw [hD]; exact Mc.sum_length _
    have hDb : Sz.Byt D := by rw [hD]; exact Mc.sum_byt _
    rw [← hD]
    have HD := hide hD
    have HDL := hide hDl
    have HDB := hide hDb
    clear hD hDl hDb
    have hzd := zero_dig
    obtain ⟨Z, hZ⟩ : ∃ Z, Z = vals (List.replicate 32 0) := ⟨_, rfl⟩
    rw [← hZ] at hzd
    have hZl : Z.length = 32 := by rw [hZ]; simp [vals]
    have hZp : ¬ Z = [] := by intro h; rw [h] at hZl; cases hZl
    have HZL := hide hZl
    clear hZ hZl
    have HT := hide (take_ok R base m h K p _ s0)
    have hKl : K.length < 30 := by have := s0.few; simp at this; omega
    have hpb := (s0.has p (by simp)).2
    have HPB := hide hpb
    obtain ⟨pa, pc, hpe, _, _⟩ := (s0.has p (by simp)).1.has.shape
    obtain ⟨px, pv⟩ := p
    simp only at hpe
    subst hpe
    clear s0 hpb
    go_enter Tryz.func72, Tryz.ntmps72
    go_wp2_with fail
    refine HT.out.mono ?_
    rintro e w1 ⟨rfl, t1, t2, t3, t4, t5⟩
    have HS1 := hide t1
    have HX1 := hide t2
    have HB1 := hide (HB.out.trans t4)
    clear t1 t2 t3 t4 t5
    try simp only at HX1
    have HSUM := hide (sum_any _ px w1 HX1.out.has HPB.out.1 (HTAB.out.below HB1.out hw) (Nat.lt_of_lt_of_le hw (Nat.le_trans HS1.out.lay (Nat.le_of_lt HS1.out.is.lt))) (by have := HPB.out.2; omega))
    have hd := HD.out
    try simp only at hd
    rw [← hd] at HSUM
    clear hd HD
    have HSZ := hide (Nat.le_trans HS1.out.lay (Nat.le_of_lt HS1.out.is.lt))
    go_wp2_with (first
      | (go_at_call 94; refine HSUM.out.mono ?_; rintro e w2 ⟨rfl, hb2⟩)
      | (refine wpList_store_any2 34 Z (vals D) w2.heap.size rfl (.tmp 7) (.tmp 65) rfl rfl rfl rfl (Is.new w2 _ _) size_dig HZL.out (by rw [vals_length]; exact HDL.out) (vals_one _) ?_; intro w3 hi3 hb3 hk3 hz3; have hb3' := hide (hb3 _ _ (hb2.alloc hb2.size _) hb2.size); have HI3 := hide hi3; have HB2 := hide hb2.size; clear hb2 hb3 hk3 hi3)
      | (go_at_call 52; refine (put_ok R base m h K D _ w3 (HS1.out.below hb3'.out) hKl (has_new HS1.out hb3'.out HB2.out HI3.out HDL.out) ⟨HDB.out, by rw [HDL.out]; omega⟩).mono ?_; rintro e w4 ⟨rfl, t1, t2, t3⟩; have HQ := hide (Does.ok t1 (stk_snoc _ _ _) ((HB1.out.trans (hb3'.out.mono HSZ.out)).trans t3)); clear t1 t2 t3))
    go_end0
    exact HQ.out

set_option maxRecDepth 100000 in
set_option maxHeartbeats 1600000 in
theorem do_signed (s : St w R base m h K) (ht : Tab w) (hw : 0 < base) :
    Calls Tryz.prog 72 #[.pointer (some ⟨R, 0, none⟩), .agg #[.int .i64 8, .int .i64 n, .slice a len cap]] w fun e w' => Does R base m h (match stk K with | k :: sig :: s' => Lk.tell (Lk.signed m sig k) s' | _ => .err 7) e w w' := by
  have hb0 := below_alloc w (.cells #[.int .i64 8, .int .i64 n, .slice a len cap] 111)
  have s0 := s.below hb0
  have HB : Hid (Below base w (w.alloc (.cells #[.int .i64 8, .int .i64 n, .slice a len cap] 111))) := hide (hb0.mono (Nat.le_trans s.lay (Nat.le_of_lt s.is.lt)))
  have HTAB := hide ht
  have HLAY := hide s.lay
  clear s hb0 ht
  rcases snoc_cases K with rfl | ⟨K, p, rfl⟩
  · show Calls _ _ _ _ fun e w' => Does R base m h (.err 7) e w w'
    have HT := hide (take_none R base m h _ s0)
    clear s0
    go_enter Tryz.func72, Tryz.ntmps72
    go_wp2_with fail
    refine HT.out.mono ?_
    rintro e w1 ⟨rfl, rfl⟩
    exact ⟨rfl, Does.err HB.out⟩
  · rcases snoc_cases K with rfl | ⟨K, q, rfl⟩
    · show Calls _ _ _ _ fun e w' => Does R base m h (.err 7) e w w'
      have HT := hide (take_ok R base m h [] p _ s0)
      have hpb := (s0.has p (by simp)).2
      have HPB := hide hpb
      obtain ⟨pa, pc, hpe, _, _⟩ := (s0.has p (by simp)).1.has.shape
      obtain ⟨px, pv⟩ := p
      simp only at hpe
      subst hpe
      clear s0 hpb
      go_enter Tryz.func72, Tryz.ntmps72
      go_wp2_with fail
      refine HT.out.mono ?_
      rintro e w1 ⟨rfl, t1, t2, t3, t4, t5⟩
      have HS1 := hide t1
      have HX1 := hide t2
      have HB1 := hide (HB.out.trans t4)
      clear t1 t2 t3 t4 t5
      try simp only at HX1
      have HT2 := hide (take_none R base m h _ HS1.out)
      go_wp2_with fail
      refine HT2.out.mono ?_
      rintro e w2 ⟨rfl, rfl⟩
      exact ⟨rfl, Does.err HB1.out⟩
    · have e1 : (match stk (K ++ [q] ++ [p]) with | t :: u :: s' => Lk.tell (Lk.signed m u t) s' | _ => .err 7) = Lk.tell (Lk.signed m q.1 p.1) (stk K) := by rw [show p = (p.1, p.2) from rfl, show q = (q.1, q.2) from rfl, stk_snoc, stk_snoc]
      rw [e1, tell_stk _ _ (by have := s0.few; simp at this; omega)]
      obtain ⟨d, hd⟩ : ∃ d : Bool, d = Lk.signed m q.1 p.1 := ⟨_, rfl⟩
      rw [← hd]
      have HD := hide hd
      clear hd
      have HT := hide (take_ok R base m h (K ++ [q]) p _ s0)
      have hKl : K.length < 29 := by have := s0.few; simp at this; omega
      have hpb := (s0.has p (by simp)).2
      have HPB := hide hpb
      obtain ⟨pa, pc, hpe, _, _⟩ := (s0.has p (by simp)).1.has.shape
      obtain ⟨px, pv⟩ := p
      simp only at hpe
      subst hpe
      clear s0 hpb
      go_enter Tryz.func72, Tryz.ntmps72
      go_wp2_with fail
      refine HT.out.mono ?_
      rintro e w1 ⟨rfl, t1, t2, t3, t4, t5⟩
      have HS1 := hide t1
      have HX1 := hide t2
      have HB1 := hide (HB.out.trans t4)
      clear t1 t2 t3 t4 t5
      try simp only at HX1
      have HT2 := hide (take_ok R base m h K q _ HS1.out)
      have HQB := hide (HS1.out.has q (by simp)).2
      obtain ⟨qa, qc, hqe, _, _⟩ := (HS1.out.has q (by simp)).1.has.shape
      obtain ⟨qx, qv⟩ := q
      simp only at hqe
      subst hqe
      go_wp2_with fail
      refine HT2.out.mono ?_
      rintro e w2 ⟨rfl, t1, t2, t3, t4, t5⟩
      have HS2 := hide t1
      have HX2 := hide t2
      have HP2 := hide (t3 _ _ HX1.out)
      have HB2 := hide (HB1.out.trans t4)
      clear t1 t2 t3 t4 t5
      try simp only at HX2
      have hd := HD.out
      try simp only at hd
      have HSI := hide (signed_f (w2.alloc (.cells #[.slice pa px.length pc] 72)) (HS2.out.below (below_alloc _ _)) (HX2.out.has.below (below_alloc _ _)) (HP2.out.has.below (below_alloc _ _)) HQB.out.1 HPB.out.1 w2.heap.size (by rw [World.cell?_alloc_new]; rfl) (HTAB.out.below (HB2.out.alloc (Nat.le_trans HS2.out.lay (Nat.le_of_lt HS2.out.is.lt)) _) hw) (by simp <;> (have := HS2.out.lay; have := HS2.out.is.lt; omega)))
      rw [← hd] at HSI
      clear hd HD
      have hmf : ∀ (fn : Fn) (first cap : Array Value) (w : World), (Instr.makeFunc fn first cap).run Tryz.prog w = .ok (.func fn first cap) w := fun _ _ _ _ => rfl
      go_wp2_with fail
      refine HSI.out.mono ?_
      rintro e w3 ⟨rfl, hb3⟩
      have hb3' := (below_alloc w2 (.cells #[.slice pa px.length pc] 72)).trans (hb3.mono (by simp))
      have HT3 := hide (tell_ok R base m h K d w3 (HS2.out.below hb3') (by omega))
      have HB3 := hide (HB2.out.trans (hb3'.mono (Nat.le_trans HS2.out.lay (Nat.le_of_lt HS2.out.is.lt))))
      clear hb3 hb3'
      go_wp2_with fail
      refine HT3.out.mono ?_
      rintro e w4 ⟨rfl, v4, t1, t2, t3⟩
      have HQ := hide (Does.ok t1 (stk_snoc _ _ _) (HB3.out.trans t3))
      clear t1 t2 t3
      go_wp2
      go_end0
      exact HQ.out
end
end Go.Proofs.YtgkpbglllnmbeaaGreatDoor

/- One op is done: many signatures, and what waits; and any op. -/
namespace Go.Proofs.YtgkpbglllnmbeaaGreatDoor
open Go.RowKit
set_option linter.unusedVariables false

section
variable (R base : Nat) (m : List Int) (h : Int) (K : List (List Int × Value)) (n : Int) (a : Option Addr) (len cap : Nat) (w : World)

set_option maxRecDepth 100000 in
set_option maxHeartbeats 1600000 in
theorem do_many (N : Nat) (s : St w R base m h K) (ht : Tab w) (hw : 0 < base) (hN1 : 1 ≤ N) (hN9 : N ≤ 9) :
    Calls Tryz.prog 72 #[.pointer (some ⟨R, 0, none⟩), .agg #[.int .i64 9, .int .i64 (N : Int), .slice a len cap]] w fun e w' => Does R base m h (match stk K with | [] => .err 7 | k :: s' => if s'.length < N then .err 7 else Lk.tell (Lk.many m k (s'.take N).reverse) (s'.drop N)) e w w' := by
  have hb0 := below_alloc w (.cells #[.int .i64 9, .int .i64 (N : Int), .slice a len cap] 111)
  have s0 := s.below hb0
  have HB : Hid (Below base w (w.alloc (.cells #[.int .i64 9, .int .i64 (N : Int), .slice a len cap] 111))) := hide (hb0.mono (Nat.le_trans s.lay (Nat.le_of_lt s.is.lt)))
  have HTAB := hide ht
  have HRL := hide s.is.lt
  clear s hb0 ht
  rcases snoc_cases K with rfl | ⟨K, p, rfl⟩
  · show Calls _ _ _ _ fun e w' => Does R base m h (.err 7) e w w'
    have HT := hide (take_none R base m h _ s0)
    clear s0
    go_enter Tryz.func72, Tryz.ntmps72
    go_wp2_with fail
    refine HT.out.mono ?_
    rintro e w1 ⟨rfl, rfl⟩
    exact ⟨rfl, Does.err HB.out⟩
  · have e1 : (match stk (K ++ [p]) with | [] => Lk.Out.err 7 | k :: s' => if s'.length < N then .err 7 else Lk.tell (Lk.many m k (s'.take N).reverse) (s'.drop N)) = if K.length < N then .err 7 else Lk.tell (Lk.many m p.1 ((K.drop (K.length - N)).map Prod.fst)) (stk (K.take (K.length - N))) := by
      rw [show p = (p.1, p.2) from rfl, stk_snoc]
      show (if (stk K).length < N then Lk.Out.err 7 else _) = _
      rw [stk_length]
      by_cases hlt : K.length < N
      · rw [if_pos hlt, if_pos hlt]
      · rw [if_neg hlt, if_neg hlt]
        congr 1
        · congr 1
          simp [stk, List.take_reverse, List.map_drop]
        · simp [stk, List.drop_reverse, List.map_take]
    rw [e1]
    have hne : w.heap.size ≠ R := by have := HRL.out; omega
    have HNE := hide hne
    clear hne e1
    have hcb : (w.alloc (.cells #[.int .i64 9, .int .i64 (N : Int), .slice a len cap] 111)).cell? ⟨w.heap.size, 1, none⟩ = some (.int .i64 (N : Int)) := by rw [World.cell?_alloc_new]; rfl
    have HCB := hide hcb
    clear hcb
    by_cases hlt : K.length < N
    · rw [if_pos hlt]
      have HT := hide (take_ok R base m h K p _ s0)
      have hKl : K.length < 30 := by have := s0.few; simp at this; omega
      have hpb := (s0.has p (by simp)).2
      have HPB := hide hpb
      obtain ⟨pa, pc, hpe, _, _⟩ := (s0.has p (by simp)).1.has.shape
      obtain ⟨px, pv⟩ := p
      simp only at hpe
      subst hpe
      clear s0 hpb
      go_enter Tryz.func72, Tryz.ntmps72
      go_wp2_with fail
      refine HT.out.mono ?_
      rintro e w1 ⟨rfl, t1, t2, t3, t4, t5⟩
      have HS1 := hide t1
      have HX1 := hide t2
      have HB1 := hide (HB.out.trans t4)
      have hcb1 : w1.cell? ⟨w.heap.size, 1, none⟩ = some (.int .i64 (N : Int)) := by rw [World.cell?_of_block (a := ⟨w.heap.size, 1, none⟩) (t5 _ HNE.out)]; exact HCB.out
      clear t1 t2 t3 t4 t5
      try simp only at HX1
      have HT2 := hide (takeSome_few R base m h K N w1 HS1.out hlt (by omega))
      clear hlt
      go_wp2_with fail
      refine HT2.out.mono ?_
      rintro e w2 ⟨rfl, rfl⟩
      exact ⟨rfl, Does.err HB1.out⟩
    · have h30 : K.length < 30 := by have := s0.few; simp at this; omega
      rw [if_neg hlt, tell_stk _ _ (by rw [List.length_take]; omega)]
      obtain ⟨d, hd⟩ : ∃ d : Bool, d = Lk.many m p.1 ((K.drop (K.length - N)).map Prod.fst) := ⟨_, rfl⟩
      rw [← hd]
      have HD := hide hd
      clear hd
      have hSl : (K.drop (K.length - N)).length = N := by rw [List.length_drop]; omega
      have HSL := hide hSl
      have hTl : (K.take (K.length - N)).length < 30 := by rw [List.length_take]; omega
      have HTL := hide hTl
      have HLT := hide hlt
      clear hSl hTl hlt h30
      have HT := hide (take_ok R base m h K p _ s0)
      have hKl : K.length < 30 := by have := s0.few; simp at this; omega
      have hpb := (s0.has p (by simp)).2
      have HPB := hide hpb
      obtain ⟨pa, pc, hpe, _, _⟩ := (s0.has p (by simp)).1.has.shape
      obtain ⟨px, pv⟩ := p
      simp only at hpe
      subst hpe
      clear s0 hpb
      go_enter Tryz.func72, Tryz.ntmps72
      go_wp2_with fail
      refine HT.out.mono ?_
      rintro e w1 ⟨rfl, t1, t2, t3, t4, t5⟩
      have HS1 := hide t1
      have HX1 := hide t2
      have HB1 := hide (HB.out.trans t4)
      have hcb1 : w1.cell? ⟨w.heap.size, 1, none⟩ = some (.int .i64 (N : Int)) := by rw [World.cell?_of_block (a := ⟨w.heap.size, 1, none⟩) (t5 _ HNE.out)]; exact HCB.out
      clear t1 t2 t3 t4 t5
      try simp only at HX1
      have HT2 := hide (takeSome_ok R base m h K N w1 HS1.out (by have := HLT.out; omega) (by omega))
      have HSM : Hid (∀ q ∈ K.drop (K.length - N), Sm q.1) := hide (fun q hq => (HS1.out.has q (List.mem_of_mem_drop hq)).2)
      go_wp2_with fail
      refine HT2.out.mono ?_
      rintro e w2 ⟨g, c, rfl, hg, hc1, hc2, hr, hs, hh, hk, hb, hq⟩
      have HX2 := hide (hk _ _ HX1.out)
      have HS2 := hide hs
      have HB2 := hide (HB1.out.trans hb)
      have HASK : Hid (Calls Tryz.prog 97 #[.pointer (some ⟨R, 0, none⟩), .slice (some ⟨g, K.length - N, none⟩) N c, .slice pa px.length pc] w2 fun e w' => e = .returned (.bool d) ∧ Below w2.heap.size w2 w') := by
        have hd := HD.out
        try simp only at hd
        rw [hd, Lk.many]
        have hpm : px.length ≤ maxLen := by have := HPB.out.2; unfold maxLen; omega
        by_cases hk0 : px.length = 0 ∨ px.length % 32 ≠ 0
        · rw [if_pos hk0]
          refine (areSigned_none _ _ pa px pc w2 hpm hk0).mono ?_
          rintro e w3 ⟨rfl, rfl⟩
          exact ⟨rfl, Below.refl _ _⟩
        · rw [if_neg hk0]
          have hc0 : ¬ px.length = 0 := fun e => hk0 (.inl e)
          have hc32 : px.length % 32 = 0 := by apply Classical.byContradiction; intro e; exact hk0 (.inr e)
          have := areSigned_some R base m h (K.take (K.length - N)) (K.drop (K.length - N)) px g (K.length - N) c pa pc w2 hs hr hg (by rw [HSL.out]; omega) (by rw [HSL.out]; omega) (fun q hq2 => ⟨(hh q hq2).has, (HSM.out q hq2).1⟩) HX2.out.has HPB.out.1 hc0 hc32 (HTAB.out.below HB2.out hw) (Nat.lt_of_lt_of_le hw (Nat.le_trans hs.lay (Nat.le_of_lt hs.is.lt)))
          rw [HSL.out] at this
          exact this
      clear hr hs hh hk hb hq hg HD
      go_wp2_with fail
      refine HASK.out.mono ?_
      rintro e w3 ⟨rfl, hb3⟩
      have HT3 := hide (tell_ok R base m h (K.take (K.length - N)) d w3 (HS2.out.below hb3) HTL.out)
      have HB3 := hide (HB2.out.trans (hb3.mono (Nat.le_trans HS2.out.lay (Nat.le_of_lt HS2.out.is.lt))))
      clear hb3
      go_wp2_with fail
      refine HT3.out.mono ?_
      rintro e w4 ⟨rfl, v4, t1, t2, t3⟩
      have HQ := hide (Does.ok t1 (stk_snoc _ _ _) (HB3.out.trans t3))
      clear t1 t2 t3
      go_wp2
      go_end0
      exact HQ.out

set_option maxRecDepth 100000 in
set_option maxHeartbeats 1600000 in
theorem do_after (s : St w R base m h K) (hn0 : 0 ≤ n) (hn1 : n ≤ 1073741824) :
    Calls Tryz.prog 72 #[.pointer (some ⟨R, 0, none⟩), .agg #[.int .i64 10, .int .i64 n, .slice a len cap]] w fun e w' => Does R base m h (if h < n then .err 8 else .ok (stk K)) e w w' := by
  have hb0 := below_alloc w (.cells #[.int .i64 10, .int .i64 n, .slice a len cap] 111)
  have s0 := s.below hb0
  have HB : Hid (Below base w (w.alloc (.cells #[.int .i64 10, .int .i64 n, .slice a len cap] 111))) := hide (hb0.mono (Nat.le_trans s.lay (Nat.le_of_lt s.is.lt)))
  have hhc := s0.hcell
  have HS0 := hide s0
  clear s hb0 s0
  by_cases hlt : h < n
  · rw [if_pos hlt]
    have hd : decide (n > h) = true := decide_eq_true hlt
    clear hlt
    go_enter Tryz.func72, Tryz.ntmps72
    go_wp2
    go_region
    go_wp2
    exact ⟨rfl, Does.err HB.out.drew⟩
  · rw [if_neg hlt]
    have hd : decide (n > h) = false := decide_eq_false (by omega)
    clear hlt
    go_enter Tryz.func72, Tryz.ntmps72
    go_wp2
    go_region
    go_wp2
    go_end0
    exact Does.ok (HS0.out.below ((Below.refl _ _).drew)) rfl HB.out.drew

theorem do_any (o : Lk.Op) (v : Value) (s : St w R base m h K) (ht : Tab w) (hw : 0 < base) (hf : Lk.opFault o = 0) (h11 : o.op ≠ 11) (h12 : o.op ≠ 12) (h13 : o.op ≠ 13) (hv : HasH R w v o.data) (hb : Sz.Byt o.data) :
    Calls Tryz.prog 72 #[.pointer (some ⟨R, 0, none⟩), .agg #[.int .i64 o.op, .int .i64 o.n, v]] w fun e w' => Does R base m h (Lk.doOp m h o (stk K)) e w w' := by
  obtain ⟨va, vc, rfl, _, _⟩ := hv.has.shape
  obtain ⟨op, n, data⟩ := o
  simp only [Lk.opFault] at hf h11 h12 h13 hv hb ⊢
  have hsm : data.length ≤ 300 := by
    unfold Lk.opF at hf
    (repeat' split at hf) <;> first | omega | skip
  have h9 : op = 9 → 1 ≤ n ∧ n ≤ 9 := by
    intro e
    subst e
    unfold Lk.opF at hf
    (repeat' split at hf) <;> first | omega | skip
  have h10 : op = 10 → 0 ≤ n ∧ n ≤ 1073741824 := by
    intro e
    subst e
    unfold Lk.opF at hf
    (repeat' split at hf) <;> first | omega | skip
  have hop : 1 ≤ op ∧ op ≤ 14 := by
    unfold Lk.opF at hf
    (repeat' split at hf) <;> first | omega | skip
  have hcs : op = 1 ∨ op = 2 ∨ op = 3 ∨ op = 4 ∨ op = 5 ∨ op = 6 ∨ op = 7 ∨ op = 8 ∨ op = 9 ∨ op = 10 ∨ op = 14 := by omega
  clear hf h11 h12 h13 hop
  rcases hcs with rfl | rfl | rfl | rfl | rfl | rfl | rfl | rfl | rfl | rfl | rfl
  · exact do_push R base m h K n va data.length vc w data hv ⟨hb, by omega⟩ s
  · exact do_dup R base m h K n va data.length vc w s
  · exact do_drop R base m h K n va data.length vc w s
  · exact do_swap R base m h K n va data.length vc w s
  · exact do_equal R base m h K n va data.length vc w s
  · exact do_must R base m h K n va data.length vc w s
  · exact do_hash R base m h K n va data.length vc w s ht hw
  · exact do_signed R base m h K n va data.length vc w s ht hw
  · obtain ⟨N, rfl⟩ : ∃ N : Nat, n = (N : Int) := ⟨n.toNat, by have := h9 rfl; omega⟩
    exact do_many R base m h K va data.length vc w N s ht hw (by have := h9 rfl; omega) (by have := h9 rfl; omega)
  · exact do_after R base m h K n va data.length vc w s (h10 rfl).1 (h10 rfl).2
  · exact do_not R base m h K n va data.length vc w s
end
end Go.Proofs.YtgkpbglllnmbeaaGreatDoor

/- A lock is done op by op; and what must be left. -/
namespace Go.Proofs.YtgkpbglllnmbeaaGreatDoor
open Go.RowKit
set_option linter.unusedVariables false

theorem St.own_lt {w : World} {R base : Nat} {m : List Int} {h : Int} {K : List (List Int × Value)} (s : St w R base m h K) : ∀ q, (handOf w R).ownBlock = some q → base ≤ q := fun q hq => (World.ownsRow.lt s.own q hq).1
/-- Bytes below the run's own are no part of it. -/
theorem has_under {w0 w : World} {R base : Nat} {m : List Int} {h : Int} {K : List (List Int × Value)} {v : Value} {l : List Int} (s : St w R base m h K) (hv : Has w0 v l) (h0 : w0.heap.size ≤ base) (hb : Below w0.heap.size w0 w) : HasH R w v l :=
  (hv.x (X := fun b => b < base) (fun b hb => by omega)).move fun b hlt hX => ⟨hb.block b hlt, by have := s.lay; omega, fun e => by have := s.own_lt _ e; omega⟩

set_option maxRecDepth 100000 in
set_option maxHeartbeats 8000000 in
theorem doAll_some (R base : Nat) (m : List Int) (h : Int) (K : List (List Int × Value)) (L : List (Lk.Op × Value)) (b off cap : Nat) (w0 w : World) (s : St w R base m h K) (ht : Tab w) (hw : 0 < base) (h60 : L.length ≤ 60) (hr : w0.rangeAt b off (opCells L)) (hb : b < w0.heap.size)
    (hov : ∀ p ∈ L, Has w0 p.2 p.1.data ∧ Sz.Byt p.1.data) (h0 : w0.heap.size ≤ base) (hbel : Below w0.heap.size w0 w) (hf : Lk.opsFault (opsOf L) = 0) :
    Calls Tryz.prog 53 #[.pointer (some ⟨R, 0, none⟩), .slice (some ⟨b, off, none⟩) L.length cap] w fun e w' => Does R base m h (Lk.exec m h (opsOf L) (stk K)) e w w' := by
  have HS := hide s
  have HT := hide ht
  have HR := hide hr
  have HB := hide hb
  have HOV := hide hov
  have H0 := hide h0
  have HBEL := hide hbel
  have HF : Hid (∀ p ∈ L, Lk.opFault p.1 = 0) := hide (fun p hp => Lk.opsFault_mem _ hf p.1 (List.mem_map_of_mem hp))
  have HW := hide hw
  clear s ht hr hb hov h0 hbel hf hw
  obtain ⟨O, hO⟩ : ∃ O, O = Lk.exec m h (opsOf L) (stk K) := ⟨_, rfl⟩
  rw [← hO]
  have HO := hide hO
  clear hO
  generalize hn : L.length = n at *
  have HN := hide hn
  clear hn
  go_enter Tryz.func53, Tryz.ntmps53
  go_wp2
  go_loopw [4] (fun i wr => ∃ (k : Nat) (K' : List (List Int × Value)), k ≤ n + 1 ∧ i = .int .i64 k ∧ St wr R base m h K' ∧ Below base w wr ∧ Lk.exec m h ((opsOf L).drop k) (stk K') = O) (fun i _ => n + 1 - (intOf i).toNat)
  case atStart => exact ⟨0, K, by omega, rfl, HS.out, Below.refl _ _, HO.out.symm⟩
  case round =>
    obtain ⟨k, K', hk, rfl, hs, hb, ha⟩ := hrel
    have HSW := hide hs
    have HBW := hide hb
    have HRK : Hid (wr.rangeAt b off (opCells L)) := hide (range_keep HR.out (HBEL.out.trans (hb.mono H0.out)) HB.out)
    clear hs hb
    by_cases hlt : k < n
    · have hkL : k < L.length := by rw [HN.out]; exact hlt
      obtain ⟨hc0, hc1, hc2⟩ := range_op HRK.out k hkL
      rw [opsOf_drop L k hkL] at ha
      have HA := hide ha
      clear ha
      by_cases h11 : L[k].1.op = 11
      · have HA2 := HA.out
        rw [Lk.exec_if _ _ _ _ _ h11] at HA2
        rw [h11] at hc0
        clear HA h11 hc1 hc2
        rcases snoc_cases K' with rfl | ⟨K', p, rfl⟩
        · have HO2 : Hid (O = .err 7) := hide HA2.symm
          have HTK := hide (take_none R base m h _ HSW.out)
          clear HA2
          go_wp2_with fail
          refine HTK.out.mono ?_
          rintro e w1 ⟨rfl, rfl⟩
          exact ⟨rfl, by rw [HO2.out]; exact Does.err HBW.out⟩
        · rw [show p = (p.1, p.2) from rfl, stk_snoc] at HA2
          have HA3 : Hid ((if Lk.isTrue p.1 then Lk.exec m h ((opsOf L).drop (k + 1)) (stk K') else Lk.exec m h (Lk.skip 0 ((opsOf L).drop (k + 1))) (stk K')) = O) := hide HA2
          clear HA2
          have HTK := hide (take_ok R base m h K' p _ HSW.out)
          obtain ⟨pa, pc, hpe, _, _⟩ := (HSW.out.has p (by simp)).1.has.shape
          obtain ⟨px, pv⟩ := p
          simp only at hpe
          subst hpe
          cases hT : Lk.isTrue px with
          | true =>
            have HA4 : Hid (Lk.exec m h ((opsOf L).drop (k + 1)) (stk K') = O) := hide (by have := HA3.out; simp only [hT, if_true] at this; exact this)
            clear HA3
            go_wp2_with fail
            refine HTK.out.mono ?_
            rintro e w1 ⟨rfl, t1, t2, t3, t4, t5⟩
            have HI := hide (isTrue_any _ px w1 t2.has)
            rw [hT] at HI
            have HS1 := hide t1
            have HB1 := hide (HBW.out.trans t4)
            clear t1 t2 t3 t4 t5 hT
            go_wp2_with fail
            refine HI.out.mono ?_
            rintro e w2 ⟨rfl, rfl⟩
            go_wp2
            go_roundw
            case rel => exact ⟨k + 1, K', by omega, by go_num, HS1.out, HB1.out, HA4.out⟩
            case measure => simp [intOf]; omega
          | false =>
            have HA4 : Hid (Lk.exec m h (Lk.skip 0 ((opsOf L).drop (k + 1))) (stk K') = O) := hide (by have := HA3.out; simp only [hT, Bool.false_eq_true, if_false] at this; exact this)
            clear HA3
            go_wp2_with fail
            refine HTK.out.mono ?_
            rintro e w1 ⟨rfl, t1, t2, t3, t4, t5⟩
            have HI := hide (isTrue_any _ px w1 t2.has)
            rw [hT] at HI
            have HS1 := hide t1
            have HB1 := hide (HBW.out.trans t4)
            have HWE := hide (wayEnd_any L b off cap k w1 hkL (by rw [HN.out]; unfold maxLen; omega) (range_keep HRK.out (t4.mono H0.out) HB.out))
            rw [HN.out] at HWE
            clear t1 t2 t3 t4 t5 hT
            go_wp2_with fail
            refine HI.out.mono ?_
            rintro e w2 ⟨rfl, rfl⟩
            go_wp2_with fail
            refine HWE.out.mono ?_
            rintro e w2 ⟨rfl, q, rfl, q1, q2, q3⟩
            have HQ3 := hide q3
            clear q3
            go_wp2
            go_roundw
            case rel => exact ⟨q + 1, K', by omega, by go_num, HS1.out, HB1.out, by rw [HQ3.out]; exact HA4.out⟩
            case measure => simp [intOf]; omega
      by_cases h12 : L[k].1.op = 12
      · have HA2 := HA.out
        rw [Lk.exec_else _ _ _ _ _ h12] at HA2
        have HA4 := hide HA2
        rw [h12] at hc0
        clear HA HA2 h11 h12 hc1 hc2
        have HWE := hide (wayEnd_any L b off cap k wr hkL (by rw [HN.out]; unfold maxLen; omega) HRK.out)
        rw [HN.out] at HWE
        go_wp2_with fail
        refine HWE.out.mono ?_
        rintro e w2 ⟨rfl, q, rfl, q1, q2, q3⟩
        have HQ3 := hide q3
        clear q3
        go_wp2
        go_roundw
        case rel => exact ⟨q + 1, K', by omega, by go_num, HSW.out, HBW.out, by rw [HQ3.out]; exact HA4.out⟩
        case measure => simp [intOf]; omega
      by_cases h13 : L[k].1.op = 13
      · have HA2 := HA.out
        rw [Lk.exec_end _ _ _ _ _ h13] at HA2
        have HA4 := hide HA2
        rw [h13] at hc0
        clear HA HA2 h11 h12 h13 hc1 hc2
        go_wp2
        go_roundw
        case rel => exact ⟨k + 1, K', by omega, by go_num, HSW.out, HBW.out, HA4.out⟩
        case measure => simp [intOf]; omega
      · have HA2 := HA.out
        rw [Lk.exec_do _ _ _ _ _ h11 h12 h13] at HA2
        obtain ⟨ho1, ho2⟩ := HOV.out L[k] (List.getElem_mem hkL)
        have HD := hide (do_any R base m h K' wr L[k].1 L[k].2 HSW.out (HT.out.below HBW.out HW.out) HW.out (HF.out L[k] (List.getElem_mem hkL)) h11 h12 h13 (has_under HSW.out ho1 H0.out (HBEL.out.trans (HBW.out.mono H0.out))) ho2)
        obtain ⟨oa, oc, hoe, _, _⟩ := ho1.shape
        have e11 : (L[k].1.op == 11) = false := by simpa using h11
        have e12 : (L[k].1.op == 12) = false := by simpa using h12
        have e13 : (L[k].1.op == 13) = false := by simpa using h13
        obtain ⟨r, hr⟩ : ∃ r, r = Lk.doOp m h L[k].1 (stk K') := ⟨_, rfl⟩
        rw [← hr] at HA2 HD
        have HA4 := hide HA2
        rw [hoe] at hc2 HD
        clear HA HA2 h11 h12 h13 ho1 ho2 hoe hr
        generalize L[k].1.data.length = ol at *
        generalize L[k].1.op = op at *
        generalize L[k].1.n = on at *
        go_wp2_with fail
        refine HD.out.mono ?_
        intro e w1 hd
        cases r with
        | err c =>
          obtain ⟨rfl, h1⟩ := hd
          have HO2 : Hid (O = .err c) := hide HA4.out.symm
          exact ⟨rfl, by rw [HO2.out]; exact Does.err (HBW.out.trans h1)⟩
        | ok s1 =>
          obtain ⟨rfl, K1, h1, h2, h3⟩ := hd
          have HA5 : Hid (Lk.exec m h ((opsOf L).drop (k + 1)) (stk K1) = O) := hide (by rw [h2]; exact HA4.out)
          have HS1 := hide h1
          have HB1 := hide (HBW.out.trans h3)
          clear h1 h2 h3 HA4
          go_wp2
          go_roundw
          case rel => exact ⟨k + 1, K1, by omega, by go_num, HS1.out, HB1.out, HA5.out⟩
          case measure => simp [intOf]; omega
    · have hkn : ¬ (k : Int) < n := by omega
      rw [List.drop_eq_nil_of_le (by rw [opsOf_length, HN.out]; omega), Lk.exec_nil] at ha
      have HO2 : Hid (O = .ok (stk K')) := hide ha.symm
      clear ha
      go_wp2
      go_end0
      exact (by rw [HO2.out]; exact Does.ok HSW.out rfl HBW.out)

theorem doAll_any (R base : Nat) (m : List Int) (h : Int) (K : List (List Int × Value)) (L : List (Lk.Op × Value)) (lv : Value) (w0 w : World) (s : St w R base m h K) (ht : Tab w) (hw : 0 < base) (h60 : L.length ≤ 60) (hl : HasOps w0 lv L)
    (h0 : w0.heap.size ≤ base) (hbel : Below w0.heap.size w0 w) (hf : Lk.opsFault (opsOf L) = 0) :
    Calls Tryz.prog 53 #[.pointer (some ⟨R, 0, none⟩), lv] w fun e w' => Does R base m h (Lk.exec m h (opsOf L) (stk K)) e w w' := by
  rcases hl.1 with ⟨a, cap, rfl, rfl⟩ | ⟨b, off, cap, rfl, k0, k1, k2, k3, hc⟩
  · have e : Lk.exec m h (opsOf []) (stk K) = .ok (stk K) := Lk.exec_nil _ _ _
    rw [e]
    have HQ := hide (Does.ok s rfl (Below.refl base w))
    clear s ht hl e hbel hf
    go_enter Tryz.func53, Tryz.ntmps53
    go_wp2
    refine wp_loop_rounds 1 ?_
    rw [rounds_succ]
    go_wp2
    go_end0
    exact HQ.out
  · exact doAll_some R base m h K L b off cap w0 w s ht hw h60 hc k3 hl.2 h0 hbel hf

/-- What the run's end asks. -/
def Left (s : List (List Int)) : Bool := match s with
  | [t] => Lk.isTrue t
  | _ => false
theorem ending_left (s : List (List Int)) : Lk.ending (.ok s) = if Left s then 0 else 7 := by
  unfold Lk.ending Left
  match s with
  | [] => rfl
  | [t] => rfl
  | _ :: _ :: _ => rfl

set_option maxRecDepth 100000 in
set_option maxHeartbeats 1600000 in
theorem end_any (R base : Nat) (m : List Int) (h : Int) (K : List (List Int × Value)) (w : World) (s : St w R base m h K) :
    Calls Tryz.prog 54 #[.pointer (some ⟨R, 0, none⟩)] w fun e w' => e = (if Left (stk K) then .returned (.tuple #[]) else .panicked (pan 7)) ∧ Below base w w' := by
  obtain ⟨a, cap, e⟩ := s.form
  have hc := s.cell
  rw [e] at hc
  have h30 := s.few
  clear e
  by_cases h1 : K.length = 1
  · obtain ⟨p, rfl⟩ : ∃ p, K = [] ++ [p] := by
      match K, h1 with
      | [p], _ => exact ⟨p, rfl⟩
    have e1 : Left (stk ([] ++ [p])) = Lk.isTrue p.1 := rfl
    rw [e1]
    have HTK := hide (take_ok R base m h [] p _ s)
    obtain ⟨pa, pc, hpe, _, _⟩ := (s.has p (by simp)).1.has.shape
    obtain ⟨px, pv⟩ := p
    simp only at hpe
    subst hpe
    clear s e1
    rw [h1] at hc
    cases hT : Lk.isTrue px with
    | true =>
      go_enter Tryz.func54, Tryz.ntmps54
      go_wp2_with fail
      refine (must_true _ w).mono ?_
      rintro e w1 ⟨rfl, rfl⟩
      go_wp2_with fail
      refine HTK.out.mono ?_
      rintro e w1 ⟨rfl, t1, t2, t3, t4, t5⟩
      have HI := hide (isTrue_any _ px w1 t2.has)
      rw [hT] at HI
      have HB1 := hide t4
      clear t1 t2 t3 t4 t5 hT
      go_wp2_with fail
      refine HI.out.mono ?_
      rintro e w2 ⟨rfl, rfl⟩
      go_wp2_with fail
      refine (must_true _ _).mono ?_
      rintro e w2 ⟨rfl, rfl⟩
      go_wp2
      go_end0
      exact ⟨rfl, HB1.out⟩
    | false =>
      go_enter Tryz.func54, Tryz.ntmps54
      go_wp2_with fail
      refine (must_true _ w).mono ?_
      rintro e w1 ⟨rfl, rfl⟩
      go_wp2_with fail
      refine HTK.out.mono ?_
      rintro e w1 ⟨rfl, t1, t2, t3, t4, t5⟩
      have HI := hide (isTrue_any _ px w1 t2.has)
      rw [hT] at HI
      have HB1 := hide t4
      clear t1 t2 t3 t4 t5 hT
      go_wp2_with fail
      refine HI.out.mono ?_
      rintro e w2 ⟨rfl, rfl⟩
      go_wp2_with fail
      refine (must_false _ _).mono ?_
      rintro e w2 ⟨rfl, rfl⟩
      exact ⟨rfl, rfl, HB1.out⟩
  · have e1 : Left (stk K) = false := by
      have hl : (stk K).length ≠ 1 := by rw [stk_length]; exact h1
      match hs : stk K with
      | [] => rfl
      | [t] => rw [hs] at hl; exact absurd rfl hl
      | _ :: _ :: _ => rfl
    rw [e1]
    have h1' : ((K.length : Int) == 1) = false := by rw [beq_eq_false_iff_ne]; omega
    clear s e1 h1
    generalize K.length = kl at *
    go_enter Tryz.func54, Tryz.ntmps54
    go_wp2_with fail
    refine (must_false _ w).mono ?_
    rintro e w1 ⟨rfl, rfl⟩
    exact ⟨rfl, rfl, Below.refl _ _⟩
end Go.Proofs.YtgkpbglllnmbeaaGreatDoor

/- The texts LkH0, LkOpen, OpenK, LkH, LkK, LkM, one behind the other. -/
/- The function that tells what a run broke off with. -/
namespace Go.Proofs.YtgkpbglllnmbeaaGreatDoor
open Go.RowKit
set_option linter.unusedVariables false

theorem catch_idle (p : Addr) (w : World) :
    CallsD Tryz.prog 51 #[.pointer (some p)] .returning w fun e u' w' => e = .returned (.tuple #[]) ∧ u' = .returning ∧ w' = w := by
  refine callsD_of_wpS Tryz.func51 rfl fun c₀ cs hu => ?_
  apply wpS_seq
  apply wpS_region
  simp [wpOpsS, go_sem, recoverD, hu, Tryz.ntmps51, Exit.thenS]
  refine wpS_of_wp ?_
  change Code.wp Tryz.prog _ _ { tmps := #[.pointer (some p), .nilIface, undef, undef, undef, undef, undef, undef, undef, undef, undef, undef], defers := [] } w
  go_wp2
  cases c₀
  simp_all [bodyPostS, results, Tryz.results51]
theorem ta_hit4 (W : World) : (Instr.typeAssert (.iface 114 (.agg #[])) 20 114 true).run Tryz.prog W = .ok (.tuple #[.agg #[], .bool true]) W := by kernel_rfl
theorem ta_miss8 (W : World) : (Instr.typeAssert (.iface 115 (.agg #[])) 20 114 true).run Tryz.prog W = .ok (.tuple #[.agg #[], .bool false]) W := by kernel_rfl
theorem ta_hit8 (W : World) : (Instr.typeAssert (.iface 115 (.agg #[])) 20 115 true).run Tryz.prog W = .ok (.tuple #[.agg #[], .bool true]) W := by kernel_rfl
theorem ta_miss7 (W : World) : (Instr.typeAssert (.iface 160 (.agg #[])) 20 114 true).run Tryz.prog W = .ok (.tuple #[.agg #[], .bool false]) W := by kernel_rfl
theorem ta_miss7b (W : World) : (Instr.typeAssert (.iface 160 (.agg #[])) 20 115 true).run Tryz.prog W = .ok (.tuple #[.agg #[], .bool false]) W := by kernel_rfl
set_option maxRecDepth 100000 in
theorem catch_pan (c : Int) (hc : c = 4 ∨ c = 7 ∨ c = 8) (b : Nat) (x : Value) (w : World) (hx : w.cell? ⟨b, 0, none⟩ = some x) (hz : w.frozen? ⟨b, 0, none⟩ = false) :
    CallsD Tryz.prog 51 #[.pointer (some ⟨b, 0, none⟩)] (.panicking (pan c)) w fun e u' w' => e = .returned (.tuple #[]) ∧ settle u' = .returning ∧ w' = w.setCell ⟨b, 0, none⟩ (errV c) := by
  refine callsD_of_wpS Tryz.func51 rfl fun c₀ cs hu => ?_
  have a1 := ta_hit4
  have a2 := ta_miss8
  have a3 := ta_hit8
  have a4 := ta_miss7
  have a5 := ta_miss7b
  rcases hc with rfl | rfl | rfl
  · simp only [pan] at hu
    apply wpS_seq
    apply wpS_region
    simp [wpOpsS, go_sem, recoverD, hu, Tryz.ntmps51, Exit.thenS]
    refine wpS_of_wp ?_
    change Code.wp Tryz.prog _ _ { tmps := #[.pointer (some ⟨b, 0, none⟩), .iface 114 (.agg #[]), undef, undef, undef, undef, undef, undef, undef, undef, undef, undef], defers := [] } w
    go_wp2
    simp_all [bodyPostS, results, Tryz.results51, settle, errV]
  · simp only [pan] at hu
    apply wpS_seq
    apply wpS_region
    simp [wpOpsS, go_sem, recoverD, hu, Tryz.ntmps51, Exit.thenS]
    refine wpS_of_wp ?_
    change Code.wp Tryz.prog _ _ { tmps := #[.pointer (some ⟨b, 0, none⟩), .iface 160 (.agg #[]), undef, undef, undef, undef, undef, undef, undef, undef, undef, undef], defers := [] } w
    go_wp2
    simp_all [bodyPostS, results, Tryz.results51, settle, errV]
  · simp only [pan] at hu
    apply wpS_seq
    apply wpS_region
    simp [wpOpsS, go_sem, recoverD, hu, Tryz.ntmps51, Exit.thenS]
    refine wpS_of_wp ?_
    change Code.wp Tryz.prog _ _ { tmps := #[.pointer (some ⟨b, 0, none⟩), .iface 115 (.agg #[]), undef, undef, undef, undef, undef, undef, undef, undef, undef, undef], defers := [] } w
    go_wp2
    simp_all [bodyPostS, results, Tryz.results51, settle, errV]
end Go.Proofs.YtgkpbglllnmbeaaGreatDoor

/- A lock that is opened: what its run breaks off with is told as an error. -/
namespace Go.Proofs.YtgkpbglllnmbeaaGreatDoor
open Go.RowKit
set_option linter.unusedVariables false

theorem size_lrun : Sized 118 34 := by unfold Sized; kernel_rfl
def zrun : List Value := runCells (.slice none 0 0) (List.replicate 32 0) 0
theorem info_lrun : (Tryz.prog.info? 118).map (fun i => i.zero) = some (some (.agg zrun.toArray)) := by kernel_rfl
theorem places_lrun : ∃ fs, Tryz.prog.underlying 118 = some (.struct fs) ∧ fs.toList.mapM (fun f => (Tryz.prog.info? f.type).map fun i => (f.offset, i.size)) = some [(0, 1), (1, 32), (33, 1)] := ⟨_, Tryz.underlying118, by kernel_rfl⟩
theorem fold_arr (c base : List Value) (off : Nat) (h : off + c.length ≤ base.length) :
    c.toArray.zipIdx.foldl (fun (cs : Array Value) (x : Value × Nat) => cs.setIfInBounds (off + x.2) x.1) base.toArray = (base.take off ++ c ++ base.drop (off + c.length)).toArray := by
  have hf := fold_set c 0 off base.toArray (by simpa using h)
  have e2 : c.toArray.zipIdx = (c.zipIdx).toArray := by simp
  rw [e2, List.size_toArray, List.foldl_toArray' _ _ _ (by simp)]
  apply Array.ext'
  apply List.ext_getElem?
  intro i
  have := hf.2 i
  rw [Array.getElem?_toList, this]
  simp only [Nat.add_zero, List.append_assoc]
  by_cases h1 : off ≤ i ∧ i < off + c.length
  · rw [if_pos h1, List.getElem?_append_right (by rw [List.length_take]; omega), List.getElem?_append_left (by rw [List.length_take]; omega), List.length_take, Nat.min_eq_left (by omega)]
  · rw [if_neg h1]
    by_cases h2 : i < off
    · rw [List.getElem?_append_left (by rw [List.length_take]; omega), List.getElem?_take, if_pos h2]; simp
    · rw [List.getElem?_append_right (by rw [List.length_take]; omega), List.getElem?_append_right (by rw [List.length_take]; omega), List.length_take, Nat.min_eq_left (by omega), List.getElem?_drop]
      simp only [List.getElem?_toArray]
      congr 1
      omega
theorem fill_cons (place : Nat → Option (Nat × Nat)) (base : List Value) (i off : Nat) (v : Value) (c : List Value) (rest : List (Nat × Value)) (hp : place i = some (off, c.length)) (hv : v.cells = c.toArray) (h : off + c.length ≤ base.length) :
    Instr.fill place base.toArray ((i, v) :: rest) = Instr.fill place (base.take off ++ c ++ base.drop (off + c.length)).toArray rest := by
  rw [Instr.fill, hp]
  simp only [hv]
  rw [if_neg (by simp; omega), fold_arr c base off h]
theorem built_run (M : List Value) (h : Int) (hM : M.length = 32) : Tryz.prog.built 118 [(1, .agg M.toArray), (2, .int .i64 h)] = some (.slice none 0 0 :: (M ++ [.int .i64 h])).toArray := by
  obtain ⟨fs, hu, hp⟩ := places_lrun
  unfold Program.built
  cases hi : Tryz.prog.info? 118 with
  | none => have := info_lrun; rw [hi] at this; cases this
  | some it =>
    have hz := info_lrun
    rw [hi] at hz
    simp only [Option.map_some, Option.some.injEq] at hz
    rw [hu]
    simp only [hz, hp]
    have hzl : zrun.length = 34 := by decide
    rw [show (Value.agg zrun.toArray).cells = zrun.toArray from rfl]
    rw [fill_cons _ zrun 1 1 (.agg M.toArray) M _ (by rw [hM]; rfl) rfl (by omega)]
    have e1 : zrun.take 1 ++ M ++ zrun.drop (1 + M.length) = .slice none 0 0 :: (M ++ [.int .i64 0]) := by
      rw [hM]; rfl
    rw [e1, fill_cons _ _ 2 33 (.int .i64 h) [.int .i64 h] _ rfl rfl (by simp; omega)]
    have e2 : (Value.slice none 0 0 :: (M ++ [.int .i64 0])).take 33 = .slice none 0 0 :: M := by
      rw [List.take_succ_cons, List.take_append_of_le_length (by omega), List.take_of_length_le (by omega)]
    have e3 : (Value.slice none 0 0 :: (M ++ [.int .i64 0])).drop (33 + [Value.int .i64 h].length) = [] := List.drop_eq_nil_of_le (by simp; omega)
    rw [e2, e3]
    simp [Instr.fill]
theorem wpList_build_run (M : List Value) (h : Int) {w : World} {ops : Array Oper} {rest : List Oper} {o : Oper} {a : Act} {Q : Exit → Act → World → Prop} (hgd : o.guard = none) (s x : Operand) (ho : o.op = .build 118 #[(1, s), (2, x)]) (hs : a.eval s = .agg M.toArray) (hx : a.eval x = .int .i64 h) (hM : M.length = 32)
    (hw : wpList Tryz.prog ops Q rest (a.put o.dst (.agg (.slice none 0 0 :: (M ++ [.int .i64 h])).toArray)) w) : wpList Tryz.prog ops Q (o :: rest) a w := by
  have e : Tryz.prog.built 118 ((#[(1, s), (2, x)] : Array (Nat × Operand)).map fun (i, x) => (i, a.eval x)).toList = some (.slice none 0 0 :: (M ++ [.int .i64 h])).toArray := by
    simp only [List.map_toArray, List.map_cons, List.map_nil, hs, hx]
    exact built_run M h hM
  refine wpList_build hgd 118 #[(1, s), (2, x)] ho (by rw [e]; rfl) ?_
  rw [e]
  exact hw
end Go.Proofs.YtgkpbglllnmbeaaGreatDoor

/- A lock that is opened. -/
namespace Go.Proofs.YtgkpbglllnmbeaaGreatDoor
open Go.RowKit
set_option linter.unusedVariables false

theorem st_new (w : World) (m : List Int) (h : Int) (hm : m.length = 32) (hmb : Sz.Byt m) : St (w.alloc (.cells (runCells (.slice none 0 0) m h).toArray 118)) w.heap.size w.heap.size m h [] := by
  have hi := Is.new w (runCells (.slice none 0 0) m h) 118
  have hh : handOf (w.alloc (.cells (runCells (.slice none 0 0) m h).toArray 118)) w.heap.size = .slice none 0 0 := by unfold handOf; rw [hi.cell]; rfl
  exact { is := by rw [hh]; exact hi, own := by rw [hh]; exact World.ownsRow_nil _ _ _ _, apart := (by rw [hh]; intro e; cases e), few := by simp, mlen := hm, mbyt := hmb, lay := Nat.le_refl _, has := fun p hp => by cases hp }

set_option maxRecDepth 100000 in
set_option maxHeartbeats 8000000 in
theorem open_any (L : List (Lk.Op × Value)) (KS : List (List Int × Value)) (lv kv : Value) (m : List Int) (h : Int) (w : World) (hl : HasOps w lv L) (hk : HasKeys w kv KS) (hks : ∀ p ∈ KS, p.1.length ≤ 3000) (h30 : KS.length ≤ 30) (h60 : L.length ≤ 60) (hf : Lk.opsFault (opsOf L) = 0) (hm : m.length = 32) (hmb : Sz.Byt m) (ht : Tab w) (hw : 0 < w.heap.size) :
    Calls Tryz.prog 30 #[lv, kv, .agg (vals m).toArray, .int .i64 h] w fun e w' => e = .returned (errV (Lk.ending (Lk.exec m h (opsOf L) (stk KS)))) ∧ Below w.heap.size w w' := by
  obtain ⟨ka, kc, rfl, hkc, _, hkr⟩ := hk.form
  have HL := hide hl
  have HKR := hide hkr
  have HKH : Hid (∀ p ∈ KS, Has w p.2 p.1 ∧ Sm p.1) := hide (fun p hp => ⟨(hk.2 p hp).1, (hk.2 p hp).2, hks p hp⟩)
  have HF := hide hf
  have HT := hide ht
  have HW := hide hw
  have hmf : ∀ (fn : Fn) (first cap : Array Value) (w : World), (Instr.makeFunc fn first cap).run Tryz.prog w = .ok (.func fn first cap) w := fun _ _ _ _ => rfl
  have hML : (vals m).length = 32 := by rw [vals_length]; exact hm
  have HML := hide hML
  have HN0 := hide (st_new ((w.alloc (.cells (vals m).toArray 34)).alloc (.cells #[.nilIface] 29)) m h hm hmb)
  unfold runCells at HN0
  obtain ⟨O, hO⟩ : ∃ O, O = Lk.exec m h (opsOf L) (stk KS) := ⟨_, rfl⟩
  rw [← hO]
  have HO := hide hO
  clear hl hk hks hkr hf ht hw hML hO hkc
  have HIS := hide ((Is.new w (vals m) 34).alloc (.cells #[.nilIface] 29))
  generalize vals m = M at *
  generalize hn : KS.length = n at *
  have HN := hide hn
  clear hn
  go_enter_defers Tryz.func30, Tryz.ntmps30
  go_wp2_with (first
    | (refine wpList_load_arr2 34 M w.heap.size rfl (.tmp 6) rfl rfl HIS.out Tryz.underlying34 size_dig HML.out ?_)
    | (refine wpList_build_run M h rfl (.tmp 13) (.tmp 14) rfl rfl rfl HML.out ?_; generalize Value.slice none 0 0 :: (M ++ [.int .i64 h]) = ZV at *))
  go_loopw [19] (fun i wr => ∃ k : Nat, k ≤ n ∧ i = .int .i64 k ∧ St wr (w.heap.size + 2) (w.heap.size + 2) m h (KS.take k) ∧ Below (w.heap.size + 2) (((w.alloc (.cells M.toArray 34)).alloc (.cells #[.nilIface] 29)).alloc (.cells ZV.toArray 118)) wr) (fun i _ => n - (intOf i).toNat)
  case atStart => exact ⟨0, by omega, rfl, by simpa using HN0.out, Below.refl _ _⟩
  case round =>
    obtain ⟨k, hk, rfl, hs, hb⟩ := hrel
    have HSW := hide hs
    have HBW := hide hb
    have HB0 : Hid (Below w.heap.size w wr) := hide ((below_alloc3 w _ _ _).trans (hb.mono (by omega)))
    clear hs hb
    by_cases hlt : k < n
    · obtain ⟨kb, koff, rfl, hkb, hkr⟩ := HKR.out k hlt
      have hkS : k < KS.length := by rw [HN.out]; exact hlt
      have hcell : wr.cell? ⟨kb, koff + k, none⟩ = some KS[k].2 := range_keep hkr HB0.out hkb k _ (by rw [List.getElem?_map, List.getElem?_eq_getElem hkS]; rfl)
      obtain ⟨hp1, hp2⟩ := HKH.out KS[k] (List.getElem_mem hkS)
      have HP := hide (put_ok _ _ m h _ KS[k].1 KS[k].2 wr HSW.out (by rw [List.length_take]; omega) (has_under HSW.out hp1 (by omega) HB0.out) hp2)
      obtain ⟨sa, sc, hse, _, _⟩ := hp1.shape
      rw [hse] at hcell HP
      have e1 : KS.take k ++ [(KS[k].1, Value.slice sa KS[k].1.length sc)] = KS.take (k + 1) := by
        rw [List.take_succ_eq_append_getElem hkS, ← hse]
      rw [e1] at HP
      clear hkr hp1 hp2 hse e1
      generalize KS[k].1.length = kl at *
      go_wp2_with fail
      refine HP.out.mono ?_
      rintro e w1 ⟨rfl, t1, t2, t3⟩
      have HS1 := hide t1
      have HB1 := hide (HBW.out.trans t3)
      clear t1 t2 t3
      go_wp2
      go_roundw
      case rel => exact ⟨k + 1, by omega, by go_num, HS1.out, HB1.out⟩
      case measure => simp [intOf]; omega
    · have hkn : ¬ (k : Int) < n := by omega
      have hke : KS.take k = KS := List.take_of_length_le (by rw [HN.out]; omega)
      rw [hke] at HSW
      clear hke
      have HTW := hide (HT.out.below HB0.out HW.out)
      have HDA := hide (doAll_any _ _ m h KS L lv w wr HSW.out HTW.out (by have := HW.out; omega) h60 HL.out (by omega) HB0.out HF.out)
      rw [← HO.out] at HDA
      have HIE : Hid (Is (((w.alloc (.cells M.toArray 34)).alloc (.cells #[.nilIface] 29)).alloc (.cells ZV.toArray 118)) (w.heap.size + 1) [.nilIface] 29) := hide ((Is.new' (w := w.alloc (.cells M.toArray 34)) [.nilIface] 29 (by simp)).alloc _)
      have hce : wr.cell? ⟨w.heap.size + 1, 0, none⟩ = some .nilIface := by
        rw [HBW.out.cell (p := ⟨w.heap.size + 1, 0, none⟩) (by simp), HIE.out.cell]; rfl
      have hfe : wr.frozen? ⟨w.heap.size + 1, 0, none⟩ = false := by
        rw [HBW.out.frozen (p := ⟨w.heap.size + 1, 0, none⟩) (by simp)]; exact HIE.out.frozen 0
      have HCE := hide hce
      have HFE := hide hfe
      have hwR : w.heap.size + 2 < wr.heap.size := HSW.out.is.lt
      clear hce hfe
      go_wp2_with fail
      refine HDA.out.mono ?_
      intro e w1 hd
      cases O with
      | err c =>
        obtain ⟨rfl, h1⟩ := hd
        have hc3 : c = 4 ∨ c = 7 ∨ c = 8 := Lk.exec_err m h _ _ _ c (Nat.le_refl _) HO.out.symm
        have hce1 : w1.cell? ⟨w.heap.size + 1, 0, none⟩ = some .nilIface := by rw [h1.cell (p := ⟨w.heap.size + 1, 0, none⟩) (by simp)]; exact HCE.out
        have hfe1 : w1.frozen? ⟨w.heap.size + 1, 0, none⟩ = false := by rw [h1.frozen (p := ⟨w.heap.size + 1, 0, none⟩) (by simp)]; exact HFE.out
        refine leaves_cons (f := 51) (args := #[.pointer (some ⟨w.heap.size + 1, 0, none⟩)]) (by simp) (by simp [go_sem]) ?_
        refine (catch_pan c hc3 (w.heap.size + 1) .nilIface _ hce1 hfe1).mono ?_
        rintro e u' w'' ⟨rfl, hu, rfl⟩
        show Leaves _ _ _ _ _ (settle u') _
        rw [hu]
        refine ⟨errV c, ?_, rfl, (HB0.out.trans (h1.mono (by omega))).setCell (by simp) _⟩
        · simp [results, Tryz.results30, go_sem, World.cell?_setCell_same _ _ _ hce1]
      | ok s1 =>
        obtain ⟨rfl, K1, h1, h2, h3⟩ := hd
        have hce1 : w1.cell? ⟨w.heap.size + 1, 0, none⟩ = some .nilIface := by rw [h3.cell (p := ⟨w.heap.size + 1, 0, none⟩) (by simp)]; exact HCE.out
        have hfe1 : w1.frozen? ⟨w.heap.size + 1, 0, none⟩ = false := by rw [h3.frozen (p := ⟨w.heap.size + 1, 0, none⟩) (by simp)]; exact HFE.out
        have HCE1 := hide hce1
        have HFE1 := hide hfe1
        have HE := hide (end_any _ _ m h K1 w1 h1)
        rw [h2] at HE
        have HB1 := hide (HB0.out.trans (h3.mono (by omega)))
        clear h1 h2 h3 hce1 hfe1
        cases hL : Left s1 with
        | false =>
          rw [hL] at HE
          have HOE : Hid (Lk.ending (.ok s1) = 7) := hide (by rw [ending_left, hL]; rfl)
          clear hL
          go_wp2_with fail
          refine HE.out.mono ?_
          rintro e w2 ⟨rfl, hb2⟩
          have hce2 : w2.cell? ⟨w.heap.size + 1, 0, none⟩ = some .nilIface := by rw [hb2.cell (p := ⟨w.heap.size + 1, 0, none⟩) (by simp)]; exact HCE1.out
          have hfe2 : w2.frozen? ⟨w.heap.size + 1, 0, none⟩ = false := by rw [hb2.frozen (p := ⟨w.heap.size + 1, 0, none⟩) (by simp)]; exact HFE1.out
          refine leaves_cons (f := 51) (args := #[.pointer (some ⟨w.heap.size + 1, 0, none⟩)]) (by simp) (by simp [go_sem]) ?_
          refine (catch_pan 7 (.inr (.inl rfl)) (w.heap.size + 1) .nilIface _ hce2 hfe2).mono ?_
          rintro e u' w'' ⟨rfl, hu, rfl⟩
          show Leaves _ _ _ _ _ (settle u') _
          rw [hu]
          refine ⟨errV 7, ?_, by rw [HOE.out], (HB1.out.trans (hb2.mono (by omega))).setCell (by simp) _⟩
          · simp [results, Tryz.results30, go_sem, World.cell?_setCell_same _ _ _ hce2]
        | true =>
          rw [hL] at HE
          have HOE : Hid (Lk.ending (.ok s1) = 0) := hide (by rw [ending_left, hL]; rfl)
          clear hL
          go_wp2_with fail
          refine HE.out.mono ?_
          rintro e w2 ⟨rfl, hb2⟩
          have hce2 : w2.cell? ⟨w.heap.size + 1, 0, none⟩ = some .nilIface := by rw [hb2.cell (p := ⟨w.heap.size + 1, 0, none⟩) (by simp)]; exact HCE1.out
          have hfe2 : w2.frozen? ⟨w.heap.size + 1, 0, none⟩ = false := by rw [hb2.frozen (p := ⟨w.heap.size + 1, 0, none⟩) (by simp)]; exact HFE1.out
          go_wp2
          refine leaves_cons (f := 51) (args := #[.pointer (some ⟨w.heap.size + 1, 0, none⟩)]) (by simp) (by simp [go_sem]) ?_
          refine (catch_idle ⟨w.heap.size + 1, 0, none⟩ _).mono ?_
          rintro e u' w'' ⟨rfl, rfl, rfl⟩
          show Leaves _ _ _ _ _ FrameMode.returning _
          refine ⟨errV 0, ?_, by rw [HOE.out], (HB1.out.trans (hb2.mono (by omega))).setCell (by simp) _⟩
          simp [results, Tryz.results30, go_sem, World.cell?_setCell_same _ _ _ hce2, errV]
end Go.Proofs.YtgkpbglllnmbeaaGreatDoor

/- lock.Run: any lock, any keys. -/
namespace Go.Proofs.YtgkpbglllnmbeaaGreatDoor
open Go.RowKit
set_option linter.unusedVariables false

theorem run_eq (m : List Int) (h : Int) (l : List Lk.Op) (ks : List (List Int)) : Lk.run m h l ks = if Lk.check l = 0 then (if keysF ks = 0 then Lk.ending (Lk.exec m h l ks.reverse) else 4) else Lk.check l := by
  unfold Lk.run
  by_cases hc : Lk.check l = 0
  · rw [if_pos hc, if_pos hc]
    unfold keysF
    by_cases h1 : 30 < ks.length
    · rw [if_pos h1, if_pos h1]; rfl
    · rw [if_neg h1, if_neg h1]
      by_cases ha : ks.any (fun k => decide (3000 < k.length)) = true
      · rw [if_pos ha, if_pos ha]; rfl
      · rw [if_neg ha, if_neg ha, if_pos rfl]
  · rw [if_neg hc, if_neg hc]

set_option maxRecDepth 100000 in
set_option maxHeartbeats 1600000 in
theorem run_any (L : List (Lk.Op × Value)) (KS : List (List Int × Value)) (lv kv : Value) (m : List Int) (h : Int) (w : World) (hl : HasOps w lv L) (hk : HasKeys w kv KS) (hm : m.length = 32) (hmb : Sz.Byt m) (ht : Tab w) (hw : 0 < w.heap.size) :
    Calls Tryz.prog 10 #[lv, kv, .agg (vals m).toArray, .int .i64 h] w fun e w' => e = .returned (errV (Lk.run m h (opsOf L) (KS.map Prod.fst))) ∧ Below w.heap.size w w' := by
  have hb0 := below_alloc w (.cells (vals m).toArray 34)
  have HC := hide (check_any lv L _ (hl.below hb0))
  have HL := hide hl
  have HK := hide hk
  have HT := hide ht
  have HW := hide hw
  have HM := hide hm
  have HMB := hide hmb
  have hML : (vals m).length = 32 := by rw [vals_length]; exact hm
  have HML := hide hML
  have HB0 := hide hb0
  obtain ⟨la, lc, rfl⟩ : ∃ a c, lv = .slice a L.length c := by
    rcases hl.1 with ⟨a, cap, rfl, rfl⟩ | ⟨b, off, cap, rfl, _⟩
    · exact ⟨a, cap, rfl⟩
    · exact ⟨_, cap, rfl⟩
  obtain ⟨ka, kc, rfl, _, _, _⟩ := hk.form
  have HIS := hide (Is.new w (vals m) 34)
  obtain ⟨X, hX⟩ : ∃ X, X = Lk.run m h (opsOf L) (KS.map Prod.fst) := ⟨_, rfl⟩
  rw [← hX]
  rw [run_eq] at hX
  have HX := hide hX
  have HO : Hid (∀ W M, M = vals m → Below w.heap.size w W → Lk.check (opsOf L) = 0 → keysF (KS.map Prod.fst) = 0 → Calls Tryz.prog 30 #[.slice la L.length lc, .slice ka KS.length kc, .agg M.toArray, .int .i64 h] W fun e w' => e = .returned (errV (Lk.ending (Lk.exec m h (opsOf L) (stk KS)))) ∧ Below W.heap.size W w') := hide (fun W M hMM hW hc hkf => by
    subst hMM
    have hc' := (Lk.check_zero _).1 hc
    have hk' := (keysF_zero _).1 hkf
    exact open_any L KS _ _ m h W (HL.out.below hW) (HK.out.below hW) (fun p hp => hk'.2 p.1 (List.mem_map_of_mem hp)) (by simpa using hk'.1) (by rw [← opsOf_length]; exact hc'.1) hc'.2.1 hm hmb (ht.below hW hw) (Nat.lt_of_lt_of_le hw hW.size))
  obtain ⟨M, hM⟩ : ∃ M, M = vals m := ⟨_, rfl⟩
  rw [← hM] at HIS HML HC HB0
  rw [← hM]
  have HMM := hide hM
  clear hl hk hm hmb ht hw hX hML hb0 hM
  obtain ⟨c, hc⟩ : ∃ c, c = Lk.check (opsOf L) := ⟨_, rfl⟩
  obtain ⟨kf, hkf⟩ : ∃ kf, kf = keysF (KS.map Prod.fst) := ⟨_, rfl⟩
  rw [← hc] at HC
  have HCE := hide hc
  have HKE := hide hkf
  clear hc hkf
  by_cases h0 : c = 0
  · subst h0
    have HX2 : Hid (X = if keysF (KS.map Prod.fst) = 0 then Lk.ending (Lk.exec m h (opsOf L) (KS.map Prod.fst).reverse) else 4) := hide (by rw [HX.out, ← HCE.out, if_pos rfl])
    clear HX
    have e0 : errV 0 = .nilIface := rfl
    rw [e0] at HC
    by_cases hk0 : kf = 0
    · subst hk0
      have HX3 : Hid (X = Lk.ending (Lk.exec m h (opsOf L) (stk KS))) := hide (by rw [HX2.out, ← HKE.out, if_pos rfl]; rfl)
      clear HX2
      generalize L.length = ll at *
      generalize KS.length = kl at *
      go_enter Tryz.func10, Tryz.ntmps10
      go_wp2_with fail
      refine HC.out.mono ?_
      rintro e w1 ⟨rfl, hb1⟩
      have HB1 := hide (HB0.out.trans (hb1.mono (by simp)))
      have HIS1 := hide (HIS.out.below hb1 (by simp))
      have HCK := hide (checkKeys_any KS _ w1 (HK.out.below HB1.out))
      rw [← HKE.out, e0] at HCK
      clear hb1 e0
      go_wp2_with fail
      refine HCK.out.mono ?_
      rintro e w2 ⟨rfl, rfl⟩
      have HOP := hide (HO.out w1 M HMM.out HB1.out HCE.out.symm HKE.out.symm)
      rw [← HX3.out] at HOP
      go_wp2_with (first
        | (refine wpList_load_arr2 34 M w.heap.size rfl (.tmp 6) rfl rfl HIS1.out Tryz.underlying34 size_dig HML.out ?_)
        | (go_at_call 30; refine HOP.out.mono ?_; rintro e w2 ⟨rfl, hb2⟩))
      go_ret
      exact ⟨rfl, HB1.out.trans (hb2.mono HB1.out.size)⟩
    · have hkv : errV 4 = .iface 60 (.int .i64 4) := rfl
      have HX3 : Hid (X = 4) := hide (by rw [HX2.out, ← HKE.out, if_neg hk0])
      have HK4 : Hid (keysF (KS.map Prod.fst) = 4) := hide (keysF_vals _ (by rw [← HKE.out]; exact hk0))
      clear HX2 hk0
      generalize L.length = ll at *
      generalize KS.length = kl at *
      go_enter Tryz.func10, Tryz.ntmps10
      go_wp2_with fail
      refine HC.out.mono ?_
      rintro e w1 ⟨rfl, hb1⟩
      have HB1 := hide (HB0.out.trans (hb1.mono (by simp)))
      have HCK := hide (checkKeys_any KS _ w1 (HK.out.below HB1.out))
      rw [HK4.out, hkv] at HCK
      clear hb1 e0 hkv
      go_wp2_with fail
      refine HCK.out.mono ?_
      rintro e w2 ⟨rfl, rfl⟩
      go_wp2
      go_ret
      exact ⟨by rw [HX3.out]; rfl, HB1.out⟩
  · have HX2 : Hid (X = c) := hide (by rw [HX.out, ← HCE.out, if_neg h0])
    have hcv : errV c = .iface 60 (.int .i64 c) := by unfold errV; rw [if_neg h0]
    rw [hcv] at HC
    have HCV := hide hcv
    clear HX hcv h0
    generalize L.length = ll at *
    generalize KS.length = kl at *
    go_enter Tryz.func10, Tryz.ntmps10
    go_wp2_with fail
    refine HC.out.mono ?_
    rintro e w1 ⟨rfl, hb1⟩
    have HB1 := hide (HB0.out.trans (hb1.mono (by simp)))
    clear hb1
    go_wp2
    go_ret
    exact ⟨by rw [HX2.out, HCV.out]; rfl, HB1.out⟩
end Go.Proofs.YtgkpbglllnmbeaaGreatDoor
