/- The keys in their order: inOrder, and areSigned. -/
import Derived.Test.YtkdihbgjeanjdaaDoorLkS
namespace Go.Proofs.YtkdihbgjeanjdaaDoor
open Go.RowKit
set_option linter.unusedVariables false

/-- The keys that the variable in block c holds from here on. -/
def Sought (c : Nat) (o : Option (List Int)) (w w' : World) : Prop :=
  Only c w.heap.size w w' ∧ ∃ kv ks, w'.cell? ⟨c, 0, none⟩ = some kv ∧ w'.frozen? ⟨c, 0, none⟩ = false ∧ HasX w' (fun b => b ≠ c) kv ks ∧ Sz.Byt ks ∧ ks.length % 32 = 0 ∧ ∀ k2, o = some k2 → k2 = ks

theorem seek_nil (n : Nat) (x : List Int) : Lk.seek n [] x = none := by cases n <;> rfl
theorem seek_hit (n : Nat) (ks x : List Int) (h0 : 0 < ks.length) (h : ks.take 32 = x) : Lk.seek (n + 1) ks x = some (ks.drop 32) := by
  rw [Lk.seek, if_neg (by omega), if_pos h]
theorem seek_miss (n : Nat) (ks x : List Int) (h0 : 0 < ks.length) (h : ks.take 32 ≠ x) : Lk.seek (n + 1) ks x = Lk.seek n (ks.drop 32) x := by
  rw [Lk.seek, if_neg (by omega), if_neg h]
theorem seek_more (x : List Int) : ∀ (n k : Nat) (ks : List Int), ks.length ≤ n → Lk.seek (n + k) ks x = Lk.seek n ks x := by
  intro n
  induction n with
  | zero =>
    intro k ks h
    have : ks = [] := List.eq_nil_of_length_eq_zero (by omega)
    subst this
    rw [seek_nil, seek_nil]
  | succ n ih =>
    intro k ks h
    by_cases h0 : ks.length = 0
    · have : ks = [] := List.eq_nil_of_length_eq_zero h0
      subst this
      rw [seek_nil, seek_nil]
    · rw [Nat.add_right_comm]
      by_cases he : ks.take 32 = x
      · rw [seek_hit _ _ _ (by omega) he, seek_hit _ _ _ (by omega) he]
      · rw [seek_miss _ _ _ (by omega) he, seek_miss _ _ _ (by omega) he]
        exact ih k _ (by rw [List.length_drop]; omega)
theorem seek_step (ks x : List Int) (h0 : 0 < ks.length) (h : ks.take 32 ≠ x) : Lk.seek ks.length ks x = Lk.seek (ks.drop 32).length (ks.drop 32) x := by
  obtain ⟨n, hn⟩ : ∃ n, ks.length = n + 1 := ⟨ks.length - 1, by omega⟩
  rw [hn, seek_miss _ _ _ h0 h]
  have e : n = (ks.drop 32).length + (n - (ks.drop 32).length) := by rw [List.length_drop]; omega
  rw [e, seek_more _ _ _ _ (Nat.le_refl _)]

theorem HasX.front {w : World} {X : Nat → Prop} {b off cap : Nat} {l : List Int} (hc : ∀ j, j < l.length → w.cell? ⟨b, off + j, none⟩ = some (.int .u8 (l.getD j 0))) (hX : X b) (hcap : l.length ≤ cap) (hm : cap ≤ maxLen) (n : Nat) (hn : n ≤ l.length) (h0 : 0 < n) :
    HasX w X (.slice (some ⟨b, off, none⟩) n cap) (l.take n) := by
  have hl : (l.take n).length = n := by rw [List.length_take]; omega
  refine .inr ⟨b, off, cap, by rw [hl], by omega, by omega, hm, hX, fun j hj => ?_⟩
  rw [hc j (by omega)]
  simp only [List.getD, List.getElem?_take]
  rw [if_pos (by omega)]
theorem HasX.back {w : World} {X : Nat → Prop} {b off cap : Nat} {l : List Int} (hc : ∀ j, j < l.length → w.cell? ⟨b, off + j, none⟩ = some (.int .u8 (l.getD j 0))) (hX : X b) (hcap : l.length ≤ cap) (hm : cap ≤ maxLen) (n : Nat) (hn : n ≤ l.length) (hne : ¬ cap = n) :
    HasX w X (.slice (some ⟨b, off + n, none⟩) (l.length - n) (cap - n)) (l.drop n) := by
  have hl : (l.drop n).length = l.length - n := by rw [List.length_drop]
  by_cases h0 : l.length - n = 0
  · refine .inl ⟨_, cap - n, by rw [h0], List.eq_nil_of_length_eq_zero (by omega), by omega, fun h => by cases h⟩
  · refine .inr ⟨b, off + n, cap - n, by rw [hl], by omega, by omega, by omega, hX, fun j hj => ?_⟩
    rw [Nat.add_assoc, hc (n + j) (by omega)]
    simp only [List.getD, List.getElem?_drop]

set_option maxRecDepth 100000 in
set_option maxHeartbeats 4000000 in
theorem inOrderF_any (bv : Value) (x : List Int) (c : Nat) (kv : Value) (ks : List Int) (w : World) (hx : HasX w (fun b => b ≠ c) bv x) (hxb : Sz.Byt x) (hk : HasX w (fun b => b ≠ c) kv ks) (hkb : Sz.Byt ks) (hm : ks.length % 32 = 0) (hc : w.cell? ⟨c, 0, none⟩ = some kv) (hf : w.frozen? ⟨c, 0, none⟩ = false) :
    Calls Tryd.prog 95 #[bv, .pointer (some ⟨c, 0, none⟩)] w fun e w' => e = .returned (.bool (Lk.seek ks.length ks x).isSome) ∧ Sought c (Lk.seek ks.length ks x) w w' := by
  obtain ⟨O, hO⟩ : ∃ O, O = Lk.seek ks.length ks x := ⟨_, rfl⟩
  rw [← hO]
  have H0 : Hid (∃ kv2 ks2, w.cell? ⟨c, 0, none⟩ = some kv2 ∧ w.frozen? ⟨c, 0, none⟩ = false ∧ HasX w (fun b => b ≠ c) kv2 ks2 ∧ Sz.Byt ks2 ∧ ks2.length % 32 = 0 ∧ Lk.seek ks2.length ks2 x = O) := ⟨kv, ks, hc, hf, hk, hkb, hm, hO.symm⟩
  have HX := hide hx
  have HXB := hide hxb
  clear hx hxb hk hkb hm hc hf hO
  go_enter Tryd.func95, Tryd.ntmps95
  go_wp2
  go_loopw [4] (fun _ wr => Only c w.heap.size w wr ∧ ∃ kv2 ks2, wr.cell? ⟨c, 0, none⟩ = some kv2 ∧ wr.frozen? ⟨c, 0, none⟩ = false ∧ HasX wr (fun b => b ≠ c) kv2 ks2 ∧ Sz.Byt ks2 ∧ ks2.length % 32 = 0 ∧ Lk.seek ks2.length ks2 x = O) (fun _ wr => lenOf ((wr.cell? ⟨c, 0, none⟩).getD .nilIface))
  case atStart => exact ⟨Only.refl _ _ _, H0.out⟩
  case round =>
    obtain ⟨hon, kv2, ks2, hc, hf, hk, hkb, hm, hO⟩ := hrel
    rcases hk with ⟨ka, kcap, rfl, rfl, hcm, hn⟩ | ⟨b, off, kcap, rfl, h0, h1, h2, h3, hcells⟩
    · rw [List.length_nil, seek_nil] at hO
      have HO := hide hO
      have HON := hide hon
      clear hO hon
      go_wp2
      go_ret
      exact ⟨by rw [← HO.out]; rfl, HON.out, _, [], hc, hf, .inl ⟨ka, kcap, rfl, rfl, hcm, hn⟩, Sz.Byt.nil, rfl, fun k2 h => by rw [← HO.out] at h; cases h⟩
    · have h32 : 32 ≤ ks2.length := by omega
      have hkc : 32 ≤ kcap := by omega
      unfold maxLen at h2
      have HF := hide (HasX.front (X := fun b => b ≠ c) hcells h3 h1 (by unfold maxLen; omega) 32 h32 (by omega))
      have HON := hide hon
      have HXW : Hid (HasX wr (fun b => b ≠ c) bv x) := hide (HX.out.move fun b hb hX => ⟨hon.block b hb hX, hX⟩)
      have HKB := hide hkb
      have HM := hide hm
      have HO := hide hO
      have HCC := hide hcells
      have H3 := hide h3
      clear hon hkb hm hO hcells h3
      have hset : ∀ rv, ∀ k, k ≠ c → (wr.setCell ⟨c, 0, none⟩ rv).heap[k]? = wr.heap[k]? := fun rv k hk => Below.heap_setCell _ _ _ _ hk
      have HSET := hide hset
      have HBE : Hid (∀ rv, Calls Tryd.prog 77 #[.slice (some ⟨b, off, none⟩) 32 kcap, bv] (wr.setCell ⟨c, 0, none⟩ rv) fun e w' => e = .returned (.bool (decide (ks2.take 32 = x))) ∧ wr.setCell ⟨c, 0, none⟩ rv = w') := hide (fun rv =>
        bequal_any _ bv (ks2.take 32) x _ (HF.out.move (Y := fun b => b ≠ c) fun b _ hX => ⟨hset rv b hX, hX⟩).has (HXW.out.move (Y := fun b => b ≠ c) fun b _ hX => ⟨hset rv b hX, hX⟩).has (HKB.out.take 32) HXB.out)
      have HCELL : Hid (∀ rv, (wr.setCell ⟨c, 0, none⟩ rv).cell? ⟨c, 0, none⟩ = some rv) := hide (fun rv => World.cell?_setCell_same _ _ _ hc)
      have HFRZ : Hid (∀ rv, (wr.setCell ⟨c, 0, none⟩ rv).frozen? ⟨c, 0, none⟩ = false) := hide (fun rv => by rw [World.frozen?_setCell]; exact hf)
      have HONS : Hid (∀ rv, Only c w.heap.size w (wr.setCell ⟨c, 0, none⟩ rv)) := hide (fun rv => HON.out.setCell (.inl rfl) rv)
      clear hset
      by_cases hcc : kcap = 32
      · subst hcc
        have hl32 : ks2.length = 32 := by omega
        have HR : Hid (HasX (wr.setCell ⟨c, 0, none⟩ (.slice (some ⟨b, off, none⟩) 0 0)) (fun b => b ≠ c) (.slice (some ⟨b, off, none⟩) 0 0) (ks2.drop 32)) := hide (.inl ⟨_, 0, rfl, List.drop_eq_nil_of_le (by omega), by omega, fun h => by cases h⟩)
        by_cases he : ks2.take 32 = x
        · have HB2 := hide (HBE.out (.slice (some ⟨b, off, none⟩) 0 0))
          rw [decide_eq_true he] at HB2
          have HO2 : Hid (O = some (ks2.drop 32)) := hide (by rw [← HO.out, hl32]; exact seek_hit 31 _ _ h0 he)
          clear he HBE HO
          rw [hl32] at hc
          go_wp2_with fail
          refine HB2.out.mono ?_
          rintro e w1 ⟨rfl, rfl⟩
          go_wp2
          go_ret
          exact ⟨by rw [HO2.out]; rfl, HONS.out _, _, _, HCELL.out _, HFRZ.out _, HR.out, HKB.out.drop 32, by rw [List.length_drop, hl32], fun k2 h => by rw [HO2.out] at h; exact (Option.some.inj h).symm⟩
        · have HB2 := hide (HBE.out (.slice (some ⟨b, off, none⟩) 0 0))
          rw [decide_eq_false he] at HB2
          have HO2 : Hid (Lk.seek (ks2.drop 32).length (ks2.drop 32) x = O) := hide (by rw [← HO.out]; exact (seek_step _ _ h0 he).symm)
          clear he HBE HO
          rw [hl32] at hc
          go_wp2_with fail
          refine HB2.out.mono ?_
          rintro e w1 ⟨rfl, rfl⟩
          go_wp2
          go_roundw
          case rel => exact ⟨HONS.out _, _, _, HCELL.out _, HFRZ.out _, HR.out, HKB.out.drop 32, by rw [List.length_drop, hl32], HO2.out⟩
          case measure => rw [HCELL.out, hc]; simp [lenOf]
      · have hlc : ks2.length ≤ kcap := h1
        have HR : Hid (HasX (wr.setCell ⟨c, 0, none⟩ (.slice (some ⟨b, off + 32, none⟩) (ks2.length - 32) (kcap - 32))) (fun b => b ≠ c) (.slice (some ⟨b, off + 32, none⟩) (ks2.length - 32) (kcap - 32)) (ks2.drop 32)) := hide ((HasX.back (X := fun b => b ≠ c) HCC.out H3.out h1 (by unfold maxLen; omega) 32 h32 hcc).move (fun b _ hX => ⟨HSET.out _ b hX, hX⟩))
        have hml : (ks2.drop 32).length % 32 = 0 := by rw [List.length_drop]; have := HM.out; omega
        have HML := hide hml
        have HKD := hide (HKB.out.drop 32)
        by_cases he : ks2.take 32 = x
        · have HB2 := hide (HBE.out (.slice (some ⟨b, off + 32, none⟩) (ks2.length - 32) (kcap - 32)))
          rw [decide_eq_true he] at HB2
          have HO2 : Hid (O = some (ks2.drop 32)) := hide (by rw [← HO.out]; obtain ⟨n, hn⟩ : ∃ n, ks2.length = n + 1 := ⟨ks2.length - 1, by omega⟩; rw [hn]; exact seek_hit n _ _ h0 he)
          clear he HBE HO hml HF HCC HM HKB
          generalize ks2.drop 32 = ks3 at *
          generalize ks2.length = kl at *
          clear ks2
          go_wp2_with fail
          refine HB2.out.mono ?_
          rintro e w1 ⟨rfl, rfl⟩
          go_wp2
          go_ret
          exact ⟨by rw [HO2.out]; rfl, HONS.out _, _, _, HCELL.out _, HFRZ.out _, HR.out, HKD.out, HML.out, fun k2 h => by rw [HO2.out] at h; exact (Option.some.inj h).symm⟩
        · have HB2 := hide (HBE.out (.slice (some ⟨b, off + 32, none⟩) (ks2.length - 32) (kcap - 32)))
          rw [decide_eq_false he] at HB2
          have HO2 : Hid (Lk.seek (ks2.drop 32).length (ks2.drop 32) x = O) := hide (by rw [← HO.out]; exact (seek_step _ _ h0 he).symm)
          clear he HBE HO hml HF HCC HM HKB
          generalize ks2.drop 32 = ks3 at *
          generalize ks2.length = kl at *
          clear ks2
          go_wp2_with fail
          refine HB2.out.mono ?_
          rintro e w1 ⟨rfl, rfl⟩
          go_wp2
          go_roundw
          case rel => exact ⟨HONS.out _, _, _, HCELL.out _, HFRZ.out _, HR.out, HKD.out, HML.out, HO2.out⟩
          case measure => rw [HCELL.out, hc]; simp [lenOf]; omega

theorem inOrder_any (a : Option Addr) (n c : Nat) (w : World) :
    Calls Tryd.prog 88 #[.slice a n c] w fun e w' => e = .returned (.func (.func 95) #[] #[.pointer (some ⟨w.heap.size, 0, none⟩)]) ∧ w' = w.alloc (.cells #[.slice a n c] 36) := by
  have hmf : ∀ (fn : Fn) (first cap : Array Value) (w : World), (Instr.makeFunc fn first cap).run Tryd.prog w = .ok (.func fn first cap) w := fun _ _ _ _ => rfl
  go_enter Tryd.func88, Tryd.ntmps88
  go_wp2
  go_ret
  exact ⟨rfl, rfl⟩

theorem areSigned_none (R : Value) (sv : Value) (a : Option Addr) (keys : List Int) (cap : Nat) (w : World) (hm : keys.length ≤ maxLen) (h : keys.length = 0 ∨ keys.length % 32 ≠ 0) :
    Calls Tryd.prog 80 #[R, sv, .slice a keys.length cap] w fun e w' => e = .returned (.bool false) ∧ w = w' := by
  unfold maxLen at hm
  generalize keys.length = n at *
  by_cases h0 : n = 0
  · subst h0
    clear h
    go_enter Tryd.func80, Tryd.ntmps80
    go_wp2
    go_ret
    exact ⟨rfl, rfl⟩
  · have h1 : ((n : Int) == 0) = false := by simp; omega
    have h3 : (Int.tmod (n : Int) 32 != 0) = true := by
      rw [Int.tmod_eq_emod_of_nonneg (by omega)]; simp; omega
    have h2 : ((n : Int) % 32 != 0) = true := by simp; omega
    clear h h0
    go_enter Tryd.func80, Tryd.ntmps80
    go_wp2
    all_goals go_ret
    all_goals exact ⟨rfl, rfl⟩
theorem among_cons (m ks sig : List Int) (r : List (List Int)) (hl : sig.length = 2144) : Lk.among m ks (sig :: r) = match Lk.seek ks.length ks (Ky.recov m sig) with
    | none => false
    | some k2 => Lk.among m k2 r := by
  rw [Lk.among, if_pos hl]
  cases Lk.seek ks.length ks (Ky.recov m sig) <;> rfl
theorem among_bad (m ks sig : List Int) (r : List (List Int)) (hl : sig.length ≠ 2144) : Lk.among m ks (sig :: r) = false := by
  rw [Lk.among, if_neg hl]

set_option maxRecDepth 100000 in
set_option maxHeartbeats 8000000 in
theorem areSigned_some (R base : Nat) (m : List Int) (h : Int) (K S : List (List Int × Value)) (keys : List Int) (g l c : Nat) (ka : Option Addr) (kcap : Nat) (w : World) (s : St w R base m h K) (hS : w.rangeAt g l (S.map Prod.snd)) (hg : g < w.heap.size) (hn : 0 < S.length) (hn9 : S.length ≤ 30) (hh : ∀ p ∈ S, Has w p.2 p.1 ∧ Sz.Byt p.1)
    (hk : Has w (.slice ka keys.length kcap) keys) (hkb : Sz.Byt keys) (hk0 : keys.length ≠ 0) (hk32 : keys.length % 32 = 0) (ht : Tab w) (hw : 1 < w.heap.size) :
    Calls Tryd.prog 80 #[.pointer (some ⟨R, 0, none⟩), .slice (some ⟨g, l, none⟩) S.length c, .slice ka keys.length kcap] w fun e w' => e = .returned (.bool (Lk.among m keys (S.map Prod.fst))) ∧ Below w.heap.size w w' := by
  have HS := hide s
  have HRG := hide hS
  have HG := hide hg
  have HH := hide hh
  have HT := hide ht
  have HW := hide hw
  have hkm : keys.length ≤ 9223372036854775807 := by obtain ⟨_, _, _, _, hm⟩ := hk.shape; unfold maxLen at hm; omega
  have hA : HasX (w.alloc (.cells #[.slice ka keys.length kcap] 36)) (fun b => b ≠ w.heap.size) (.slice ka keys.length kcap) keys := (hk.x (X := fun b => b ≠ w.heap.size) (fun b hb => by omega)).move (fun b hb hX => ⟨Below.heap_alloc _ _ _ hb, hX⟩)
  have HA := hide hA
  have HKB := hide hkb
  have HK32 := hide hk32
  obtain ⟨O, hO⟩ : ∃ O, O = Lk.among m keys (S.map Prod.fst) := ⟨_, rfl⟩
  rw [← hO]
  have HO := hide hO
  clear s hS hg hh ht hw hA hkb hk hO
  have h1 : ((keys.length : Int) == 0) = false := by rw [beq_eq_false_iff_ne]; omega
  have h2' : (keys.length : Int) % 32 = 0 := by omega
  have h2 : ((keys.length : Int) % 32 != 0) = false := by rw [h2']; rfl
  have h3 : (Int.tmod (keys.length : Int) 32 != 0) = false := by
    rw [Int.tmod_eq_emod_of_nonneg (by omega), h2']; rfl
  clear h2'
  have HIO := hide (inOrder_any ka keys.length kcap w)
  generalize hkl : keys.length = kl at *
  have HKL := hide hkl
  generalize hsl : S.length = n at *
  have HSL := hide hsl
  clear hkl hsl hk0 hk32
  go_enter Tryd.func80, Tryd.ntmps80
  go_wp2_with fail
  refine HIO.out.mono ?_
  rintro e w0 ⟨rfl, rfl⟩
  clear h1 h2 h3
  go_wp2
  go_loopw [23] (fun i wr => ∃ (k : Nat) (kv : Value) (ks : List Int), k ≤ n ∧ i = .int .i64 k ∧ Below w.heap.size w wr ∧ w.heap.size < wr.heap.size ∧ wr.cell? ⟨w.heap.size, 0, none⟩ = some kv ∧ wr.frozen? ⟨w.heap.size, 0, none⟩ = false ∧ HasX wr (fun b => b ≠ w.heap.size) kv ks ∧ Sz.Byt ks ∧ ks.length % 32 = 0 ∧ Lk.among m ks ((S.map Prod.fst).drop k) = O) (fun i _ => n - (intOf i).toNat)
  case atStart => exact ⟨0, .slice ka kl kcap, keys, by omega, rfl, below_alloc _ _, by simp, by simp, by simp, HA.out, HKB.out, by rw [HKL.out]; exact HK32.out, HO.out.symm⟩
  case round =>
    obtain ⟨k, kv, ks, hk, rfl, hb, hsz, hc, hf, hx, hkb, hm, ha⟩ := hrel
    by_cases hlt : k < n
    · have hkS : k < S.length := by rw [HSL.out]; exact hlt
      have hkS2 : k < (S.map Prod.fst).length := by rw [List.length_map]; exact hkS
      rw [List.drop_eq_getElem_cons hkS2, List.getElem_map] at ha
      obtain ⟨hp1, hp2⟩ := HH.out S[k] (List.getElem_mem hkS)
      have hcell : wr.cell? ⟨g, l + k, none⟩ = some S[k].2 := range_keep HRG.out hb HG.out k _ (by rw [List.getElem?_map, List.getElem?_eq_getElem hkS]; rfl)
      have hp1' := hp1.below hb
      obtain ⟨sa, sc, hse, _, _⟩ := hp1.shape
      rw [hse] at hcell hp1'
      have hst := HS.out.below hb
      have htb := HT.out.below hb HW.out
      have hwb := Nat.lt_of_lt_of_le HW.out hb.size
      clear hse hp1
      generalize hsig : S[k].1 = sig at *
      clear hsig
      obtain ⟨wA, hwA⟩ : ∃ wA, wA = wr := ⟨_, rfl⟩
      subst hwA
      have HBA := hide hb
      have HSZ := hide hsz
      by_cases hl : sig.length = 2144
      · rw [among_cons _ _ _ _ hl] at ha
        obtain ⟨o, ho⟩ : ∃ o, o = Lk.seek ks.length ks (Ky.recov m sig) := ⟨_, rfl⟩
        rw [← ho] at ha
        have HC := hide (isSigned_good R base m h K sig _ 95 #[.pointer (some ⟨w.heap.size, 0, none⟩)] o.isSome (Sought w.heap.size o) wA hst hp1' hl hp2 htb hwb call_inOrderF (fun W b hW hbW hI => by
          rw [ho]
          have hcW : W.cell? ⟨w.heap.size, 0, none⟩ = some kv := by rw [hW.cell (p := ⟨w.heap.size, 0, none⟩) hsz]; exact hc
          have hfW : W.frozen? ⟨w.heap.size, 0, none⟩ = false := by rw [World.frozen?_of_block (hW.block _ hsz)]; exact hf
          have hxW : HasX W (fun b => b ≠ w.heap.size) kv ks := hx.move fun b hb' hX => ⟨hW.block b hb', hX⟩
          refine inOrderF_any _ (Ky.recov m sig) w.heap.size kv ks W (.inr ⟨b, 0, 32, by rw [Ky.recov_length], by rw [Ky.recov_length]; omega, by rw [Ky.recov_length]; omega, by unfold maxLen; omega, by omega, fun j hj => ?_⟩) (Mc.sum_byt _) hxW hkb hm hcW hfW
          rw [Nat.zero_add, hI.cell, vals_get _ _ hj]))
        rw [hl] at hcell HC
        have HAA := hide ha
        clear hst hp1' htb hwb hc hf hx hkb hm ha ho hb hsz hp2
        cases o with
        | none =>
          simp only [Option.isSome_none] at HC
          have HF : Hid (O = false) := hide HAA.out.symm
          go_wp2_with fail
          refine HC.out.mono ?_
          rintro e w1 ⟨rfl, W, hW, hsgt⟩
          have HB1 : Hid (Below w.heap.size w w1) := hide ((HBA.out.trans (hW.mono HBA.out.size)).trans (hsgt.1.below (Nat.le_trans HBA.out.size hW.size) (Nat.le_refl _)))
          clear hsgt hW
          go_wp2
          go_ret
          exact ⟨by rw [HF.out]; rfl, HB1.out⟩
        | some k2 =>
          simp only [Option.isSome_some] at HC
          go_wp2_with fail
          refine HC.out.mono ?_
          rintro e w1 ⟨rfl, W, hW, hon, kv2, ks2, q1, q2, q3, q4, q5, q6⟩
          have e6 := q6 k2 rfl
          subst e6
          have HB1 : Hid (Below w.heap.size w w1) := hide ((HBA.out.trans (hW.mono HBA.out.size)).trans (hon.below (Nat.le_trans HBA.out.size hW.size) (Nat.le_refl _)))
          have HSZ1 : Hid (w.heap.size < w1.heap.size) := hide (Nat.lt_of_lt_of_le HSZ.out (Nat.le_trans hW.size hon.size))
          have HQ := hide (And.intro q1 (And.intro q2 (And.intro q3 (And.intro q4 q5))))
          clear q1 q2 q3 q4 q5 q6 hon hW
          go_wp2
          go_roundw
          case rel => exact ⟨k + 1, kv2, _, by omega, by go_num, HB1.out, HSZ1.out, HQ.out.1, HQ.out.2.1, HQ.out.2.2.1, HQ.out.2.2.2.1, HQ.out.2.2.2.2, HAA.out⟩
          case measure => simp [intOf]; omega
      · rw [among_bad _ _ _ _ hl] at ha
        have HC := hide (isSigned_bad R base m h K sig _ (.func (.func 95) #[] #[.pointer (some ⟨w.heap.size, 0, none⟩)]) wA hst hp1' hl hp2 htb hwb)
        have HF : Hid (O = false) := hide ha.symm
        clear hst hp1' htb hwb hc hf hx hkb hm ha hb hsz hp2 hl
        generalize sig.length = sl at *
        go_wp2_with fail
        refine HC.out.mono ?_
        rintro e w1 ⟨rfl, hb1⟩
        have HB1 : Hid (Below w.heap.size w w1) := hide (HBA.out.trans (hb1.mono HBA.out.size))
        clear hb1
        go_wp2
        go_ret
        exact ⟨by rw [HF.out]; rfl, HB1.out⟩
    · have hkn : ¬ (k : Int) < n := by omega
      rw [List.drop_eq_nil_of_le (by rw [List.length_map, HSL.out]; omega)] at ha
      have HF : Hid (O = true) := hide (by rw [← ha]; rw [Lk.among])
      have HBA := hide hb
      clear hc hf hx hkb hm ha hb hsz
      go_wp2
      go_ret
      exact ⟨by rw [HF.out]; rfl, HBA.out⟩
end Go.Proofs.YtkdihbgjeanjdaaDoor
