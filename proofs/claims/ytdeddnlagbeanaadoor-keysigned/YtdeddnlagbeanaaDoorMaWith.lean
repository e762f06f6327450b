/- The contract of withBlock: the digest, with a key's block, of parts that stand behind each other. -/
import Derived.Test.YtdeddnlagbeanaaDoorMaBehind
namespace Go.Proofs.YtdeddnlagbeanaaDoor
open Go.RowKit
set_option linter.unusedVariables false

theorem Is.range {w : World} {b : Nat} {L : List Value} {t : TypeId} (h : Is w b L t) : w.rangeAt b 0 L := fun j v hv => by rw [h.cell, Nat.zero_add]; exact hv
theorem Is.there {w : World} {b : Nat} {L : List Value} {t : TypeId} (h : Is w b L t) {n : Nat} (hn : L.length = n) : w.there b 0 n := fun j hj => by
  rw [h.cell, h.frozen, Nat.zero_add, List.getElem?_eq_getElem (by omega)]
  exact ⟨rfl, rfl⟩
theorem range_below {w w' : World} {b : Nat} {L : List Value} (h : w.rangeAt b 0 L) (hb : Below w.heap.size w w') : w'.rangeAt b 0 L := fun j v hv => by
  have := h j v hv
  rw [hb.cell (p := ⟨b, 0 + j, none⟩) (World.block_lt_of_cell? w ⟨b, 0 + j, none⟩ this)]
  exact this
theorem there_below {w w' : World} {b n : Nat} (h : w.there b 0 n) (hb : Below w.heap.size w w') : w'.there b 0 n := fun j hj => by
  obtain ⟨h1, h2⟩ := h j hj
  obtain ⟨v, hv⟩ := Option.isSome_iff_exists.1 h1
  have hlt := World.block_lt_of_cell? w ⟨b, 0 + j, none⟩ hv
  rw [hb.cell (p := ⟨b, 0 + j, none⟩) hlt]
  refine ⟨h1, ?_⟩
  have := hb.block b hlt
  rw [← h2]
  unfold World.frozen?
  simp only [this]
theorem setCells_below {B b : Nat} (hB : B ≤ b) {w0 : World} : ∀ (vs : List Value) (o : Nat) (w : World), Below B w0 w → Below B w0 (w.setCells b o vs)
  | [], _, _, h => h
  | v :: r, o, w, h => setCells_below hB r (o + 1) _ (h.setCell (p := ⟨b, o, none⟩) hB v)
theorem setCells_is {b b' : Nat} (hne : b ≠ b') {L : List Value} {t : TypeId} : ∀ (vs : List Value) (o : Nat) (w : World), Is w b' L t → Is (w.setCells b o vs) b' L t
  | [], _, _, h => h
  | v :: r, o, w, h => setCells_is hne r (o + 1) _ (h.other ⟨b, o, none⟩ v hne)

/-- What stands while the outer digest is told. -/
theorem held_below {w W W' : World} {c D : List Int} {b : Nat} (h : W.rangeAt w.heap.size 0 (vals c) ∧ W.there (w.heap.size + 1) 0 32 ∧ Below w.heap.size w W ∧ Is W b (vals D) 23) (hb : Below W.heap.size W W') :
    W'.rangeAt w.heap.size 0 (vals c) ∧ W'.there (w.heap.size + 1) 0 32 ∧ Below w.heap.size w W' ∧ Is W' b (vals D) 23 :=
  ⟨range_below h.1 hb, there_below h.2.1 hb, h.2.2.1.trans (hb.mono h.2.2.1.size), h.2.2.2.below hb h.2.2.2.lt⟩
theorem held_store {w W : World} {c D : List Int} {b : Nat} (h : W.rangeAt w.heap.size 0 (vals c) ∧ W.there (w.heap.size + 1) 0 32 ∧ Below w.heap.size w W ∧ Is W b (vals D) 23) (hne : w.heap.size + 1 ≠ b) (vs : List Value) :
    (W.setCells (w.heap.size + 1) 0 vs).rangeAt w.heap.size 0 (vals c) ∧ (W.setCells (w.heap.size + 1) 0 vs).there (w.heap.size + 1) 0 32 ∧ Below w.heap.size w (W.setCells (w.heap.size + 1) 0 vs) ∧ Is (W.setCells (w.heap.size + 1) 0 vs) b (vals D) 23 :=
  ⟨World.rangeAt_setCells_apart h.1 _ _ _ (.inl (by omega)), World.there_setCells h.2.1 _ _ _, setCells_below (Nat.le_succ _) _ _ _ h.2.2.1, setCells_is hne _ _ _ h.2.2.2⟩

set_option maxRecDepth 100000 in
set_option maxHeartbeats 800000 in
theorem withBlock_any (c : List Int) (A : Option Addr) (cap : Nat) (ls : List (List Int)) (w : World) (hc : c.length = 64) (hcb : Sz.Byt c) (hr : HasRows w A ls.length ls) (hB : ∀ l ∈ ls, Sz.Byt l) (hn : ls.length ≤ 1000) (hlen : ls.flatten.length < 500000000000000) (ht : Tab w) (hw : 1 < w.heap.size) :
    Calls Tryd.prog 44 #[.agg (vals c).toArray, .slice A ls.length cap] w fun e w' => e = .returned (.agg (vals (Sh.sum (Mc.mask 92 c ++ Sh.sum (Mc.mask 54 c ++ ls.flatten)))).toArray) ∧ Below w.heap.size w w' := by
  have HM1 : Hid (∀ w', Calls Tryd.prog 56 #[.agg (vals c).toArray, .int .u8 54] w' fun e w'' => e = .returned (.agg (vals (Mc.mask 54 c)).toArray) ∧ Below w'.heap.size w' w'') := fun w' => masked_any c 54 w' hc hcb (by omega)
  have HM2 : Hid (∀ w', Calls Tryd.prog 56 #[.agg (vals c).toArray, .int .u8 92] w' fun e w'' => e = .returned (.agg (vals (Mc.mask 92 c)).toArray) ∧ Below w'.heap.size w' w'') := fun w' => masked_any c 92 w' hc hcb (by omega)
  have hrb : ∀ w', Below w.heap.size w w' → HasRows w' A ls.length ls := fun w' hb => ⟨hr.1, fun i hi => by
    obtain ⟨b, off, a, m, cp, h1, h2, h3⟩ := hr.2 i hi
    exact ⟨b, off, a, m, cp, h1, by rw [hb.cell (p := ⟨b, off + i, none⟩) (World.block_lt_of_cell? w ⟨b, off + i, none⟩ h2)]; exact h2, h3.below hb⟩⟩
  have hm1 : (Mc.mask 54 c).length = 64 := by rw [Mc.mask_length]; exact hc
  have hm2 : (Mc.mask 92 c).length = 64 := by rw [Mc.mask_length]; exact hc
  have HS1 : Hid (∀ w', Below w.heap.size w w' → Calls Tryd.prog 55 #[.agg (vals (Mc.mask 54 c)).toArray, .slice A ls.length cap] w' fun e w'' => e = .returned (.agg (vals (Sh.sum (Mc.mask 54 c ++ ls.flatten))).toArray) ∧ Below w'.heap.size w' w'') := fun w' hb =>
    sumBehind_any _ A cap ls w' hm1 (Mc.mask_byt _ _ hcb (by omega)) (hrb w' hb) hB hn hlen (ht.below hb hw) (Nat.lt_of_lt_of_le hw hb.size)
  have hD1 : (Sh.sum (Mc.mask 54 c ++ ls.flatten)).length = 32 := Mc.sum_length _
  have hD1b : Sz.Byt (Sh.sum (Mc.mask 54 c ++ ls.flatten)) := Mc.sum_byt _
  generalize Sh.sum (Mc.mask 54 c ++ ls.flatten) = D at *
  have HS2 : Hid (∀ W b K, (W.rangeAt w.heap.size 0 (vals c) ∧ W.there (w.heap.size + 1) 0 32 ∧ Below w.heap.size w W ∧ Is W b (vals D) 23) → Is W K [.slice (some ⟨b, 0, none⟩) 32 32] 24 → Calls Tryd.prog 55 #[.agg (vals (Mc.mask 92 c)).toArray, .slice (some ⟨K, 0, none⟩) 1 1] W fun e w'' => e = .returned (.agg (vals (Sh.sum (Mc.mask 92 c ++ D))).toArray) ∧ Below W.heap.size W w'') := fun W b K hS hK => by
    have := sumBehind_any (Mc.mask 92 c) (some ⟨K, 0, none⟩) 1 [D] W hm2 (Mc.mask_byt _ _ hcb (by omega)) ⟨rfl, fun i hi => by
      have : i = 0 := by simp at hi; omega
      subst this
      exact ⟨K, 0, some ⟨b, 0, none⟩, 32, 32, rfl, by rw [hK.cell]; rfl, hS.2.2.2.has hD1 (by omega)⟩⟩ (fun l hl => by simp at hl; subst hl; exact hD1b) (by simp) (by simp; omega) (ht.below hS.2.2.1 hw) (Nat.lt_of_lt_of_le hw hS.2.2.1.size)
    simpa using this
  have hD2 : (Sh.sum (Mc.mask 92 c ++ D)).length = 32 := Mc.sum_length _
  generalize Sh.sum (Mc.mask 92 c ++ D) = E at *
  generalize Mc.mask 92 c = M2 at *
  generalize Mc.mask 54 c = M1 at *
  have hI0 := (Is.new w (vals c) 68).alloc (.cells (vals (List.replicate 32 0)).toArray 23)
  have hJ0 : Is ((w.alloc (.cells (vals c).toArray 68)).alloc (.cells (vals (List.replicate 32 0)).toArray 23)) (w.heap.size + 1) (vals (List.replicate 32 0)) 23 := Is.new' _ 23 (by simp)
  have HB0 := hide (below_alloc2 w (.cells (vals c).toArray 68) (.cells (vals (List.replicate 32 0)).toArray 23))
  have HI0 := hide hI0
  have HJ0 := hide hJ0
  have HC := hide hc
  have HD1 := hide hD1
  have HD2 := hide hD2
  have hB0s : (w.alloc (.cells (vals c).toArray 68)).alloc (.cells (vals (List.replicate 32 0)).toArray 23) = (w.alloc (.cells (vals c).toArray 68)).alloc (.cells (vals (List.replicate 32 0)).toArray 23) := rfl
  clear hI0 hJ0 hc hD1 hD2 hm1 hm2 hrb hr ht hB0s hD1b hlen hB hcb
  obtain ⟨n, hnn⟩ : ∃ n, n = ls.length := ⟨_, rfl⟩
  rw [← hnn] at HS1 ⊢
  have hn1 : n ≤ 1000 := by omega
  clear hnn hn
  go_enter Tryd.func44, Tryd.ntmps44
  go_wp2_with (first
    | (refine wpList_load_arr 68 (vals c) w.heap.size HI0.out Tryd.underlying68 size_rest (by rw [vals_length]; exact HC.out) rfl (.tmp 2) rfl rfl ?_)
    | (go_at_call 56; refine (HM1.out _).mono ?_; rintro e w1 ⟨rfl, hb1⟩; have hb1' := HB0.out.trans (hb1.mono HB0.out.size); have hI1 := HI0.out.below hb1 HI0.out.lt; have hJ1 := HJ0.out.below hb1 HJ0.out.lt)
    | (go_at_call 55; refine (HS1.out _ hb1').mono ?_; rintro e w2 ⟨rfl, hb2⟩; have hb2' := hb1'.trans (hb2.mono hb1'.size); have hI2 := hI1.below hb2 hI1.lt; have hJ2 := hJ1.below hb2 hJ1.lt; have hj2 := hJ2.lt)
    | (refine wpList_store_any 23 (vals (List.replicate 32 0)) (vals D) w2.heap.size (Is.new w2 _ _) size_dig (by simp [vals]) (by rw [vals_length]; exact HD1.out) (vals_one _) rfl (.tmp 5) (.tmp 9) rfl rfl rfl rfl ?_; intro w3 hi3 hb3 hk3 hz3))
  have hne : w.heap.size + 1 ≠ w2.heap.size := by omega
  have hS0 : w3.rangeAt w.heap.size 0 (vals c) ∧ w3.there (w.heap.size + 1) 0 32 ∧ Below w.heap.size w w3 ∧ Is w3 w2.heap.size (vals D) 23 :=
    ⟨(hk3 _ _ _ (by omega) (hI2.alloc _)).range, (hk3 _ _ _ (by omega) (hJ2.alloc _)).there (by simp [vals]), hb3 _ _ (hb2'.alloc hb2'.size _) hb2'.size, hi3⟩
  obtain ⟨b5, hb5⟩ : ∃ b5, b5 = w2.heap.size := ⟨_, rfl⟩
  rw [← hb5] at hne hS0 ⊢
  have HS0 := hide hS0
  clear hb1 hb1' hI1 hJ1 hb2 hb2' hI2 hJ2 hj2 hi3 hb3 hk3 hz3 hS0 hb5 HB0 HI0 HJ0 HM1 HS1
  have hul := Tryd.underlying68
  have hul2 := Tryd.underlying23
  have hsz1 : (Tryd.prog.info? 68).map (·.size) = some (vals c).length := by rw [vals_length, HC.out]; exact size_rest
  have hsz2 : (Tryd.prog.info? 23).map (·.size) = some (vals E).length := by rw [vals_length, HD2.out]; exact size_dig
  have hE1 : ∀ v ∈ vals E, v.oneCell' = true := vals_one E
  have hEl : (vals E).length = 32 := by rw [vals_length]; exact HD2.out
  go_region_held2 (fun W : World => W.rangeAt w.heap.size 0 (vals c) ∧ W.there (w.heap.size + 1) 0 32 ∧ Below w.heap.size w W ∧ Is W b5 (vals D) 23)
    ((first
      | exact held_below HS0.out ((Below.refl _ _).drew)
      | exact held_below (by assumption) hb7
      | exact held_below (by assumption) hb6
      | exact held_below (by assumption) (below_alloc _ _)
      | exact held_store (by assumption) hne _))
    ((first
      | (go_at_call 56; refine (HM2.out _).mono ?_; rintro e w6 ⟨rfl, hb6⟩)
      | (go_at_call 55; refine (HS2.out _ b5 _ (by assumption) (Is.new' _ _ rfl)).mono ?_; rintro e w7 ⟨rfl, hb7⟩)
      | (go_at_call 55; refine (HS2.out _ b5 _ (by assumption) ((Is.drew (Is.new w3 [.slice (some ⟨b5, 0, none⟩) 32 32] 24)).below hb6 (by simp [World.drew]))).mono ?_; rintro e w7 ⟨rfl, hb7⟩)))
  · have hS7 := held_below (held_below (held_below (held_below HS0.out ((Below.refl _ _).drew)) hb6) (below_alloc _ _)) hb7
    have hS8 := held_store hS7 hne (vals E)
    have hl := run_loadVar_mid (P := Tryd.prog) _ (w.heap.size + 1) 0 23 (vals E) _ (World.rangeAt_setCells_same w7 (w.heap.size + 1) 0 (vals E) (by rw [hEl]; exact hS7.2.1)) hul2 rfl hsz2
    have HL := hide hl
    have HS8 := hide hS8
    clear hl hS7 hS8 hul hul2 hsz1 hsz2
    go_wp2
    exact bodyPost_ret (v := .agg (vals E).toArray) (results_cell1 Tryd.results44 rfl HL.out) rfl ⟨rfl, HS8.out.2.2.1⟩
  · have hS7 := held_below (held_below (held_below HS0.out ((below_alloc w3 _).drew)) hb6) hb7
    have hS8 := held_store hS7 hne (vals E)
    have hl := run_loadVar_mid (P := Tryd.prog) _ (w.heap.size + 1) 0 23 (vals E) _ (World.rangeAt_setCells_same w7 (w.heap.size + 1) 0 (vals E) (by rw [hEl]; exact hS7.2.1)) hul2 rfl hsz2
    have HL := hide hl
    have HS8 := hide hS8
    clear hl hS7 hS8 hul hul2 hsz1 hsz2
    go_wp2
    exact bodyPost_ret (v := .agg (vals E).toArray) (results_cell1 Tryd.results44 rfl HL.out) rfl ⟨rfl, HS8.out.2.2.1⟩
end Go.Proofs.YtdeddnlagbeanaaDoor
