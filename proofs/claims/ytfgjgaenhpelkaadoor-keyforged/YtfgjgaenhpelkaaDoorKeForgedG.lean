/- The walk of KeyForged, its head: the seed's own signature tells its public key. -/
import Derived.Test.YtfgjgaenhpelkaaDoorKeSigned
import Derived.Test.YtfgjgaenhpelkaaDoorRKey5
import Derived.Test.YtfgjgaenhpelkaaDoorDigs
import Derived.Test.YtfgjgaenhpelkaaDoorKh
import Derived.Test.YtfgjgaenhpelkaaDoorLoadG
import Derived.Test.YtfgjgaenhpelkaaDoorKeForgedF
import Derived.Deep.CutRange
namespace Go.Proofs.YtfgjgaenhpelkaaDoor
open Go.RowKit
set_option linter.unusedVariables false
set_option linter.unusedSimpArgs false

theorem owns_low {w w' : World} {base n size B : Nat} {e : TypeId} {v : Value} {xs : List Value} (h : w.ownsRow base e size v n xs) (hb : Below B w w') (hr : ∀ r, v.ownBlock = some r → r < B) : w'.ownsRow base e size v n xs := by
  refine ⟨h.1, ?_⟩
  rcases h.2 with h0 | ⟨g, cap, cur, rfl, hbg, hg, hn, hc, hs, ht⟩
  · exact .inl h0
  · exact .inr ⟨g, cap, cur, rfl, hbg, by rw [hb.block g (hr g rfl)]; exact hg, hn, hc, hs, ht⟩
theorem c18_below {w1 W W' : World} {a1 a2 : Addr} {v1 v2 : Value} {g : Nat} {L : List Value} (h : W.cell? a1 = some v1 ∧ W.cell? a2 = some v2 ∧ W.rangeAt g 0 L ∧ Below w1.heap.size w1 W) (hb : Below W.heap.size W W') : W'.cell? a1 = some v1 ∧ W'.cell? a2 = some v2 ∧ W'.rangeAt g 0 L ∧ Below w1.heap.size w1 W' :=
  ⟨cell_below h.1 hb, cell_below h.2.1 hb, range_below h.2.2.1 hb, h.2.2.2.trans (hb.mono h.2.2.2.size)⟩
theorem wpList_load_midG (t : TypeId) (c : List Value) (b off : Nat) {n m : Nat} {e : TypeId} {w : World} {ops : Array Oper} {rest : List Oper} {o : Oper} {a : Act} {Q : Exit → Act → World → Prop} (s : Operand) (ho : o.op = .load t s) (hs : a.eval s = .pointer (some ⟨b, off, none⟩)) (hw : Region.wanted o (yielded ops a.tmps) = true)
    (hi : w.rangeAt b off c) (hu : Tryd.prog.underlying t = some (.array n e)) (hz : Sized t m) (hc : c.length = m)
    (h : wpList Tryd.prog ops Q rest (a.put o.dst (.agg c.toArray)) w) : wpList Tryd.prog ops Q (o :: rest) a w := by
  refine wpList_wanted hw fun K hK => ?_
  have hl := run_loadAt_mid (P := Tryd.prog) w b off t c _ hi hu rfl (by rw [hc]; exact hz)
  unfold Oper.wp
  simp only [execOp, ho, hs, Sem.run_bind, Sem.run_pure, Result.andThen_ok, hl]
  exact hK _ _ h

theorem four_below {w W W' : World} {a b c d : Nat} {x y z u : List Value} (h : W.rangeAt a 0 x ∧ W.rangeAt b 0 y ∧ W.rangeAt c 0 z ∧ W.rangeAt d 0 u ∧ Below w.heap.size w W) (hb : Below W.heap.size W W') : W'.rangeAt a 0 x ∧ W'.rangeAt b 0 y ∧ W'.rangeAt c 0 z ∧ W'.rangeAt d 0 u ∧ Below w.heap.size w W' :=
  ⟨range_below h.1 hb, range_below h.2.1 hb, range_below h.2.2.1 hb, range_below h.2.2.2.1 hb, h.2.2.2.2.trans (hb.mono h.2.2.2.2.size)⟩

set_option maxRecDepth 100000 in
set_option maxHeartbeats 32000000 in
/-- A signature. -/
theorem kforged_good (seed m other : List Int) (sig : List Int) (b off cap : Nat) (hg : sig.length = 2144) (hgb : Sz.Byt sig) (hcap : 2144 ≤ cap) (hcm : cap ≤ maxLen) (w : World) (hr : w.rangeAt b off (vals sig)) (hb0 : b < w.heap.size) (hs : seed.length = 32) (hsb : Sz.Byt seed) (hm : m.length = 32) (hmb : Sz.Byt m) (ho : other.length = 32) (hob : Sz.Byt other) (ht : Tab w) (hw : 0 < w.heap.size) :
    Calls Tryd.prog 3 #[.agg (vals seed).toArray, .agg (vals m).toArray, .agg (vals other).toArray, .slice (some ⟨b, off, none⟩) 2144 cap] w fun e w' => e = .returned (.bool true) ∧ Below w.heap.size w w' := by
  obtain ⟨Z, hZ⟩ : ∃ Z : List Int, Z = List.replicate 32 0 := ⟨_, rfl⟩
  have hzd := zero_dig
  have hZl : Z.length = 32 := by rw [hZ]; rfl
  have TW : ∀ {W : World}, Below w.heap.size w W → Tab W := fun hW => ht.below hW hw
  have TP : ∀ {W : World}, Below w.heap.size w W → 0 < W.heap.size := fun hW => Nat.lt_of_lt_of_le hw hW.size
  have HG : Hid (∀ W, Below w.heap.size w W → Calls Tryd.prog 5 #[.agg (vals seed).toArray, .agg (vals m).toArray] W fun e w' => ∃ v, e = .returned v ∧ Own w' W.heap.size v (Ky.sign seed m) ∧ Below W.heap.size W w') := fun W hW => sign_any seed m W hs hsb hm hmb (TW hW) (TP hW)
  obtain ⟨P1, hP1⟩ : ∃ P1, P1 = Ky.pub seed := ⟨_, rfl⟩
  obtain ⟨P2, hP2⟩ : ∃ P2, P2 = Ky.pub seed := ⟨_, rfl⟩
  have HR : Hid (∀ W v, Below w.heap.size w W → Has W v (Ky.sign seed m) → Calls Tryd.prog 4 #[.agg (vals m).toArray, v] W fun e w' => e = .returned (.tuple #[.agg (vals P1).toArray, .nilIface]) ∧ Below W.heap.size W w') := fun W v hW hv => by
    have := recover_any v m (Ky.sign seed m) W hv hm hmb (Ky.sign_byt seed m) (TW hW) (TP hW)
    rw [hP1]
    rwa [if_pos (Ky.sign_length seed m), if_pos (Ky.sign_length seed m), Ky.recov_sign seed m hmb] at this
  have HP2 : Hid (∀ W, Below w.heap.size w W → Calls Tryd.prog 6 #[.agg (vals seed).toArray] W fun e w' => e = .returned (.agg (vals P2).toArray) ∧ Below W.heap.size W w') := fun W hW => by rw [hP2]; exact public_any seed W hs hsb (TW hW) (TP hW)
  have hP1l : P1.length = 32 := by rw [hP1]; exact Ky.pub_length seed
  have heq1 : ∀ w', (Op.equalIn 10000 23 (.agg (vals P1).toArray) (.agg (vals P2).toArray)).run Tryd.prog w' = .ok true w' := fun w' => dig_same _ _ (by rw [hP2]; exact Ky.pub_length seed) (by rw [hP1, hP2]) w'
  have HPZ : Hid (P1 = Z → seed ≠ Z) := fun h e => pub_ne Z hZ (by have h2 := hP1; rw [h, e] at h2; exact h2.symm)
  rw [← hZ] at hzd
  have hvz : ¬ vals Z = [] := by intro h; have : (vals Z).length = 0 := by rw [h]; rfl
                                 rw [vals_length, hZl] at this; cases this
  have hgd := guard_dig
  have HZL := hide hZl
  have HSL := hide hs
  have HML := hide hm
  have HOL := hide ho
  have HPL := hide hP1l
  have hszs : (Tryd.prog.info? 23).map (·.size) = some (vals seed).length := by rw [vals_length, hs]; exact size_dig
  have hszm : (Tryd.prog.info? 23).map (·.size) = some (vals m).length := by rw [vals_length, hm]; exact size_dig
  have hszp : (Tryd.prog.info? 23).map (·.size) = some (vals P1).length := by rw [vals_length, hP1l]; exact size_dig
  have HVP : Hid ((vals P1).toArray.size = 32) := by show _ = _; rw [List.size_toArray, vals_length, hP1l]
  have TW2 : ∀ {W : World}, Below w.heap.size w W → Tab W := fun hW => ht.below hW hw
  obtain ⟨Q, hQ⟩ : ∃ Q, Q = Ky.recov other sig := ⟨_, rfl⟩
  have HRQ : Hid (∀ W, Below w.heap.size w W → Calls Tryd.prog 4 #[.agg (vals other).toArray, .slice (some ⟨b, off, none⟩) 2144 cap] W fun e w' => e = .returned (.tuple #[.agg (vals Q).toArray, .nilIface]) ∧ Below W.heap.size W w') := fun W hW => by rw [hQ]; exact recover_good other sig b off cap W ho hob hg hgb hcap hcm (range_below0 hr hW hb0) (Nat.lt_of_lt_of_le hb0 hW.size) (TW hW) (TP hW)
  have hQl : Q.length = 32 := by rw [hQ]; exact Ky.recov_length other sig
  have HQL := hide hQl
  have hRl : (Ky.sign seed m).length = 2144 := Ky.sign_length seed m
  have hGl := Ky.digits_length m
  have hGOl := Ky.digits_length other
  have HNM : Hid (∀ W, Calls Tryd.prog 7 #[.agg (vals m).toArray] W fun e w' => ∃ v, e = .returned v ∧ OwnN w' (W.heap.size + 1) v (Ky.digits m) ∧ Below W.heap.size W w') := fun W => rnibbles_any m W hm hmb
  have HNO : Hid (∀ W, Calls Tryd.prog 7 #[.agg (vals other).toArray] W fun e w' => ∃ v, e = .returned v ∧ OwnN w' (W.heap.size + 1) v (Ky.digits other) ∧ Below W.heap.size W w') := fun W => rnibbles_any other W ho hob
  obtain ⟨da, hda⟩ : ∃ da : Nat → Nat, da = Ky.dig m := ⟨_, rfl⟩
  obtain ⟨db, hdb⟩ : ∃ db : Nat → Nat, db = Ky.dig other := ⟨_, rfl⟩
  have HDA : Hid (∀ k, (Ky.digits m).getD k 0 = da k) := fun k => by rw [hda]; rfl
  have HDB : Hid (∀ k, (Ky.digits other).getD k 0 = db k) := fun k => by rw [hdb]; rfl
  have HDA15 : Hid (∀ k, da k ≤ 15) := fun k => by rw [hda]; exact Ky.digits_le m hmb k
  have HDB15 : Hid (∀ k, db k ≤ 15) := fun k => by rw [hdb]; exact Ky.digits_le other hob k
  obtain ⟨sg, hsg⟩ : ∃ sg : Nat → List Int, sg = Ky.sigAt sig := ⟨_, rfl⟩
  obtain ⟨sh, hsh⟩ : ∃ sh : Nat → List Int, sh = Ky.signed seed m := ⟨_, rfl⟩
  obtain ⟨se, hse⟩ : ∃ se : Nat → List Int, se = Ky.secret seed := ⟨_, rfl⟩
  obtain ⟨en, hen⟩ : ∃ en : Nat → List Int, en = Ky.endAt seed := ⟨_, rfl⟩
  obtain ⟨tp, htp⟩ : ∃ tp : Nat → List Int, tp = Ky.tops other sig := ⟨_, rfl⟩
  obtain ⟨f, hf⟩ : ∃ f : List Int → Int → List Int, f = fun x z => Ky.steps x z.toNat := ⟨_, rfl⟩
  obtain ⟨nohit, hnh⟩ : ∃ nohit : Nat → Prop, nohit = Ky.NoHit seed m other sig := ⟨_, rfl⟩
  have HSG : Hid (∀ W (k : Nat), Below w.heap.size w W → k < 67 → Calls Tryd.prog 8 #[.slice (some ⟨b, off, none⟩) 2144 cap, .int .i64 (32 * (k : Int))] W fun e w' => e = .returned (.agg (vals (sg k)).toArray) ∧ Below W.heap.size W w') := fun W k hW hk => by
    rw [hsg]; exact rdigestAt_any b off cap sig k W hg hgb hcap hk (range_below0 hr hW hb0) (Nat.lt_of_lt_of_le hb0 hW.size)
  have HSHC : Hid (∀ W g c (k : Nat), W.rangeAt g 0 (vals (Ky.sign seed m)) → g < W.heap.size → 2144 ≤ c → k < 67 → Calls Tryd.prog 8 #[.slice (some ⟨g, 0, none⟩) 2144 c, .int .i64 (32 * (k : Int))] W fun e w' => e = .returned (.agg (vals (sh k)).toArray) ∧ Below W.heap.size W w') := fun W g c k hrr hgg hcc hk => by
    have := rdigestAt_any g 0 c (Ky.sign seed m) k W (Ky.sign_length seed m) (Ky.sign_byt seed m) hcc hk hrr hgg
    rw [Ky.sign_at seed m k hk] at this
    rw [hsh]; exact this
  have HWK : Hid (∀ W (x : List Int) (z : Int), x.length = 32 → Sz.Byt x → z ≤ 1000 → Calls Tryd.prog 9 #[.agg (vals x).toArray, .int .i64 z] W fun e w' => e = .returned (.agg (vals (f x z)).toArray) ∧ Below W.heap.size W w') := fun W x z hx hxb hz => by
    rw [hf]; exact rwalked_any x z W hx hxb (by omega)
  have HFL : Hid (∀ x z, x.length = 32 → (f x z).length = 32) := fun x z hx => by rw [hf]; exact Ky.steps_length _ hx _
  have HFZ : Hid (∀ x, f x ((0 : Nat) : Int) = x) := fun x => by rw [hf]; rfl
  have HFS : Hid (∀ x (t : Nat), f (f x (t : Int)) 1 = f x ((t + 1 : Nat) : Int)) := fun x t => by rw [hf]; rfl
  have HFB : Hid (∀ x z, Sz.Byt x → Sz.Byt (f x z)) := fun x z hx => by rw [hf]; exact Ky.steps_byt _ hx _
  have HSGL : Hid (∀ k, k < 67 → (sg k).length = 32) := fun k hk => by rw [hsg]; exact Ky.sigAt_length _ _ (by omega)
  have HSGB : Hid (∀ k, Sz.Byt (sg k)) := fun k => by rw [hsg]; exact Ky.sigAt_byt _ _ hgb
  have HENA : Hid (∀ k, f (f (se k) (db k : Int)) ((15 - db k : Nat) : Int) = en k) := fun k => by
    rw [hf, hse, hdb, hen]
    show Ky.steps (Ky.steps (Ky.secret seed k) (Int.toNat (Ky.dig other k : Int))) (Int.toNat ((15 - Ky.dig other k : Nat) : Int)) = _
    rw [Int.toNat_natCast, Int.toNat_natCast]
    exact Ky.steps_end seed other hob k
  have HTPA : Hid (∀ k, k < 67 → f (sg k) ((15 - db k : Nat) : Int) = tp k) := fun k hk => by
    rw [hf, hsg, hdb, htp]
    show Ky.steps (Ky.sigAt sig k) (Int.toNat ((15 - Ky.dig other k : Nat) : Int)) = Ky.tops other sig k
    rw [Int.toNat_natCast, Ky.tops, if_pos hk]
    rfl
  have HNHA : Hid (∀ k, (db k < da k → f (sg k) ((da k : Int) - (db k : Int)) ≠ sh k) → (∀ s : Nat, s < 15 - db k → f (f (se k) (db k : Int)) (s : Int) ≠ f (sg k) (s : Int) → f (f (se k) (db k : Int)) ((s + 1 : Nat) : Int) ≠ f (sg k) ((s + 1 : Nat) : Int)) → nohit k) := fun k h1 h2 => by
    rw [hnh]
    rw [hf, hsg, hda, hdb, hsh] at h1
    rw [hf, hsg, hdb, hse] at h2
    refine ⟨fun hl => ?_, fun s hs => ?_⟩
    · have h3 : Ky.steps (Ky.sigAt sig k) (((Ky.dig m k : Int) - (Ky.dig other k : Int)).toNat) ≠ Ky.signed seed m k := h1 hl
      rwa [show ((Ky.dig m k : Int) - (Ky.dig other k : Int)).toNat = Ky.dig m k - Ky.dig other k by omega] at h3
    · have := h2 s hs
      exact this
  have HENL : Hid (∀ k, (en k).length = 32) := fun k => by rw [hen]; exact Ky.endAt_length seed k
  have HTPL : Hid (∀ k, (tp k).length = 32) := fun k => by rw [htp]; exact Ky.tops_length other sig hg k
  have HDIFF : Hid ((∀ j, j < 67 → nohit j) → other ≠ m → Ky.rowsOf en 67 ≠ Ky.rowsOf tp 67) := fun h1 h2 => by
    rw [hnh] at h1
    rw [hen, htp]
    exact forged_diff seed m other sig hmb hob hm ho hg h1 h2
  obtain ⟨O1, hO1⟩ : ∃ O1, O1 = Ky.pub seed := ⟨_, rfl⟩
  obtain ⟨O2, hO2⟩ : ∃ O2, O2 = Ky.recov other sig := ⟨_, rfl⟩
  have HOEQ : Hid (Q = P1 → O1 = O2) := fun h => by rw [hO1, hO2, ← hP1, ← hQ]; exact h.symm
  have HO2L : Hid (O2.length = 32) := by show _ = _; rw [hO2]; exact Ky.recov_length other sig
  have HOE : Hid (∀ W g c, W.rangeAt g 0 (vals (Ky.rowsOf en 67)) → g < W.heap.size → Calls Tryd.prog 12 #[.int .u8 7, .slice (some ⟨g, 0, none⟩) 67 c] W fun e w' => e = .returned (.agg (vals O1).toArray) ∧ Below W.heap.size W w') := fun W g c hrr hgg => rof_ends seed g c W O1 hO1 (by rw [hen] at hrr; exact hrr) hgg
  have HOT : Hid (∀ W g c, W.rangeAt g 0 (vals (Ky.rowsOf tp 67)) → g < W.heap.size → Calls Tryd.prog 12 #[.int .u8 7, .slice (some ⟨g, 0, none⟩) 67 c] W fun e w' => e = .returned (.agg (vals O2).toArray) ∧ Below W.heap.size W w') := fun W g c hrr hgg => rof_tops other sig hg hgb g c W O2 hO2 (by rw [htp] at hrr; exact hrr) hgg
  have HSEL : Hid (∀ k, (se k).length = 32) := fun k => by rw [hse]; exact Ky.secret_length _ _
  have HSEB : Hid (∀ k, Sz.Byt (se k)) := fun k => by rw [hse]; exact Ky.secret_byt _ _
  have HSHL : Hid (∀ k, (sh k).length = 32) := fun k => by rw [hsh]; exact Ky.signed_length seed m k
  have HSE : Hid (∀ W (k : Nat), k < 67 → Calls Tryd.prog 10 #[.agg (vals seed).toArray, .int .i64 (k : Nat)] W fun e w' => e = .returned (.agg (vals (se k)).toArray) ∧ Below W.heap.size W w') := fun W k hk => by rw [hse]; exact rsecret_any seed k W hs hsb hk
  obtain ⟨R, hR⟩ : ∃ R, R = Ky.sign seed m := ⟨_, rfl⟩
  obtain ⟨G, hG⟩ : ∃ G, G = Ky.digits m := ⟨_, rfl⟩
  obtain ⟨GO, hGO⟩ : ∃ GO, GO = Ky.digits other := ⟨_, rfl⟩
  rw [← hR] at hRl HG HR HSHC
  rw [← hG] at hGl HNM HDA
  rw [← hGO] at hGOl HNO HDB
  have HRL := hide hRl
  have HGL := hide hGl
  have HGOL := hide hGOl
  have HI0 : Hid (Is (((w.alloc (.cells (vals seed).toArray 23)).alloc (.cells (vals m).toArray 23)).alloc (.cells (vals other).toArray 23)) w.heap.size (vals seed) 23) := ((Is.new w (vals seed) 23).alloc _).alloc _
  have HJ0 : Hid (Is (((w.alloc (.cells (vals seed).toArray 23)).alloc (.cells (vals m).toArray 23)).alloc (.cells (vals other).toArray 23)) (w.heap.size + 1) (vals m) 23) := Is.alloc (Is.new' (vals m) 23 (by simp)) _
  have HK0 : Hid (Is (((w.alloc (.cells (vals seed).toArray 23)).alloc (.cells (vals m).toArray 23)).alloc (.cells (vals other).toArray 23)) (w.heap.size + 1 + 1) (vals other) 23) := Is.new' (vals other) 23 (by simp)
  have hS0 : (fun W : World => W.rangeAt w.heap.size 0 (vals seed) ∧ W.rangeAt (w.heap.size + 1) 0 (vals m) ∧ W.rangeAt (w.heap.size + 1 + 1) 0 (vals other) ∧ Below w.heap.size w W) (((w.alloc (.cells (vals seed).toArray 23)).alloc (.cells (vals m).toArray 23)).alloc (.cells (vals other).toArray 23)) := ⟨HI0.out.range, HJ0.out.range, HK0.out.range, below_alloc3 _ _ _ _⟩
  clear hP1 hP2 hP1l hZ hZl hs hsb hm hmb ho hob ht TW TP HI0 HJ0 HK0 hg hgb hcap hcm hr hQ hQl TW2 hRl hGl hGOl hR hG hGO hda hdb hsg hsh hse hen htp hf hnh hO1 hO2
  go_enter Tryd.func3, Tryd.ntmps3
  go_wp2
  generalize ((w.alloc (.cells (vals seed).toArray 23)).alloc (.cells (vals m).toArray 23)).alloc (.cells (vals other).toArray 23) = wS at *
  have HS0 := hide hS0
  clear hS0
  refine wp_cut (fun a W => ∃ (v26 : Value) (b9 : Nat), a = { tmps := (.agg (vals seed).toArray :: .agg (vals m).toArray :: .agg (vals other).toArray :: (.slice (some ⟨b, off, none⟩) 2144 cap) :: .pointer (some ⟨w.heap.size, 0, none⟩) :: .pointer (some ⟨w.heap.size + 1, 0, none⟩) :: .pointer (some ⟨w.heap.size + 1 + 1, 0, none⟩) :: undef :: .bool false :: .pointer (some ⟨b9, 0, none⟩) :: .nilIface :: undef :: undef :: undef :: undef :: undef :: undef :: undef :: undef :: undef :: undef :: undef :: .tuple #[.agg (vals P1).toArray, .nilIface] :: .agg (vals m).toArray :: .agg (vals seed).toArray :: .agg (vals m).toArray :: v26 :: .tuple #[.agg (vals P1).toArray, .nilIface] :: .agg (vals P1).toArray :: .nilIface :: undef :: undef :: undef :: undef :: undef :: undef :: undef :: undef :: undef :: undef :: undef :: undef :: undef :: undef :: undef :: undef :: undef :: undef :: undef :: undef :: undef :: undef :: undef :: undef :: undef :: undef :: undef :: undef :: undef :: undef :: undef :: undef :: undef :: undef :: undef :: undef :: undef :: undef :: undef :: undef :: undef :: undef :: undef :: undef :: undef :: undef :: undef :: undef :: undef :: undef :: undef :: undef :: undef :: undef :: undef :: undef :: undef :: undef :: undef :: undef :: undef :: undef :: undef :: undef :: undef :: undef :: undef :: undef :: undef :: undef :: undef :: undef :: undef :: undef :: undef :: undef :: undef :: undef :: undef :: undef :: undef :: undef :: undef :: undef :: undef :: undef :: undef :: undef :: undef :: undef :: undef :: undef :: undef :: undef :: undef :: undef :: undef :: undef :: undef :: undef :: undef :: undef :: undef :: undef :: undef :: undef :: undef :: undef :: undef :: undef :: undef :: undef :: undef :: undef :: undef :: undef :: undef :: undef :: undef :: undef :: undef :: undef :: undef :: undef :: undef :: undef :: undef :: undef :: undef :: undef :: undef :: undef :: undef :: undef :: undef :: undef :: undef :: undef :: undef :: undef :: undef :: undef :: undef :: []).toArray, defers := [] } ∧ (fun W : World => W.rangeAt w.heap.size 0 (vals seed) ∧ W.rangeAt (w.heap.size + 1) 0 (vals m) ∧ W.rangeAt (w.heap.size + 1 + 1) 0 (vals other) ∧ W.rangeAt b9 0 (vals P1) ∧ Below w.heap.size w W) W) ?_ ?_
  ·
    refine wp_region_held_drew (S := fun W : World => W.rangeAt w.heap.size 0 (vals seed) ∧ W.rangeAt (w.heap.size + 1) 0 (vals m) ∧ W.rangeAt (w.heap.size + 1 + 1) 0 (vals other) ∧ Below w.heap.size w W) (by kernel_rfl) ?_ (fun hHeld0 => ?_)
    · exact three_below HS0.out ((Below.refl _ _).drew)
    refine wpAnyH_take (i := 0) (v := .agg (vals m).toArray) rfl (by kernel_rfl) (by kernel_rfl) (by kernel_rfl) (fun _ _ _ h => h) (yieldsIf_load_mid (by rfl) _ _ rfl _ _ rfl (vals m) _ (fun w hSw => hSw.2.1) Tryd.underlying23 rfl hszm) hHeld0 ?_
    simp only [Act.put, List.getElem_toArray, List.getElem_cons_zero, List.getElem_cons_succ, List.setIfInBounds_toArray, List.set_cons_zero, List.set_cons_succ]
    refine wpAnyH_take (i := 1) (v := .agg (vals seed).toArray) rfl (by kernel_rfl) (by kernel_rfl) (by kernel_rfl) (fun _ _ _ h => h) (yieldsIf_load_mid (by rfl) _ _ rfl _ _ rfl (vals seed) _ (fun w hSw => hSw.1) Tryd.underlying23 rfl hszs) hHeld0 ?_
    simp only [Act.put, List.getElem_toArray, List.getElem_cons_zero, List.getElem_cons_succ, List.setIfInBounds_toArray, List.set_cons_zero, List.set_cons_succ]
    refine wpAnyH_take (i := 2) (v := .agg (vals m).toArray) rfl (by kernel_rfl) (by kernel_rfl) (by kernel_rfl) (fun _ _ _ h => h) (yieldsIf_load_mid (by rfl) _ _ rfl _ _ rfl (vals m) _ (fun w hSw => hSw.2.1) Tryd.underlying23 rfl hszm) hHeld0 ?_
    simp only [Act.put, List.getElem_toArray, List.getElem_cons_zero, List.getElem_cons_succ, List.setIfInBounds_toArray, List.set_cons_zero, List.set_cons_succ]
    refine wpAnyH_ready (rs := [3, 8]) (by kernel_rfl) (by simp) ?_
    refine AllReadyH.cons rfl (fun K hK => ?_) ?_
    ·
      go_simp
      go_wp2_with ((go_at_call 5; refine (HG.out _ hHeld0.2.2.2).mono ?_; rintro e wq1 ⟨v26, rfl, ho14, hbq1⟩))
      refine hK.out _ _ (by exact three_below hHeld0 hbq1) (fun hHeld1 => ?_)
      clear hK K hHeld0
      try simp only [Act.put, List.getElem_toArray, List.getElem_cons_zero, List.getElem_cons_succ, List.setIfInBounds_toArray, List.set_cons_zero, List.set_cons_succ]
      have hv := ho14.has
      clear ho14
      refine wpAnyH_ready (rs := [4, 8]) (by kernel_rfl) (by simp) ?_
      refine AllReadyH.cons rfl (fun K hK => ?_) ?_
      ·
        go_simp
        go_wp2_with ((go_at_call 4; refine (HR.out _ v26 hHeld1.2.2.2 hv).mono ?_; rintro e wq2 ⟨rfl, hbq2⟩))
        refine hK.out _ _ (by exact three_below hHeld1 hbq2) (fun hHeld2 => ?_)
        clear hK K hHeld1
        try simp only [Act.put, List.getElem_toArray, List.getElem_cons_zero, List.getElem_cons_succ, List.setIfInBounds_toArray, List.set_cons_zero, List.set_cons_succ]
        refine wpAnyH_take (i := 5) (v := ?_) rfl (by kernel_rfl) (by kernel_rfl) (by kernel_rfl) (fun _ _ _ h => h) (Or.inl ⟨by rfl, ?_⟩) hHeld2 ?_
        rotate_left
        · (intro w hSw; (try dsimp only at hSw); go_simp <;> (try with_reducible rfl))
        simp only [Act.put, List.getElem_toArray, List.getElem_cons_zero, List.getElem_cons_succ, List.setIfInBounds_toArray, List.set_cons_zero, List.set_cons_succ]
        refine wpAnyH_take (i := 6) (v := ?_) rfl (by kernel_rfl) (by kernel_rfl) (by kernel_rfl) (fun _ _ _ h => h) (Or.inl ⟨by rfl, ?_⟩) hHeld2 ?_
        rotate_left
        · (intro w hSw; (try dsimp only at hSw); go_simp <;> (try with_reducible rfl))
        simp only [Act.put, List.getElem_toArray, List.getElem_cons_zero, List.getElem_cons_succ, List.setIfInBounds_toArray, List.set_cons_zero, List.set_cons_succ]
        refine wpAnyH_take (i := 7) (v := ?_) rfl (by kernel_rfl) (by kernel_rfl) (by kernel_rfl) (fun _ _ _ h => h) (Or.inl ⟨by rfl, ?_⟩) hHeld2 ?_
        rotate_left
        · (intro w hSw; (try dsimp only at hSw); go_simp <;> (try with_reducible rfl))
        simp only [Act.put, List.getElem_toArray, List.getElem_cons_zero, List.getElem_cons_succ, List.setIfInBounds_toArray, List.set_cons_zero, List.set_cons_succ]
        refine wpAnyH_ready (rs := [8]) (by kernel_rfl) (by simp) ?_
        refine AllReadyH.cons rfl (fun K hK => ?_) AllReadyH.nil
        go_simp
        have hl1 := range_lt hHeld2.1 (by rw [HSL.out]; omega)
        have hl2 := range_lt hHeld2.2.1 (by rw [HML.out]; omega)
        have hl3 := range_lt hHeld2.2.2.1 (by rw [HOL.out]; omega)
        have hal := (Is.new wq2 (vals Z) 23).there (n := 32) (by rw [vals_length]; exact HZL.out)
        obtain ⟨b6, hb6⟩ : ∃ b, b = (wq2.heap.size) := ⟨_, rfl⟩
        have hn1 : w.heap.size ≠ b6 := by rw [hb6]; exact Nat.ne_of_lt hl1
        have hn2 : w.heap.size + 1 ≠ b6 := by rw [hb6]; exact Nat.ne_of_lt hl2
        have hn3 : w.heap.size + 1 + 1 ≠ b6 := by rw [hb6]; exact Nat.ne_of_lt hl3
        have hn4 : w.heap.size ≤ b6 := by rw [hb6]; exact Nat.le_of_lt hl1
        clear hl1 hl2 hl3
        rw [← hb6]
        replace hal : ((wq2).alloc (.cells (vals Z).toArray 23)).there b6 0 32 := by rw [hb6]; exact hal
        clear hb6
        refine hK.out _ _ (by exact three_below hHeld2 (below_alloc _ _)) (fun hHeld3 => ?_)
        clear hK K hHeld2
        try simp only [Act.put, List.getElem_toArray, List.getElem_cons_zero, List.getElem_cons_succ, List.setIfInBounds_toArray, List.set_cons_zero, List.set_cons_succ]
        refine wpAnyH_ready (rs := [9]) (by kernel_rfl) (by simp) ?_
        refine AllReadyH.cons rfl (fun K hK => ?_) AllReadyH.nil
        rw [if_pos (by rfl)]
        refine wp_store_mid _ _ _ rfl _ _ (vals P1).toArray rfl rfl (by rw [HVP.out]; exact hal) (by rw [HVP.out]; exact size_dig) (all_oneCell_toArray (vals_one _)) ?_
        simp only [Act.put, List.toList_toArray]
        refine hK.out _ _ (by exact three_store hHeld3 hn1 hn2 hn3 hn4 _) (fun hHeld4 => ?_)
        clear hK K hHeld3
        try simp only [Act.put, List.getElem_toArray, List.getElem_cons_zero, List.getElem_cons_succ, List.setIfInBounds_toArray, List.set_cons_zero, List.set_cons_succ]
        refine wpAnyH_take (i := 10) (v := ?_) rfl (by kernel_rfl) (by kernel_rfl) (by kernel_rfl) (fun _ _ _ h => h) (Or.inl ⟨by rfl, ?_⟩) hHeld4 ?_
        rotate_left
        · (intro w hSw; (try dsimp only at hSw); go_simp <;> (try with_reducible rfl))
        simp only [Act.put, List.getElem_toArray, List.getElem_cons_zero, List.getElem_cons_succ, List.setIfInBounds_toArray, List.set_cons_zero, List.set_cons_succ]
        refine wpAnyH_done (by kernel_rfl) ?_ _
        exact ⟨v26, b6, rfl, hHeld4.1, hHeld4.2.1, hHeld4.2.2.1, World.rangeAt_setCells_same _ b6 0 (vals P1) (by rw [vals_length, HPL.out]; exact hal), hHeld4.2.2.2⟩
      refine AllReadyH.cons rfl (fun K hK => ?_) AllReadyH.nil
      go_simp
      have hl1 := range_lt hHeld1.1 (by rw [HSL.out]; omega)
      have hl2 := range_lt hHeld1.2.1 (by rw [HML.out]; omega)
      have hl3 := range_lt hHeld1.2.2.1 (by rw [HOL.out]; omega)
      have hal := (Is.new wq1 (vals Z) 23).there (n := 32) (by rw [vals_length]; exact HZL.out)
      obtain ⟨b6, hb6⟩ : ∃ b, b = (wq1.heap.size) := ⟨_, rfl⟩
      have hn1 : w.heap.size ≠ b6 := by rw [hb6]; exact Nat.ne_of_lt hl1
      have hn2 : w.heap.size + 1 ≠ b6 := by rw [hb6]; exact Nat.ne_of_lt hl2
      have hn3 : w.heap.size + 1 + 1 ≠ b6 := by rw [hb6]; exact Nat.ne_of_lt hl3
      have hn4 : w.heap.size ≤ b6 := by rw [hb6]; exact Nat.le_of_lt hl1
      clear hl1 hl2 hl3
      rw [← hb6]
      replace hal : ((wq1).alloc (.cells (vals Z).toArray 23)).there b6 0 32 := by rw [hb6]; exact hal
      clear hb6
      refine hK.out _ _ (by exact three_below hHeld1 (below_alloc _ _)) (fun hHeld2 => ?_)
      clear hK K hHeld1
      try simp only [Act.put, List.getElem_toArray, List.getElem_cons_zero, List.getElem_cons_succ, List.setIfInBounds_toArray, List.set_cons_zero, List.set_cons_succ]
      have hv := hv.below (below_alloc _ (.cells (vals Z).toArray 23))
      refine wpAnyH_ready (rs := [4]) (by kernel_rfl) (by simp) ?_
      refine AllReadyH.cons rfl (fun K hK => ?_) AllReadyH.nil
      go_simp
      go_wp2_with ((go_at_call 4; refine (HR.out _ v26 hHeld2.2.2.2 hv).mono ?_; rintro e wq3 ⟨rfl, hbq3⟩))
      refine hK.out _ _ (by exact three_below hHeld2 hbq3) (fun hHeld3 => ?_)
      clear hK K hHeld2
      try simp only [Act.put, List.getElem_toArray, List.getElem_cons_zero, List.getElem_cons_succ, List.setIfInBounds_toArray, List.set_cons_zero, List.set_cons_succ]
      have hal := there_below hal hbq3
      refine wpAnyH_take (i := 5) (v := ?_) rfl (by kernel_rfl) (by kernel_rfl) (by kernel_rfl) (fun _ _ _ h => h) (Or.inl ⟨by rfl, ?_⟩) hHeld3 ?_
      rotate_left
      · (intro w hSw; (try dsimp only at hSw); go_simp <;> (try with_reducible rfl))
      simp only [Act.put, List.getElem_toArray, List.getElem_cons_zero, List.getElem_cons_succ, List.setIfInBounds_toArray, List.set_cons_zero, List.set_cons_succ]
      refine wpAnyH_take (i := 6) (v := ?_) rfl (by kernel_rfl) (by kernel_rfl) (by kernel_rfl) (fun _ _ _ h => h) (Or.inl ⟨by rfl, ?_⟩) hHeld3 ?_
      rotate_left
      · (intro w hSw; (try dsimp only at hSw); go_simp <;> (try with_reducible rfl))
      simp only [Act.put, List.getElem_toArray, List.getElem_cons_zero, List.getElem_cons_succ, List.setIfInBounds_toArray, List.set_cons_zero, List.set_cons_succ]
      refine wpAnyH_take (i := 7) (v := ?_) rfl (by kernel_rfl) (by kernel_rfl) (by kernel_rfl) (fun _ _ _ h => h) (Or.inl ⟨by rfl, ?_⟩) hHeld3 ?_
      rotate_left
      · (intro w hSw; (try dsimp only at hSw); go_simp <;> (try with_reducible rfl))
      simp only [Act.put, List.getElem_toArray, List.getElem_cons_zero, List.getElem_cons_succ, List.setIfInBounds_toArray, List.set_cons_zero, List.set_cons_succ]
      refine wpAnyH_ready (rs := [9]) (by kernel_rfl) (by simp) ?_
      refine AllReadyH.cons rfl (fun K hK => ?_) AllReadyH.nil
      rw [if_pos (by rfl)]
      refine wp_store_mid _ _ _ rfl _ _ (vals P1).toArray rfl rfl (by rw [HVP.out]; exact hal) (by rw [HVP.out]; exact size_dig) (all_oneCell_toArray (vals_one _)) ?_
      simp only [Act.put, List.toList_toArray]
      refine hK.out _ _ (by exact three_store hHeld3 hn1 hn2 hn3 hn4 _) (fun hHeld4 => ?_)
      clear hK K hHeld3
      try simp only [Act.put, List.getElem_toArray, List.getElem_cons_zero, List.getElem_cons_succ, List.setIfInBounds_toArray, List.set_cons_zero, List.set_cons_succ]
      refine wpAnyH_take (i := 10) (v := ?_) rfl (by kernel_rfl) (by kernel_rfl) (by kernel_rfl) (fun _ _ _ h => h) (Or.inl ⟨by rfl, ?_⟩) hHeld4 ?_
      rotate_left
      · (intro w hSw; (try dsimp only at hSw); go_simp <;> (try with_reducible rfl))
      simp only [Act.put, List.getElem_toArray, List.getElem_cons_zero, List.getElem_cons_succ, List.setIfInBounds_toArray, List.set_cons_zero, List.set_cons_succ]
      refine wpAnyH_done (by kernel_rfl) ?_ _
      exact ⟨v26, b6, rfl, hHeld4.1, hHeld4.2.1, hHeld4.2.2.1, World.rangeAt_setCells_same _ b6 0 (vals P1) (by rw [vals_length, HPL.out]; exact hal), hHeld4.2.2.2⟩
    refine AllReadyH.cons rfl (fun K hK => ?_) AllReadyH.nil
    go_simp
    have hl1 := range_lt hHeld0.1 (by rw [HSL.out]; omega)
    have hl2 := range_lt hHeld0.2.1 (by rw [HML.out]; omega)
    have hl3 := range_lt hHeld0.2.2.1 (by rw [HOL.out]; omega)
    have hal := (Is.new wS.drew (vals Z) 23).there (n := 32) (by rw [vals_length]; exact HZL.out)
    obtain ⟨b6, hb6⟩ : ∃ b, b = (wS.heap.size) := ⟨_, rfl⟩
    have hn1 : w.heap.size ≠ b6 := by rw [hb6]; exact Nat.ne_of_lt hl1
    have hn2 : w.heap.size + 1 ≠ b6 := by rw [hb6]; exact Nat.ne_of_lt hl2
    have hn3 : w.heap.size + 1 + 1 ≠ b6 := by rw [hb6]; exact Nat.ne_of_lt hl3
    have hn4 : w.heap.size ≤ b6 := by rw [hb6]; exact Nat.le_of_lt hl1
    clear hl1 hl2 hl3
    rw [← hb6]
    replace hal : ((wS.drew).alloc (.cells (vals Z).toArray 23)).there b6 0 32 := by rw [hb6]; exact hal
    clear hb6
    refine hK.out _ _ (by exact three_below hHeld0 (below_alloc _ _)) (fun hHeld1 => ?_)
    clear hK K hHeld0
    try simp only [Act.put, List.getElem_toArray, List.getElem_cons_zero, List.getElem_cons_succ, List.setIfInBounds_toArray, List.set_cons_zero, List.set_cons_succ]
    refine wpAnyH_ready (rs := [3]) (by kernel_rfl) (by simp) ?_
    refine AllReadyH.cons rfl (fun K hK => ?_) AllReadyH.nil
    go_simp
    go_wp2_with ((go_at_call 5; refine (HG.out _ hHeld1.2.2.2).mono ?_; rintro e wq2 ⟨v26, rfl, ho14, hbq2⟩))
    refine hK.out _ _ (by exact three_below hHeld1 hbq2) (fun hHeld2 => ?_)
    clear hK K hHeld1
    try simp only [Act.put, List.getElem_toArray, List.getElem_cons_zero, List.getElem_cons_succ, List.setIfInBounds_toArray, List.set_cons_zero, List.set_cons_succ]
    have hv := ho14.has
    clear ho14
    have hal := there_below hal hbq2
    refine wpAnyH_ready (rs := [4]) (by kernel_rfl) (by simp) ?_
    refine AllReadyH.cons rfl (fun K hK => ?_) AllReadyH.nil
    go_simp
    go_wp2_with ((go_at_call 4; refine (HR.out _ v26 hHeld2.2.2.2 hv).mono ?_; rintro e wq3 ⟨rfl, hbq3⟩))
    refine hK.out _ _ (by exact three_below hHeld2 hbq3) (fun hHeld3 => ?_)
    clear hK K hHeld2
    try simp only [Act.put, List.getElem_toArray, List.getElem_cons_zero, List.getElem_cons_succ, List.setIfInBounds_toArray, List.set_cons_zero, List.set_cons_succ]
    have hal := there_below hal hbq3
    refine wpAnyH_take (i := 5) (v := ?_) rfl (by kernel_rfl) (by kernel_rfl) (by kernel_rfl) (fun _ _ _ h => h) (Or.inl ⟨by rfl, ?_⟩) hHeld3 ?_
    rotate_left
    · (intro w hSw; (try dsimp only at hSw); go_simp <;> (try with_reducible rfl))
    simp only [Act.put, List.getElem_toArray, List.getElem_cons_zero, List.getElem_cons_succ, List.setIfInBounds_toArray, List.set_cons_zero, List.set_cons_succ]
    refine wpAnyH_take (i := 6) (v := ?_) rfl (by kernel_rfl) (by kernel_rfl) (by kernel_rfl) (fun _ _ _ h => h) (Or.inl ⟨by rfl, ?_⟩) hHeld3 ?_
    rotate_left
    · (intro w hSw; (try dsimp only at hSw); go_simp <;> (try with_reducible rfl))
    simp only [Act.put, List.getElem_toArray, List.getElem_cons_zero, List.getElem_cons_succ, List.setIfInBounds_toArray, List.set_cons_zero, List.set_cons_succ]
    refine wpAnyH_take (i := 7) (v := ?_) rfl (by kernel_rfl) (by kernel_rfl) (by kernel_rfl) (fun _ _ _ h => h) (Or.inl ⟨by rfl, ?_⟩) hHeld3 ?_
    rotate_left
    · (intro w hSw; (try dsimp only at hSw); go_simp <;> (try with_reducible rfl))
    simp only [Act.put, List.getElem_toArray, List.getElem_cons_zero, List.getElem_cons_succ, List.setIfInBounds_toArray, List.set_cons_zero, List.set_cons_succ]
    refine wpAnyH_ready (rs := [9]) (by kernel_rfl) (by simp) ?_
    refine AllReadyH.cons rfl (fun K hK => ?_) AllReadyH.nil
    rw [if_pos (by rfl)]
    refine wp_store_mid _ _ _ rfl _ _ (vals P1).toArray rfl rfl (by rw [HVP.out]; exact hal) (by rw [HVP.out]; exact size_dig) (all_oneCell_toArray (vals_one _)) ?_
    simp only [Act.put, List.toList_toArray]
    refine hK.out _ _ (by exact three_store hHeld3 hn1 hn2 hn3 hn4 _) (fun hHeld4 => ?_)
    clear hK K hHeld3
    try simp only [Act.put, List.getElem_toArray, List.getElem_cons_zero, List.getElem_cons_succ, List.setIfInBounds_toArray, List.set_cons_zero, List.set_cons_succ]
    refine wpAnyH_take (i := 10) (v := ?_) rfl (by kernel_rfl) (by kernel_rfl) (by kernel_rfl) (fun _ _ _ h => h) (Or.inl ⟨by rfl, ?_⟩) hHeld4 ?_
    rotate_left
    · (intro w hSw; (try dsimp only at hSw); go_simp <;> (try with_reducible rfl))
    simp only [Act.put, List.getElem_toArray, List.getElem_cons_zero, List.getElem_cons_succ, List.setIfInBounds_toArray, List.set_cons_zero, List.set_cons_succ]
    refine wpAnyH_done (by kernel_rfl) ?_ _
    exact ⟨v26, b6, rfl, hHeld4.1, hHeld4.2.1, hHeld4.2.2.1, World.rangeAt_setCells_same _ b6 0 (vals P1) (by rw [vals_length, HPL.out]; exact hal), hHeld4.2.2.2⟩
  · rintro a W ⟨v26, b9, rfl, hS4⟩
    have HS4 := hide hS4
    clear hS4 HS0
    go_wp2
    refine wp_cut (fun a W => ∃ x41 x42 x43 x44 x45 : Value, a = { tmps := (.agg (vals seed).toArray :: .agg (vals m).toArray :: .agg (vals other).toArray :: (.slice (some ⟨b, off, none⟩) 2144 cap) :: .pointer (some ⟨w.heap.size, 0, none⟩) :: .pointer (some ⟨w.heap.size + 1, 0, none⟩) :: .pointer (some ⟨w.heap.size + 1 + 1, 0, none⟩) :: undef :: .bool false :: .pointer (some ⟨b9, 0, none⟩) :: .nilIface :: undef :: undef :: undef :: undef :: undef :: undef :: undef :: undef :: undef :: undef :: undef :: .tuple #[.agg (vals P1).toArray, .nilIface] :: .agg (vals m).toArray :: .agg (vals seed).toArray :: .agg (vals m).toArray :: v26 :: .tuple #[.agg (vals P1).toArray, .nilIface] :: .agg (vals P1).toArray :: .nilIface :: .nilIface :: .bool false :: .bool false :: .agg (vals P1).toArray :: .agg (vals seed).toArray :: .agg (vals P2).toArray :: .bool false :: .bool false :: .bool false :: .agg (vals P1).toArray :: .agg (vals Z).toArray :: x41 :: x42 :: x43 :: x44 :: x45 :: .bool false :: .bool false :: undef :: undef :: undef :: undef :: undef :: undef :: undef :: undef :: undef :: undef :: undef :: undef :: undef :: undef :: undef :: undef :: undef :: undef :: undef :: undef :: undef :: undef :: undef :: undef :: undef :: undef :: undef :: undef :: undef :: undef :: undef :: undef :: undef :: undef :: undef :: undef :: undef :: undef :: undef :: undef :: undef :: undef :: undef :: undef :: undef :: undef :: undef :: undef :: undef :: undef :: undef :: undef :: undef :: undef :: undef :: undef :: undef :: undef :: undef :: undef :: undef :: undef :: undef :: undef :: undef :: undef :: undef :: undef :: undef :: undef :: undef :: undef :: undef :: undef :: undef :: undef :: undef :: undef :: undef :: undef :: undef :: undef :: undef :: undef :: undef :: undef :: undef :: undef :: undef :: undef :: undef :: undef :: undef :: undef :: undef :: undef :: undef :: undef :: undef :: undef :: undef :: undef :: undef :: undef :: undef :: undef :: undef :: undef :: undef :: undef :: undef :: undef :: undef :: undef :: undef :: undef :: undef :: undef :: undef :: undef :: undef :: undef :: undef :: undef :: undef :: []).toArray, defers := [] } ∧ (fun W : World => W.rangeAt w.heap.size 0 (vals seed) ∧ W.rangeAt (w.heap.size + 1) 0 (vals m) ∧ W.rangeAt (w.heap.size + 1 + 1) 0 (vals other) ∧ W.rangeAt b9 0 (vals P1) ∧ Below w.heap.size w W) W) ?_ ?_
    · by_cases hpz : P1 = Z
      · have hsz2 := HPZ.out hpz
        have hq1 : ∀ w', (Op.equalIn 10000 23 (.agg (vals P1).toArray) (.agg (vals Z).toArray)).run Tryd.prog w' = .ok true w' := fun w' => dig_same _ _ HZL.out hpz w'
        have hq2 : ∀ w', (Op.equalIn 10000 23 (.agg (vals seed).toArray) (.agg (vals Z).toArray)).run Tryd.prog w' = .ok false w' := fun w' => by rw [dig_eq _ _ HSL.out HZL.out, decide_eq_false hsz2]
        clear hpz hsz2
        refine wp_region_held_drew (S := fun W : World => W.rangeAt w.heap.size 0 (vals seed) ∧ W.rangeAt (w.heap.size + 1) 0 (vals m) ∧ W.rangeAt (w.heap.size + 1 + 1) 0 (vals other) ∧ W.rangeAt b9 0 (vals P1) ∧ Below w.heap.size w W) (by kernel_rfl) ?_ (fun hHeld0 => ?_)
        · exact four_below HS4.out ((Below.refl _ _).drew)
        refine wpAnyH_take (i := 0) (v := ?_) rfl (by kernel_rfl) (by kernel_rfl) (by kernel_rfl) (fun _ _ _ h => h) (Or.inl ⟨by rfl, ?_⟩) hHeld0 ?_
        rotate_left
        · (intro w hSw; (try dsimp only at hSw); go_simp <;> (try with_reducible rfl))
        simp only [Act.put, List.getElem_toArray, List.getElem_cons_zero, List.getElem_cons_succ, List.setIfInBounds_toArray, List.set_cons_zero, List.set_cons_succ]
        refine wpAnyH_take (i := 1) (v := ?_) rfl (by kernel_rfl) (by kernel_rfl) (by kernel_rfl) (fun _ _ _ h => h) (Or.inl ⟨by rfl, ?_⟩) hHeld0 ?_
        rotate_left
        · (intro w hSw; (try dsimp only at hSw); go_simp <;> (try with_reducible rfl))
        simp only [Act.put, List.getElem_toArray, List.getElem_cons_zero, List.getElem_cons_succ, List.setIfInBounds_toArray, List.set_cons_zero, List.set_cons_succ]
        refine wpAnyH_take (i := 2) (v := ?_) rfl (by kernel_rfl) (by kernel_rfl) (by kernel_rfl) (fun _ _ _ h => h) (Or.inl ⟨by rfl, ?_⟩) hHeld0 ?_
        rotate_left
        · (intro w hSw; (try dsimp only at hSw); go_simp <;> (try with_reducible rfl))
        simp only [Act.put, List.getElem_toArray, List.getElem_cons_zero, List.getElem_cons_succ, List.setIfInBounds_toArray, List.set_cons_zero, List.set_cons_succ]
        refine wpAnyH_take (i := 3) (v := .agg (vals P1).toArray) rfl (by kernel_rfl) (by kernel_rfl) (by kernel_rfl) (fun _ _ _ h => h) (yieldsIf_load_mid (by rfl) _ _ rfl _ _ rfl (vals P1) _ (fun w hSw => hSw.2.2.2.1) Tryd.underlying23 rfl hszp) hHeld0 ?_
        simp only [Act.put, List.getElem_toArray, List.getElem_cons_zero, List.getElem_cons_succ, List.setIfInBounds_toArray, List.set_cons_zero, List.set_cons_succ]
        refine wpAnyH_take (i := 4) (v := .agg (vals seed).toArray) rfl (by kernel_rfl) (by kernel_rfl) (by kernel_rfl) (fun _ _ _ h => h) (yieldsIf_load_mid (by rfl) _ _ rfl _ _ rfl (vals seed) _ (fun w hSw => hSw.1) Tryd.underlying23 rfl hszs) hHeld0 ?_
        simp only [Act.put, List.getElem_toArray, List.getElem_cons_zero, List.getElem_cons_succ, List.setIfInBounds_toArray, List.set_cons_zero, List.set_cons_succ]
        refine wpAnyH_ready (rs := [5]) (by kernel_rfl) (by simp) ?_
        refine AllReadyH.cons rfl (fun K hK => ?_) AllReadyH.nil
        go_simp
        go_wp2_with ((go_at_call 6; refine (HP2.out _ hHeld0.2.2.2.2).mono ?_; rintro e wq1 ⟨rfl, hbq1⟩))
        refine hK.out _ _ (by exact four_below hHeld0 hbq1) (fun hHeld1 => ?_)
        clear hK K hHeld0
        try simp only [Act.put, List.getElem_toArray, List.getElem_cons_zero, List.getElem_cons_succ, List.setIfInBounds_toArray, List.set_cons_zero, List.set_cons_succ]
        refine wpAnyH_take (i := 6) (v := ?_) rfl (by kernel_rfl) (by kernel_rfl) (by kernel_rfl) (fun _ _ _ h => h) (Or.inl ⟨by rfl, ?_⟩) hHeld1 ?_
        rotate_left
        · (intro w hSw; (try dsimp only at hSw); go_simp <;> (try with_reducible rfl))
        simp only [Act.put, List.getElem_toArray, List.getElem_cons_zero, List.getElem_cons_succ, List.setIfInBounds_toArray, List.set_cons_zero, List.set_cons_succ]
        refine wpAnyH_take (i := 7) (v := ?_) rfl (by kernel_rfl) (by kernel_rfl) (by kernel_rfl) (fun _ _ _ h => h) (Or.inl ⟨by rfl, ?_⟩) hHeld1 ?_
        rotate_left
        · (intro w hSw; (try dsimp only at hSw); go_simp <;> (try with_reducible rfl))
        simp only [Act.put, List.getElem_toArray, List.getElem_cons_zero, List.getElem_cons_succ, List.setIfInBounds_toArray, List.set_cons_zero, List.set_cons_succ]
        refine wpAnyH_take (i := 8) (v := ?_) rfl (by kernel_rfl) (by kernel_rfl) (by kernel_rfl) (fun _ _ _ h => h) (Or.inl ⟨by rfl, ?_⟩) hHeld1 ?_
        rotate_left
        · (intro w hSw; (try dsimp only at hSw); go_simp <;> (try with_reducible rfl))
        simp only [Act.put, List.getElem_toArray, List.getElem_cons_zero, List.getElem_cons_succ, List.setIfInBounds_toArray, List.set_cons_zero, List.set_cons_succ]
        refine wpAnyH_take (i := 9) (v := .agg (vals P1).toArray) rfl (by kernel_rfl) (by kernel_rfl) (by kernel_rfl) (fun _ _ _ h => h) (yieldsIf_load_mid (by rfl) _ _ rfl _ _ rfl (vals P1) _ (fun w hSw => hSw.2.2.2.1) Tryd.underlying23 rfl hszp) hHeld1 ?_
        simp only [Act.put, List.getElem_toArray, List.getElem_cons_zero, List.getElem_cons_succ, List.setIfInBounds_toArray, List.set_cons_zero, List.set_cons_succ]
        refine wpAnyH_take (i := 10) (v := ?_) rfl (by kernel_rfl) (by kernel_rfl) (by kernel_rfl) (fun _ _ _ h => h) (Or.inl ⟨by rfl, ?_⟩) hHeld1 ?_
        rotate_left
        · (intro w hSw; (try dsimp only at hSw); go_simp <;> (try with_reducible rfl))
        simp only [Act.put, List.getElem_toArray, List.getElem_cons_zero, List.getElem_cons_succ, List.setIfInBounds_toArray, List.set_cons_zero, List.set_cons_succ]
        refine wpAnyH_take (i := 11) (v := ?_) rfl (by kernel_rfl) (by kernel_rfl) (by kernel_rfl) (fun _ _ _ h => h) (Or.inl ⟨by rfl, ?_⟩) hHeld1 ?_
        rotate_left
        · (intro w hSw; (try dsimp only at hSw); go_simp <;> (try with_reducible rfl))
        simp only [Act.put, List.getElem_toArray, List.getElem_cons_zero, List.getElem_cons_succ, List.setIfInBounds_toArray, List.set_cons_zero, List.set_cons_succ]
        refine wpAnyH_take (i := 12) (v := ?_) rfl (by kernel_rfl) (by kernel_rfl) (by kernel_rfl) (fun _ _ _ h => h) (Or.inl ⟨by rfl, ?_⟩) hHeld1 ?_
        rotate_left
        · (intro w hSw; (try dsimp only at hSw); go_simp <;> (try with_reducible rfl))
        simp only [Act.put, List.getElem_toArray, List.getElem_cons_zero, List.getElem_cons_succ, List.setIfInBounds_toArray, List.set_cons_zero, List.set_cons_succ]
        refine wpAnyH_take (i := 13) (v := .agg (vals seed).toArray) rfl (by kernel_rfl) (by kernel_rfl) (by kernel_rfl) (fun _ _ _ h => h) (yieldsIf_load_mid (by rfl) _ _ rfl _ _ rfl (vals seed) _ (fun w hSw => hSw.1) Tryd.underlying23 rfl hszs) hHeld1 ?_
        simp only [Act.put, List.getElem_toArray, List.getElem_cons_zero, List.getElem_cons_succ, List.setIfInBounds_toArray, List.set_cons_zero, List.set_cons_succ]
        refine wpAnyH_take (i := 14) (v := ?_) rfl (by kernel_rfl) (by kernel_rfl) (by kernel_rfl) (fun _ _ _ h => h) (Or.inl ⟨by rfl, ?_⟩) hHeld1 ?_
        rotate_left
        · (intro w hSw; (try dsimp only at hSw); go_simp <;> (try with_reducible rfl))
        simp only [Act.put, List.getElem_toArray, List.getElem_cons_zero, List.getElem_cons_succ, List.setIfInBounds_toArray, List.set_cons_zero, List.set_cons_succ]
        refine wpAnyH_take (i := 15) (v := ?_) rfl (by kernel_rfl) (by kernel_rfl) (by kernel_rfl) (fun _ _ _ h => h) (Or.inl ⟨by rfl, ?_⟩) hHeld1 ?_
        rotate_left
        · (intro w hSw; (try dsimp only at hSw); go_simp <;> (try with_reducible rfl))
        simp only [Act.put, List.getElem_toArray, List.getElem_cons_zero, List.getElem_cons_succ, List.setIfInBounds_toArray, List.set_cons_zero, List.set_cons_succ]
        refine wpAnyH_take (i := 16) (v := ?_) rfl (by kernel_rfl) (by kernel_rfl) (by kernel_rfl) (fun _ _ _ h => h) (Or.inl ⟨by rfl, ?_⟩) hHeld1 ?_
        rotate_left
        · (intro w hSw; (try dsimp only at hSw); go_simp <;> (try with_reducible rfl))
        simp only [Act.put, List.getElem_toArray, List.getElem_cons_zero, List.getElem_cons_succ, List.setIfInBounds_toArray, List.set_cons_zero, List.set_cons_succ]
        refine wpAnyH_take (i := 17) (v := ?_) rfl (by kernel_rfl) (by kernel_rfl) (by kernel_rfl) (fun _ _ _ h => h) (Or.inl ⟨by rfl, ?_⟩) hHeld1 ?_
        rotate_left
        · (intro w hSw; (try dsimp only at hSw); go_simp <;> (try with_reducible rfl))
        simp only [Act.put, List.getElem_toArray, List.getElem_cons_zero, List.getElem_cons_succ, List.setIfInBounds_toArray, List.set_cons_zero, List.set_cons_succ]
        refine wpAnyH_done (by kernel_rfl) ?_ _
        exact ⟨_, _, _, _, _, rfl, hHeld1⟩
      · have hq1 : ∀ w', (Op.equalIn 10000 23 (.agg (vals P1).toArray) (.agg (vals Z).toArray)).run Tryd.prog w' = .ok false w' := fun w' => by rw [dig_eq _ _ HPL.out HZL.out, decide_eq_false hpz]
        clear hpz
        refine wp_region_held_drew (S := fun W : World => W.rangeAt w.heap.size 0 (vals seed) ∧ W.rangeAt (w.heap.size + 1) 0 (vals m) ∧ W.rangeAt (w.heap.size + 1 + 1) 0 (vals other) ∧ W.rangeAt b9 0 (vals P1) ∧ Below w.heap.size w W) (by kernel_rfl) ?_ (fun hHeld0 => ?_)
        · exact four_below HS4.out ((Below.refl _ _).drew)
        refine wpAnyH_take (i := 0) (v := ?_) rfl (by kernel_rfl) (by kernel_rfl) (by kernel_rfl) (fun _ _ _ h => h) (Or.inl ⟨by rfl, ?_⟩) hHeld0 ?_
        rotate_left
        · (intro w hSw; (try dsimp only at hSw); go_simp <;> (try with_reducible rfl))
        simp only [Act.put, List.getElem_toArray, List.getElem_cons_zero, List.getElem_cons_succ, List.setIfInBounds_toArray, List.set_cons_zero, List.set_cons_succ]
        refine wpAnyH_take (i := 1) (v := ?_) rfl (by kernel_rfl) (by kernel_rfl) (by kernel_rfl) (fun _ _ _ h => h) (Or.inl ⟨by rfl, ?_⟩) hHeld0 ?_
        rotate_left
        · (intro w hSw; (try dsimp only at hSw); go_simp <;> (try with_reducible rfl))
        simp only [Act.put, List.getElem_toArray, List.getElem_cons_zero, List.getElem_cons_succ, List.setIfInBounds_toArray, List.set_cons_zero, List.set_cons_succ]
        refine wpAnyH_take (i := 2) (v := ?_) rfl (by kernel_rfl) (by kernel_rfl) (by kernel_rfl) (fun _ _ _ h => h) (Or.inl ⟨by rfl, ?_⟩) hHeld0 ?_
        rotate_left
        · (intro w hSw; (try dsimp only at hSw); go_simp <;> (try with_reducible rfl))
        simp only [Act.put, List.getElem_toArray, List.getElem_cons_zero, List.getElem_cons_succ, List.setIfInBounds_toArray, List.set_cons_zero, List.set_cons_succ]
        refine wpAnyH_take (i := 3) (v := .agg (vals P1).toArray) rfl (by kernel_rfl) (by kernel_rfl) (by kernel_rfl) (fun _ _ _ h => h) (yieldsIf_load_mid (by rfl) _ _ rfl _ _ rfl (vals P1) _ (fun w hSw => hSw.2.2.2.1) Tryd.underlying23 rfl hszp) hHeld0 ?_
        simp only [Act.put, List.getElem_toArray, List.getElem_cons_zero, List.getElem_cons_succ, List.setIfInBounds_toArray, List.set_cons_zero, List.set_cons_succ]
        refine wpAnyH_take (i := 4) (v := .agg (vals seed).toArray) rfl (by kernel_rfl) (by kernel_rfl) (by kernel_rfl) (fun _ _ _ h => h) (yieldsIf_load_mid (by rfl) _ _ rfl _ _ rfl (vals seed) _ (fun w hSw => hSw.1) Tryd.underlying23 rfl hszs) hHeld0 ?_
        simp only [Act.put, List.getElem_toArray, List.getElem_cons_zero, List.getElem_cons_succ, List.setIfInBounds_toArray, List.set_cons_zero, List.set_cons_succ]
        refine wpAnyH_ready (rs := [5]) (by kernel_rfl) (by simp) ?_
        refine AllReadyH.cons rfl (fun K hK => ?_) AllReadyH.nil
        go_simp
        go_wp2_with ((go_at_call 6; refine (HP2.out _ hHeld0.2.2.2.2).mono ?_; rintro e wq1 ⟨rfl, hbq1⟩))
        refine hK.out _ _ (by exact four_below hHeld0 hbq1) (fun hHeld1 => ?_)
        clear hK K hHeld0
        try simp only [Act.put, List.getElem_toArray, List.getElem_cons_zero, List.getElem_cons_succ, List.setIfInBounds_toArray, List.set_cons_zero, List.set_cons_succ]
        refine wpAnyH_take (i := 6) (v := ?_) rfl (by kernel_rfl) (by kernel_rfl) (by kernel_rfl) (fun _ _ _ h => h) (Or.inl ⟨by rfl, ?_⟩) hHeld1 ?_
        rotate_left
        · (intro w hSw; (try dsimp only at hSw); go_simp <;> (try with_reducible rfl))
        simp only [Act.put, List.getElem_toArray, List.getElem_cons_zero, List.getElem_cons_succ, List.setIfInBounds_toArray, List.set_cons_zero, List.set_cons_succ]
        refine wpAnyH_take (i := 7) (v := ?_) rfl (by kernel_rfl) (by kernel_rfl) (by kernel_rfl) (fun _ _ _ h => h) (Or.inl ⟨by rfl, ?_⟩) hHeld1 ?_
        rotate_left
        · (intro w hSw; (try dsimp only at hSw); go_simp <;> (try with_reducible rfl))
        simp only [Act.put, List.getElem_toArray, List.getElem_cons_zero, List.getElem_cons_succ, List.setIfInBounds_toArray, List.set_cons_zero, List.set_cons_succ]
        refine wpAnyH_take (i := 8) (v := ?_) rfl (by kernel_rfl) (by kernel_rfl) (by kernel_rfl) (fun _ _ _ h => h) (Or.inl ⟨by rfl, ?_⟩) hHeld1 ?_
        rotate_left
        · (intro w hSw; (try dsimp only at hSw); go_simp <;> (try with_reducible rfl))
        simp only [Act.put, List.getElem_toArray, List.getElem_cons_zero, List.getElem_cons_succ, List.setIfInBounds_toArray, List.set_cons_zero, List.set_cons_succ]
        refine wpAnyH_take (i := 9) (v := .agg (vals P1).toArray) rfl (by kernel_rfl) (by kernel_rfl) (by kernel_rfl) (fun _ _ _ h => h) (yieldsIf_load_mid (by rfl) _ _ rfl _ _ rfl (vals P1) _ (fun w hSw => hSw.2.2.2.1) Tryd.underlying23 rfl hszp) hHeld1 ?_
        simp only [Act.put, List.getElem_toArray, List.getElem_cons_zero, List.getElem_cons_succ, List.setIfInBounds_toArray, List.set_cons_zero, List.set_cons_succ]
        refine wpAnyH_take (i := 10) (v := ?_) rfl (by kernel_rfl) (by kernel_rfl) (by kernel_rfl) (fun _ _ _ h => h) (Or.inl ⟨by rfl, ?_⟩) hHeld1 ?_
        rotate_left
        · (intro w hSw; (try dsimp only at hSw); go_simp <;> (try with_reducible rfl))
        simp only [Act.put, List.getElem_toArray, List.getElem_cons_zero, List.getElem_cons_succ, List.setIfInBounds_toArray, List.set_cons_zero, List.set_cons_succ]
        refine wpAnyH_take (i := 11) (v := ?_) rfl (by kernel_rfl) (by kernel_rfl) (by kernel_rfl) (fun _ _ _ h => h) (Or.inl ⟨by rfl, ?_⟩) hHeld1 ?_
        rotate_left
        · (intro w hSw; (try dsimp only at hSw); go_simp <;> (try with_reducible rfl))
        simp only [Act.put, List.getElem_toArray, List.getElem_cons_zero, List.getElem_cons_succ, List.setIfInBounds_toArray, List.set_cons_zero, List.set_cons_succ]
        refine wpAnyH_take (i := 12) (v := ?_) rfl (by kernel_rfl) (by kernel_rfl) (by kernel_rfl) (fun _ _ _ h => h) (Or.inl ⟨by rfl, ?_⟩) hHeld1 ?_
        rotate_left
        · (intro w hSw; (try dsimp only at hSw); go_simp <;> (try with_reducible rfl))
        simp only [Act.put, List.getElem_toArray, List.getElem_cons_zero, List.getElem_cons_succ, List.setIfInBounds_toArray, List.set_cons_zero, List.set_cons_succ]
        refine wpAnyH_take (i := 13) (v := undef) rfl (by kernel_rfl) (by kernel_rfl) (by kernel_rfl) (fun _ _ _ h => h) (Or.inr ⟨by rfl, rfl⟩) hHeld1 ?_
        simp only [Act.put, List.getElem_toArray, List.getElem_cons_zero, List.getElem_cons_succ, List.setIfInBounds_toArray, List.set_cons_zero, List.set_cons_succ]
        refine wpAnyH_take (i := 14) (v := undef) rfl (by kernel_rfl) (by kernel_rfl) (by kernel_rfl) (fun _ _ _ h => h) (Or.inr ⟨by rfl, rfl⟩) hHeld1 ?_
        simp only [Act.put, List.getElem_toArray, List.getElem_cons_zero, List.getElem_cons_succ, List.setIfInBounds_toArray, List.set_cons_zero, List.set_cons_succ]
        refine wpAnyH_take (i := 15) (v := undef) rfl (by kernel_rfl) (by kernel_rfl) (by kernel_rfl) (fun _ _ _ h => h) (Or.inr ⟨by rfl, rfl⟩) hHeld1 ?_
        simp only [Act.put, List.getElem_toArray, List.getElem_cons_zero, List.getElem_cons_succ, List.setIfInBounds_toArray, List.set_cons_zero, List.set_cons_succ]
        refine wpAnyH_take (i := 16) (v := ?_) rfl (by kernel_rfl) (by kernel_rfl) (by kernel_rfl) (fun _ _ _ h => h) (Or.inl ⟨by rfl, ?_⟩) hHeld1 ?_
        rotate_left
        · (intro w hSw; (try dsimp only at hSw); go_simp <;> (try with_reducible rfl))
        simp only [Act.put, List.getElem_toArray, List.getElem_cons_zero, List.getElem_cons_succ, List.setIfInBounds_toArray, List.set_cons_zero, List.set_cons_succ]
        refine wpAnyH_take (i := 17) (v := ?_) rfl (by kernel_rfl) (by kernel_rfl) (by kernel_rfl) (fun _ _ _ h => h) (Or.inl ⟨by rfl, ?_⟩) hHeld1 ?_
        rotate_left
        · (intro w hSw; (try dsimp only at hSw); go_simp <;> (try with_reducible rfl))
        simp only [Act.put, List.getElem_toArray, List.getElem_cons_zero, List.getElem_cons_succ, List.setIfInBounds_toArray, List.set_cons_zero, List.set_cons_succ]
        refine wpAnyH_done (by kernel_rfl) ?_ _
        exact ⟨_, _, _, _, _, rfl, hHeld1⟩
    · rintro a W2 ⟨x41, x42, x43, x44, x45, rfl, hS5⟩
      have HS5 := hide hS5
      clear hS5 HS4
      have hb5 := HS5.out.2.2.2.2
      have HS6 : Hid (∀ W : World, Below W2.heap.size W2 W → (fun W : World => W.rangeAt w.heap.size 0 (vals seed) ∧ W.rangeAt (w.heap.size + 1) 0 (vals m) ∧ W.rangeAt (w.heap.size + 1 + 1) 0 (vals other) ∧ W.rangeAt b9 0 (vals P1) ∧ Below w.heap.size w W) W) := fun W hW => four_below HS5.out hW
      by_cases hQP : Q = P1
      · have hq3 : ∀ w', (Op.equalIn 10000 23 (.agg (vals Q).toArray) (.agg (vals P1).toArray)).run Tryd.prog w' = .ok true w' := fun w' => dig_same _ _ HPL.out hQP w'
        by_cases hom : other = m
        · have hq4 : ∀ w', (Op.equalIn 10000 23 (.agg (vals other).toArray) (.agg (vals m).toArray)).run Tryd.prog w' = .ok true w' := fun w' => dig_same _ _ HML.out hom w'
          clear hQP hom
          go_wp2_with (first
        | (refine wpList_load_mid2 23 (vals other) (w.heap.size + 1 + 1) 0 rfl (.tmp 6) rfl rfl HS5.out.2.2.1 Tryd.underlying23 size_dig (by rw [vals_length]; exact HOL.out) ?_)
        | (go_at_call 4; refine (HRQ.out _ hb5).mono ?_; rintro e w4 ⟨rfl, hb4⟩; have hb4' := hb5.trans (hb4.mono hb5.size))
        | (refine wpList_store_any2 23 (vals Z) (vals Q) w4.heap.size rfl (.tmp 11) (.tmp 52) rfl rfl rfl rfl (Is.new w4 _ _) size_dig (by rw [vals_length]; exact HZL.out) (by rw [vals_length]; exact HQL.out) (vals_one _) ?_; intro w5 hi5 hb6 hk5 hz5; clear hz5; have hb5' := hb6 _ _ (hb4'.alloc hb4'.size _) hb4'.size; have hbX := hb6 _ _ (hb4.alloc hb4.size _) hb4.size; have hS5 := HS6.out _ hbX)
        | (refine wpList_load_midG 23 (vals Q) w4.heap.size 0 (.tmp 11) rfl rfl rfl hi5.range Tryd.underlying23 size_dig (by rw [vals_length]; exact HQL.out) ?_)
        | (refine wpList_load_midG 23 (vals P1) b9 0 (.tmp 9) rfl rfl rfl hS5.2.2.2.1 Tryd.underlying23 size_dig (by rw [vals_length]; exact HPL.out) ?_)
        | (refine wpList_load_midG 23 (vals other) (w.heap.size + 1 + 1) 0 (.tmp 6) rfl rfl rfl hS5.2.2.1 Tryd.underlying23 size_dig (by rw [vals_length]; exact HOL.out) ?_)
        | (refine wpList_load_midG 23 (vals m) (w.heap.size + 1) 0 (.tmp 5) rfl rfl rfl hS5.2.1 Tryd.underlying23 size_dig (by rw [vals_length]; exact HML.out) ?_))
          go_ret
          exact ⟨rfl, hb5'⟩
        · have hq4 : ∀ w', (Op.equalIn 10000 23 (.agg (vals other).toArray) (.agg (vals m).toArray)).run Tryd.prog w' = .ok false w' := fun w' => by rw [dig_eq _ _ HOL.out HML.out, decide_eq_false hom]
          have HQP := hide hQP
          have HOM := hide hom
          clear hQP hom
          go_wp2_with (first
        | (refine wpList_load_mid2 23 (vals other) (w.heap.size + 1 + 1) 0 rfl (.tmp 6) rfl rfl HS5.out.2.2.1 Tryd.underlying23 size_dig (by rw [vals_length]; exact HOL.out) ?_)
        | (go_at_call 4; refine (HRQ.out _ hb5).mono ?_; rintro e w4 ⟨rfl, hb4⟩; have hb4' := hb5.trans (hb4.mono hb5.size))
        | (refine wpList_store_any2 23 (vals Z) (vals Q) w4.heap.size rfl (.tmp 11) (.tmp 52) rfl rfl rfl rfl (Is.new w4 _ _) size_dig (by rw [vals_length]; exact HZL.out) (by rw [vals_length]; exact HQL.out) (vals_one _) ?_; intro w5 hi5 hb6 hk5 hz5; clear hz5; have hb5' := hb6 _ _ (hb4'.alloc hb4'.size _) hb4'.size; have hbX := hb6 _ _ (hb4.alloc hb4.size _) hb4.size; have hS5 := HS6.out _ hbX)
        | (refine wpList_load_midG 23 (vals Q) w4.heap.size 0 (.tmp 11) rfl rfl rfl hi5.range Tryd.underlying23 size_dig (by rw [vals_length]; exact HQL.out) ?_)
        | (refine wpList_load_midG 23 (vals P1) b9 0 (.tmp 9) rfl rfl rfl hS5.2.2.2.1 Tryd.underlying23 size_dig (by rw [vals_length]; exact HPL.out) ?_)
        | (refine wpList_load_midG 23 (vals other) (w.heap.size + 1 + 1) 0 (.tmp 6) rfl rfl rfl hS5.2.2.1 Tryd.underlying23 size_dig (by rw [vals_length]; exact HOL.out) ?_)
        | (refine wpList_load_midG 23 (vals m) (w.heap.size + 1) 0 (.tmp 5) rfl rfl rfl hS5.2.1 Tryd.underlying23 size_dig (by rw [vals_length]; exact HML.out) ?_)
        | (refine wpList_load_mid2 23 (vals seed) w.heap.size 0 rfl (.tmp 4) rfl rfl hS5.1 Tryd.underlying23 size_dig (by rw [vals_length]; exact HSL.out) ?_)
        | (refine wpList_load_mid2 23 (vals m) (w.heap.size + 1) 0 rfl (.tmp 5) rfl rfl hS5.2.1 Tryd.underlying23 size_dig (by rw [vals_length]; exact HML.out) ?_)
        | (go_at_call 5; refine (HG.out _ hS5.2.2.2.2).mono ?_; rintro e w6 ⟨v12, rfl, ho12, hb7⟩; have ho12' : w6.ownsRow w5.heap.size 5 1 v12 2144 (vals R) := (by have := ho12; unfold Own at this; rw [HRL.out] at this; exact this); obtain ⟨g12, c12, rfl, hg12, hgl12, hc12, hcm12, hr12⟩ := owns_some ho12' (by omega); have hS7 := four_below hS5 hb7)
        | (refine wpList_load_mid2 23 (vals m) (w.heap.size + 1) 0 rfl (.tmp 5) rfl rfl hS7.2.1 Tryd.underlying23 size_dig (by rw [vals_length]; exact HML.out) ?_))
          refine (HNM.out _).mono ?_
          rintro e w7 ⟨v13, rfl, ho13, hb8⟩
          unfold OwnN at ho13
          rw [HGL.out] at ho13
          obtain ⟨g13, c13, rfl, hg13, hgl13, hc13, hcm13, hr13⟩ := owns_some ho13 (by omega)
          have hS8 := four_below hS7 hb8
          go_wp2_with (refine wpList_load_mid2 23 (vals other) (w.heap.size + 1 + 1) 0 rfl (.tmp 6) rfl rfl hS8.2.2.1 Tryd.underlying23 size_dig (by rw [vals_length]; exact HOL.out) ?_)
          refine (HNO.out _).mono ?_
          rintro e w8 ⟨v14, rfl, ho14, hb9⟩
          unfold OwnN at ho14
          rw [HGOL.out] at ho14
          obtain ⟨g14, c14, rfl, hg14, hgl14, hc14, hcm14, hr14⟩ := owns_some ho14 (by omega)
          have hS9 := four_below hS8 hb9
          clear HNM HNO ho12 ho12' ho13 ho14
          go_wp2
          have hb79 := hb8.trans (hb9.mono hb8.size)
          have HSH := hide (range_below0 hr12 hb79 hgl12)
          have HR13 := hide (range_below0 hr13 hb9 hgl13)
          have HR14 := hide hr14
          have HS9 := hide hS9
          have hB9 := hS9.2.2.2.2
          have hz6 := hb7.size
          have hz7 := hb8.size
          have hz8 := hb9.size
          have hl12 : g12 < w8.heap.size := by omega
          have hl13 : g13 < w8.heap.size := by omega
          have HCA : Hid (∀ k, k < 67 → w8.cell? ⟨g13, k, none⟩ = some (.int .i64 (da k : Int))) := fun k hk => by
            have := HR13.out k _ (ivals_get G k (by rw [HGL.out]; exact hk))
            rw [Nat.zero_add, HDA.out] at this
            exact this
          have HCB : Hid (∀ k, k < 67 → w8.cell? ⟨g14, k, none⟩ = some (.int .i64 (db k : Int))) := fun k hk => by
            have := HR14.out k _ (ivals_get GO k (by rw [HGOL.out]; exact hk))
            rw [Nat.zero_add, HDB.out] at this
            exact this
          have HAT : Hid (∀ W (k : Nat), Below w8.heap.size w8 W → k < 67 → Calls Tryd.prog 8 #[.slice (some ⟨b, off, none⟩) 2144 cap, .int .i64 (32 * (k : Int))] W fun e w' => e = .returned (.agg (vals (sg k)).toArray) ∧ Below W.heap.size W w') := fun W k hW hk => HSG.out W k (hB9.trans (hW.mono hB9.size)) hk
          have HAS : Hid (∀ W (k : Nat), Below w8.heap.size w8 W → k < 67 → Calls Tryd.prog 8 #[.slice (some ⟨g12, 0, none⟩) 2144 c12, .int .i64 (32 * (k : Int))] W fun e w' => e = .returned (.agg (vals (sh k)).toArray) ∧ Below W.heap.size W w') := fun W k hW hk => HSHC.out W g12 c12 k (range_below0 HSH.out hW hl12) (Nat.lt_of_lt_of_le hl12 hW.size) hc12 hk
          clear hr12 hr13 hr14 hS9 hS8 hS7 hS5 HSG HSHC HR13 HR14 hb4 hb4' hb6 hk5 hb5' hbX hi5 hb7 hb8 hb9 hb79 HRQ HG HR HP2 hq3 hq4 heq1 hg12 hcm12 hg13 hcm13 hc13 hg14 hcm14 hc14 hz6 hz7 hz8 HS5 HS6 hb5
          go_loopw [15, 16, 17] (fun v15 v16 i wr => ∃ k : Nat, k ≤ 67 ∧ i = .int .i64 k ∧ wr.ownsRow w8.heap.size 23 32 v15 k (vals (Ky.rowsOf en k)) ∧ wr.ownsRow w8.heap.size 23 32 v16 k (vals (Ky.rowsOf tp k)) ∧ (∀ b, v15.ownBlock = some b → v16.ownBlock ≠ some b) ∧ (∀ j, j < k → nohit j) ∧ Below w8.heap.size w8 wr) (fun _ _ i _ => 67 - (intOf i).toNat)
          case atStart => exact ⟨0, by omega, rfl, World.ownsRow_nil _ _ _ _, World.ownsRow_nil _ _ _ _, (by intro b hb; simp [Value.ownBlock] at hb), fun j hj => by omega, Below.refl _ _⟩
          case round =>
            obtain ⟨k, hk, rfl, ho15, ho16, hsep, hno, hb⟩ := hrel
            obtain ⟨a15, c15, rfl⟩ := owns_form ho15
            obtain ⟨a16, c16, rfl⟩ := owns_form ho16
            by_cases hkl : k < 67
            · have hki : (k : Int) < 67 := by omega
              have hda := HDA15.out k
              have hdb := HDB15.out k
              have hD0l := HSGL.out k hkl
              have hca : wr.cell? ⟨g13, k, none⟩ = some (.int .i64 (da k : Int)) := by rw [hb.cell (p := ⟨g13, k, none⟩) hl13]; exact HCA.out k hkl
              have hcb : wr.cell? ⟨g14, k, none⟩ = some (.int .i64 (db k : Int)) := by rw [hb.cell (p := ⟨g14, k, none⟩) hgl14]; exact HCB.out k hkl
              have HAT1 : Hid (∀ W, Below w8.heap.size w8 W → Calls Tryd.prog 8 #[.slice (some ⟨b, off, none⟩) 2144 cap, .int .i64 (32 * (k : Int))] W fun e w' => e = .returned (.agg (vals (sg k)).toArray) ∧ Below W.heap.size W w') := fun W hW => HAT.out W k hW hkl
              have HAS0 : Hid (∀ W, Below w8.heap.size w8 W → Calls Tryd.prog 8 #[.slice (some ⟨g12, 0, none⟩) 2144 c12, .int .i64 (32 * (k : Int))] W fun e w' => e = .returned (.agg (vals (sh k)).toArray) ∧ Below W.heap.size W w') := fun W hW => HAS.out W k hW hkl
              have hshl := HSHL.out k
              have HEN := hide (HENA.out k)
              have HTP := hide (HTPA.out k hkl)
              have HNH := hide (HNHA.out k)
              have HD0B := hide (HSGB.out k)
              generalize sg k = D0 at *
              generalize sh k = H1 at *
              generalize da k = x at *
              generalize db k = y at *
              have HD0L := hide hD0l
              have HSHL1 := hide hshl
              have HO15 := hide ho15
              have HO16 := hide ho16
              have HSEP := hide hsep
              have HNO := hide hno
              have HCAB := hide (And.intro hcb hca)
              have HB := hide hb
              have hszD : (Tryd.prog.info? 23).map (·.size) = some (vals D0).length := by rw [vals_length, hD0l]; exact size_dig
              have hwk : IntKind.i64.wrap (32 * (k : Int)) = 32 * (k : Int) := IntWalk.i64_in _ (by omega)
              have hwk2 : wrap64 (32 * (k : Int)) = 32 * (k : Int) := by rw [← IntWalk.i64_left]; exact hwk
              clear ho15 ho16 hsep hno hca hcb hD0l hshl hb
              obtain ⟨wA, hwA⟩ : ∃ wA, wA = wr := ⟨_, rfl⟩
              subst hwA
              go_wp2_with (first
                | (go_at_call 8; refine (HAT1.out _ HB.out).mono ?_; rintro e w9 ⟨rfl, hb9⟩)
                | (refine wpList_store_any2 23 (vals Z) (vals D0) w9.heap.size rfl (.tmp 18) (.tmp 95) rfl rfl rfl rfl (Is.new w9 _ _) size_dig (by rw [vals_length]; exact HZL.out) (by rw [vals_length]; exact HD0L.out) (vals_one _) ?_; intro w10 hi10 hb10 hk10 hz10; clear hz10))
              have hbA10 := hb10 _ _ (hb9.alloc hb9.size (.cells (vals Z).toArray 23)) hb9.size
              have HBA := hide hbA10
              have hb10' := HB.out.trans (hbA10.mono HB.out.size)
              have HB10 := hide hb10'
              obtain ⟨b18, hb18⟩ : ∃ q, q = w9.heap.size := ⟨_, rfl⟩
              rw [← hb18] at hi10 ⊢
              have hAb : wA.heap.size ≤ b18 := by rw [hb18]; exact hb9.size
              have HI10 := hide hi10
              clear hb18 hi10 hb10 hk10 hb9 hbA10 hb10' HAT1
              have HAS1 : Hid (∀ W, Below w10.heap.size w10 W → Calls Tryd.prog 8 #[.slice (some ⟨g12, 0, none⟩) 2144 c12, .int .i64 (32 * (k : Int))] W fun e w' => e = .returned (.agg (vals H1).toArray) ∧ Below W.heap.size W w') := fun W hW => HAS0.out W (HB10.out.trans (hW.mono HB10.out.size))
              have HS18 : Hid ((fun W : World => W.cell? ⟨g14, k, none⟩ = some (.int .i64 (y : Int)) ∧ W.cell? ⟨g13, k, none⟩ = some (.int .i64 (x : Int)) ∧ W.rangeAt b18 0 (vals D0) ∧ Below w10.heap.size w10 W) w10) := ⟨cell_below HCAB.out.1 HBA.out, cell_below HCAB.out.2 HBA.out, HI10.out.range, Below.refl _ _⟩
              go_cut [122] from 88 to 160 (fun c wx => ∃ hit : Bool, c = .bool hit ∧ (hit = false → y < x → f D0 ((x : Int) - (y : Int)) ≠ H1) ∧ Below w10.heap.size w10 wx)
              case first =>
                by_cases hyx : y < x
                · have hyi : (y : Int) < (x : Int) := by omega
                  have HW1 : Hid (∀ W, Calls Tryd.prog 9 #[.agg (vals D0).toArray, .int .i64 ((x : Int) - (y : Int))] W fun e w' => e = .returned (.agg (vals (f D0 ((x : Int) - (y : Int)))).toArray) ∧ Below W.heap.size W w') := fun W => HWK.out W D0 _ HD0L.out HD0B.out (by omega)
                  have hFl := HFL.out D0 ((x : Int) - (y : Int)) HD0L.out
                  have hwx : IntKind.i64.wrap ((x : Int) - (y : Int)) = (x : Int) - (y : Int) := IntWalk.i64_in _ (by omega)
                  have hwx2 : wrap64 ((x : Int) - (y : Int)) = (x : Int) - (y : Int) := by rw [← IntWalk.i64_left]; exact hwx
                  generalize hF1 : f D0 ((x : Int) - (y : Int)) = F1 at *
                  obtain ⟨hit, hhit⟩ : ∃ hit, hit = decide (F1 = H1) := ⟨_, rfl⟩
                  have hqe : ∀ w', (Op.equalIn 10000 23 (.agg (vals F1).toArray) (.agg (vals H1).toArray)).run Tryd.prog w' = .ok hit w' := fun w' => by rw [dig_eq _ _ hFl HSHL1.out, hhit]
                  have HHIT : Hid (hit = false → y < x → F1 ≠ H1) := fun h _ e => by rw [hhit, decide_eq_true e] at h; cases h
                  clear hF1 hhit hFl
                  refine wp_region_held_drew (S := fun W : World => W.cell? ⟨g14, k, none⟩ = some (.int .i64 (y : Int)) ∧ W.cell? ⟨g13, k, none⟩ = some (.int .i64 (x : Int)) ∧ W.rangeAt b18 0 (vals D0) ∧ Below w10.heap.size w10 W) (by kernel_rfl) ?_ (fun hHeld0 => ?_)
                  · exact c18_below HS18.out ((Below.refl _ _).drew)
                  refine wpAnyH_take (i := 0) (v := ?_) rfl (by kernel_rfl) (by kernel_rfl) (by kernel_rfl) (fun _ _ _ h => h) (Or.inl ⟨by rfl, ?_⟩) hHeld0 ?_
                  rotate_left
                  · (intro w hSw; (try dsimp only at hSw); go_simp <;> (try with_reducible rfl))
                  simp only [Act.put, List.getElem_toArray, List.getElem_cons_zero, List.getElem_cons_succ, List.setIfInBounds_toArray, List.set_cons_zero, List.set_cons_succ]
                  refine wpAnyH_take (i := 1) (v := ?_) rfl (by kernel_rfl) (by kernel_rfl) (by kernel_rfl) (fun _ _ _ h => h) (Or.inl ⟨by rfl, ?_⟩) hHeld0 ?_
                  rotate_left
                  · (intro w hSw; (try dsimp only at hSw); go_simp <;> (try with_reducible rfl))
                  simp only [Act.put, List.getElem_toArray, List.getElem_cons_zero, List.getElem_cons_succ, List.setIfInBounds_toArray, List.set_cons_zero, List.set_cons_succ]
                  refine wpAnyH_take (i := 2) (v := ?_) rfl (by kernel_rfl) (by kernel_rfl) (by kernel_rfl) (fun _ _ _ h => h) (Or.inl ⟨by rfl, ?_⟩) hHeld0 ?_
                  rotate_left
                  · (intro w hSw; (try dsimp only at hSw); go_simp <;> (try with_reducible rfl))
                  simp only [Act.put, List.getElem_toArray, List.getElem_cons_zero, List.getElem_cons_succ, List.setIfInBounds_toArray, List.set_cons_zero, List.set_cons_succ]
                  refine wpAnyH_take (i := 3) (v := ?_) rfl (by kernel_rfl) (by kernel_rfl) (by kernel_rfl) (fun _ _ _ h => h) (Or.inl ⟨by rfl, ?_⟩) hHeld0 ?_
                  rotate_left
                  · (intro w hSw; (try dsimp only at hSw); go_simp <;> (try with_reducible rfl))
                  simp only [Act.put, List.getElem_toArray, List.getElem_cons_zero, List.getElem_cons_succ, List.setIfInBounds_toArray, List.set_cons_zero, List.set_cons_succ]
                  refine wpAnyH_take (i := 4) (v := ?_) rfl (by kernel_rfl) (by kernel_rfl) (by kernel_rfl) (fun _ _ _ h => h) (Or.inl ⟨by rfl, ?_⟩) hHeld0 ?_
                  rotate_left
                  · (intro w hSw; (try dsimp only at hSw); go_simp <;> (try with_reducible rfl))
                  simp only [Act.put, List.getElem_toArray, List.getElem_cons_zero, List.getElem_cons_succ, List.setIfInBounds_toArray, List.set_cons_zero, List.set_cons_succ]
                  refine wpAnyH_take (i := 5) (v := ?_) rfl (by kernel_rfl) (by kernel_rfl) (by kernel_rfl) (fun _ _ _ h => h) (Or.inl ⟨by rfl, ?_⟩) hHeld0 ?_
                  rotate_left
                  · (intro w hSw; (try dsimp only at hSw); go_simp <;> (try with_reducible rfl))
                  simp only [Act.put, List.getElem_toArray, List.getElem_cons_zero, List.getElem_cons_succ, List.setIfInBounds_toArray, List.set_cons_zero, List.set_cons_succ]
                  refine wpAnyH_take (i := 6) (v := ?_) rfl (by kernel_rfl) (by kernel_rfl) (by kernel_rfl) (fun _ _ _ h => h) (Or.inl ⟨by rfl, ?_⟩) hHeld0 ?_
                  rotate_left
                  · (intro w hSw; (try dsimp only at hSw); go_simp <;> (try with_reducible rfl))
                  simp only [Act.put, List.getElem_toArray, List.getElem_cons_zero, List.getElem_cons_succ, List.setIfInBounds_toArray, List.set_cons_zero, List.set_cons_succ]
                  refine wpAnyH_take (i := 7) (v := ?_) rfl (by kernel_rfl) (by kernel_rfl) (by kernel_rfl) (fun _ _ _ h => h) (Or.inl ⟨by rfl, ?_⟩) hHeld0 ?_
                  rotate_left
                  · (intro w hSw; (try dsimp only at hSw); go_simp <;> (try with_reducible rfl))
                  simp only [Act.put, List.getElem_toArray, List.getElem_cons_zero, List.getElem_cons_succ, List.setIfInBounds_toArray, List.set_cons_zero, List.set_cons_succ]
                  refine wpAnyH_take (i := 8) (v := ?_) rfl (by kernel_rfl) (by kernel_rfl) (by kernel_rfl) (fun _ _ _ h => h) (Or.inl ⟨by rfl, ?_⟩) hHeld0 ?_
                  rotate_left
                  · (intro w hSw; (try dsimp only at hSw); go_simp <;> (try with_reducible rfl))
                  simp only [Act.put, List.getElem_toArray, List.getElem_cons_zero, List.getElem_cons_succ, List.setIfInBounds_toArray, List.set_cons_zero, List.set_cons_succ]
                  refine wpAnyH_take (i := 9) (v := ?_) rfl (by kernel_rfl) (by kernel_rfl) (by kernel_rfl) (fun _ _ _ h => h) (Or.inl ⟨by rfl, ?_⟩) hHeld0 ?_
                  rotate_left
                  · (intro w hSw; (try dsimp only at hSw); go_simp <;> (try with_reducible rfl))
                  simp only [Act.put, List.getElem_toArray, List.getElem_cons_zero, List.getElem_cons_succ, List.setIfInBounds_toArray, List.set_cons_zero, List.set_cons_succ]
                  refine wpAnyH_take (i := 10) (v := .agg (vals D0).toArray) rfl (by kernel_rfl) (by kernel_rfl) (by kernel_rfl) (fun _ _ _ h => h) (yieldsIf_load_mid (by rfl) _ _ rfl _ _ rfl (vals D0) _ (fun w hSw => hSw.2.2.1) Tryd.underlying23 rfl hszD) hHeld0 ?_
                  simp only [Act.put, List.getElem_toArray, List.getElem_cons_zero, List.getElem_cons_succ, List.setIfInBounds_toArray, List.set_cons_zero, List.set_cons_succ]
                  refine wpAnyH_take (i := 11) (v := ?_) rfl (by kernel_rfl) (by kernel_rfl) (by kernel_rfl) (fun _ _ _ h => h) (Or.inl ⟨by rfl, ?_⟩) hHeld0 ?_
                  rotate_left
                  · (intro w hSw; (try dsimp only at hSw); go_simp <;> (try with_reducible rfl))
                  simp only [Act.put, List.getElem_toArray, List.getElem_cons_zero, List.getElem_cons_succ, List.setIfInBounds_toArray, List.set_cons_zero, List.set_cons_succ]
                  refine wpAnyH_take (i := 12) (v := ?_) rfl (by kernel_rfl) (by kernel_rfl) (by kernel_rfl) (fun _ _ _ h => h) (Or.inl ⟨by rfl, ?_⟩) hHeld0 ?_
                  rotate_left
                  · (intro w hSw; (try dsimp only at hSw); go_simp <;> (try with_reducible rfl))
                  simp only [Act.put, List.getElem_toArray, List.getElem_cons_zero, List.getElem_cons_succ, List.setIfInBounds_toArray, List.set_cons_zero, List.set_cons_succ]
                  refine wpAnyH_take (i := 13) (v := ?_) rfl (by kernel_rfl) (by kernel_rfl) (by kernel_rfl) (fun _ _ _ h => h) (Or.inl ⟨by rfl, ?_⟩) hHeld0 ?_
                  rotate_left
                  · (intro w hSw; (try dsimp only at hSw); go_simp <;> (try with_reducible rfl))
                  simp only [Act.put, List.getElem_toArray, List.getElem_cons_zero, List.getElem_cons_succ, List.setIfInBounds_toArray, List.set_cons_zero, List.set_cons_succ]
                  refine wpAnyH_take (i := 14) (v := ?_) rfl (by kernel_rfl) (by kernel_rfl) (by kernel_rfl) (fun _ _ _ h => h) (Or.inl ⟨by rfl, ?_⟩) hHeld0 ?_
                  rotate_left
                  · (intro w hSw; (try dsimp only at hSw); go_simp <;> (try with_reducible rfl))
                  simp only [Act.put, List.getElem_toArray, List.getElem_cons_zero, List.getElem_cons_succ, List.setIfInBounds_toArray, List.set_cons_zero, List.set_cons_succ]
                  refine wpAnyH_take (i := 15) (v := ?_) rfl (by kernel_rfl) (by kernel_rfl) (by kernel_rfl) (fun _ _ _ h => h) (Or.inl ⟨by rfl, ?_⟩) hHeld0 ?_
                  rotate_left
                  · (intro w hSw; (try dsimp only at hSw); go_simp <;> (try with_reducible rfl))
                  simp only [Act.put, List.getElem_toArray, List.getElem_cons_zero, List.getElem_cons_succ, List.setIfInBounds_toArray, List.set_cons_zero, List.set_cons_succ]
                  refine wpAnyH_take (i := 16) (v := ?_) rfl (by kernel_rfl) (by kernel_rfl) (by kernel_rfl) (fun _ _ _ h => h) (Or.inl ⟨by rfl, ?_⟩) hHeld0 ?_
                  rotate_left
                  · (intro w hSw; (try dsimp only at hSw); go_simp <;> (try with_reducible rfl))
                  simp only [Act.put, List.getElem_toArray, List.getElem_cons_zero, List.getElem_cons_succ, List.setIfInBounds_toArray, List.set_cons_zero, List.set_cons_succ]
                  refine wpAnyH_take (i := 17) (v := ?_) rfl (by kernel_rfl) (by kernel_rfl) (by kernel_rfl) (fun _ _ _ h => h) (Or.inl ⟨by rfl, ?_⟩) hHeld0 ?_
                  rotate_left
                  · (intro w hSw; (try dsimp only at hSw); go_simp <;> (try with_reducible rfl))
                  simp only [Act.put, List.getElem_toArray, List.getElem_cons_zero, List.getElem_cons_succ, List.setIfInBounds_toArray, List.set_cons_zero, List.set_cons_succ]
                  refine wpAnyH_take (i := 18) (v := ?_) rfl (by kernel_rfl) (by kernel_rfl) (by kernel_rfl) (fun _ _ _ h => h) (Or.inl ⟨by rfl, ?_⟩) hHeld0 ?_
                  rotate_left
                  · (intro w hSw; (try dsimp only at hSw); go_simp <;> (try with_reducible rfl))
                  simp only [Act.put, List.getElem_toArray, List.getElem_cons_zero, List.getElem_cons_succ, List.setIfInBounds_toArray, List.set_cons_zero, List.set_cons_succ]
                  refine wpAnyH_take (i := 19) (v := ?_) rfl (by kernel_rfl) (by kernel_rfl) (by kernel_rfl) (fun _ _ _ h => h) (Or.inl ⟨by rfl, ?_⟩) hHeld0 ?_
                  rotate_left
                  · (intro w hSw; (try dsimp only at hSw); go_simp <;> (try with_reducible rfl))
                  simp only [Act.put, List.getElem_toArray, List.getElem_cons_zero, List.getElem_cons_succ, List.setIfInBounds_toArray, List.set_cons_zero, List.set_cons_succ]
                  refine wpAnyH_take (i := 21) (v := ?_) rfl (by kernel_rfl) (by kernel_rfl) (by kernel_rfl) (fun _ _ _ h => h) (Or.inl ⟨by rfl, ?_⟩) hHeld0 ?_
                  rotate_left
                  · (intro w hSw; (try dsimp only at hSw); go_simp <;> (try with_reducible rfl))
                  simp only [Act.put, List.getElem_toArray, List.getElem_cons_zero, List.getElem_cons_succ, List.setIfInBounds_toArray, List.set_cons_zero, List.set_cons_succ]
                  refine wpAnyH_take (i := 22) (v := ?_) rfl (by kernel_rfl) (by kernel_rfl) (by kernel_rfl) (fun _ _ _ h => h) (Or.inl ⟨by rfl, ?_⟩) hHeld0 ?_
                  rotate_left
                  · (intro w hSw; (try dsimp only at hSw); go_simp <;> (try with_reducible rfl))
                  simp only [Act.put, List.getElem_toArray, List.getElem_cons_zero, List.getElem_cons_succ, List.setIfInBounds_toArray, List.set_cons_zero, List.set_cons_succ]
                  refine wpAnyH_take (i := 23) (v := ?_) rfl (by kernel_rfl) (by kernel_rfl) (by kernel_rfl) (fun _ _ _ h => h) (Or.inl ⟨by rfl, ?_⟩) hHeld0 ?_
                  rotate_left
                  · (intro w hSw; (try dsimp only at hSw); go_simp <;> (try with_reducible rfl))
                  simp only [Act.put, List.getElem_toArray, List.getElem_cons_zero, List.getElem_cons_succ, List.setIfInBounds_toArray, List.set_cons_zero, List.set_cons_succ]
                  refine wpAnyH_ready (rs := [20]) (by kernel_rfl) (by simp) ?_
                  refine AllReadyH.cons rfl (fun K hK => ?_) AllReadyH.nil
                  go_simp
                  go_wp2_with ((go_at_call 9; refine (HW1.out _).mono ?_; rintro e wq1 ⟨rfl, hbq1⟩))
                  refine hK.out _ _ (by exact c18_below hHeld0 hbq1) (fun hHeld1 => ?_)
                  clear hK K hHeld0
                  try simp only [Act.put, List.getElem_toArray, List.getElem_cons_zero, List.getElem_cons_succ, List.setIfInBounds_toArray, List.set_cons_zero, List.set_cons_succ]
                  refine wpAnyH_ready (rs := [24]) (by kernel_rfl) (by simp) ?_
                  refine AllReadyH.cons rfl (fun K hK => ?_) AllReadyH.nil
                  go_simp
                  go_wp2_with ((go_at_call 8; refine (HAS1.out _ hHeld1.2.2.2).mono ?_; rintro e wq2 ⟨rfl, hbq2⟩))
                  refine hK.out _ _ (by exact c18_below hHeld1 hbq2) (fun hHeld2 => ?_)
                  clear hK K hHeld1
                  try simp only [Act.put, List.getElem_toArray, List.getElem_cons_zero, List.getElem_cons_succ, List.setIfInBounds_toArray, List.set_cons_zero, List.set_cons_succ]
                  refine wpAnyH_take (i := 25) (v := ?_) rfl (by kernel_rfl) (by kernel_rfl) (by kernel_rfl) (fun _ _ _ h => h) (Or.inl ⟨by rfl, ?_⟩) hHeld2 ?_
                  rotate_left
                  · (intro w hSw; (try dsimp only at hSw); go_simp <;> (try with_reducible rfl))
                  simp only [Act.put, List.getElem_toArray, List.getElem_cons_zero, List.getElem_cons_succ, List.setIfInBounds_toArray, List.set_cons_zero, List.set_cons_succ]
                  refine wpAnyH_take (i := 26) (v := ?_) rfl (by kernel_rfl) (by kernel_rfl) (by kernel_rfl) (fun _ _ _ h => h) (Or.inl ⟨by rfl, ?_⟩) hHeld2 ?_
                  rotate_left
                  · (intro w hSw; (try dsimp only at hSw); go_simp <;> (try with_reducible rfl))
                  simp only [Act.put, List.getElem_toArray, List.getElem_cons_zero, List.getElem_cons_succ, List.setIfInBounds_toArray, List.set_cons_zero, List.set_cons_succ]
                  refine wpAnyH_done (by kernel_rfl) ?_ _
                  go_wp2
                  go_meet
                  case rel => exact ⟨hit, rfl, fun h => HHIT.out h, hHeld2.2.2.2⟩
                · have hyi : ¬ (y : Int) < (x : Int) := by omega
                  have HYX := hide hyx
                  clear hyx
                  refine wp_region_held_drew (S := fun W : World => W.cell? ⟨g14, k, none⟩ = some (.int .i64 (y : Int)) ∧ W.cell? ⟨g13, k, none⟩ = some (.int .i64 (x : Int)) ∧ W.rangeAt b18 0 (vals D0) ∧ Below w10.heap.size w10 W) (by kernel_rfl) ?_ (fun hHeld0 => ?_)
                  · exact c18_below HS18.out ((Below.refl _ _).drew)
                  refine wpAnyH_take (i := 0) (v := ?_) rfl (by kernel_rfl) (by kernel_rfl) (by kernel_rfl) (fun _ _ _ h => h) (Or.inl ⟨by rfl, ?_⟩) hHeld0 ?_
                  rotate_left
                  · (intro w hSw; (try dsimp only at hSw); go_simp <;> (try with_reducible rfl))
                  simp only [Act.put, List.getElem_toArray, List.getElem_cons_zero, List.getElem_cons_succ, List.setIfInBounds_toArray, List.set_cons_zero, List.set_cons_succ]
                  refine wpAnyH_take (i := 1) (v := ?_) rfl (by kernel_rfl) (by kernel_rfl) (by kernel_rfl) (fun _ _ _ h => h) (Or.inl ⟨by rfl, ?_⟩) hHeld0 ?_
                  rotate_left
                  · (intro w hSw; (try dsimp only at hSw); go_simp <;> (try with_reducible rfl))
                  simp only [Act.put, List.getElem_toArray, List.getElem_cons_zero, List.getElem_cons_succ, List.setIfInBounds_toArray, List.set_cons_zero, List.set_cons_succ]
                  refine wpAnyH_take (i := 2) (v := ?_) rfl (by kernel_rfl) (by kernel_rfl) (by kernel_rfl) (fun _ _ _ h => h) (Or.inl ⟨by rfl, ?_⟩) hHeld0 ?_
                  rotate_left
                  · (intro w hSw; (try dsimp only at hSw); go_simp <;> (try with_reducible rfl))
                  simp only [Act.put, List.getElem_toArray, List.getElem_cons_zero, List.getElem_cons_succ, List.setIfInBounds_toArray, List.set_cons_zero, List.set_cons_succ]
                  refine wpAnyH_take (i := 3) (v := ?_) rfl (by kernel_rfl) (by kernel_rfl) (by kernel_rfl) (fun _ _ _ h => h) (Or.inl ⟨by rfl, ?_⟩) hHeld0 ?_
                  rotate_left
                  · (intro w hSw; (try dsimp only at hSw); go_simp <;> (try with_reducible rfl))
                  simp only [Act.put, List.getElem_toArray, List.getElem_cons_zero, List.getElem_cons_succ, List.setIfInBounds_toArray, List.set_cons_zero, List.set_cons_succ]
                  refine wpAnyH_take (i := 4) (v := ?_) rfl (by kernel_rfl) (by kernel_rfl) (by kernel_rfl) (fun _ _ _ h => h) (Or.inl ⟨by rfl, ?_⟩) hHeld0 ?_
                  rotate_left
                  · (intro w hSw; (try dsimp only at hSw); go_simp <;> (try with_reducible rfl))
                  simp only [Act.put, List.getElem_toArray, List.getElem_cons_zero, List.getElem_cons_succ, List.setIfInBounds_toArray, List.set_cons_zero, List.set_cons_succ]
                  refine wpAnyH_take (i := 5) (v := ?_) rfl (by kernel_rfl) (by kernel_rfl) (by kernel_rfl) (fun _ _ _ h => h) (Or.inl ⟨by rfl, ?_⟩) hHeld0 ?_
                  rotate_left
                  · (intro w hSw; (try dsimp only at hSw); go_simp <;> (try with_reducible rfl))
                  simp only [Act.put, List.getElem_toArray, List.getElem_cons_zero, List.getElem_cons_succ, List.setIfInBounds_toArray, List.set_cons_zero, List.set_cons_succ]
                  refine wpAnyH_take (i := 6) (v := ?_) rfl (by kernel_rfl) (by kernel_rfl) (by kernel_rfl) (fun _ _ _ h => h) (Or.inl ⟨by rfl, ?_⟩) hHeld0 ?_
                  rotate_left
                  · (intro w hSw; (try dsimp only at hSw); go_simp <;> (try with_reducible rfl))
                  simp only [Act.put, List.getElem_toArray, List.getElem_cons_zero, List.getElem_cons_succ, List.setIfInBounds_toArray, List.set_cons_zero, List.set_cons_succ]
                  refine wpAnyH_take (i := 7) (v := ?_) rfl (by kernel_rfl) (by kernel_rfl) (by kernel_rfl) (fun _ _ _ h => h) (Or.inl ⟨by rfl, ?_⟩) hHeld0 ?_
                  rotate_left
                  · (intro w hSw; (try dsimp only at hSw); go_simp <;> (try with_reducible rfl))
                  simp only [Act.put, List.getElem_toArray, List.getElem_cons_zero, List.getElem_cons_succ, List.setIfInBounds_toArray, List.set_cons_zero, List.set_cons_succ]
                  refine wpAnyH_take (i := 8) (v := ?_) rfl (by kernel_rfl) (by kernel_rfl) (by kernel_rfl) (fun _ _ _ h => h) (Or.inl ⟨by rfl, ?_⟩) hHeld0 ?_
                  rotate_left
                  · (intro w hSw; (try dsimp only at hSw); go_simp <;> (try with_reducible rfl))
                  simp only [Act.put, List.getElem_toArray, List.getElem_cons_zero, List.getElem_cons_succ, List.setIfInBounds_toArray, List.set_cons_zero, List.set_cons_succ]
                  refine wpAnyH_take (i := 9) (v := ?_) rfl (by kernel_rfl) (by kernel_rfl) (by kernel_rfl) (fun _ _ _ h => h) (Or.inl ⟨by rfl, ?_⟩) hHeld0 ?_
                  rotate_left
                  · (intro w hSw; (try dsimp only at hSw); go_simp <;> (try with_reducible rfl))
                  simp only [Act.put, List.getElem_toArray, List.getElem_cons_zero, List.getElem_cons_succ, List.setIfInBounds_toArray, List.set_cons_zero, List.set_cons_succ]
                  refine wpAnyH_take (i := 10) (v := undef) rfl (by kernel_rfl) (by kernel_rfl) (by kernel_rfl) (fun _ _ _ h => h) (Or.inr ⟨by rfl, rfl⟩) hHeld0 ?_
                  simp only [Act.put, List.getElem_toArray, List.getElem_cons_zero, List.getElem_cons_succ, List.setIfInBounds_toArray, List.set_cons_zero, List.set_cons_succ]
                  refine wpAnyH_take (i := 11) (v := undef) rfl (by kernel_rfl) (by kernel_rfl) (by kernel_rfl) (fun _ _ _ h => h) (Or.inr ⟨by rfl, rfl⟩) hHeld0 ?_
                  simp only [Act.put, List.getElem_toArray, List.getElem_cons_zero, List.getElem_cons_succ, List.setIfInBounds_toArray, List.set_cons_zero, List.set_cons_succ]
                  refine wpAnyH_take (i := 12) (v := undef) rfl (by kernel_rfl) (by kernel_rfl) (by kernel_rfl) (fun _ _ _ h => h) (Or.inr ⟨by rfl, rfl⟩) hHeld0 ?_
                  simp only [Act.put, List.getElem_toArray, List.getElem_cons_zero, List.getElem_cons_succ, List.setIfInBounds_toArray, List.set_cons_zero, List.set_cons_succ]
                  refine wpAnyH_take (i := 13) (v := undef) rfl (by kernel_rfl) (by kernel_rfl) (by kernel_rfl) (fun _ _ _ h => h) (Or.inr ⟨by rfl, rfl⟩) hHeld0 ?_
                  simp only [Act.put, List.getElem_toArray, List.getElem_cons_zero, List.getElem_cons_succ, List.setIfInBounds_toArray, List.set_cons_zero, List.set_cons_succ]
                  refine wpAnyH_take (i := 14) (v := undef) rfl (by kernel_rfl) (by kernel_rfl) (by kernel_rfl) (fun _ _ _ h => h) (Or.inr ⟨by rfl, rfl⟩) hHeld0 ?_
                  simp only [Act.put, List.getElem_toArray, List.getElem_cons_zero, List.getElem_cons_succ, List.setIfInBounds_toArray, List.set_cons_zero, List.set_cons_succ]
                  refine wpAnyH_take (i := 15) (v := undef) rfl (by kernel_rfl) (by kernel_rfl) (by kernel_rfl) (fun _ _ _ h => h) (Or.inr ⟨by rfl, rfl⟩) hHeld0 ?_
                  simp only [Act.put, List.getElem_toArray, List.getElem_cons_zero, List.getElem_cons_succ, List.setIfInBounds_toArray, List.set_cons_zero, List.set_cons_succ]
                  refine wpAnyH_take (i := 16) (v := undef) rfl (by kernel_rfl) (by kernel_rfl) (by kernel_rfl) (fun _ _ _ h => h) (Or.inr ⟨by rfl, rfl⟩) hHeld0 ?_
                  simp only [Act.put, List.getElem_toArray, List.getElem_cons_zero, List.getElem_cons_succ, List.setIfInBounds_toArray, List.set_cons_zero, List.set_cons_succ]
                  refine wpAnyH_take (i := 17) (v := undef) rfl (by kernel_rfl) (by kernel_rfl) (by kernel_rfl) (fun _ _ _ h => h) (Or.inr ⟨by rfl, rfl⟩) hHeld0 ?_
                  simp only [Act.put, List.getElem_toArray, List.getElem_cons_zero, List.getElem_cons_succ, List.setIfInBounds_toArray, List.set_cons_zero, List.set_cons_succ]
                  refine wpAnyH_take (i := 18) (v := undef) rfl (by kernel_rfl) (by kernel_rfl) (by kernel_rfl) (fun _ _ _ h => h) (Or.inr ⟨by rfl, rfl⟩) hHeld0 ?_
                  simp only [Act.put, List.getElem_toArray, List.getElem_cons_zero, List.getElem_cons_succ, List.setIfInBounds_toArray, List.set_cons_zero, List.set_cons_succ]
                  refine wpAnyH_take (i := 19) (v := undef) rfl (by kernel_rfl) (by kernel_rfl) (by kernel_rfl) (fun _ _ _ h => h) (Or.inr ⟨by rfl, rfl⟩) hHeld0 ?_
                  simp only [Act.put, List.getElem_toArray, List.getElem_cons_zero, List.getElem_cons_succ, List.setIfInBounds_toArray, List.set_cons_zero, List.set_cons_succ]
                  refine wpAnyH_take (i := 20) (v := undef) rfl (by kernel_rfl) (by kernel_rfl) (by kernel_rfl) (fun _ _ _ h => h) (Or.inr ⟨by rfl, rfl⟩) hHeld0 ?_
                  simp only [Act.put, List.getElem_toArray, List.getElem_cons_zero, List.getElem_cons_succ, List.setIfInBounds_toArray, List.set_cons_zero, List.set_cons_succ]
                  refine wpAnyH_take (i := 21) (v := undef) rfl (by kernel_rfl) (by kernel_rfl) (by kernel_rfl) (fun _ _ _ h => h) (Or.inr ⟨by rfl, rfl⟩) hHeld0 ?_
                  simp only [Act.put, List.getElem_toArray, List.getElem_cons_zero, List.getElem_cons_succ, List.setIfInBounds_toArray, List.set_cons_zero, List.set_cons_succ]
                  refine wpAnyH_take (i := 22) (v := undef) rfl (by kernel_rfl) (by kernel_rfl) (by kernel_rfl) (fun _ _ _ h => h) (Or.inr ⟨by rfl, rfl⟩) hHeld0 ?_
                  simp only [Act.put, List.getElem_toArray, List.getElem_cons_zero, List.getElem_cons_succ, List.setIfInBounds_toArray, List.set_cons_zero, List.set_cons_succ]
                  refine wpAnyH_take (i := 23) (v := undef) rfl (by kernel_rfl) (by kernel_rfl) (by kernel_rfl) (fun _ _ _ h => h) (Or.inr ⟨by rfl, rfl⟩) hHeld0 ?_
                  simp only [Act.put, List.getElem_toArray, List.getElem_cons_zero, List.getElem_cons_succ, List.setIfInBounds_toArray, List.set_cons_zero, List.set_cons_succ]
                  refine wpAnyH_take (i := 24) (v := undef) rfl (by kernel_rfl) (by kernel_rfl) (by kernel_rfl) (fun _ _ _ h => h) (Or.inr ⟨by rfl, rfl⟩) hHeld0 ?_
                  simp only [Act.put, List.getElem_toArray, List.getElem_cons_zero, List.getElem_cons_succ, List.setIfInBounds_toArray, List.set_cons_zero, List.set_cons_succ]
                  refine wpAnyH_take (i := 25) (v := undef) rfl (by kernel_rfl) (by kernel_rfl) (by kernel_rfl) (fun _ _ _ h => h) (Or.inr ⟨by rfl, rfl⟩) hHeld0 ?_
                  simp only [Act.put, List.getElem_toArray, List.getElem_cons_zero, List.getElem_cons_succ, List.setIfInBounds_toArray, List.set_cons_zero, List.set_cons_succ]
                  refine wpAnyH_take (i := 26) (v := ?_) rfl (by kernel_rfl) (by kernel_rfl) (by kernel_rfl) (fun _ _ _ h => h) (Or.inl ⟨by rfl, ?_⟩) hHeld0 ?_
                  rotate_left
                  · (intro w hSw; (try dsimp only at hSw); go_simp <;> (try with_reducible rfl))
                  simp only [Act.put, List.getElem_toArray, List.getElem_cons_zero, List.getElem_cons_succ, List.setIfInBounds_toArray, List.set_cons_zero, List.set_cons_succ]
                  refine wpAnyH_done (by kernel_rfl) ?_ _
                  go_wp2
                  go_meet
                  case rel => exact ⟨false, rfl, fun h hl => absurd hl HYX.out, hHeld0.2.2.2⟩
              case rest =>
                obtain ⟨hit, rfl, hh, hbc⟩ := hcut
                obtain ⟨wP, hwP⟩ : ∃ q, q = wc := ⟨_, rfl⟩
                subst hwP
                have hbw := HB10.out.trans (hbc.mono HB10.out.size)
                cases hit with
                | true =>
                  have hBB := HS9.out.2.2.2.2.trans (hbw.mono HS9.out.2.2.2.2.size)
                  go_wp2
                  go_ret
                  exact ⟨rfl, hBB⟩
                | false =>
                  have HN1 := hide (hh rfl)
                  have HBC := hide hbc
                  have HBW := hide hbw
                  have hzw := hbw.size
                  have hzA := HBA.out.size
                  have hI18 := HI10.out.below hbc HI10.out.lt
                  have h18l := hI18.lt
                  have HI18 := hide hI18
                  have hws : w.heap.size < wP.heap.size := Nat.lt_of_lt_of_le (range_lt HS9.out.1 (by rw [HSL.out]; omega)) hzw
                  have hg14c : g14 < wP.heap.size := Nat.lt_of_lt_of_le hgl14 hzw
                  have HSE1 : Hid (∀ W, Calls Tryd.prog 10 #[.agg (vals seed).toArray, .int .i64 (k : Nat)] W fun e w' => e = .returned (.agg (vals (se k)).toArray) ∧ Below W.heap.size W w') := fun W => HSE.out W k hkl
                  have HX1 : Hid (∀ W, Calls Tryd.prog 9 #[.agg (vals (se k)).toArray, .int .i64 (y : Int)] W fun e w' => e = .returned (.agg (vals (f (se k) (y : Int))).toArray) ∧ Below W.heap.size W w') := fun W => HWK.out W (se k) _ (HSEL.out k) (HSEB.out k) (by omega)
                  have HX0L := hide (HFL.out (se k) (y : Int) (HSEL.out k))
                  have HX0B := hide (HFB.out (se k) (y : Int) (HSEB.out k))
                  obtain ⟨X0, hX0⟩ : ∃ X0, X0 = f (se k) (y : Int) := ⟨_, rfl⟩
                  rw [← hX0] at HX1 HX0L HX0B
                  have HX0 := hide hX0
                  have HVX : Hid ((vals X0).toArray.size = 32) := by show _ = _; rw [List.size_toArray, vals_length, HX0L.out]
                  have HS20 : Hid ((fun W : World => W.rangeAt w.heap.size 0 (vals seed) ∧ W.cell? ⟨g14, k, none⟩ = some (.int .i64 (y : Int)) ∧ Below wP.heap.size wP W) wP) := ⟨range_below0 HS9.out.1 hbw (range_lt HS9.out.1 (by rw [HSL.out]; omega)), cell_below (cell_below HCAB.out.1 HBA.out) hbc, Below.refl _ _⟩
                  clear hh hbc hbw hI18 hX0 hzw hzA HS18 HAS1 HAS0
                  go_wp2
                  go_cut [19] from 88 to 160 (fun p wx => ∃ b19 : Nat, p = .pointer (some ⟨b19, 0, none⟩) ∧ wP.heap.size ≤ b19 ∧ Is wx b19 (vals X0) 23 ∧ Below wP.heap.size wP wx)
                  case first =>
                    refine wp_region_held_drew (S := fun W : World => W.rangeAt w.heap.size 0 (vals seed) ∧ W.cell? ⟨g14, k, none⟩ = some (.int .i64 (y : Int)) ∧ Below wP.heap.size wP W) (by kernel_rfl) ?_ (fun hHeld0 => ?_)
                    · exact rc_below HS20.out ((Below.refl _ _).drew)
                    refine wpAnyH_take (i := 0) (v := .agg (vals seed).toArray) rfl (by kernel_rfl) (by kernel_rfl) (by kernel_rfl) (fun _ _ _ h => h) (yieldsIf_load_mid (by rfl) _ _ rfl _ _ rfl (vals seed) _ (fun w hSw => hSw.1) Tryd.underlying23 rfl hszs) hHeld0 ?_
                    simp only [Act.put, List.getElem_toArray, List.getElem_cons_zero, List.getElem_cons_succ, List.setIfInBounds_toArray, List.set_cons_zero, List.set_cons_succ]
                    refine wpAnyH_take (i := 1) (v := ?_) rfl (by kernel_rfl) (by kernel_rfl) (by kernel_rfl) (fun _ _ _ h => h) (Or.inl ⟨by rfl, ?_⟩) hHeld0 ?_
                    rotate_left
                    · (intro w hSw; (try dsimp only at hSw); go_simp <;> (try with_reducible rfl))
                    simp only [Act.put, List.getElem_toArray, List.getElem_cons_zero, List.getElem_cons_succ, List.setIfInBounds_toArray, List.set_cons_zero, List.set_cons_succ]
                    refine wpAnyH_take (i := 3) (v := ?_) rfl (by kernel_rfl) (by kernel_rfl) (by kernel_rfl) (fun _ _ _ h => h) (Or.inl ⟨by rfl, ?_⟩) hHeld0 ?_
                    rotate_left
                    · (intro w hSw; (try dsimp only at hSw); go_simp <;> (try with_reducible rfl))
                    simp only [Act.put, List.getElem_toArray, List.getElem_cons_zero, List.getElem_cons_succ, List.setIfInBounds_toArray, List.set_cons_zero, List.set_cons_succ]
                    refine wpAnyH_take (i := 4) (v := ?_) rfl (by kernel_rfl) (by kernel_rfl) (by kernel_rfl) (fun _ _ _ h => h) (Or.inl ⟨by rfl, ?_⟩) hHeld0 ?_
                    rotate_left
                    · (intro w hSw; (try dsimp only at hSw); go_simp <;> (try with_reducible rfl))
                    simp only [Act.put, List.getElem_toArray, List.getElem_cons_zero, List.getElem_cons_succ, List.setIfInBounds_toArray, List.set_cons_zero, List.set_cons_succ]
                    refine wpAnyH_take (i := 5) (v := ?_) rfl (by kernel_rfl) (by kernel_rfl) (by kernel_rfl) (fun _ _ _ h => h) (Or.inl ⟨by rfl, ?_⟩) hHeld0 ?_
                    rotate_left
                    · (intro w hSw; (try dsimp only at hSw); go_simp <;> (try with_reducible rfl))
                    simp only [Act.put, List.getElem_toArray, List.getElem_cons_zero, List.getElem_cons_succ, List.setIfInBounds_toArray, List.set_cons_zero, List.set_cons_succ]
                    refine wpAnyH_take (i := 6) (v := ?_) rfl (by kernel_rfl) (by kernel_rfl) (by kernel_rfl) (fun _ _ _ h => h) (Or.inl ⟨by rfl, ?_⟩) hHeld0 ?_
                    rotate_left
                    · (intro w hSw; (try dsimp only at hSw); go_simp <;> (try with_reducible rfl))
                    simp only [Act.put, List.getElem_toArray, List.getElem_cons_zero, List.getElem_cons_succ, List.setIfInBounds_toArray, List.set_cons_zero, List.set_cons_succ]
                    refine wpAnyH_ready (rs := [2, 8]) (by kernel_rfl) (by simp) ?_
                    refine AllReadyH.cons rfl (fun K hK => ?_) ?_
                    ·
                      go_simp
                      go_wp2_with ((go_at_call 10; refine (HSE1.out _).mono ?_; rintro e wq1 ⟨rfl, hbq1⟩))
                      refine hK.out _ _ (by exact rc_below hHeld0 hbq1) (fun hHeld1 => ?_)
                      clear hK K hHeld0
                      try simp only [Act.put, List.getElem_toArray, List.getElem_cons_zero, List.getElem_cons_succ, List.setIfInBounds_toArray, List.set_cons_zero, List.set_cons_succ]
                      refine wpAnyH_ready (rs := [7, 8]) (by kernel_rfl) (by simp) ?_
                      refine AllReadyH.cons rfl (fun K hK => ?_) ?_
                      ·
                        go_simp
                        go_wp2_with ((go_at_call 9; refine (HX1.out _).mono ?_; rintro e wq2 ⟨rfl, hbq2⟩))
                        refine hK.out _ _ (by exact rc_below hHeld1 hbq2) (fun hHeld2 => ?_)
                        clear hK K hHeld1
                        try simp only [Act.put, List.getElem_toArray, List.getElem_cons_zero, List.getElem_cons_succ, List.setIfInBounds_toArray, List.set_cons_zero, List.set_cons_succ]
                        refine wpAnyH_ready (rs := [8]) (by kernel_rfl) (by simp) ?_
                        refine AllReadyH.cons rfl (fun K hK => ?_) AllReadyH.nil
                        go_simp
                        have hsz9 : wP.heap.size ≤ wq2.heap.size := hHeld2.2.2.size
                        have hal := Is.new wq2 (vals Z) 23
                        obtain ⟨b19, hb19⟩ : ∃ q, q = (wq2.heap.size) := ⟨_, rfl⟩
                        have hn1 : w.heap.size ≠ b19 := by omega
                        have hn2 : g14 ≠ b19 := by omega
                        have hn4 : wP.heap.size ≤ b19 := by omega
                        clear hsz9
                        rw [← hb19]
                        replace hal : Is ((wq2).alloc (.cells (vals Z).toArray 23)) b19 (vals Z) 23 := by rw [hb19]; exact hal
                        clear hb19
                        refine hK.out _ _ (by exact rc_below hHeld2 (below_alloc _ _)) (fun hHeld3 => ?_)
                        clear hK K hHeld2
                        try simp only [Act.put, List.getElem_toArray, List.getElem_cons_zero, List.getElem_cons_succ, List.setIfInBounds_toArray, List.set_cons_zero, List.set_cons_succ]
                        refine wpAnyH_ready (rs := [9]) (by kernel_rfl) (by simp) ?_
                        refine AllReadyH.cons rfl (fun K hK => ?_) AllReadyH.nil
                        rw [if_pos (by rfl)]
                        refine wp_store_mid _ _ _ rfl _ _ (vals X0).toArray rfl rfl (by rw [HVX.out]; exact hal.there (by rw [vals_length]; exact HZL.out)) (by rw [HVX.out]; exact size_dig) (all_oneCell_toArray (vals_one _)) ?_
                        simp only [Act.put, List.toList_toArray]
                        refine hK.out _ _ (by exact rc_store hHeld3 hn1 hn2 hn4 _) (fun hHeld4 => ?_)
                        clear hK K hHeld3
                        try simp only [Act.put, List.getElem_toArray, List.getElem_cons_zero, List.getElem_cons_succ, List.setIfInBounds_toArray, List.set_cons_zero, List.set_cons_succ]
                        refine wpAnyH_done (by kernel_rfl) ?_ _
                        have hfin := Is.setCells (vals X0) 0 (vals Z) _ hal (by rw [vals_length, vals_length, HX0L.out, HZL.out]; omega)
                        rw [List.take_zero, List.nil_append, List.drop_eq_nil_of_le (by rw [vals_length, vals_length, HX0L.out, HZL.out]; omega), List.append_nil] at hfin
                        have HFIN := hide hfin
                        clear hfin
                        go_wp2
                        go_meet
                        case rel => exact ⟨b19, rfl, hn4, HFIN.out, hHeld4.2.2⟩
                      refine AllReadyH.cons rfl (fun K hK => ?_) AllReadyH.nil
                      go_simp
                      have hsz9 : wP.heap.size ≤ wq1.heap.size := hHeld1.2.2.size
                      have hal := Is.new wq1 (vals Z) 23
                      obtain ⟨b19, hb19⟩ : ∃ q, q = (wq1.heap.size) := ⟨_, rfl⟩
                      have hn1 : w.heap.size ≠ b19 := by omega
                      have hn2 : g14 ≠ b19 := by omega
                      have hn4 : wP.heap.size ≤ b19 := by omega
                      clear hsz9
                      rw [← hb19]
                      replace hal : Is ((wq1).alloc (.cells (vals Z).toArray 23)) b19 (vals Z) 23 := by rw [hb19]; exact hal
                      clear hb19
                      refine hK.out _ _ (by exact rc_below hHeld1 (below_alloc _ _)) (fun hHeld2 => ?_)
                      clear hK K hHeld1
                      try simp only [Act.put, List.getElem_toArray, List.getElem_cons_zero, List.getElem_cons_succ, List.setIfInBounds_toArray, List.set_cons_zero, List.set_cons_succ]
                      refine wpAnyH_ready (rs := [7]) (by kernel_rfl) (by simp) ?_
                      refine AllReadyH.cons rfl (fun K hK => ?_) AllReadyH.nil
                      go_simp
                      go_wp2_with ((go_at_call 9; refine (HX1.out _).mono ?_; rintro e wq3 ⟨rfl, hbq3⟩))
                      refine hK.out _ _ (by exact rc_below hHeld2 hbq3) (fun hHeld3 => ?_)
                      clear hK K hHeld2
                      try simp only [Act.put, List.getElem_toArray, List.getElem_cons_zero, List.getElem_cons_succ, List.setIfInBounds_toArray, List.set_cons_zero, List.set_cons_succ]
                      have hal := hal.below hbq3 hal.lt
                      refine wpAnyH_ready (rs := [9]) (by kernel_rfl) (by simp) ?_
                      refine AllReadyH.cons rfl (fun K hK => ?_) AllReadyH.nil
                      rw [if_pos (by rfl)]
                      refine wp_store_mid _ _ _ rfl _ _ (vals X0).toArray rfl rfl (by rw [HVX.out]; exact hal.there (by rw [vals_length]; exact HZL.out)) (by rw [HVX.out]; exact size_dig) (all_oneCell_toArray (vals_one _)) ?_
                      simp only [Act.put, List.toList_toArray]
                      refine hK.out _ _ (by exact rc_store hHeld3 hn1 hn2 hn4 _) (fun hHeld4 => ?_)
                      clear hK K hHeld3
                      try simp only [Act.put, List.getElem_toArray, List.getElem_cons_zero, List.getElem_cons_succ, List.setIfInBounds_toArray, List.set_cons_zero, List.set_cons_succ]
                      refine wpAnyH_done (by kernel_rfl) ?_ _
                      have hfin := Is.setCells (vals X0) 0 (vals Z) _ hal (by rw [vals_length, vals_length, HX0L.out, HZL.out]; omega)
                      rw [List.take_zero, List.nil_append, List.drop_eq_nil_of_le (by rw [vals_length, vals_length, HX0L.out, HZL.out]; omega), List.append_nil] at hfin
                      have HFIN := hide hfin
                      clear hfin
                      go_wp2
                      go_meet
                      case rel => exact ⟨b19, rfl, hn4, HFIN.out, hHeld4.2.2⟩
                    refine AllReadyH.cons rfl (fun K hK => ?_) AllReadyH.nil
                    go_simp
                    have hsz9 : wP.heap.size ≤ wP.heap.size := hHeld0.2.2.size
                    have hal := Is.new wP.drew (vals Z) 23
                    obtain ⟨b19, hb19⟩ : ∃ q, q = (wP.heap.size) := ⟨_, rfl⟩
                    have hn1 : w.heap.size ≠ b19 := by omega
                    have hn2 : g14 ≠ b19 := by omega
                    have hn4 : wP.heap.size ≤ b19 := by omega
                    clear hsz9
                    rw [← hb19]
                    replace hal : Is ((wP.drew).alloc (.cells (vals Z).toArray 23)) b19 (vals Z) 23 := by rw [hb19]; exact hal
                    clear hb19
                    refine hK.out _ _ (by exact rc_below hHeld0 (below_alloc _ _)) (fun hHeld1 => ?_)
                    clear hK K hHeld0
                    try simp only [Act.put, List.getElem_toArray, List.getElem_cons_zero, List.getElem_cons_succ, List.setIfInBounds_toArray, List.set_cons_zero, List.set_cons_succ]
                    refine wpAnyH_ready (rs := [2]) (by kernel_rfl) (by simp) ?_
                    refine AllReadyH.cons rfl (fun K hK => ?_) AllReadyH.nil
                    go_simp
                    go_wp2_with ((go_at_call 10; refine (HSE1.out _).mono ?_; rintro e wq2 ⟨rfl, hbq2⟩))
                    refine hK.out _ _ (by exact rc_below hHeld1 hbq2) (fun hHeld2 => ?_)
                    clear hK K hHeld1
                    try simp only [Act.put, List.getElem_toArray, List.getElem_cons_zero, List.getElem_cons_succ, List.setIfInBounds_toArray, List.set_cons_zero, List.set_cons_succ]
                    have hal := hal.below hbq2 hal.lt
                    refine wpAnyH_ready (rs := [7]) (by kernel_rfl) (by simp) ?_
                    refine AllReadyH.cons rfl (fun K hK => ?_) AllReadyH.nil
                    go_simp
                    go_wp2_with ((go_at_call 9; refine (HX1.out _).mono ?_; rintro e wq3 ⟨rfl, hbq3⟩))
                    refine hK.out _ _ (by exact rc_below hHeld2 hbq3) (fun hHeld3 => ?_)
                    clear hK K hHeld2
                    try simp only [Act.put, List.getElem_toArray, List.getElem_cons_zero, List.getElem_cons_succ, List.setIfInBounds_toArray, List.set_cons_zero, List.set_cons_succ]
                    have hal := hal.below hbq3 hal.lt
                    refine wpAnyH_ready (rs := [9]) (by kernel_rfl) (by simp) ?_
                    refine AllReadyH.cons rfl (fun K hK => ?_) AllReadyH.nil
                    rw [if_pos (by rfl)]
                    refine wp_store_mid _ _ _ rfl _ _ (vals X0).toArray rfl rfl (by rw [HVX.out]; exact hal.there (by rw [vals_length]; exact HZL.out)) (by rw [HVX.out]; exact size_dig) (all_oneCell_toArray (vals_one _)) ?_
                    simp only [Act.put, List.toList_toArray]
                    refine hK.out _ _ (by exact rc_store hHeld3 hn1 hn2 hn4 _) (fun hHeld4 => ?_)
                    clear hK K hHeld3
                    try simp only [Act.put, List.getElem_toArray, List.getElem_cons_zero, List.getElem_cons_succ, List.setIfInBounds_toArray, List.set_cons_zero, List.set_cons_succ]
                    refine wpAnyH_done (by kernel_rfl) ?_ _
                    have hfin := Is.setCells (vals X0) 0 (vals Z) _ hal (by rw [vals_length, vals_length, HX0L.out, HZL.out]; omega)
                    rw [List.take_zero, List.nil_append, List.drop_eq_nil_of_le (by rw [vals_length, vals_length, HX0L.out, HZL.out]; omega), List.append_nil] at hfin
                    have HFIN := hide hfin
                    clear hfin
                    go_wp2
                    go_meet
                    case rel => exact ⟨b19, rfl, hn4, HFIN.out, hHeld4.2.2⟩
                  case rest =>
                    obtain ⟨b19, rfl, hb19, hI19, hbd⟩ := hcut
                    obtain ⟨wQ, hwQ⟩ : ∃ q, q = wc := ⟨_, rfl⟩
                    subst hwQ
                    have hI18q := HI18.out.below hbd HI18.out.lt
                    have hne89 : b18 ≠ b19 := by omega
                    have hbAQ := HBA.out.trans ((HBC.out.trans (hbd.mono HBC.out.size)).mono HBA.out.size)
                    have hoq15 := owns_below HO15.out hbAQ
                    have hoq16 := owns_below HO16.out hbAQ
                    have hbQ := HBW.out.trans (hbd.mono HBW.out.size)
                    have hcQ : wQ.cell? ⟨g14, k, none⟩ = some (.int .i64 (y : Int)) := cell_below HS20.out.2.1 hbd
                    have hz8A := HB.out.size
                    have HST : Hid (Is wQ b19 (vals X0) 23 ∧ Is wQ b18 (vals D0) 23 ∧ wQ.ownsRow w8.heap.size 23 32 (.slice a15 k c15) k (vals (Ky.rowsOf en k)) ∧ wQ.ownsRow w8.heap.size 23 32 (.slice a16 k c16) k (vals (Ky.rowsOf tp k)) ∧ Below w8.heap.size w8 wQ) := ⟨hI19, hI18q, hoq15, hoq16, hbQ⟩
                    have hown : ∀ r, (Value.ownBlock (.slice a15 k c15) = some r ∨ Value.ownBlock (.slice a16 k c16) = some r) → w8.heap.size ≤ r ∧ r < wA.heap.size := fun r hr => by
                      rcases hr with hr | hr
                      · exact World.ownsRow.lt HO15.out r hr
                      · exact World.ownsRow.lt HO16.out r hr
                    have HOWN := hide hown
                    have h19A : wA.heap.size ≤ b19 := by have := HBC.out.size; have := HBA.out.size; omega
                    have HF0 : Hid (∀ x, f x ((0 : Nat) : Int) = x) := HFZ.out
                    clear hI19 hI18q hbAQ hoq15 hoq16 hbQ hbd HS20 HSE1 HX1 HI18 HBC HBW HI10 HB10 HBA hown
                    go_wp2
                    go_loopw [20] (fun i wr => ∃ t : Nat, y + t ≤ 15 ∧ i = .int .i64 ((y : Int) + (t : Int)) ∧ Is wr b19 (vals (f X0 (t : Int))) 23 ∧ Is wr b18 (vals (f D0 (t : Int))) 23 ∧ (∀ s : Nat, s < t → f X0 (s : Int) ≠ f D0 (s : Int) → f X0 ((s + 1 : Nat) : Int) ≠ f D0 ((s + 1 : Nat) : Int)) ∧ wr.ownsRow w8.heap.size 23 32 (.slice a15 k c15) k (vals (Ky.rowsOf en k)) ∧ wr.ownsRow w8.heap.size 23 32 (.slice a16 k c16) k (vals (Ky.rowsOf tp k)) ∧ Below w8.heap.size w8 wr) (fun i _ => 15 - (intOf i).toNat)
                    case atStart =>
                      refine ⟨0, by omega, by simp, ?_, ?_, fun s hs => by omega, HST.out.2.2.1, HST.out.2.2.2.1, HST.out.2.2.2.2⟩
                      · rw [HF0.out]; exact HST.out.1
                      · rw [HF0.out]; exact HST.out.2.1
                    case round =>
                      obtain ⟨t, ht, rfl, hi19, hi18, hns, hq15, hq16, hbi⟩ := hrel
                      clear HST
                      by_cases htl : y + t < 15
                      · have hti : (y : Int) + (t : Int) < 15 := by omega
                        have hXl := HFL.out X0 (t : Int) HX0L.out
                        have hYl := HFL.out D0 (t : Int) HD0L.out
                        have hXb := HFB.out X0 (t : Int) HX0B.out
                        have hYb := HFB.out D0 (t : Int) HD0B.out
                        have hX1 := HFS.out X0 t
                        have hY1 := HFS.out D0 t
                        have HWX : Hid (∀ W, Calls Tryd.prog 9 #[.agg (vals (f X0 (t : Int))).toArray, .int .i64 1] W fun e w' => e = .returned (.agg (vals (f X0 ((t + 1 : Nat) : Int))).toArray) ∧ Below W.heap.size W w') := fun W => by rw [← hX1]; exact HWK.out W _ 1 hXl hXb (by omega)
                        have HWY : Hid (∀ W, Calls Tryd.prog 9 #[.agg (vals (f D0 (t : Int))).toArray, .int .i64 1] W fun e w' => e = .returned (.agg (vals (f D0 ((t + 1 : Nat) : Int))).toArray) ∧ Below W.heap.size W w') := fun W => by rw [← hY1]; exact HWK.out W _ 1 hYl hYb (by omega)
                        have HX2L := hide (HFL.out X0 ((t + 1 : Nat) : Int) HX0L.out)
                        have HY2L := hide (HFL.out D0 ((t + 1 : Nat) : Int) HD0L.out)
                        obtain ⟨X, hX⟩ : ∃ X, X = f X0 (t : Int) := ⟨_, rfl⟩
                        obtain ⟨Y, hY⟩ : ∃ Y, Y = f D0 (t : Int) := ⟨_, rfl⟩
                        obtain ⟨X2, hX2⟩ : ∃ X2, X2 = f X0 ((t + 1 : Nat) : Int) := ⟨_, rfl⟩
                        obtain ⟨Y2, hY2⟩ : ∃ Y2, Y2 = f D0 ((t + 1 : Nat) : Int) := ⟨_, rfl⟩
                        rw [← hX] at hi19 hXl HWX
                        rw [← hY] at hi18 hYl HWY
                        rw [← hX2] at HWX HX2L
                        rw [← hY2] at HWY HY2L
                        have HEQ := hide (And.intro hX (And.intro hY (And.intro hX2 hY2)))
                        have HXL := hide hXl
                        have HYL := hide hYl
                        have HI19 := hide hi19
                        have HI18i := hide hi18
                        have HNS := hide hns
                        have HQ15 := hide hq15
                        have HQ16 := hide hq16
                        have HBI := hide hbi
                        have hl19 := hi19.lt
                        have hl18 := hi18.lt
                        have hszX : (Tryd.prog.info? 23).map (·.size) = some (vals X).length := by rw [vals_length, hXl]; exact size_dig
                        have hszY : (Tryd.prog.info? 23).map (·.size) = some (vals Y).length := by rw [vals_length, hYl]; exact size_dig
                        clear hX hY hX2 hY2 hXb hYb hX1 hY1 hi19 hi18 hns hq15 hq16 hbi hXl hYl
                        obtain ⟨wI, hwI⟩ : ∃ q, q = wr := ⟨_, rfl⟩
                        subst hwI
                        have HS24 : Hid ((fun W : World => W.rangeAt b19 0 (vals X) ∧ W.rangeAt b18 0 (vals Y) ∧ Below wI.heap.size wI W) wI) := ⟨HI19.out.range, HI18i.out.range, Below.refl _ _⟩
                        go_wp2
                        go_cut [148] from 135 to 152 (fun c wx => ∃ hit : Bool, c = .bool hit ∧ (hit = false → X ≠ Y → X2 ≠ Y2) ∧ Below wI.heap.size wI wx)
                        case first =>
                          by_cases hxy : X = Y
                          · have HXY := hide hxy
                            have hqx : ∀ w', (Op.equalIn 10000 23 (.agg (vals X).toArray) (.agg (vals Y).toArray)).run Tryd.prog w' = .ok true w' := fun w' => dig_same _ _ HYL.out hxy w'
                            clear hxy
                            refine wp_region_held_drew (S := fun W : World => W.rangeAt b19 0 (vals X) ∧ W.rangeAt b18 0 (vals Y) ∧ Below wI.heap.size wI W) (by kernel_rfl) ?_ (fun hHeld0 => ?_)
                            · exact two_below HS24.out ((Below.refl _ _).drew)
                            refine wpAnyH_take (i := 0) (v := .agg (vals X).toArray) rfl (by kernel_rfl) (by kernel_rfl) (by kernel_rfl) (fun _ _ _ h => h) (yieldsIf_load_mid (by rfl) _ _ rfl _ _ rfl (vals X) _ (fun w hSw => hSw.1) Tryd.underlying23 rfl hszX) hHeld0 ?_
                            simp only [Act.put, List.getElem_toArray, List.getElem_cons_zero, List.getElem_cons_succ, List.setIfInBounds_toArray, List.set_cons_zero, List.set_cons_succ]
                            refine wpAnyH_take (i := 1) (v := .agg (vals Y).toArray) rfl (by kernel_rfl) (by kernel_rfl) (by kernel_rfl) (fun _ _ _ h => h) (yieldsIf_load_mid (by rfl) _ _ rfl _ _ rfl (vals Y) _ (fun w hSw => hSw.2.1) Tryd.underlying23 rfl hszY) hHeld0 ?_
                            simp only [Act.put, List.getElem_toArray, List.getElem_cons_zero, List.getElem_cons_succ, List.setIfInBounds_toArray, List.set_cons_zero, List.set_cons_succ]
                            refine wpAnyH_take (i := 2) (v := ?_) rfl (by kernel_rfl) (by kernel_rfl) (by kernel_rfl) (fun _ _ _ h => h) (Or.inl ⟨by rfl, ?_⟩) hHeld0 ?_
                            rotate_left
                            · (intro w hSw; (try dsimp only at hSw); go_simp <;> (try with_reducible rfl))
                            simp only [Act.put, List.getElem_toArray, List.getElem_cons_zero, List.getElem_cons_succ, List.setIfInBounds_toArray, List.set_cons_zero, List.set_cons_succ]
                            refine wpAnyH_take (i := 3) (v := ?_) rfl (by kernel_rfl) (by kernel_rfl) (by kernel_rfl) (fun _ _ _ h => h) (Or.inl ⟨by rfl, ?_⟩) hHeld0 ?_
                            rotate_left
                            · (intro w hSw; (try dsimp only at hSw); go_simp <;> (try with_reducible rfl))
                            simp only [Act.put, List.getElem_toArray, List.getElem_cons_zero, List.getElem_cons_succ, List.setIfInBounds_toArray, List.set_cons_zero, List.set_cons_succ]
                            refine wpAnyH_take (i := 4) (v := undef) rfl (by kernel_rfl) (by kernel_rfl) (by kernel_rfl) (fun _ _ _ h => h) (Or.inr ⟨by rfl, rfl⟩) hHeld0 ?_
                            simp only [Act.put, List.getElem_toArray, List.getElem_cons_zero, List.getElem_cons_succ, List.setIfInBounds_toArray, List.set_cons_zero, List.set_cons_succ]
                            refine wpAnyH_take (i := 5) (v := undef) rfl (by kernel_rfl) (by kernel_rfl) (by kernel_rfl) (fun _ _ _ h => h) (Or.inr ⟨by rfl, rfl⟩) hHeld0 ?_
                            simp only [Act.put, List.getElem_toArray, List.getElem_cons_zero, List.getElem_cons_succ, List.setIfInBounds_toArray, List.set_cons_zero, List.set_cons_succ]
                            refine wpAnyH_take (i := 6) (v := undef) rfl (by kernel_rfl) (by kernel_rfl) (by kernel_rfl) (fun _ _ _ h => h) (Or.inr ⟨by rfl, rfl⟩) hHeld0 ?_
                            simp only [Act.put, List.getElem_toArray, List.getElem_cons_zero, List.getElem_cons_succ, List.setIfInBounds_toArray, List.set_cons_zero, List.set_cons_succ]
                            refine wpAnyH_take (i := 7) (v := undef) rfl (by kernel_rfl) (by kernel_rfl) (by kernel_rfl) (fun _ _ _ h => h) (Or.inr ⟨by rfl, rfl⟩) hHeld0 ?_
                            simp only [Act.put, List.getElem_toArray, List.getElem_cons_zero, List.getElem_cons_succ, List.setIfInBounds_toArray, List.set_cons_zero, List.set_cons_succ]
                            refine wpAnyH_take (i := 8) (v := undef) rfl (by kernel_rfl) (by kernel_rfl) (by kernel_rfl) (fun _ _ _ h => h) (Or.inr ⟨by rfl, rfl⟩) hHeld0 ?_
                            simp only [Act.put, List.getElem_toArray, List.getElem_cons_zero, List.getElem_cons_succ, List.setIfInBounds_toArray, List.set_cons_zero, List.set_cons_succ]
                            refine wpAnyH_take (i := 9) (v := ?_) rfl (by kernel_rfl) (by kernel_rfl) (by kernel_rfl) (fun _ _ _ h => h) (Or.inl ⟨by rfl, ?_⟩) hHeld0 ?_
                            rotate_left
                            · (intro w hSw; (try dsimp only at hSw); go_simp <;> (try with_reducible rfl))
                            simp only [Act.put, List.getElem_toArray, List.getElem_cons_zero, List.getElem_cons_succ, List.setIfInBounds_toArray, List.set_cons_zero, List.set_cons_succ]
                            refine wpAnyH_done (by kernel_rfl) ?_ _
                            go_wp2
                            go_meet
                            case rel => exact ⟨false, rfl, fun _ hne => absurd HXY.out hne, hHeld0.2.2⟩
                          · have hqx : ∀ w', (Op.equalIn 10000 23 (.agg (vals X).toArray) (.agg (vals Y).toArray)).run Tryd.prog w' = .ok false w' := fun w' => by rw [dig_eq _ _ HXL.out HYL.out, decide_eq_false hxy]
                            obtain ⟨hit, hhit⟩ : ∃ hit, hit = decide (X2 = Y2) := ⟨_, rfl⟩
                            have hqe : ∀ w', (Op.equalIn 10000 23 (.agg (vals X2).toArray) (.agg (vals Y2).toArray)).run Tryd.prog w' = .ok hit w' := fun w' => by rw [dig_eq _ _ HX2L.out HY2L.out, hhit]
                            have HHIT : Hid (hit = false → X ≠ Y → X2 ≠ Y2) := fun h _ e => by rw [hhit, decide_eq_true e] at h; cases h
                            clear hxy hhit
                            refine wp_region_held_drew (S := fun W : World => W.rangeAt b19 0 (vals X) ∧ W.rangeAt b18 0 (vals Y) ∧ Below wI.heap.size wI W) (by kernel_rfl) ?_ (fun hHeld0 => ?_)
                            · exact two_below HS24.out ((Below.refl _ _).drew)
                            refine wpAnyH_take (i := 0) (v := .agg (vals X).toArray) rfl (by kernel_rfl) (by kernel_rfl) (by kernel_rfl) (fun _ _ _ h => h) (yieldsIf_load_mid (by rfl) _ _ rfl _ _ rfl (vals X) _ (fun w hSw => hSw.1) Tryd.underlying23 rfl hszX) hHeld0 ?_
                            simp only [Act.put, List.getElem_toArray, List.getElem_cons_zero, List.getElem_cons_succ, List.setIfInBounds_toArray, List.set_cons_zero, List.set_cons_succ]
                            refine wpAnyH_take (i := 1) (v := .agg (vals Y).toArray) rfl (by kernel_rfl) (by kernel_rfl) (by kernel_rfl) (fun _ _ _ h => h) (yieldsIf_load_mid (by rfl) _ _ rfl _ _ rfl (vals Y) _ (fun w hSw => hSw.2.1) Tryd.underlying23 rfl hszY) hHeld0 ?_
                            simp only [Act.put, List.getElem_toArray, List.getElem_cons_zero, List.getElem_cons_succ, List.setIfInBounds_toArray, List.set_cons_zero, List.set_cons_succ]
                            refine wpAnyH_take (i := 2) (v := ?_) rfl (by kernel_rfl) (by kernel_rfl) (by kernel_rfl) (fun _ _ _ h => h) (Or.inl ⟨by rfl, ?_⟩) hHeld0 ?_
                            rotate_left
                            · (intro w hSw; (try dsimp only at hSw); go_simp <;> (try with_reducible rfl))
                            simp only [Act.put, List.getElem_toArray, List.getElem_cons_zero, List.getElem_cons_succ, List.setIfInBounds_toArray, List.set_cons_zero, List.set_cons_succ]
                            refine wpAnyH_take (i := 3) (v := ?_) rfl (by kernel_rfl) (by kernel_rfl) (by kernel_rfl) (fun _ _ _ h => h) (Or.inl ⟨by rfl, ?_⟩) hHeld0 ?_
                            rotate_left
                            · (intro w hSw; (try dsimp only at hSw); go_simp <;> (try with_reducible rfl))
                            simp only [Act.put, List.getElem_toArray, List.getElem_cons_zero, List.getElem_cons_succ, List.setIfInBounds_toArray, List.set_cons_zero, List.set_cons_succ]
                            refine wpAnyH_take (i := 4) (v := .agg (vals X).toArray) rfl (by kernel_rfl) (by kernel_rfl) (by kernel_rfl) (fun _ _ _ h => h) (yieldsIf_load_mid (by rfl) _ _ rfl _ _ rfl (vals X) _ (fun w hSw => hSw.1) Tryd.underlying23 rfl hszX) hHeld0 ?_
                            simp only [Act.put, List.getElem_toArray, List.getElem_cons_zero, List.getElem_cons_succ, List.setIfInBounds_toArray, List.set_cons_zero, List.set_cons_succ]
                            refine wpAnyH_take (i := 6) (v := .agg (vals Y).toArray) rfl (by kernel_rfl) (by kernel_rfl) (by kernel_rfl) (fun _ _ _ h => h) (yieldsIf_load_mid (by rfl) _ _ rfl _ _ rfl (vals Y) _ (fun w hSw => hSw.2.1) Tryd.underlying23 rfl hszY) hHeld0 ?_
                            simp only [Act.put, List.getElem_toArray, List.getElem_cons_zero, List.getElem_cons_succ, List.setIfInBounds_toArray, List.set_cons_zero, List.set_cons_succ]
                            refine wpAnyH_ready (rs := [5]) (by kernel_rfl) (by simp) ?_
                            refine AllReadyH.cons rfl (fun K hK => ?_) AllReadyH.nil
                            go_simp
                            go_wp2_with ((go_at_call 9; refine (HWX.out _).mono ?_; rintro e wq1 ⟨rfl, hbq1⟩))
                            refine hK.out _ _ (by exact two_below hHeld0 hbq1) (fun hHeld1 => ?_)
                            clear hK K hHeld0
                            try simp only [Act.put, List.getElem_toArray, List.getElem_cons_zero, List.getElem_cons_succ, List.setIfInBounds_toArray, List.set_cons_zero, List.set_cons_succ]
                            refine wpAnyH_ready (rs := [7]) (by kernel_rfl) (by simp) ?_
                            refine AllReadyH.cons rfl (fun K hK => ?_) AllReadyH.nil
                            go_simp
                            go_wp2_with ((go_at_call 9; refine (HWY.out _).mono ?_; rintro e wq2 ⟨rfl, hbq2⟩))
                            refine hK.out _ _ (by exact two_below hHeld1 hbq2) (fun hHeld2 => ?_)
                            clear hK K hHeld1
                            try simp only [Act.put, List.getElem_toArray, List.getElem_cons_zero, List.getElem_cons_succ, List.setIfInBounds_toArray, List.set_cons_zero, List.set_cons_succ]
                            refine wpAnyH_take (i := 8) (v := ?_) rfl (by kernel_rfl) (by kernel_rfl) (by kernel_rfl) (fun _ _ _ h => h) (Or.inl ⟨by rfl, ?_⟩) hHeld2 ?_
                            rotate_left
                            · (intro w hSw; (try dsimp only at hSw); go_simp <;> (try with_reducible rfl))
                            simp only [Act.put, List.getElem_toArray, List.getElem_cons_zero, List.getElem_cons_succ, List.setIfInBounds_toArray, List.set_cons_zero, List.set_cons_succ]
                            refine wpAnyH_take (i := 9) (v := ?_) rfl (by kernel_rfl) (by kernel_rfl) (by kernel_rfl) (fun _ _ _ h => h) (Or.inl ⟨by rfl, ?_⟩) hHeld2 ?_
                            rotate_left
                            · (intro w hSw; (try dsimp only at hSw); go_simp <;> (try with_reducible rfl))
                            simp only [Act.put, List.getElem_toArray, List.getElem_cons_zero, List.getElem_cons_succ, List.setIfInBounds_toArray, List.set_cons_zero, List.set_cons_succ]
                            refine wpAnyH_done (by kernel_rfl) ?_ _
                            go_wp2
                            go_meet
                            case rel => exact ⟨hit, rfl, HHIT.out, hHeld2.2.2⟩
                        case rest =>
                          obtain ⟨hit, rfl, hh, hbj⟩ := hcut
                          obtain ⟨wJ, hwJ⟩ : ∃ q, q = wc := ⟨_, rfl⟩
                          subst hwJ
                          cases hit with
                          | true =>
                            have hBB := HS9.out.2.2.2.2.trans ((HBI.out.trans (hbj.mono HBI.out.size)).mono HS9.out.2.2.2.2.size)
                            go_wp2
                            go_ret
                            exact ⟨rfl, hBB⟩
                          | false =>
                            have HH := hide (hh rfl)
                            have hj19 := HI19.out.below hbj HI19.out.lt
                            have hj18 := HI18i.out.below hbj HI18i.out.lt
                            have HJ19 := hide hj19
                            have HJ18 := hide hj18
                            clear hh hj19 hj18 HS24
                            go_wp2_with (refine wpList_load_arr2 23 (vals X) b19 rfl (.tmp 19) rfl rfl HJ19.out Tryd.underlying23 size_dig (by rw [vals_length]; exact HXL.out) ?_)
                            refine (HWX.out _).mono ?_
                            rintro e w11 ⟨rfl, hb11⟩
                            have hk19 := HJ19.out.below hb11 HJ19.out.lt
                            have hk18 := HJ18.out.below hb11 HJ18.out.lt
                            go_wp2_with (first
                              | (refine wpList_store_any2 23 (vals X) (vals X2) b19 rfl (.tmp 19) (.tmp 150) rfl rfl rfl rfl hk19 size_dig (by rw [vals_length]; exact HXL.out) (by rw [vals_length]; exact HX2L.out) (vals_one _) ?_; intro w12 hi12 hb12 hk12 hz12; clear hz12; have hi12b := hk12 _ _ _ hne89 hk18)
                              | (refine wpList_load_arr2 23 (vals Y) b18 rfl (.tmp 18) rfl rfl hi12b Tryd.underlying23 size_dig (by rw [vals_length]; exact HYL.out) ?_))
                            refine (HWY.out _).mono ?_
                            rintro e w13 ⟨rfl, hb13⟩
                            have hm19 := hi12.below hb13 hi12.lt
                            have hm18 := hi12b.below hb13 hi12b.lt
                            go_wp2_with (refine wpList_store_any2 23 (vals Y) (vals Y2) b18 rfl (.tmp 18) (.tmp 152) rfl rfl rfl rfl hm18 size_dig (by rw [vals_length]; exact HYL.out) (by rw [vals_length]; exact HY2L.out) (vals_one _) ?_; intro w14 hi14 hb14 hk14 hz14; clear hz14)
                            have hAI : wA.heap.size ≤ wI.heap.size := by omega
                            have hAJ : wA.heap.size ≤ wJ.heap.size := Nat.le_trans hAI hbj.size
                            have hA11 : wA.heap.size ≤ w11.heap.size := Nat.le_trans hAJ hb11.size
                            have hl12 := hi12.lt
                            have hA12 : wA.heap.size ≤ w12.heap.size := by omega
                            have hbl : Below wA.heap.size wI w14 := hb14 _ _ ((hb12 _ _ ((hbj.mono hAI).trans (hb11.mono hAJ)) h19A).trans (hb13.mono hA12)) hAb
                            have hlow15 : ∀ r, Value.ownBlock (.slice a15 k c15) = some r → r < wA.heap.size := fun r hr => (HOWN.out r (.inl hr)).2
                            have hlow16 : ∀ r, Value.ownBlock (.slice a16 k c16) = some r → r < wA.heap.size := fun r hr => (HOWN.out r (.inr hr)).2
                            refine ⟨⟨t + 1, by omega, by congr 1 <;> omega, ?_, ?_, fun s hs => ?_, owns_low HQ15.out hbl hlow15, owns_low HQ16.out hbl hlow16, HBI.out.trans (hbl.mono hz8A)⟩, by simp [intOf]; omega⟩
                            · rw [← HEQ.out.2.2.1]; exact hk14 _ _ _ (fun e => hne89 e.symm) hm19
                            · rw [← HEQ.out.2.2.2]; exact hi14
                            · by_cases e : s = t
                              · subst e
                                rw [← HEQ.out.1, ← HEQ.out.2.1, ← HEQ.out.2.2.1, ← HEQ.out.2.2.2]
                                exact HH.out
                              · exact HNS.out s (by omega)
                      · have hti : ¬ (y : Int) + (t : Int) < 15 := by omega
                        have hte : t = 15 - y := by omega
                        subst hte
                        rw [← HX0.out] at HEN
                        rw [HEN.out] at hi19
                        rw [HTP.out] at hi18
                        have hnk : nohit k := HNH.out HN1.out (by rw [← HX0.out]; exact hns)
                        have HNK := hide hnk
                        have hEl := HENL.out k
                        have hTl := HTPL.out k
                        have HNE : Hid (vals (Ky.rowsOf en (k + 1)) = vals (Ky.rowsOf en k) ++ vals (en k)) := by show _ = _; rw [Ky.rowsOf_succ, vals_append]
                        have HNT : Hid (vals (Ky.rowsOf tp (k + 1)) = vals (Ky.rowsOf tp k) ++ vals (tp k)) := by show _ = _; rw [Ky.rowsOf_succ, vals_append]
                        generalize en k = E at *
                        generalize tp k = T at *
                        generalize vals (Ky.rowsOf en k) = XE at *
                        generalize vals (Ky.rowsOf tp k) = XT at *
                        have HEL := hide hEl
                        have HTL := hide hTl
                        have HI19 := hide hi19
                        have HI18 := hide hi18
                        have HQ15 := hide hq15
                        have HQ16 := hide hq16
                        have HBI := hide hbi
                        have hl19 := hi19.lt
                        have hl18 := hi18.lt
                        have hz8i := hbi.size
                        clear hi19 hi18 hns hnk hEl hTl hq15 hq16 hbi HEN HTP HNH HN1
                        obtain ⟨wI, hwI⟩ : ∃ q, q = wr := ⟨_, rfl⟩
                        subst hwI
                        have hlow15 : ∀ r, Value.ownBlock (.slice a15 k c15) = some r → r < wA.heap.size := fun r hr => (HOWN.out r (.inl hr)).2
                        have hlow16 : ∀ r, Value.ownBlock (.slice a16 k c16) = some r → r < wA.heap.size := fun r hr => (HOWN.out r (.inr hr)).2
                        have HL15 := hide hlow15
                        have HL16 := hide hlow16
                        clear hlow15 hlow16
                        go_wp2_with (first
                          | (refine wpList_load_arr2 23 (vals E) b19 rfl (.tmp 19) rfl rfl HI19.out Tryd.underlying23 size_dig (by rw [vals_length]; exact HEL.out) ?_)
                          | (refine wpList_build_one 33 23 (vals E) rfl (.tmp 154) rfl rfl Tryd.underlying33 _ info_dig (by omega) (by omega) (by rw [vals_length]; exact HEL.out) ?_)
                          | (at_builtin; refine wpList_append_gen _ 33 23 32 rfl (.tmp 153) (.tmp 155) rfl w8.heap.size (.slice a15 k c15) k XE rfl wI.heap.size 0 1 1 (vals E) rfl (owns_below HQ15.out (below_alloc wI _)) elem_dig (by omega) (by rw [vals_length, HEL.out]) (Is.new wI _ _).range (vals_one _) (by omega) (Nat.le_trans hz8i (by simp)) ?_; intro v21 w21 h21 hg21 hw21; have hj18 := (HI18.out.alloc (.cells (vals E).toArray 23)).grown hg21 (fun e => by have := HL15.out _ e; omega); have hoo16 := owns_grown (owns_below HQ16.out (below_alloc wI (.cells (vals E).toArray 23))) hg21 (fun b hb e => HSEP.out b e hb); have hz21 := hg21.size)
                          | (refine wpList_load_arr2 23 (vals T) b18 rfl (.tmp 18) rfl rfl hj18 Tryd.underlying23 size_dig (by rw [vals_length]; exact HTL.out) ?_)
                          | (refine wpList_build_one 33 23 (vals T) rfl (.tmp 158) rfl rfl Tryd.underlying33 _ info_dig (by omega) (by omega) (by rw [vals_length]; exact HTL.out) ?_)
                          | (at_builtin; refine wpList_append_gen _ 33 23 32 rfl (.tmp 157) (.tmp 159) rfl w8.heap.size (.slice a16 k c16) k XT rfl w21.heap.size 0 1 1 (vals T) rfl (owns_below hoo16 (below_alloc w21 _)) elem_dig (by omega) (by rw [vals_length, HTL.out]) (Is.new w21 _ _).range (vals_one _) (by omega) (by simp at hz21 ⊢; omega) ?_; intro v22 w22 h22 hg22 hw22))
                        have hb21 := (HBI.out.alloc HBI.out.size (.cells (vals E).toArray 23)).grown hg21 (HBI.out.alloc HBI.out.size _).size (fun r hr => (HOWN.out r (.inl hr)).1)
                        have hb22 := (hb21.alloc hb21.size (.cells (vals T).toArray 23)).grown hg22 (hb21.alloc hb21.size _).size (fun r hr => (HOWN.out r (.inr hr)).1)
                        have hlt21 := World.ownsRow.lt h21
                        have hsz0 : (wI.alloc (.cells (vals E).toArray 23)).heap.size = wI.heap.size + 1 := by simp
                        have hsz1 : (w21.alloc (.cells (vals T).toArray 23)).heap.size = w21.heap.size + 1 := by simp
                        have hAI : wA.heap.size ≤ wI.heap.size := by omega
                        have hsepA : ∀ q, v21.ownBlock = some q → Value.ownBlock (.slice a16 k c16) ≠ some q := fun q hq e => by
                          have h16 := HL16.out q e
                          rcases hw21 with h | h
                          · rw [h] at hq; exact HSEP.out q hq e
                          · rw [h, hsz0] at hq; injection hq with hq; omega
                        have hsepB : ∀ q, v21.ownBlock = some q → v22.ownBlock ≠ some q := fun q hq e => by
                          have h21q := hlt21 q hq
                          rcases hw22 with h | h
                          · rw [h] at e; exact hsepA q hq e
                          · rw [h, hsz1] at e; injection e with e; omega
                        have hfinA : w22.ownsRow w8.heap.size 23 32 v21 (k + 1) (XE ++ vals E) := owns_grown (owns_below h21 (below_alloc w21 (.cells (vals T).toArray 23))) hg22 (fun q hq e => hsepA q hq e)
                        rw [← HNE.out] at hfinA
                        have hfinB := h22
                        rw [← HNT.out] at hfinB
                        have hnoA : ∀ j, j < k + 1 → nohit j := fun j hj => by
                          by_cases ej : j = k
                          · subst ej; exact HNK.out
                          · exact HNO.out j (by omega)
                        refine ⟨⟨k + 1, by omega, by go_num, hfinA, hfinB, hsepB, hnoA, hb22⟩, by simp [intOf]; omega⟩
            · have hki : ¬ (k : Int) < 67 := by omega
              have hke : k = 67 := by omega
              subst hke
              obtain ⟨ge, ce, hve, hge0, hgel, hcpe, hcme, hrge⟩ := owns_some ho15 (by omega)
              injection hve with hve1 hve2 hve3
              subst hve1
              obtain ⟨gt, ct, hvt, hgt0, hgtl, hcpt, hcmt, hrgt⟩ := owns_some ho16 (by omega)
              injection hvt with hvt1 hvt2 hvt3
              subst hvt1
              have hdf : decide (Ky.rowsOf en 67 = Ky.rowsOf tp 67) = false := decide_eq_false (HDIFF.out hno HOM.out)
              have HDG := hide (digests_any ge c15 gt c16 67 (Ky.rowsOf en 67) (Ky.rowsOf tp 67) wr (by omega) (Ky.rowsOf_length en HENL.out 67) (Ky.rowsOf_length tp HTPL.out 67) hrge hrgt hgel hgtl)
              rw [hdf] at HDG
              have HOE1 : Hid (∀ W, Below wr.heap.size wr W → Calls Tryd.prog 12 #[.int .u8 7, .slice (some ⟨ge, 0, none⟩) 67 c15] W fun e w' => e = .returned (.agg (vals O1).toArray) ∧ Below W.heap.size W w') := fun W hW => HOE.out W ge c15 (range_below0 hrge hW hgel) (Nat.lt_of_lt_of_le hgel hW.size)
              have HOT1 : Hid (∀ W, Below wr.heap.size wr W → Calls Tryd.prog 12 #[.int .u8 7, .slice (some ⟨gt, 0, none⟩) 67 c16] W fun e w' => e = .returned (.agg (vals O2).toArray) ∧ Below W.heap.size W w') := fun W hW => HOT.out W gt c16 (range_below0 hrgt hW hgtl) (Nat.lt_of_lt_of_le hgtl hW.size)
              have hqO : ∀ w', (Op.equalIn 10000 23 (.agg (vals O1).toArray) (.agg (vals O2).toArray)).run Tryd.prog w' = .ok true w' := fun w' => dig_same _ _ HO2L.out (HOEQ.out HQP.out) w'
              have hBB := HS9.out.2.2.2.2.trans (hb.mono HS9.out.2.2.2.2.size)
              clear ho15 ho16 hsep hno hdf hrge hrgt hcme hcmt hcpe hcpt hve2 hve3 hvt2 hvt3
              obtain ⟨wI, hwI⟩ : ∃ q, q = wr := ⟨_, rfl⟩
              subst hwI
              go_wp2_with fail
              refine HDG.out.mono ?_
              rintro e w31 ⟨rfl, hb31⟩
              go_wp2_with fail
              refine (HOE1.out _ hb31).mono ?_
              rintro e w32 ⟨rfl, hb32⟩
              have hb32' := hb31.trans (hb32.mono hb31.size)
              go_wp2_with fail
              refine (HOT1.out _ hb32').mono ?_
              rintro e w33 ⟨rfl, hb33⟩
              go_wp2
              go_ret
              exact ⟨rfl, hBB.trans ((hb32'.trans (hb33.mono hb32'.size)).mono hBB.size)⟩
      · have hq3 : ∀ w', (Op.equalIn 10000 23 (.agg (vals Q).toArray) (.agg (vals P1).toArray)).run Tryd.prog w' = .ok false w' := fun w' => by rw [dig_eq _ _ HQL.out HPL.out, decide_eq_false hQP]
        clear hQP
        go_wp2_with (first
        | (refine wpList_load_mid2 23 (vals other) (w.heap.size + 1 + 1) 0 rfl (.tmp 6) rfl rfl HS5.out.2.2.1 Tryd.underlying23 size_dig (by rw [vals_length]; exact HOL.out) ?_)
        | (go_at_call 4; refine (HRQ.out _ hb5).mono ?_; rintro e w4 ⟨rfl, hb4⟩; have hb4' := hb5.trans (hb4.mono hb5.size))
        | (refine wpList_store_any2 23 (vals Z) (vals Q) w4.heap.size rfl (.tmp 11) (.tmp 52) rfl rfl rfl rfl (Is.new w4 _ _) size_dig (by rw [vals_length]; exact HZL.out) (by rw [vals_length]; exact HQL.out) (vals_one _) ?_; intro w5 hi5 hb6 hk5 hz5; clear hz5; have hb5' := hb6 _ _ (hb4'.alloc hb4'.size _) hb4'.size; have hbX := hb6 _ _ (hb4.alloc hb4.size _) hb4.size; have hS5 := HS6.out _ hbX)
        | (refine wpList_load_midG 23 (vals Q) w4.heap.size 0 (.tmp 11) rfl rfl rfl hi5.range Tryd.underlying23 size_dig (by rw [vals_length]; exact HQL.out) ?_)
        | (refine wpList_load_midG 23 (vals P1) b9 0 (.tmp 9) rfl rfl rfl hS5.2.2.2.1 Tryd.underlying23 size_dig (by rw [vals_length]; exact HPL.out) ?_))
        go_ret
        exact ⟨rfl, hb5'⟩
end Go.Proofs.YtfgjgaenhpelkaaDoor
