/- The walk of LockSigned: who has the key opens it. -/
import Derived.Test.YtkdihbgjeanjdaaDoorLkFact
import Derived.Test.YtkdihbgjeanjdaaDoorKeSig
import Derived.Test.YtkdihbgjeanjdaaDoorLoadG
namespace Go.Proofs.YtkdihbgjeanjdaaDoor
open Go.RowKit
set_option linter.unusedVariables false
set_option linter.unusedSimpArgs false

theorem has_digest {W : World} {g : Nat} {D : List Int} (h : Is W g (vals D) 25) (hD : D.length = 32) : Has W (.slice (some ⟨g, 0, none⟩) 32 32) D :=
  .inr ⟨g, 0, 32, by rw [hD], by omega, by omega, by unfold maxLen; omega, fun j hj => by rw [Nat.zero_add, h.cell, vals_get _ _ hj]⟩
theorem keys_single {W : World} {g : Nat} {kv : Value} {k : List Int} (h : Is W g [kv] 36) (hk : Has W kv k) (hkb : Sz.Byt k) : HasKeys W (.slice (some ⟨g, 0, none⟩) 1 1) [(k, kv)] := by
  refine ⟨.inr ⟨g, 0, 1, rfl, by simp, by simp, by unfold maxLen; omega, h.lt, is_range h⟩, fun p hp => ?_⟩
  obtain rfl := List.mem_singleton.1 hp
  exact ⟨hk, hkb⟩
theorem ops_is {W : World} {g : Nat} {L : List (Lk.Op × Value)} (h : Is W g (opCells L) 38) (h0 : 0 < L.length) (hm : L.length ≤ 1000) (hd : ∀ p ∈ L, Has W p.2 p.1.data ∧ Sz.Byt p.1.data) : HasOps W (.slice (some ⟨g, 0, none⟩) L.length L.length) L :=
  ⟨.inr ⟨g, 0, L.length, rfl, h0, Nat.le_refl _, by unfold maxLen; omega, h.lt, is_range h⟩, hd⟩
/-- The ops of a lock on a public key. -/
def signOps (P : List Int) (g : Nat) : List (Lk.Op × Value) := [(⟨1, 0, P⟩, .slice (some ⟨g, 0, none⟩) 32 32), (⟨8, 0, []⟩, .slice none 0 0)]
theorem sign_ops {W : World} {g gP : Nat} {P : List Int} (h : Is W g (opCells (signOps P gP)) 38) (hP : Is W gP (vals P) 25) (hl : P.length = 32) (hb : Sz.Byt P) : HasOps W (.slice (some ⟨g, 0, none⟩) 2 2) (signOps P gP) :=
  ops_is h (by simp [signOps]) (by simp [signOps]) (fun p hp => by
    simp only [signOps, List.mem_cons, List.not_mem_nil, or_false] at hp
    rcases hp with rfl | rfl
    · exact ⟨has_digest hP hl, hb⟩
    · exact ⟨.inl ⟨none, 0, rfl, rfl, by unfold maxLen; omega, fun _ => rfl⟩, Sz.Byt.nil⟩)
theorem two_step {w7 W W' : World} {g : Nat} {c : List Value} {t : TypeId} (h : Below w7.heap.size w7 W ∧ Is W g c t) (hb : Below W.heap.size W W') : Below w7.heap.size w7 W' ∧ Is W' g c t := ⟨h.1.trans (hb.mono h.1.size), h.2.below hb h.2.lt⟩

set_option maxRecDepth 100000 in
set_option maxHeartbeats 16000000 in
theorem lockSigned_walk (seed m : List Int) (sv : Value) (sig : List Int) (h : Int) (w : World) (hs : seed.length = 32) (hsb : Sz.Byt seed) (hm : m.length = 32) (hmb : Sz.Byt m) (hg : Has w sv sig) (hgb : Sz.Byt sig) (hgl47 : sig.length ≤ 140737488351232) (ht : Tab w) (hw : 1 < w.heap.size) (hE : ErrVar w) :
    Calls Tryd.prog 5 #[.agg (vals seed).toArray, .agg (vals m).toArray, sv, .int .i64 h] w fun e w' => e = .returned (.bool true) ∧ Below w.heap.size w w' := by
  obtain ⟨sa, sc, rfl, _, hSm⟩ := hg.shape
  unfold maxLen at hSm
  obtain ⟨Z, hZ⟩ : ∃ Z : List Int, Z = List.replicate 32 0 := ⟨_, rfl⟩
  have hzd := zero_dig
  rw [← hZ] at hzd
  have HZE := hide hZ
  have HZL : Hid ((vals Z).length = 32) := hide (by rw [vals_length, hZ]; rfl)
  have HVZL := HZL
  have hvz : ¬ vals Z = [] := by intro h; have := HZL.out; rw [h] at this; cases this
  have hb0 := below_alloc2 w (.cells (vals seed).toArray 25) (.cells (vals m).toArray 25)
  have HB0 := hide hb0
  have HOP := hide (opened_any _ (ht.below hb0 hw) (Nat.lt_of_lt_of_le hw hb0.size) (hE.below hb0))
  have HIS := hide ((Is.new w (vals seed) 25).alloc (.cells (vals m).toArray 25))
  have HJS : Hid (Is ((w.alloc (.cells (vals seed).toArray 25)).alloc (.cells (vals m).toArray 25)) (w.heap.size + 1) (vals m) 25) := hide (Is.new' _ 25 (by simp))
  have HPUB : Hid (∀ W, Below w.heap.size w W → Calls Tryd.prog 16 #[.agg (vals seed).toArray] W fun e w' => e = .returned (.agg (vals (Ky.pub seed)).toArray) ∧ Below W.heap.size W w') := fun W hW => public_any seed W hs hsb (ht.below hW hw) (Nat.lt_of_lt_of_le hw hW.size)
  have HSIGN : Hid (∀ W, Below w.heap.size w W → Calls Tryd.prog 17 #[.agg (vals seed).toArray, .agg (vals m).toArray] W fun e w' => ∃ v, e = .returned v ∧ Own w' W.heap.size v (Ky.sign seed m) ∧ Below W.heap.size W w') := fun W hW => sign_any seed m W hs hsb hm hmb (ht.below hW hw) (Nat.lt_of_lt_of_le hw hW.size)
  have HREC : Hid (∀ W, Below w.heap.size w W → Calls Tryd.prog 18 #[.agg (vals m).toArray, .slice sa sig.length sc] W fun e w' => e = .returned (.tuple #[.agg (vals (if sig.length = 2144 then Ky.recov m sig else List.replicate 32 0)).toArray, if sig.length = 2144 then .nilIface else .iface 30 (.int .i64 3)]) ∧ Below W.heap.size W w') := fun W hW => recover_any _ m sig W (hg.below hW) hm hmb hgb (ht.below hW hw) (Nat.lt_of_lt_of_le hw hW.size)
  have HRUN : Hid (∀ W ov O kv2 K2, Below w.heap.size w W → HasOps W ov O → HasKeys W kv2 K2 → Calls Tryd.prog 12 #[ov, kv2, .agg (vals m).toArray, .int .i64 h] W fun e w' => e = .returned (errV (Lk.run m h (opsOf O) (K2.map Prod.fst))) ∧ Below W.heap.size W w') := fun W ov O kv2 K2 hW hO hK => run_any O K2 ov kv2 m h W hO hK hm hmb (ht.below hW hw) (Nat.lt_of_lt_of_le hw hW.size)
  have hrs := Ky.recov_sign seed m hmb
  obtain ⟨P, hP⟩ : ∃ P, P = Ky.pub seed := ⟨_, rfl⟩
  obtain ⟨G, hGe⟩ : ∃ G, G = Ky.sign seed m := ⟨_, rfl⟩
  obtain ⟨Q, hQ⟩ : ∃ Q, Q = Ky.recov m sig := ⟨_, rfl⟩
  obtain ⟨GL, hGL⟩ : ∃ n : Nat, n = 2144 := ⟨_, rfl⟩
  have HGLE : Hid (G.length = GL) := hide (by rw [hGe, hGL]; exact Ky.sign_length seed m)
  have HGBT : Hid (Sz.Byt G) := hide (by rw [hGe]; exact Ky.sign_byt seed m)
  have HPL : Hid (P.length = 32) := hide (by rw [hP]; exact Ky.pub_length seed)
  have HPB : Hid (Sz.Byt P) := hide (by rw [hP]; exact Mc.sum_byt _)
  have HQL : Hid (Q.length = 32) := hide (by rw [hQ]; exact Ky.recov_length m sig)
  have HGS : Hid (Lk.signed m G P = true) := hide (by unfold Lk.signed; rw [hGe, decide_eq_true (Ky.sign_length seed m), hrs, hP]; simp)
  have HQE := hide hQ
  rw [← hP] at HPUB
  rw [← hGe] at HSIGN
  have HG := hide hg
  have HGB := hide hgb
  have HGL := hide hGL
  have HVML : Hid ((vals m).length = 32) := hide (by rw [vals_length]; exact hm)
  have HVSL : Hid ((vals seed).length = 32) := hide (by rw [vals_length]; exact hs)
  have HVPL : Hid ((vals P).length = 32) := hide (by rw [vals_length]; exact HPL.out)
  have HVQL : Hid ((vals Q).length = 32) := hide (by rw [vals_length]; exact HQL.out)
  have hszs : (Tryd.prog.info? 25).map (·.size) = some (vals seed).length := by rw [vals_length, hs]; exact size_dig
  have hszm : (Tryd.prog.info? 25).map (·.size) = some (vals m).length := by rw [vals_length, hm]; exact size_dig
  have hgd := guard_dig
  clear hg hgb hs hsb hm hmb ht hw hE hb0 hZ hrs hP hGe hQ hgl47 hGL
  generalize hsl : sig.length = sl at *
  have HSLE := hide hsl
  clear hsl
  go_enter Tryd.func5, Tryd.ntmps5
  go_wp2_with fail
  refine HOP.out.mono ?_
  rintro e wA ⟨rfl, hbA⟩
  have HIA := hide (HIS.out.below hbA HIS.out.lt)
  have HJA := hide (HJS.out.below hbA HJS.out.lt)
  have HBA := hide (HB0.out.trans (hbA.mono HB0.out.size))
  clear hbA HIS HJS HB0 HOP
  go_wp2_with (refine wpList_load_arr2 25 (vals seed) w.heap.size rfl (.tmp 4) rfl rfl HIA.out Tryd.underlying25 size_dig HVSL.out ?_)
  refine (HPUB.out _ HBA.out).mono ?_
  rintro e wB ⟨rfl, hbB⟩
  have HIB := hide (HIA.out.below hbB HIA.out.lt)
  have HJB := hide (HJA.out.below hbB HJA.out.lt)
  have HBB := hide (HBA.out.trans (hbB.mono HBA.out.size))
  have hl2 : w.heap.size + 1 < wB.heap.size := HJB.out.lt
  clear hbB
  go_wp2_with (refine wpList_store_any2 25 (vals Z) (vals P) wB.heap.size rfl (.tmp 10) (.tmp 19) rfl rfl rfl rfl (Is.new wB _ _) size_dig HZL.out HVPL.out (vals_one _) ?_; intro w7 hi7 hb7 hk7 hz7; have h72 := hk7 _ _ _ (show w.heap.size ≠ wB.heap.size by omega) (HIB.out.alloc _); have h73 := hk7 _ _ _ (show w.heap.size + 1 ≠ wB.heap.size by omega) (HJB.out.alloc _); have HB7 := hide (hb7 _ _ (HBB.out.alloc HBB.out.size _) HBB.out.size); have HI7 := hide h72; have HJ7 := hide h73; have HP7 := hide hi7; clear hi7 hb7 hk7 hz7 h72 h73)
  obtain ⟨gP, hgP⟩ : ∃ g, g = wB.heap.size := ⟨_, rfl⟩
  rw [← hgP] at HP7 ⊢
  clear hgP hl2
  have HRS : Hid (∀ W gk vv, Below w.heap.size w W → Is W w7.heap.size (opCells (signOps P gP)) 38 → Is W gP (vals P) 25 → Is W gk [vv] 36 → Has W vv G → Calls Tryd.prog 12 #[.slice (some ⟨w7.heap.size, 0, none⟩) 2 2, .slice (some ⟨gk, 0, none⟩) 1 1, .agg (vals m).toArray, .int .i64 h] W fun e w' => e = .returned .nilIface ∧ Below W.heap.size W w') := hide (fun W gk vv hW hg hP hgk hvv => by
    have := HRUN.out W _ (signOps P gP) _ [(G, vv)] hW (sign_ops hg hP HPL.out HPB.out) (keys_single hgk hvv HGBT.out)
    rw [show opsOf (signOps P gP) = [⟨1, 0, P⟩, ⟨8, 0, []⟩] from rfl, show ([(G, vv)] : List (List Int × Value)).map Prod.fst = [G] from rfl, Lk.law_signed m h P G HPL.out, if_neg (by rw [HGLE.out, HGL.out]; omega), HGS.out] at this
    exact this)
  refine wp_region_held_drew (S := fun W : World => Below w7.heap.size w7 W ∧ Is W w7.heap.size (opCells (signOps P gP)) 38) (by kernel_rfl) ?_ (fun hHeld0 => ?_)
  · exact ⟨(below_alloc w7 _).drew, (Is.new w7 (opCells (signOps P gP)) 38).drew⟩
  refine wpAnyH_take (i := 0) (v := ?_) rfl (by kernel_rfl) (by kernel_rfl) (by kernel_rfl) (fun _ _ _ h => h) (Or.inl ⟨by rfl, ?_⟩) hHeld0 ?_
  rotate_left
  · (intro w hSw; (try dsimp only at hSw); go_simp <;> (try with_reducible rfl))
  simp only [Act.put, List.getElem_toArray, List.getElem_cons_zero, List.getElem_cons_succ, List.setIfInBounds_toArray, List.set_cons_zero, List.set_cons_succ]
  refine wpAnyH_take (i := 1) (v := .agg (vals seed).toArray) rfl (by kernel_rfl) (by kernel_rfl) (by kernel_rfl) (fun _ _ _ h => h) (yieldsIf_load_mid (by rfl) _ _ rfl _ _ rfl (vals seed) _ (fun w hSw => range_below HI7.out.range hSw.1) Tryd.underlying25 rfl hszs) hHeld0 ?_
  simp only [Act.put, List.getElem_toArray, List.getElem_cons_zero, List.getElem_cons_succ, List.setIfInBounds_toArray, List.set_cons_zero, List.set_cons_succ]
  refine wpAnyH_take (i := 2) (v := .agg (vals m).toArray) rfl (by kernel_rfl) (by kernel_rfl) (by kernel_rfl) (fun _ _ _ h => h) (yieldsIf_load_mid (by rfl) _ _ rfl _ _ rfl (vals m) _ (fun w hSw => range_below HJ7.out.range hSw.1) Tryd.underlying25 rfl hszm) hHeld0 ?_
  simp only [Act.put, List.getElem_toArray, List.getElem_cons_zero, List.getElem_cons_succ, List.setIfInBounds_toArray, List.set_cons_zero, List.set_cons_succ]
  refine wpAnyH_take (i := 5) (v := .agg (vals m).toArray) rfl (by kernel_rfl) (by kernel_rfl) (by kernel_rfl) (fun _ _ _ h => h) (yieldsIf_load_mid (by rfl) _ _ rfl _ _ rfl (vals m) _ (fun w hSw => range_below HJ7.out.range hSw.1) Tryd.underlying25 rfl hszm) hHeld0 ?_
  simp only [Act.put, List.getElem_toArray, List.getElem_cons_zero, List.getElem_cons_succ, List.setIfInBounds_toArray, List.set_cons_zero, List.set_cons_succ]
  refine wpAnyH_take (i := 6) (v := ?_) rfl (by kernel_rfl) (by kernel_rfl) (by kernel_rfl) (fun _ _ _ h => h) (Or.inl ⟨by rfl, ?_⟩) hHeld0 ?_
  rotate_left
  · (intro w hSw; (try dsimp only at hSw); go_simp <;> (try with_reducible rfl))
  simp only [Act.put, List.getElem_toArray, List.getElem_cons_zero, List.getElem_cons_succ, List.setIfInBounds_toArray, List.set_cons_zero, List.set_cons_succ]
  refine wpAnyH_ready (rs := [3]) (by kernel_rfl) (by simp) ?_
  refine AllReadyH.cons rfl (fun K hK => ?_) AllReadyH.nil
  go_simp
  go_wp2_with ((go_at_call 17; refine (HSIGN.out _ (HB7.out.trans (hHeld0.1.mono HB7.out.size))).mono ?_; rintro e ws ⟨v27, rfl, ho27, hbs⟩; obtain ⟨va, vc, hve, _, _⟩ := ho27.form; rw [HGLE.out] at hve; subst hve))
  refine hK.out _ _ (by exact two_step hHeld0 hbs) (fun hHeld1 => ?_)
  clear hK K hHeld0
  try simp only [Act.put, List.getElem_toArray, List.getElem_cons_zero, List.getElem_cons_succ, List.setIfInBounds_toArray, List.set_cons_zero, List.set_cons_succ]
  have hv27 := ho27.has
  clear ho27
  refine wpAnyH_ready (rs := [4]) (by kernel_rfl) (by simp) ?_
  refine AllReadyH.cons rfl (fun K hK => ?_) AllReadyH.nil
  go_simp
  refine hK.out _ _ (by exact two_step hHeld1 (below_alloc _ _)) (fun hHeld2 => ?_)
  clear hK K hHeld1
  try simp only [Act.put, List.getElem_toArray, List.getElem_cons_zero, List.getElem_cons_succ, List.setIfInBounds_toArray, List.set_cons_zero, List.set_cons_succ]
  have hik := Is.new ws [.slice va GL vc] 36
  have hv27 := hv27.below (below_alloc ws (.cells #[.slice va GL vc] 36))
  refine wpAnyH_ready (rs := [7]) (by kernel_rfl) (by simp) ?_
  refine AllReadyH.cons rfl (fun K hK => ?_) AllReadyH.nil
  go_simp
  go_wp2_with ((go_at_call 12; refine (HRS.out _ _ _ (HB7.out.trans (hHeld2.1.mono HB7.out.size)) hHeld2.2 (HP7.out.below hHeld2.1 HP7.out.lt) hik hv27).mono ?_; rintro e wyy ⟨rfl, hbyy⟩))
  refine hK.out _ _ (by exact two_step hHeld2 hbyy) (fun hHeld3 => ?_)
  clear hK K hHeld2
  try simp only [Act.put, List.getElem_toArray, List.getElem_cons_zero, List.getElem_cons_succ, List.setIfInBounds_toArray, List.set_cons_zero, List.set_cons_succ]
  refine wpAnyH_take (i := 8) (v := ?_) rfl (by kernel_rfl) (by kernel_rfl) (by kernel_rfl) (fun _ _ _ h => h) (Or.inl ⟨by rfl, ?_⟩) hHeld3 ?_
  rotate_left
  · (intro w hSw; (try dsimp only at hSw); go_simp <;> (try with_reducible rfl))
  simp only [Act.put, List.getElem_toArray, List.getElem_cons_zero, List.getElem_cons_succ, List.setIfInBounds_toArray, List.set_cons_zero, List.set_cons_succ]
  refine wpAnyH_done (by kernel_rfl) ?_ _
  have HBy := hide (HB7.out.trans (hHeld3.1.mono HB7.out.size))
  have HJy := hide (HJ7.out.below hHeld3.1 HJ7.out.lt)
  have HPy := hide (HP7.out.below hHeld3.1 HP7.out.lt)
  have HLy := hide hHeld3.2
  obtain ⟨wy, hwy⟩ : ∃ W, W = wyy := ⟨_, rfl⟩
  rw [← hwy] at HBy HJy HPy HLy ⊢
  clear hwy
  by_cases hlen : 3000 < sl
  · have hgl : ¬ sl = 2144 := by omega
    have hi1 : decide ((3000 : Int) < (sl : Int)) = true := decide_eq_true (by omega)
    have HRE : Hid (Calls Tryd.prog 18 #[.agg (vals m).toArray, .slice sa sl sc] wy fun e w' => e = .returned (.tuple #[.agg (vals Z).toArray, (.iface 30 (.int .i64 3))]) ∧ Below wy.heap.size wy w') := by
      have := HREC.out wy HBy.out
      rw [if_neg hgl, if_neg hgl, ← HZE.out] at this
      exact this
    have HRT : Hid (∀ W gk, Below w.heap.size w W → Is W w7.heap.size (opCells (signOps P gP)) 38 → Is W gP (vals P) 25 → Is W gk [.slice sa sl sc] 36 → Calls Tryd.prog 12 #[.slice (some ⟨w7.heap.size, 0, none⟩) 2 2, .slice (some ⟨gk, 0, none⟩) 1 1, .agg (vals m).toArray, .int .i64 h] W fun e w' => e = .returned (.iface 30 (.int .i64 4)) ∧ Below W.heap.size W w') := hide (fun W gk hW hg hP hgk => by
      have := HRUN.out W _ (signOps P gP) _ [(sig, .slice sa sl sc)] hW (sign_ops hg hP HPL.out HPB.out) (keys_single hgk (HG.out.below hW) HGB.out)
      rw [show opsOf (signOps P gP) = [⟨1, 0, P⟩, ⟨8, 0, []⟩] from rfl, show ([(sig, Value.slice sa sl sc)] : List (List Int × Value)).map Prod.fst = [sig] from rfl, Lk.law_signed m h P sig HPL.out, HSLE.out, if_pos hlen] at this
      exact this)
    clear hgl
    go_wp2_with (refine wpList_load_arr2 25 (vals m) (w.heap.size + 1) rfl (.tmp 5) rfl rfl HJy.out Tryd.underlying25 size_dig HVML.out ?_)
    refine HRE.out.mono ?_
    rintro e wR ⟨rfl, hbR⟩
    have HBR := hide (HBy.out.trans (hbR.mono HBy.out.size))
    have HJR := hide (HJy.out.below hbR HJy.out.lt)
    have HPR := hide (HPy.out.below hbR HPy.out.lt)
    have HLR := hide (HLy.out.below hbR HLy.out.lt)
    clear hbR
    have hlR1 : w.heap.size + 1 < wR.heap.size := HJR.out.lt
    have hlR2 : gP < wR.heap.size := HPR.out.lt
    have hlR3 : w7.heap.size < wR.heap.size := HLR.out.lt
    go_wp2_with (first
      | (refine wpList_store_any2 25 (vals Z) (vals Z) wR.heap.size rfl (.tmp 12) (.tmp 37) rfl rfl rfl rfl (Is.new wR _ _) size_dig HZL.out HVZL.out (vals_one _) ?_; intro w9 hi9 hb9 hk9 hz9; have h91 := hk9 _ _ _ (show w.heap.size + 1 ≠ wR.heap.size by omega) (HJR.out.alloc _); have h92 := hk9 _ _ _ (show gP ≠ wR.heap.size by omega) (HPR.out.alloc _); have h93 := hk9 _ _ _ (show w7.heap.size ≠ wR.heap.size by omega) (HLR.out.alloc _); have HB9 := hide (hb9 _ _ (HBR.out.alloc HBR.out.size _) HBR.out.size); have HJ9 := hide h91; have HP9 := hide h92; have HL9 := hide h93; have HQ9 := hide hi9; clear hi9 hb9 hk9 hz9 h91 h92 h93)
      | (refine wpList_load_arr2 25 (vals m) (w.heap.size + 1) rfl (.tmp 5) rfl rfl (HJ9.out.alloc _) Tryd.underlying25 size_dig HVML.out ?_))
    refine (HRT.out _ w9.heap.size (HB9.out.alloc HB9.out.size _) (HL9.out.alloc _) (HP9.out.alloc _) (Is.new w9 [.slice sa sl sc] 36)).mono ?_
    rintro e wT ⟨rfl, hbT⟩
    have HBT := hide ((HB9.out.alloc HB9.out.size (.cells #[.slice sa sl sc] 36)).trans (hbT.mono (by have := HB9.out.size; simp; omega)))
    have HPT := hide ((HP9.out.alloc (.cells #[.slice sa sl sc] 36)).below hbT (by have := HP9.out.lt; simp; omega))
    have HQT := hide ((HQ9.out.alloc (.cells #[.slice sa sl sc] 36)).below hbT (by have := HQ9.out.lt; simp; omega))
    clear hbT HJ9 HP9 HL9 HQ9
    go_wp2
    go_ret
    exact ⟨rfl, HBT.out⟩
  · by_cases hgl : sl = 2144
    · by_cases hqp : Q = P
      · have heqv : ∀ w', (Op.equalIn 10000 25 (.agg (vals Q).toArray) (.agg (vals P).toArray)).run Tryd.prog w' = .ok true w' := fun w' => by rw [dig_eq Q P HQL.out HPL.out, decide_eq_true hqp]
        have hi1 : decide ((3000 : Int) < (sl : Int)) = false := decide_eq_false (by omega)
        have HRE : Hid (Calls Tryd.prog 18 #[.agg (vals m).toArray, .slice sa sl sc] wy fun e w' => e = .returned (.tuple #[.agg (vals Q).toArray, .nilIface]) ∧ Below wy.heap.size wy w') := by
          have := HREC.out wy HBy.out
          rw [if_pos hgl, if_pos hgl, ← HQE.out] at this
          exact this
        have HRT : Hid (∀ W gk, Below w.heap.size w W → Is W w7.heap.size (opCells (signOps P gP)) 38 → Is W gP (vals P) 25 → Is W gk [.slice sa sl sc] 36 → Calls Tryd.prog 12 #[.slice (some ⟨w7.heap.size, 0, none⟩) 2 2, .slice (some ⟨gk, 0, none⟩) 1 1, .agg (vals m).toArray, .int .i64 h] W fun e w' => e = .returned .nilIface ∧ Below W.heap.size W w') := hide (fun W gk hW hg hP hgk => by
          have := HRUN.out W _ (signOps P gP) _ [(sig, .slice sa sl sc)] hW (sign_ops hg hP HPL.out HPB.out) (keys_single hgk (HG.out.below hW) HGB.out)
          rw [show opsOf (signOps P gP) = [⟨1, 0, P⟩, ⟨8, 0, []⟩] from rfl, show ([(sig, Value.slice sa sl sc)] : List (List Int × Value)).map Prod.fst = [sig] from rfl, Lk.law_signed m h P sig HPL.out, HSLE.out, if_neg hlen, show Lk.signed m sig P = true by unfold Lk.signed; rw [decide_eq_true (by rw [HSLE.out]; exact hgl), decide_eq_true (by rw [← HQE.out]; exact hqp)]; rfl] at this
          exact this)
        clear hqp
        clear hgl
        go_wp2_with (refine wpList_load_arr2 25 (vals m) (w.heap.size + 1) rfl (.tmp 5) rfl rfl HJy.out Tryd.underlying25 size_dig HVML.out ?_)
        refine HRE.out.mono ?_
        rintro e wR ⟨rfl, hbR⟩
        have HBR := hide (HBy.out.trans (hbR.mono HBy.out.size))
        have HJR := hide (HJy.out.below hbR HJy.out.lt)
        have HPR := hide (HPy.out.below hbR HPy.out.lt)
        have HLR := hide (HLy.out.below hbR HLy.out.lt)
        clear hbR
        have hlR1 : w.heap.size + 1 < wR.heap.size := HJR.out.lt
        have hlR2 : gP < wR.heap.size := HPR.out.lt
        have hlR3 : w7.heap.size < wR.heap.size := HLR.out.lt
        go_wp2_with (first
          | (refine wpList_store_any2 25 (vals Z) (vals Q) wR.heap.size rfl (.tmp 12) (.tmp 37) rfl rfl rfl rfl (Is.new wR _ _) size_dig HZL.out HVQL.out (vals_one _) ?_; intro w9 hi9 hb9 hk9 hz9; have h91 := hk9 _ _ _ (show w.heap.size + 1 ≠ wR.heap.size by omega) (HJR.out.alloc _); have h92 := hk9 _ _ _ (show gP ≠ wR.heap.size by omega) (HPR.out.alloc _); have h93 := hk9 _ _ _ (show w7.heap.size ≠ wR.heap.size by omega) (HLR.out.alloc _); have HB9 := hide (hb9 _ _ (HBR.out.alloc HBR.out.size _) HBR.out.size); have HJ9 := hide h91; have HP9 := hide h92; have HL9 := hide h93; have HQ9 := hide hi9; clear hi9 hb9 hk9 hz9 h91 h92 h93)
          | (refine wpList_load_arr2 25 (vals m) (w.heap.size + 1) rfl (.tmp 5) rfl rfl (HJ9.out.alloc _) Tryd.underlying25 size_dig HVML.out ?_))
        refine (HRT.out _ w9.heap.size (HB9.out.alloc HB9.out.size _) (HL9.out.alloc _) (HP9.out.alloc _) (Is.new w9 [.slice sa sl sc] 36)).mono ?_
        rintro e wT ⟨rfl, hbT⟩
        have HBT := hide ((HB9.out.alloc HB9.out.size (.cells #[.slice sa sl sc] 36)).trans (hbT.mono (by have := HB9.out.size; simp; omega)))
        have HPT := hide ((HP9.out.alloc (.cells #[.slice sa sl sc] 36)).below hbT (by have := HP9.out.lt; simp; omega))
        have HQT := hide ((HQ9.out.alloc (.cells #[.slice sa sl sc] 36)).below hbT (by have := HQ9.out.lt; simp; omega))
        clear hbT HJ9 HP9 HL9 HQ9
        go_wp2_with (first
          | (refine wpList_load_arrG 25 (vals Q) wR.heap.size (.tmp 12) rfl rfl rfl HQT.out Tryd.underlying25 size_dig HVQL.out ?_)
          | (refine wpList_load_arrG 25 (vals P) gP (.tmp 10) rfl rfl rfl HPT.out Tryd.underlying25 size_dig HVPL.out ?_))
        go_ret
        exact ⟨rfl, HBT.out⟩
      · have heqv : ∀ w', (Op.equalIn 10000 25 (.agg (vals Q).toArray) (.agg (vals P).toArray)).run Tryd.prog w' = .ok false w' := fun w' => by rw [dig_eq Q P HQL.out HPL.out, decide_eq_false hqp]
        have hi1 : decide ((3000 : Int) < (sl : Int)) = false := decide_eq_false (by omega)
        have HRE : Hid (Calls Tryd.prog 18 #[.agg (vals m).toArray, .slice sa sl sc] wy fun e w' => e = .returned (.tuple #[.agg (vals Q).toArray, .nilIface]) ∧ Below wy.heap.size wy w') := by
          have := HREC.out wy HBy.out
          rw [if_pos hgl, if_pos hgl, ← HQE.out] at this
          exact this
        have HRT : Hid (∀ W gk, Below w.heap.size w W → Is W w7.heap.size (opCells (signOps P gP)) 38 → Is W gP (vals P) 25 → Is W gk [.slice sa sl sc] 36 → Calls Tryd.prog 12 #[.slice (some ⟨w7.heap.size, 0, none⟩) 2 2, .slice (some ⟨gk, 0, none⟩) 1 1, .agg (vals m).toArray, .int .i64 h] W fun e w' => e = .returned (.iface 30 (.int .i64 7)) ∧ Below W.heap.size W w') := hide (fun W gk hW hg hP hgk => by
          have := HRUN.out W _ (signOps P gP) _ [(sig, .slice sa sl sc)] hW (sign_ops hg hP HPL.out HPB.out) (keys_single hgk (HG.out.below hW) HGB.out)
          rw [show opsOf (signOps P gP) = [⟨1, 0, P⟩, ⟨8, 0, []⟩] from rfl, show ([(sig, Value.slice sa sl sc)] : List (List Int × Value)).map Prod.fst = [sig] from rfl, Lk.law_signed m h P sig HPL.out, HSLE.out, if_neg hlen, show Lk.signed m sig P = false by unfold Lk.signed; rw [decide_eq_false (show ¬ Ky.recov m sig = P by rw [← HQE.out]; exact hqp)]; simp] at this
          exact this)
        clear hqp
        clear hgl
        go_wp2_with (refine wpList_load_arr2 25 (vals m) (w.heap.size + 1) rfl (.tmp 5) rfl rfl HJy.out Tryd.underlying25 size_dig HVML.out ?_)
        refine HRE.out.mono ?_
        rintro e wR ⟨rfl, hbR⟩
        have HBR := hide (HBy.out.trans (hbR.mono HBy.out.size))
        have HJR := hide (HJy.out.below hbR HJy.out.lt)
        have HPR := hide (HPy.out.below hbR HPy.out.lt)
        have HLR := hide (HLy.out.below hbR HLy.out.lt)
        clear hbR
        have hlR1 : w.heap.size + 1 < wR.heap.size := HJR.out.lt
        have hlR2 : gP < wR.heap.size := HPR.out.lt
        have hlR3 : w7.heap.size < wR.heap.size := HLR.out.lt
        go_wp2_with (first
          | (refine wpList_store_any2 25 (vals Z) (vals Q) wR.heap.size rfl (.tmp 12) (.tmp 37) rfl rfl rfl rfl (Is.new wR _ _) size_dig HZL.out HVQL.out (vals_one _) ?_; intro w9 hi9 hb9 hk9 hz9; have h91 := hk9 _ _ _ (show w.heap.size + 1 ≠ wR.heap.size by omega) (HJR.out.alloc _); have h92 := hk9 _ _ _ (show gP ≠ wR.heap.size by omega) (HPR.out.alloc _); have h93 := hk9 _ _ _ (show w7.heap.size ≠ wR.heap.size by omega) (HLR.out.alloc _); have HB9 := hide (hb9 _ _ (HBR.out.alloc HBR.out.size _) HBR.out.size); have HJ9 := hide h91; have HP9 := hide h92; have HL9 := hide h93; have HQ9 := hide hi9; clear hi9 hb9 hk9 hz9 h91 h92 h93)
          | (refine wpList_load_arr2 25 (vals m) (w.heap.size + 1) rfl (.tmp 5) rfl rfl (HJ9.out.alloc _) Tryd.underlying25 size_dig HVML.out ?_))
        refine (HRT.out _ w9.heap.size (HB9.out.alloc HB9.out.size _) (HL9.out.alloc _) (HP9.out.alloc _) (Is.new w9 [.slice sa sl sc] 36)).mono ?_
        rintro e wT ⟨rfl, hbT⟩
        have HBT := hide ((HB9.out.alloc HB9.out.size (.cells #[.slice sa sl sc] 36)).trans (hbT.mono (by have := HB9.out.size; simp; omega)))
        have HPT := hide ((HP9.out.alloc (.cells #[.slice sa sl sc] 36)).below hbT (by have := HP9.out.lt; simp; omega))
        have HQT := hide ((HQ9.out.alloc (.cells #[.slice sa sl sc] 36)).below hbT (by have := HQ9.out.lt; simp; omega))
        clear hbT HJ9 HP9 HL9 HQ9
        go_wp2_with (first
          | (refine wpList_load_arrG 25 (vals Q) wR.heap.size (.tmp 12) rfl rfl rfl HQT.out Tryd.underlying25 size_dig HVQL.out ?_)
          | (refine wpList_load_arrG 25 (vals P) gP (.tmp 10) rfl rfl rfl HPT.out Tryd.underlying25 size_dig HVPL.out ?_))
        go_ret
        exact ⟨rfl, HBT.out⟩
    · have hi1 : decide ((3000 : Int) < (sl : Int)) = false := decide_eq_false (by omega)
      have HRE : Hid (Calls Tryd.prog 18 #[.agg (vals m).toArray, .slice sa sl sc] wy fun e w' => e = .returned (.tuple #[.agg (vals Z).toArray, (.iface 30 (.int .i64 3))]) ∧ Below wy.heap.size wy w') := by
        have := HREC.out wy HBy.out
        rw [if_neg hgl, if_neg hgl, ← HZE.out] at this
        exact this
      have HRT : Hid (∀ W gk, Below w.heap.size w W → Is W w7.heap.size (opCells (signOps P gP)) 38 → Is W gP (vals P) 25 → Is W gk [.slice sa sl sc] 36 → Calls Tryd.prog 12 #[.slice (some ⟨w7.heap.size, 0, none⟩) 2 2, .slice (some ⟨gk, 0, none⟩) 1 1, .agg (vals m).toArray, .int .i64 h] W fun e w' => e = .returned (.iface 30 (.int .i64 7)) ∧ Below W.heap.size W w') := hide (fun W gk hW hg hP hgk => by
        have := HRUN.out W _ (signOps P gP) _ [(sig, .slice sa sl sc)] hW (sign_ops hg hP HPL.out HPB.out) (keys_single hgk (HG.out.below hW) HGB.out)
        rw [show opsOf (signOps P gP) = [⟨1, 0, P⟩, ⟨8, 0, []⟩] from rfl, show ([(sig, Value.slice sa sl sc)] : List (List Int × Value)).map Prod.fst = [sig] from rfl, Lk.law_signed m h P sig HPL.out, HSLE.out, if_neg hlen, show Lk.signed m sig P = false by unfold Lk.signed; rw [decide_eq_false (by rw [HSLE.out]; exact hgl)]; rfl] at this
        exact this)
      clear hgl
      go_wp2_with (refine wpList_load_arr2 25 (vals m) (w.heap.size + 1) rfl (.tmp 5) rfl rfl HJy.out Tryd.underlying25 size_dig HVML.out ?_)
      refine HRE.out.mono ?_
      rintro e wR ⟨rfl, hbR⟩
      have HBR := hide (HBy.out.trans (hbR.mono HBy.out.size))
      have HJR := hide (HJy.out.below hbR HJy.out.lt)
      have HPR := hide (HPy.out.below hbR HPy.out.lt)
      have HLR := hide (HLy.out.below hbR HLy.out.lt)
      clear hbR
      have hlR1 : w.heap.size + 1 < wR.heap.size := HJR.out.lt
      have hlR2 : gP < wR.heap.size := HPR.out.lt
      have hlR3 : w7.heap.size < wR.heap.size := HLR.out.lt
      go_wp2_with (first
        | (refine wpList_store_any2 25 (vals Z) (vals Z) wR.heap.size rfl (.tmp 12) (.tmp 37) rfl rfl rfl rfl (Is.new wR _ _) size_dig HZL.out HVZL.out (vals_one _) ?_; intro w9 hi9 hb9 hk9 hz9; have h91 := hk9 _ _ _ (show w.heap.size + 1 ≠ wR.heap.size by omega) (HJR.out.alloc _); have h92 := hk9 _ _ _ (show gP ≠ wR.heap.size by omega) (HPR.out.alloc _); have h93 := hk9 _ _ _ (show w7.heap.size ≠ wR.heap.size by omega) (HLR.out.alloc _); have HB9 := hide (hb9 _ _ (HBR.out.alloc HBR.out.size _) HBR.out.size); have HJ9 := hide h91; have HP9 := hide h92; have HL9 := hide h93; have HQ9 := hide hi9; clear hi9 hb9 hk9 hz9 h91 h92 h93)
        | (refine wpList_load_arr2 25 (vals m) (w.heap.size + 1) rfl (.tmp 5) rfl rfl (HJ9.out.alloc _) Tryd.underlying25 size_dig HVML.out ?_))
      refine (HRT.out _ w9.heap.size (HB9.out.alloc HB9.out.size _) (HL9.out.alloc _) (HP9.out.alloc _) (Is.new w9 [.slice sa sl sc] 36)).mono ?_
      rintro e wT ⟨rfl, hbT⟩
      have HBT := hide ((HB9.out.alloc HB9.out.size (.cells #[.slice sa sl sc] 36)).trans (hbT.mono (by have := HB9.out.size; simp; omega)))
      have HPT := hide ((HP9.out.alloc (.cells #[.slice sa sl sc] 36)).below hbT (by have := HP9.out.lt; simp; omega))
      have HQT := hide ((HQ9.out.alloc (.cells #[.slice sa sl sc] 36)).below hbT (by have := HQ9.out.lt; simp; omega))
      clear hbT HJ9 HP9 HL9 HQ9
      go_wp2
      go_ret
      exact ⟨rfl, HBT.out⟩
end Go.Proofs.YtkdihbgjeanjdaaDoor
