/- The texts CnSp, CnB, CnLo, CnOw, CnCa, CnEx, CnXg, CnAm, one behind the other. -/
import Derived.Test.YtmjilohlchkicaaGreatDoorZCk
import Derived.Test.YtmjilohlchkicaaGreatDoorZCl
import Derived.Test.YtmjilohlchkicaaGreatDoorZCm
import Derived.Test.YtmjilohlchkicaaGreatDoorZTc
import Derived.Test.YtmjilohlchkicaaGreatDoorOwn3
import Derived.Test.YtmjilohlchkicaaGreatDoorBuild1
import Derived.Test.YtmjilohlchkicaaGreatDoorZTk
import Derived.Test.YtmjilohlchkicaaGreatDoorZTr
import Derived.Test.YtmjilohlchkicaaGreatDoorZTf
import Derived.Test.YtmjilohlchkicaaGreatDoorZSh
/- The coins that a payment spends. -/
namespace Go.Proofs.YtmjilohlchkicaaGreatDoor
open Go.RowKit
set_option linter.unusedVariables false
set_option linter.unusedSimpArgs false

theorem info_coinS : (Tryz.prog.info? 54).map (fun i => (i.zero, i.size)) = some (some (.agg ZC.toArray), 36) := by kernel_rfl
theorem elem_coin : Elem 22 54 36 := elem_of (.agg ZC.toArray) 80 Tryz.underlying22 (by kernel_rfl) (by omega) rfl (by omega)
/-- What an append of a coin leaves. -/
def AppK (W : World) (base : Nat) (S : List CoinV) (x : CoinV) (v : Value) (v' : Value) (W' : World) : Prop :=
  W'.ownsRow base 54 36 v' (S.length + 1) (coinCells S ++ coinCell x) ∧ Below base W W'
theorem own_low {W : World} {base s n : Nat} {e : TypeId} {v : Value} {cs : List Value} (h : W.ownsRow base e s v n cs) : ∀ k, v.ownBlock = some k → base ≤ k := by
  intro k hk
  rcases h.2 with ⟨rfl, _⟩ | ⟨g, cap, cur, rfl, hg, _⟩
  · simp [Value.ownBlock] at hk
  · simp [Value.ownBlock] at hk; omega
theorem run_appC (W : World) (base : Nat) (S : List CoinV) (x : CoinV) (v : Value) (hown : W.ownsRow base 54 36 v S.length (coinCells S)) (h32 : x.tx.length = 32) (hl : ∃ a n c, x.lv = .slice a n c) (hn : S.length + 1 ≤ 1000000) (hb : base ≤ W.heap.size) (ty : TypeId) :
    ∃ v' W', (Builtin.append_ #[22, 22] ty #[v, .slice (some ⟨W.heap.size, 0, none⟩) 1 1]).run Tryz.prog (W.alloc (.cells (coinCell x).toArray 54)) = .ok v' W' ∧ AppK W base S x v v' W' := by
  have hal := below_alloc W (.cells (coinCell x).toArray 54)
  have hown2 : (W.alloc (.cells (coinCell x).toArray 54)).ownsRow base 54 36 v S.length (coinCells S) := owns_below hown hal
  obtain ⟨v', W', h1, h2, h3, _⟩ := run_append_gen _ base 22 54 36 elem_coin v S.length (coinCells S) hown2 ⟨W.heap.size, 0, none⟩ 1 1 (by omega) (coinCell x) (by rw [coinCell_length x h32]) (fun j u hu => by rw [Addr.add_lit]; exact is_range (Is.new W (coinCell x) 54) j u hu) (coin_ones x hl) hn (by rw [show (W.alloc (.cells (coinCell x).toArray 54)).heap.size = W.heap.size + 1 from by simp]; omega) ty
  refine ⟨v', W', h1, h2, ?_⟩
  exact (hal.mono hb).grown h3 (by simp; omega) (fun k hk => own_low hown k hk)
/-- The coins found so far: those of the first places, in a row of one's own. -/
structure SpS (w : World) (R : List CoinV) (PS : List (List Int × Int)) (k : Nat) (v : Value) (S : List CoinV) (W : World) : Prop where
  len : S.length = k
  mem : ∀ x ∈ S, x ∈ R
  pls : S.map (fun x => Cn.place x.it) = PS.take k
  own : W.ownsRow w.heap.size 54 36 v S.length (coinCells S)
  below : Below w.heap.size w W
theorem SpS.next {w : World} {R : List CoinV} {PS : List (List Int × Int)} {k : Nat} {v v' : Value} {S : List CoinV} {x : CoinV} {W W1 W' : World} (h : SpS w R PS k v S W) (hk : k < PS.length) (hx : x ∈ R) (hp : Cn.place x.it = PS[k]) (hb : Below w.heap.size w W1) (ha : AppK W1 w.heap.size S x v v' W') : SpS w R PS (k + 1) v' (S ++ [x]) W' where
  len := by rw [List.length_append, h.len]; rfl
  mem y hy := by
    rcases List.mem_append.1 hy with hy | hy
    · exact h.mem y hy
    · rw [List.mem_singleton.1 hy]; exact hx
  pls := by rw [List.map_append, h.pls, List.take_succ_eq_append_getElem hk]; simp [hp]
  own := by
    have := ha.1
    rw [List.length_append, show coinCells (S ++ [x]) = coinCells S ++ coinCell x from by simp [coinCells]]
    exact this
  below := hb.trans ha.2
def SpTold (R : List CoinV) (PS : List (List Int × Int)) (w w' : World) (e : Ending) : Prop :=
  (∃ v S, e = .returned (.tuple #[v, .nilIface]) ∧ SpS w R PS PS.length v S w') ∨ (∃ k, ∃ hk : k < PS.length, NoneAt R PS[k] ∧ e = .returned (.tuple #[.slice none 0 0, .iface 27 (.int .i64 5)]))
set_option maxRecDepth 100000 in
set_option maxHeartbeats 4000000 in
theorem spentBy_any (t : TxV) (cv : Value) (R : List CoinV) (w : World) (ht : HasTx w t) (hc : HasCoins w cv R) (hs : Cn.setF (R.map CoinV.it) = 0) (h40 : t.ins.length ≤ 40) :
    Calls Tryz.prog 20 #[t.val, cv] w fun e w' => SpTold R (t.ins.map fun i => (i.tx, i.at')) w w' e ∧ Below w.heap.size w w' := by
  obtain ⟨iv, ins, ov, outs, time⟩ := t
  obtain ⟨hi, ho⟩ := ht
  obtain ⟨ia, ic, hie, him, hir⟩ := hi.form
  obtain ⟨oa, oc, hoe, hom, _⟩ := ho.form
  simp only at hi ho hie hoe hir h40
  subst hie hoe
  have hD := hi.2
  obtain ⟨ca, cc, rfl, _, _⟩ := coins_form hc
  have HID := hide hD
  have HIR := hide hir
  unfold maxLen at him hom
  show Calls Tryz.prog 20 #[.agg #[.slice ia ins.length ic, .slice oa outs.length oc, .int .i64 time], .slice ca R.length cc] w _
  obtain ⟨PS, hPS⟩ : ∃ PS, PS = ins.map fun i => (i.tx, i.at') := ⟨_, rfl⟩
  have HPL : Hid (PS.length = ins.length) := hide (by rw [hPS]; simp)
  have HPG : Hid (∀ k (hk : k < ins.length) (hk2 : k < PS.length), PS[k] = (ins[k].tx, ins[k].at')) := hide (fun k hk hk2 => by subst hPS; simp)
  have HAT : Hid (∀ k (hk : k < ins.length) W, Below w.heap.size w W → Calls Tryz.prog 22 #[.slice ca R.length cc, .agg (vals ins[k].tx ++ [Value.int .i64 ins[k].at']).toArray] W fun e w' => AtTold R (ins[k].tx, ins[k].at') e ∧ Below W.heap.size W w') := hide (fun k hk W hW => at_any _ R _ _ W (hc.below hW) hs (hD _ (List.getElem_mem hk)).1 (hD _ (List.getElem_mem hk)).2.1)
  have HOK := hide (fun x (hx : x ∈ R) => hc.2 x hx)
  have hzi := zero_in
  obtain ⟨Y, hY⟩ : ∃ Y, Y = vals (List.replicate 32 0) ++ ([.int .i64 0, .slice none 0 0] : List Value) := ⟨_, rfl⟩
  rw [← hY] at hzi
  have hYl : Y.length = 34 := by rw [hY]; simp [vals]
  have hYp : ¬ Y = [] := by intro h; rw [h] at hYl; cases hYl
  have HYL := hide hYl
  have hzc := zero_coin
  obtain ⟨Z, hZ⟩ : ∃ Z, Z = ZC := ⟨_, rfl⟩
  have hzc2 : ∀ w : World, (zeroValue 54).run Tryz.prog w = .ok (.agg Z.toArray) w := by rw [hZ]; exact hzc
  have hZl : Z.length = 36 := by rw [hZ]; simp [ZC, vals]
  have hZ1 : ∀ v ∈ Z, v.oneCell' = true := by rw [hZ]; exact coin_ones ⟨List.replicate 32 0, 0, 0, .slice none 0 0, [], 0⟩ ⟨_, _, _, rfl⟩
  have hZp : ¬ Z = [] := by intro h; rw [h] at hZl; cases hZl
  have HZL := hide hZl
  have HZ1 := hide hZ1
  have HZE := hide hZ
  have HIK : Hid (∀ k (hk : k < ins.length), ∃ a n c, ins[k].kv = .slice a n c) := hide (fun k hk => by
    have hkk := (hD _ (List.getElem_mem hk)).2.2
    obtain ⟨a, c, e, _⟩ := hkk.form
    exact ⟨a, _, c, e⟩)
  obtain ⟨W0, hW0⟩ : ∃ W0, W0 = w.alloc (.cells #[.slice ia ins.length ic, .slice oa outs.length oc, .int .i64 time] 26) := ⟨_, rfl⟩
  have HI0 : Hid (Is W0 w.heap.size [.slice ia ins.length ic, .slice oa outs.length oc, .int .i64 time] 26) := hide (by rw [hW0]; exact Is.new w [.slice ia ins.length ic, .slice oa outs.length oc, .int .i64 time] 26)
  have HB0 : Hid (Below w.heap.size w W0) := hide (by rw [hW0]; exact below_alloc w _)
  have hcell := HI0.out.cell 0
  simp only [List.getElem?_cons_zero] at hcell
  have HST : Hid (SpS w R PS 0 (.slice none 0 0) [] W0) := hide ⟨rfl, (fun x hx => absurd hx (by simp)), (by simp), World.ownsRow_nil W0 w.heap.size 54 36, HB0.out⟩
  obtain ⟨il, hil⟩ : ∃ n, n = ins.length := ⟨_, rfl⟩
  obtain ⟨n, hn⟩ : ∃ n, n = R.length := ⟨_, rfl⟩
  have HIL := hide hil
  rw [← hil] at him h40 HPL hcell
  rw [← hn] at HAT
  rw [← hil] at hW0
  rw [← hil, ← hn, ← hPS]
  clear hY hYl hzc hZ hZl hZ1 hi ho hir hD hc hs hPS hil hn HI0
  generalize outs.length = ol at *
  go_enter Tryz.func20, Tryz.ntmps20
  go_wp2_with fail
  rw [← hW0]
  clear hW0
  go_wp2
  go_loopw [6, 14] (fun v i wr => ∃ (k : Nat) (S : List CoinV), k ≤ il ∧ i = .int .i64 k ∧ SpS w R PS k v S wr) (fun _ i _ => il - (intOf i).toNat)
  case atStart => exact ⟨0, [], by omega, rfl, HST.out⟩
  case round =>
    obtain ⟨k, S, hk, rfl, hsp⟩ := hrel
    obtain ⟨va, vc, hv⟩ := owns_form hsp.own
    subst hv
    have HSP := hide hsp
    clear hsp
    by_cases hltn : k < il
    · have hki : (k : Int) < (il : Int) := by omega
      have hlt : k < ins.length := by rw [← HIL.out]; exact hltn
      obtain ⟨bi, oi, rfl, hc1, hc2, hbi, hri⟩ := HIR.out k hlt
      obtain ⟨IC, hIC⟩ : ∃ C, C = inCell ins[k] := ⟨_, rfl⟩
      obtain ⟨PK, hPK⟩ : ∃ C, C = vals ins[k].tx ++ [Value.int .i64 ins[k].at'] := ⟨_, rfl⟩
      have h32 := (HID.out _ (List.getElem_mem hlt)).1
      have HICL : Hid (IC.length = 34) := hide (by rw [hIC]; exact inCell_length _ h32)
      have HIC1 : Hid (∀ v ∈ IC, v.oneCell' = true) := hide (by
        obtain ⟨a1, n1, c1, hkv⟩ := HIK.out k hlt
        rw [hIC]
        intro v hv
        unfold inCell at hv
        rcases List.mem_append.1 hv with hv | hv
        · exact vals_one _ v hv
        · simp only [List.mem_cons, List.not_mem_nil, or_false] at hv
          rcases hv with rfl | rfl
          · rfl
          · rw [hkv]; rfl)
      have HPKL : Hid (PK.length = 33) := hide (by rw [hPK]; simp [vals_length, h32])
      have hPKp : ¬ PK = [] := by intro h; have := HPKL.out; rw [h] at this; cases this
      have hICp : ¬ IC = [] := by intro h; have := HICL.out; rw [h] at this; cases this
      have HRI : Hid (wr.rangeAt bi (oi + k * 34) IC) := hide (by rw [hIC]; exact range_keep (range_at hri (fun x hx => inCell_length x (HID.out x hx).1) k hlt) HSP.out.below hbi)
      have HIP : Hid (∀ W, Is W wr.heap.size IC 49 → W.rangeAt wr.heap.size 0 PK) := hide (fun W hW => by
        have h2 := is_range hW
        rw [hIC] at h2
        rw [hPK]
        have h3 : inCell ins[k] = (vals ins[k].tx ++ [Value.int .i64 ins[k].at']) ++ [ins[k].kv] := by simp [inCell]
        rw [h3] at h2
        exact (tx_range_part h2).1)
      have HATK := hide (fun W (hW : Below w.heap.size w W) => HAT.out k hlt W hW)
      rw [← hPK] at HATK
      have HPGK := hide (HPG.out k hlt (by rw [HPL.out]; exact hltn))
      have HKP : Hid (k < PS.length) := hide (by rw [HPL.out]; exact hltn)
      clear hIC hPK h32 hri
      go_wp2_with (first
        | (refine wpList_load_part 49 IC bi (oi + k * 34) rfl (.tmp 16) rfl rfl HRI.out Tryz.underlying49 rfl size_in HICL.out ?_)
        | (refine wpList_store_any3 49 Y IC wr.heap.size rfl (.tmp 8) (.tmp 17) rfl rfl rfl rfl (Is.new wr _ _) size_in HYL.out HICL.out HIC1.out ?_; intro w3 hi3 hw3; have hb3 : Below wr.heap.size wr w3 := (by rw [hw3]; exact ck_new); have HPR := hide (HIP.out _ hi3); have HB3 := hide (HSP.out.below.trans (hb3.mono HSP.out.below.size)); have HO3 := hide (owns_below HSP.out.own hb3); clear hi3 hw3 hb3)
        | (refine wpList_load_part 46 PK wr.heap.size 0 rfl (.tmp 20) rfl rfl HPR.out Tryz.underlying46 rfl size_placeC HPKL.out ?_))
      refine (HATK.out _ HB3.out).mono ?_
      rintro e w4 ⟨hat, hb4⟩
      have HO4 := hide (owns_below HO3.out hb4)
      have HB4 := hide (HB3.out.trans (hb4.mono HB3.out.size))
      clear hb4
      rcases hat with ⟨x, hxR, hxp, rfl⟩ | ⟨hna, rfl⟩
      · obtain ⟨C, hC⟩ : ∃ C, C = coinCell x := ⟨_, rfl⟩
        have hxo := HOK.out x hxR
        have HCLN : Hid (C.length = 36) := hide (by rw [hC]; exact coinCell_length _ hxo.1)
        have HC1 : Hid (∀ v ∈ C, v.oneCell' = true) := hide (by rw [hC]; exact coin_ones _ (hasOps_slice hxo.2.2))
        have hCp : ¬ C = [] := by intro h; have := HCLN.out; rw [h] at this; cases this
        have HAPP := hide (fun W (hW : Below w.heap.size w W) (ho : W.ownsRow w.heap.size 54 36 (.slice va S.length vc) S.length (coinCells S)) ty => run_appC W w.heap.size S x (.slice va S.length vc) ho hxo.1 (hasOps_slice hxo.2.2) (by have := HSP.out.len; omega) hW.size ty)
        have HNX := hide (fun v' W1 W' (hW : Below w.heap.size w W1) (ha : AppK W1 w.heap.size S x (.slice va S.length vc) v' W') => HSP.out.next HKP.out hxR (by rw [HPGK.out]; exact hxp) hW ha)
        rw [← hC] at HAPP ⊢
        clear hC hxo hxp
        go_wp2_with (first
          | (refine wpList_store_any3 54 Z C w4.heap.size rfl (.tmp 9) (.tmp 23) rfl rfl rfl rfl (Is.new w4 _ _) size_coin HZL.out HCLN.out HC1.out ?_; intro w5 hi5 hw5; have hb5 : Below w4.heap.size w4 w5 := (by rw [hw5]; exact ck_new); have HI5 := hide hi5; have HB5 := hide (HB4.out.trans (hb5.mono HB4.out.size)); have HO5 := hide (owns_below HO4.out hb5); clear hi5 hw5 hb5)
          | (refine wpList_load_part 54 C w4.heap.size 0 rfl (.tmp 9) rfl rfl (is_range HI5.out) Tryz.underlying54 rfl size_coin HCLN.out ?_)
          | (refine wpList_build_one 22 54 C rfl (.tmp 29) rfl rfl Tryz.underlying22 ZC info_coinS (by omega) (by omega) HCLN.out ?_)
          | (at_builtin; refine cl_append_by (AppK w5 w.heap.size S x (.slice va S.length vc)) rfl (.tmp 28) (.tmp 30) rfl (.slice va S.length vc) (.slice (some ⟨w5.heap.size, 0, none⟩) 1 1) rfl rfl (fun ty => HAPP.out w5 HB5.out HO5.out ty) ?_; intro v6 w6 h6; have HA6 := hide h6; clear h6))
        go_roundw
        case rel => exact ⟨k + 1, S ++ [x], by omega, by go_num, HNX.out _ _ _ HB5.out HA6.out⟩
        case measure => simp [intOf]; omega
      · have HNA := hide hna
        rw [← HZE.out]
        clear hna
        go_wp2_with (refine wpList_store_any3 54 Z Z w4.heap.size rfl (.tmp 9) (.tmp 23) rfl rfl rfl rfl (Is.new w4 _ _) size_coin HZL.out HZL.out HZ1.out ?_; intro w5 hi5 hw5; have hb5 : Below w4.heap.size w4 w5 := (by rw [hw5]; exact ck_new); have HB5 := hide (HB4.out.trans (hb5.mono HB4.out.size)); clear hi5 hw5 hb5)
        exact bodyPost_ret (v := .tuple #[.slice none 0 0, .iface 27 (.int .i64 5)]) (by simp [results, Tryz.results20, go_sem]) rfl ⟨.inr ⟨k, HKP.out, by rw [HPGK.out]; exact HNA.out, rfl⟩, HB5.out⟩
    · have hki : ¬ (k : Int) < (il : Int) := by omega
      have HE : Hid (SpS w R PS PS.length (.slice va S.length vc) S wr) := hide (by
        have e : PS.length = k := by rw [HPL.out]; omega
        rw [e]; exact HSP.out)
      go_wp2
      exact bodyPost_ret (v := .tuple #[.slice va S.length vc, .nilIface]) (by simp [results, Tryz.results20, go_sem]) rfl ⟨.inl ⟨_, S, rfl, HE.out⟩, HE.out.below⟩
end Go.Proofs.YtmjilohlchkicaaGreatDoor

/- Places and coins that are built out of their parts. -/
namespace Go.Proofs.YtmjilohlchkicaaGreatDoor
open Go.RowKit
set_option linter.unusedVariables false
set_option linter.unusedSimpArgs false

theorem cb_fold (c base : List Value) (off : Nat) (h : off + c.length ≤ base.length) :
    c.toArray.zipIdx.foldl (fun (cs : Array Value) (x : Value × Nat) => cs.setIfInBounds (off + x.2) x.1) base.toArray = (base.take off ++ c ++ base.drop (off + c.length)).toArray := by
  have hf := fold_set c 0 off base.toArray (by simpa using h)
  have e2 : c.toArray.zipIdx = (c.zipIdx).toArray := by simp
  rw [e2, List.size_toArray, List.foldl_toArray' _ _ _ (by simp)]
  apply Array.ext'
  apply List.ext_getElem?
  intro i
  have := hf.2 i
  rw [Array.getElem?_toList, this]
  simp only [Nat.add_zero, List.append_assoc]
  by_cases h1 : off ≤ i ∧ i < off + c.length
  · rw [if_pos h1, List.getElem?_append_right (by rw [List.length_take]; omega), List.getElem?_append_left (by rw [List.length_take]; omega), List.length_take, Nat.min_eq_left (by omega)]
  · rw [if_neg h1]
    by_cases h2 : i < off
    · rw [List.getElem?_append_left (by rw [List.length_take]; omega), List.getElem?_take, if_pos h2]; simp
    · rw [List.getElem?_append_right (by rw [List.length_take]; omega), List.getElem?_append_right (by rw [List.length_take]; omega), List.length_take, Nat.min_eq_left (by omega), List.getElem?_drop]
      simp only [List.getElem?_toArray]
      congr 1
      omega
theorem cb_fill (place : Nat → Option (Nat × Nat)) (base : List Value) (i off : Nat) (v : Value) (c : List Value) (rest : List (Nat × Value)) (hp : place i = some (off, c.length)) (hv : v.cells = c.toArray) (h : off + c.length ≤ base.length) :
    Instr.fill place base.toArray ((i, v) :: rest) = Instr.fill place (base.take off ++ c ++ base.drop (off + c.length)).toArray rest := by
  rw [Instr.fill, hp]
  simp only [hv]
  rw [if_neg (by simp; omega), cb_fold c base off h]

def zPl : List Value := vals (List.replicate 32 0) ++ [Value.int .i64 0]
def zCn : List Value := vals (List.replicate 32 0) ++ ([Value.int .i64 0, .int .i64 0, .slice none 0 0, .int .i64 0] : List Value)
theorem info_pl : (Tryz.prog.info? 46).map (fun i => i.zero) = some (some (.agg zPl.toArray)) := by kernel_rfl
theorem info_cn : (Tryz.prog.info? 54).map (fun i => i.zero) = some (some (.agg zCn.toArray)) := by kernel_rfl
theorem places_pl : ∃ fs, Tryz.prog.underlying 46 = some (.struct fs) ∧ fs.toList.mapM (fun f => (Tryz.prog.info? f.type).map fun i => (f.offset, i.size)) = some [(0, 32), (32, 1)] := ⟨_, Tryz.underlying46, by kernel_rfl⟩
theorem places_cn : ∃ fs, Tryz.prog.underlying 54 = some (.struct fs) ∧ fs.toList.mapM (fun f => (Tryz.prog.info? f.type).map fun i => (f.offset, i.size)) = some [(0, 33), (33, 2), (35, 1)] := ⟨_, Tryz.underlying54, by kernel_rfl⟩
theorem built_pl (D : List Value) (k : Int) (hD : D.length = 32) : Tryz.prog.built 46 [(0, .agg D.toArray), (1, Value.int .i64 k)] = some (D ++ [Value.int .i64 k]).toArray := by
  obtain ⟨fs, hu, hp⟩ := places_pl
  unfold Program.built
  cases hi : Tryz.prog.info? 46 with
  | none => have := info_pl; rw [hi] at this; cases this
  | some it =>
    have hz := info_pl
    rw [hi] at hz
    simp only [Option.map_some, Option.some.injEq] at hz
    rw [hu]
    simp only [hz, hp]
    have hzl : zPl.length = 33 := by decide
    rw [show (Value.agg zPl.toArray).cells = zPl.toArray from rfl]
    rw [cb_fill _ zPl 0 0 (.agg D.toArray) D _ (by rw [hD]; rfl) rfl (by omega)]
    have e1 : zPl.take 0 ++ D ++ zPl.drop (0 + D.length) = D ++ [Value.int .i64 0] := by rw [hD]; rfl
    rw [e1, cb_fill _ _ 1 32 (.int .i64 k) [Value.int .i64 k] _ rfl rfl (by simp; omega)]
    have e2 : (D ++ [Value.int .i64 0]).take 32 = D := by rw [List.take_append_of_le_length (by omega), List.take_of_length_le (by omega)]
    have e3 : (D ++ [Value.int .i64 0]).drop (32 + [Value.int .i64 k].length) = [] := List.drop_eq_nil_of_le (by simp; omega)
    rw [e2, e3]
    simp [Instr.fill]
theorem wpList_build_pl (D : List Value) (k : Int) {w : World} {ops : Array Oper} {rest : List Oper} {o : Oper} {a : Act} {Q : Exit → Act → World → Prop} (hgd : o.guard = none) (s x : Operand) (ho : o.op = .build 46 #[(0, s), (1, x)]) (hs : a.eval s = .agg D.toArray) (hx : a.eval x = .int .i64 k) (hD : D.length = 32)
    (hw : wpList Tryz.prog ops Q rest (a.put o.dst (.agg (D ++ [Value.int .i64 k]).toArray)) w) : wpList Tryz.prog ops Q (o :: rest) a w := by
  have e : Tryz.prog.built 46 ((#[(0, s), (1, x)] : Array (Nat × Operand)).map fun (i, x) => (i, a.eval x)).toList = some (D ++ [Value.int .i64 k]).toArray := by
    simp only [List.map_toArray, List.map_cons, List.map_nil, hs, hx]
    exact built_pl D k hD
  refine wpList_build hgd 46 #[(0, s), (1, x)] ho (by rw [e]; rfl) ?_
  rw [e]
  exact hw
theorem built_cn (P O : List Value) (h : Int) (hP : P.length = 33) (hO : O.length = 2) : Tryz.prog.built 54 [(0, .agg P.toArray), (1, .agg O.toArray), (2, Value.int .i64 h)] = some (P ++ (O ++ [Value.int .i64 h])).toArray := by
  obtain ⟨fs, hu, hp⟩ := places_cn
  unfold Program.built
  cases hi : Tryz.prog.info? 54 with
  | none => have := info_cn; rw [hi] at this; cases this
  | some it =>
    have hz := info_cn
    rw [hi] at hz
    simp only [Option.map_some, Option.some.injEq] at hz
    rw [hu]
    simp only [hz, hp]
    have hzl : zCn.length = 36 := by decide
    rw [show (Value.agg zCn.toArray).cells = zCn.toArray from rfl]
    rw [cb_fill _ zCn 0 0 (.agg P.toArray) P _ (by rw [hP]; rfl) rfl (by omega)]
    have e1 : zCn.take 0 ++ P ++ zCn.drop (0 + P.length) = P ++ [Value.int .i64 0, .slice none 0 0, .int .i64 0] := by rw [hP]; rfl
    rw [e1, cb_fill _ _ 1 33 (.agg O.toArray) O _ (by rw [hO]; rfl) rfl (by simp; omega)]
    have e2 : (P ++ [Value.int .i64 0, .slice none 0 0, .int .i64 0]).take 33 = P := by rw [List.take_append_of_le_length (by omega), List.take_of_length_le (by omega)]
    have e3 : (P ++ [Value.int .i64 0, .slice none 0 0, .int .i64 0]).drop (33 + O.length) = [Value.int .i64 0] := by
      rw [hO, List.drop_append]; simp [hP]
    rw [e2, e3, cb_fill _ _ 2 35 (.int .i64 h) [Value.int .i64 h] _ rfl rfl (by simp; omega)]
    have e4 : (P ++ O ++ [Value.int .i64 0]).take 35 = P ++ O := by rw [List.take_append_of_le_length (by simp; omega), List.take_of_length_le (by simp; omega)]
    have e5 : (P ++ O ++ [Value.int .i64 0]).drop (35 + [Value.int .i64 h].length) = [] := List.drop_eq_nil_of_le (by simp; omega)
    rw [e4, e5]
    simp [Instr.fill]
theorem wpList_build_cn (P O : List Value) (h : Int) {w : World} {ops : Array Oper} {rest : List Oper} {o : Oper} {a : Act} {Q : Exit → Act → World → Prop} (hgd : o.guard = none) (s x y : Operand) (ho : o.op = .build 54 #[(0, s), (1, x), (2, y)]) (hs : a.eval s = .agg P.toArray) (hx : a.eval x = .agg O.toArray) (hy : a.eval y = .int .i64 h) (hP : P.length = 33) (hO : O.length = 2)
    (hw : wpList Tryz.prog ops Q rest (a.put o.dst (.agg (P ++ (O ++ [Value.int .i64 h])).toArray)) w) : wpList Tryz.prog ops Q (o :: rest) a w := by
  have e : Tryz.prog.built 54 ((#[(0, s), (1, x), (2, y)] : Array (Nat × Operand)).map fun (i, x) => (i, a.eval x)).toList = some (P ++ (O ++ [Value.int .i64 h])).toArray := by
    simp only [List.map_toArray, List.map_cons, List.map_nil, hs, hx, hy]
    exact built_cn P O h hP hO
  refine wpList_build hgd 54 #[(0, s), (1, x), (2, y)] ho (by rw [e]; rfl) ?_
  rw [e]
  exact hw
end Go.Proofs.YtmjilohlchkicaaGreatDoor

/- What is left over. -/
namespace Go.Proofs.YtmjilohlchkicaaGreatDoor
open Go.RowKit
set_option linter.unusedVariables false
set_option linter.unusedSimpArgs false

/-- How much more the first are, of n; what is wrong. -/
def leftF (a b : List Int) (n : Nat) : Int × Int :=
  if (Mo.tot 0 a).2 ≠ 0 then (0, (Mo.tot 0 a).2)
  else if (Mo.tot 0 b).2 ≠ 0 then (0, (Mo.tot 0 b).2)
  else if n = 0 then (0, 0)
  else if (Mo.tot 0 a).1 < (Mo.tot 0 b).1 then (0, 9)
  else ((Mo.tot 0 a).1 - (Mo.tot 0 b).1, 0)
theorem tot_range (l : List Int) (h : (Mo.tot 0 l).2 = 0) : 0 ≤ (Mo.tot 0 l).1 ∧ (Mo.tot 0 l).1 ≤ 1125899906842624 := by
  by_cases hf : Mo.fits 0 l
  · rw [Mo.tot_fits l 0 (by omega) (by omega) hf]
    have h1 := Mo.sum_nonneg l hf.1
    have h2 := hf.2
    dsimp only
    omega
  · exact absurd h (Mo.tot_misfit l 0 (by omega) (by omega) hf).2
theorem errV_ne {c : Int} (h : c ≠ 0) : errV c = .iface 27 (.int .i64 c) := by unfold errV; rw [if_neg h]
set_option maxHeartbeats 1000000 in
theorem leftOver_any (v u : Value) (S N : List CoinV) (w : World) (hv : HasCoins w v S) (hu : HasCoins w u N) (h1 : S.length ≤ 1000) (h2 : N.length ≤ 1000) :
    Calls Tryz.prog 21 #[v, u] w fun e w' => e = .returned (.tuple #[.int .i64 (leftF (amounts S) (amounts N) S.length).1, errV (leftF (amounts S) (amounts N) S.length).2]) ∧ Below w.heap.size w w' := by
  obtain ⟨a, cap, rfl, _, _⟩ := coins_form hv
  have HT := hide (fun W (hW : Below w.heap.size w W) => ctotal_any _ S W (hv.below hW) h1)
  have HU := hide (fun W (hW : Below w.heap.size w W) => ctotal_any _ N W (hu.below hW) h2)
  have r1 := tot_range (amounts S)
  have r2 := tot_range (amounts N)
  unfold leftF
  obtain ⟨n, hn⟩ : ∃ n, n = S.length := ⟨_, rfl⟩
  obtain ⟨p, hp⟩ : ∃ p, p = (Mo.tot 0 (amounts S)).1 := ⟨_, rfl⟩
  obtain ⟨c, hc⟩ : ∃ c, c = (Mo.tot 0 (amounts S)).2 := ⟨_, rfl⟩
  obtain ⟨q, hq⟩ : ∃ q, q = (Mo.tot 0 (amounts N)).1 := ⟨_, rfl⟩
  obtain ⟨d, hd⟩ : ∃ d, d = (Mo.tot 0 (amounts N)).2 := ⟨_, rfl⟩
  rw [← hp, ← hc] at HT r1
  rw [← hq, ← hd] at HU r2
  rw [← hn] at HT
  rw [← hn, ← hp, ← hc, ← hq, ← hd]
  rw [← hn] at h1
  clear hv hu hn hp hc hq hd h2
  by_cases hc0 : c = 0
  · rw [if_neg (by simp [hc0])]
    have R1 := hide (r1 hc0)
    subst hc0
    rw [show errV 0 = .nilIface from rfl] at HT
    clear r1
    by_cases hd0 : d = 0
    · have R2 := hide (r2 hd0)
      subst hd0
      rw [if_neg (by simp)]
      rw [show errV 0 = .nilIface from rfl] at HU
      clear r2
      by_cases hn0 : n = 0
      · subst hn0
        rw [if_pos rfl]
        rw [show errV (0, 0).2 = .nilIface from rfl]
        go_enter Tryz.func21, Tryz.ntmps21
        go_wp2_with fail
        refine (HT.out _ (Below.refl _ _)).mono ?_
        rintro e w1 ⟨rfl, hb1⟩
        go_wp2_with fail
        refine (HU.out _ hb1).mono ?_
        rintro e w2 ⟨rfl, hb2⟩
        go_wp2
        exact bodyPost_ret (v := .tuple #[.int .i64 0, .nilIface]) (by simp [results, Tryz.results21, go_sem]) rfl ⟨rfl, hb1.trans (hb2.mono hb1.size)⟩
      · rw [if_neg hn0]
        have hni : ¬ (n : Int) = 0 := by omega
        by_cases hlt : p < q
        · rw [if_pos hlt]
          rw [show errV (0, 9).2 = .iface 27 (.int .i64 9) from rfl]
          go_enter Tryz.func21, Tryz.ntmps21
          go_wp2_with fail
          refine (HT.out _ (Below.refl _ _)).mono ?_
          rintro e w1 ⟨rfl, hb1⟩
          go_wp2_with fail
          refine (HU.out _ hb1).mono ?_
          rintro e w2 ⟨rfl, hb2⟩
          go_wp2
          exact bodyPost_ret (v := .tuple #[.int .i64 0, .iface 27 (.int .i64 9)]) (by simp [results, Tryz.results21, go_sem]) rfl ⟨rfl, hb1.trans (hb2.mono hb1.size)⟩
        · rw [if_neg hlt]
          have hsub : IntKind.i64.wrap (p - q) = p - q := by
            have a1 := R1.out
            have a2 := R2.out
            simp [IntKind.wrap, IntKind.bits, IntKind.signed]; omega
          rw [show errV (p - q, (0 : Int)).2 = .nilIface from rfl]
          go_enter Tryz.func21, Tryz.ntmps21
          go_wp2_with fail
          refine (HT.out _ (Below.refl _ _)).mono ?_
          rintro e w1 ⟨rfl, hb1⟩
          go_wp2_with fail
          refine (HU.out _ hb1).mono ?_
          rintro e w2 ⟨rfl, hb2⟩
          go_wp2
          exact bodyPost_ret (v := .tuple #[.int .i64 (p - q), .nilIface]) (by simp [results, Tryz.results21, go_sem]) rfl ⟨rfl, hb1.trans (hb2.mono hb1.size)⟩
    · rw [if_pos hd0]
      rw [errV_ne hd0] at HU
      rw [show errV ((0 : Int), d).2 = .iface 27 (.int .i64 d) from errV_ne hd0]
      clear r2 hd0
      go_enter Tryz.func21, Tryz.ntmps21
      go_wp2_with fail
      refine (HT.out _ (Below.refl _ _)).mono ?_
      rintro e w1 ⟨rfl, hb1⟩
      go_wp2_with fail
      refine (HU.out _ hb1).mono ?_
      rintro e w2 ⟨rfl, hb2⟩
      go_wp2
      exact bodyPost_ret (v := .tuple #[.int .i64 0, .iface 27 (.int .i64 d)]) (by simp [results, Tryz.results21, go_sem]) rfl ⟨rfl, hb1.trans (hb2.mono hb1.size)⟩
  · rw [if_pos hc0]
    rw [errV_ne hc0] at HT
    rw [show errV ((0 : Int), c).2 = .iface 27 (.int .i64 c) from errV_ne hc0]
    clear r1 r2 hc0 HU
    go_enter Tryz.func21, Tryz.ntmps21
    go_wp2_with fail
    refine (HT.out _ (Below.refl _ _)).mono ?_
    rintro e w1 ⟨rfl, hb1⟩
    go_wp2
    exact bodyPost_ret (v := .tuple #[.int .i64 0, .iface 27 (.int .i64 c)]) (by simp [results, Tryz.results21, go_sem]) rfl ⟨rfl, hb1⟩
end Go.Proofs.YtmjilohlchkicaaGreatDoor

/- The coins that a payment makes. -/
namespace Go.Proofs.YtmjilohlchkicaaGreatDoor
open Go.RowKit
set_option linter.unusedVariables false
set_option linter.unusedSimpArgs false

def newV (id : List Int) (h : Int) (k : Nat) (o : OutV) : CoinV := ⟨id, k, o.amount, o.lv, o.L, h⟩
def newsV (id : List Int) (h : Int) : Nat → List OutV → List CoinV
  | _, [] => []
  | k, o :: r => newV id h k o :: newsV id h (k + 1) r
theorem newsV_length (id : List Int) (h : Int) : ∀ (k : Nat) (l : List OutV), (newsV id h k l).length = l.length
  | _, [] => rfl
  | k, o :: r => by simp [newsV, newsV_length id h (k + 1) r]
theorem newsV_it (id : List Int) (h : Int) : ∀ (k : Nat) (l : List OutV), (newsV id h k l).map CoinV.it = Cn.newsFrom id h k (l.map OutV.it)
  | _, [] => rfl
  | k, o :: r => by
    simp only [newsV, List.map_cons, Cn.newsFrom, newsV_it id h (k + 1) r]
    rfl
theorem newsV_snoc (id : List Int) (h : Int) (o : OutV) : ∀ (k : Nat) (l : List OutV), newsV id h k (l ++ [o]) = newsV id h k l ++ [newV id h (k + l.length) o]
  | k, [] => by simp [newsV]
  | k, x :: r => by
    simp only [List.cons_append, newsV, newsV_snoc id h o (k + 1) r, List.length_cons]
    rw [show k + 1 + r.length = k + (r.length + 1) from by omega]
theorem newsV_mem {id : List Int} {h : Int} {c : CoinV} : ∀ {k : Nat} {l : List OutV}, c ∈ newsV id h k l → ∃ o ∈ l, ∃ j, c = newV id h j o
  | k, [], hc => by cases hc
  | k, o :: r, hc => by
    rcases List.mem_cons.1 hc with rfl | hc
    · exact ⟨o, by simp, k, rfl⟩
    · obtain ⟨o', ho, j, e⟩ := newsV_mem hc
      exact ⟨o', by simp [ho], j, e⟩
theorem newV_cell (id : List Int) (h : Int) (k : Nat) (o : OutV) : coinCell (newV id h k o) = (vals id ++ [Value.int .i64 (k : Int)]) ++ (outCell o ++ [Value.int .i64 h]) := by
  simp [coinCell, newV, outCell]
/-- The coins made so far, in a row of one's own. -/
structure OwS (w0 w : World) (id : List Int) (h : Int) (g : Nat) (outs : List OutV) (k : Nat) (v : Value) (W : World) : Prop where
  own : W.ownsRow w.heap.size 54 36 v k (coinCells (newsV id h 0 (outs.take k)))
  box : Is W g (vals id) 44
  below : Below w.heap.size w W
  old : Below w0.heap.size w0 W
theorem OwS.next {w0 w : World} {id : List Int} {h : Int} {g : Nat} {outs : List OutV} {k : Nat} {v v' : Value} {W W1 W' : World} (hs : OwS w0 w id h g outs k v W) (hk : k < outs.length) (hg : g < w.heap.size) (h0 : w0.heap.size ≤ w.heap.size) (hb : Below W.heap.size W W1) (ha : AppK W1 w.heap.size (newsV id h 0 (outs.take k)) (newV id h k outs[k]) v v' W') : OwS w0 w id h g outs (k + 1) v' W' where
  own := by
    have e := newsV_snoc id h outs[k] 0 (outs.take k)
    rw [← List.take_succ_eq_append_getElem hk, Nat.zero_add, List.length_take, Nat.min_eq_left (by omega)] at e
    rw [e]
    have := ha.1
    rw [newsV_length, List.length_take, Nat.min_eq_left (by omega)] at this
    rw [show coinCells (newsV id h 0 (outs.take k) ++ [newV id h k outs[k]]) = coinCells (newsV id h 0 (outs.take k)) ++ coinCell (newV id h k outs[k]) from by simp [coinCells]]
    exact this
  box := (hs.box.below hb hs.box.lt).below ha.2 hg
  below := (hs.below.trans (hb.mono hs.below.size)).trans ha.2
  old := (hs.old.trans (hb.mono hs.old.size)).trans (ha.2.mono h0)
def OwTold (t : TxV) (h : Int) (w w' : World) (e : Ending) : Prop :=
  if Tm.check t.it = 0 then ∃ v, e = .returned (.tuple #[v, .nilIface]) ∧ w'.ownsRow w.heap.size 54 36 v t.outs.length (coinCells (newsV (Tm.id t.it) h 0 t.outs))
  else e = .returned (.tuple #[.slice none 0 0, errV (Tm.check t.it)])
theorem owns_mono {w : World} {base base' n size : Nat} {e : TypeId} {v : Value} {xs : List Value} (h : w.ownsRow base e size v n xs) (hb : base' ≤ base) : w.ownsRow base' e size v n xs := by
  refine ⟨h.1, ?_⟩
  rcases h.2 with h0 | ⟨g, cap, cur, rfl, hbg, hg, hn, hc, hs, ht⟩
  · exact .inl h0
  · exact .inr ⟨g, cap, cur, rfl, Nat.le_trans hb hbg, hg, hn, hc, hs, ht⟩
theorem wpList_build_plE (D P : List Value) (k : Int) (hP : P = D ++ [Value.int .i64 k]) {w : World} {ops : Array Oper} {rest : List Oper} {o : Oper} {a : Act} {Q : Exit → Act → World → Prop} (hgd : o.guard = none) (s x : Operand) (ho : o.op = .build 46 #[(0, s), (1, x)]) (hs : a.eval s = .agg D.toArray) (hx : a.eval x = .int .i64 k) (hD : D.length = 32)
    (hw : wpList Tryz.prog ops Q rest (a.put o.dst (.agg P.toArray)) w) : wpList Tryz.prog ops Q (o :: rest) a w := by
  subst hP; exact wpList_build_pl D k hgd s x ho hs hx hD hw
theorem wpList_build_cnE (P O C : List Value) (h : Int) (hC : C = P ++ (O ++ [Value.int .i64 h])) {w : World} {ops : Array Oper} {rest : List Oper} {o : Oper} {a : Act} {Q : Exit → Act → World → Prop} (hgd : o.guard = none) (s x y : Operand) (ho : o.op = .build 54 #[(0, s), (1, x), (2, y)]) (hs : a.eval s = .agg P.toArray) (hx : a.eval x = .agg O.toArray) (hy : a.eval y = .int .i64 h) (hP : P.length = 33) (hO : O.length = 2)
    (hw : wpList Tryz.prog ops Q rest (a.put o.dst (.agg C.toArray)) w) : wpList Tryz.prog ops Q (o :: rest) a w := by
  subst hC; exact wpList_build_cn P O h hgd s x y ho hs hx hy hP hO hw
theorem zero_out (w : World) : (zeroValue 52).run Tryz.prog w = .ok (.agg ([.int .i64 0, .slice none 0 0] : List Value).toArray) w := by kernel_rfl
set_option maxRecDepth 100000 in
set_option maxHeartbeats 4000000 in
theorem ownCoins_any (t : TxV) (h : Int) (w : World) (ht : HasTx w t) (hT : Tab w) (hw : 2 < w.heap.size) :
    Calls Tryz.prog 18 #[t.val, .int .i64 h] w fun e w' => OwTold t h w w' e ∧ Below w.heap.size w w' := by
  unfold OwTold
  have hD32 : (Tm.id t.it).length = 32 := by simp [Tm.id, Sh.sum, Sh.digest]
  have HTG := hide (fun (hc : Tm.check t.it = 0) W (hW : Below w.heap.size w W) => tid_good t W (ht.below hW) hc (hT.below hW hw) (Nat.lt_of_lt_of_le hw hW.size))
  have HTB := hide (fun (hc : Tm.check t.it ≠ 0) W (hW : Below w.heap.size w W) => tid_bad t W (ht.below hW) hc)
  obtain ⟨D, hD⟩ : ∃ D, D = Tm.id t.it := ⟨_, rfl⟩
  obtain ⟨c, hc⟩ : ∃ c, c = Tm.check t.it := ⟨_, rfl⟩
  rw [← hD] at hD32 HTG
  rw [← hc] at HTG HTB
  rw [← hc, ← hD]
  have h40 : c = 0 → t.outs.length ≤ 40 := fun e => by have := (Tm.check_zero _ (hc.symm.trans e)).2.1; simpa [TxV.it] using this
  obtain ⟨iv, ins, ov, outs, time⟩ := t
  obtain ⟨hi, ho⟩ := ht
  obtain ⟨ia, ic, hie, him, _⟩ := hi.form
  obtain ⟨oa, oc, hoe, hom, hor⟩ := ho.form
  simp only at hi ho hie hoe hor h40
  subst hie hoe
  have HOD := hide ho.2
  have HOR := hide hor
  unfold maxLen at him hom
  show Calls Tryz.prog 18 #[.agg #[.slice ia ins.length ic, .slice oa outs.length oc, .int .i64 time], .int .i64 h] w _
  have hzd := zero_dig
  obtain ⟨Z, hZ⟩ : ∃ Z, Z = vals (List.replicate 32 0) := ⟨_, rfl⟩
  have HZE := hide hZ
  rw [← hZ] at hzd
  have hZl : Z.length = 32 := by rw [hZ]; simp [vals]
  have hZ1 : ∀ v ∈ Z, v.oneCell' = true := by rw [hZ]; exact vals_one _
  have hZp : ¬ Z = [] := by intro h; rw [h] at hZl; cases hZl
  have HZL := hide hZl
  have HZ1 := hide hZ1
  obtain ⟨DV, hDV⟩ : ∃ DV, DV = vals D := ⟨_, rfl⟩
  have HDVE := hide hDV
  have HDL : Hid (DV.length = 32) := hide (by rw [hDV, vals_length, hD32])
  have HD1 : Hid (∀ v ∈ DV, v.oneCell' = true) := hide (by rw [hDV]; exact vals_one _)
  have hDp : ¬ DV = [] := by intro h; have := HDL.out; rw [h] at this; cases this
  have HB0 := hide (below_alloc w (.cells #[.slice ia ins.length ic, .slice oa outs.length oc, .int .i64 time] 26))
  have HI0 := hide (Is.new w [.slice ia ins.length ic, .slice oa outs.length oc, .int .i64 time] 26)
  simp only [TxV.val] at HTG HTB
  clear hi ho hor hZ hZl hZ1 hc hD
  by_cases hc0 : c = 0
  · simp only [if_pos hc0]
    have HTI := hide (fun W hW => HTG.out hc0 W hW)
    rw [← hDV] at HTI
    have h40' := h40 hc0
    obtain ⟨ol, hol⟩ : ∃ n, n = outs.length := ⟨_, rfl⟩
    have HOL := hide hol
    rw [← hol] at HTI HB0 HI0 h40' hom ⊢
    clear HTG HTB h40 hc0 hDV hol
    generalize ins.length = il at *
    go_enter Tryz.func18, Tryz.ntmps18
    go_wp2_with fail
    refine (HTI.out _ HB0.out).mono ?_
    rintro e w1 ⟨rfl, hb1⟩
    have HI1 := hide (HI0.out.below hb1 HI0.out.lt)
    have HB1 := hide (HB0.out.trans (hb1.mono HB0.out.size))
    clear hb1 HTI
    go_wp2_with (refine wpList_store_any3 44 Z DV w1.heap.size rfl (.tmp 6) (.tmp 14) rfl rfl rfl rfl (Is.new w1 _ _) size_dig HZL.out HDL.out HD1.out ?_; intro w2 hi2 hw2; have hb2 : Below w1.heap.size w1 w2 := (by rw [hw2]; exact ck_new); have HI2 := hide hi2; have HB2 := hide (HB1.out.trans (hb2.mono HB1.out.size)); have HX2 := hide (HI1.out.below hb2 HI1.out.lt); have hcX := HX2.out.cell 1; simp only [List.getElem?_cons_zero, List.getElem?_cons_succ] at hcX; clear hi2 hw2 hb2)
    have HST : Hid (OwS w w2 D h w1.heap.size outs 0 (.slice none 0 0) w2) := hide ⟨World.ownsRow_nil w2 w2.heap.size 54 36, by rw [← HDVE.out]; exact HI2.out, Below.refl _ _, HB2.out⟩
    have HG : Hid (w1.heap.size < w2.heap.size) := hide HI2.out.lt
    have hzo := zero_out
    obtain ⟨ZO, hZO⟩ : ∃ Z, Z = ([.int .i64 0, .slice none 0 0] : List Value) := ⟨_, rfl⟩
    rw [← hZO] at hzo
    have HZOL : Hid (ZO.length = 2) := hide (by rw [hZO]; rfl)
    have hZOp : ¬ ZO = [] := by rw [hZO]; simp
    clear hZO HI2 HX2
    go_loopw [8, 22] (fun v i wr => ∃ k : Nat, k ≤ ol ∧ i = .int .i64 k ∧ OwS w w2 D h w1.heap.size outs k v wr) (fun _ i _ => ol - (intOf i).toNat)
    case atStart => exact ⟨0, by omega, rfl, HST.out⟩
    case round =>
      obtain ⟨k, hk, rfl, hos⟩ := hrel
      obtain ⟨va, vc, hv⟩ := owns_form hos.own
      subst hv
      have HOS := hide hos
      clear hos HST
      by_cases hltn : k < ol
      · have hki : (k : Int) < (ol : Int) := by omega
        have hlt : k < outs.length := by rw [← HOL.out]; exact hltn
        obtain ⟨bo, oo, rfl, hc1, hc2, hbo, hro⟩ := HOR.out k hlt
        obtain ⟨OC, hOC⟩ : ∃ C, C = outCell outs[k] := ⟨_, rfl⟩
        obtain ⟨PK, hPK⟩ : ∃ P, P = DV ++ [Value.int .i64 (k : Int)] := ⟨_, rfl⟩
        obtain ⟨CK, hCK⟩ : ∃ P, P = PK ++ (OC ++ [Value.int .i64 h]) := ⟨_, rfl⟩
        have HPKE := hide hPK
        have HCKE := hide hCK
        have HOCL : Hid (OC.length = 2) := hide (by rw [hOC]; rfl)
        have hlv := hasOps_slice (HOD.out _ (List.getElem_mem hlt))
        have HOC1 : Hid (∀ v ∈ OC, v.oneCell' = true) := hide (by
          obtain ⟨a1, n1, c1, e1⟩ := hlv
          rw [hOC]; unfold outCell
          intro v hv
          simp only [List.mem_cons, List.not_mem_nil, or_false] at hv
          rcases hv with rfl | rfl
          · rfl
          · rw [e1]; rfl)
        have HPKL : Hid (PK.length = 33) := hide (by rw [hPK]; simp [HDL.out])
        have HCKL : Hid (CK.length = 36) := hide (by rw [hCK]; simp [HPKL.out, HOCL.out])
        have hCKN : CK = coinCell (newV D h k outs[k]) := by rw [newV_cell, hCK, hPK, hOC, HDVE.out]
        have HRO : Hid (wr.rangeAt bo (oo + k * 2) OC) := hide (by rw [hOC]; exact range_keep (range_at hro (fun x hx => rfl) k hlt) HOS.out.old hbo)
        have hOCp : ¬ OC = [] := by intro h; have := HOCL.out; rw [h] at this; cases this
        have hPKp : ¬ PK = [] := by intro h; have := HPKL.out; rw [h] at this; cases this
        have hCKp : ¬ CK = [] := by intro h; have := HCKL.out; rw [h] at this; cases this
        have HAPP := hide (fun W (hW : w2.heap.size ≤ W.heap.size) (ho : W.ownsRow w2.heap.size 54 36 (.slice va k vc) k (coinCells (newsV D h 0 (outs.take k)))) ty => run_appC W w2.heap.size (newsV D h 0 (outs.take k)) (newV D h k outs[k]) (.slice va k vc) (by rw [newsV_length, List.length_take, Nat.min_eq_left (by omega)]; exact ho) hD32 hlv (by rw [newsV_length, List.length_take, Nat.min_eq_left (by omega)]; omega) hW ty)
        have HNX := hide (fun v' W1 W' (hW : Below wr.heap.size wr W1) (ha : AppK W1 w2.heap.size (newsV D h 0 (outs.take k)) (newV D h k outs[k]) (.slice va k vc) v' W') => HOS.out.next hlt HG.out HB2.out.size hW ha)
        rw [← hCKN] at HAPP
        clear hOC hPK hCK hCKN hro hlv
        go_wp2_with (first
          | (refine wpList_load_part 52 OC bo (oo + k * 2) rfl (.tmp 25) rfl rfl HRO.out Tryz.underlying52 rfl size_out HOCL.out ?_)
          | (refine wpList_store_any3 52 ZO OC wr.heap.size rfl (.tmp 10) (.tmp 26) rfl rfl rfl rfl (Is.new wr _ _) size_out HZOL.out HOCL.out HOC1.out ?_; intro w3 hi3 hw3; have hb3 : Below wr.heap.size wr w3 := (by rw [hw3]; exact ck_new); have HI3 := hide hi3; have HB3 := hide hb3; have HO3 := hide (owns_below HOS.out.own hb3); have HD3 := hide (HOS.out.box.below hb3 HOS.out.box.lt); have HS3 := hide (Nat.le_trans HOS.out.below.size hb3.size); rw [← HDVE.out] at HD3; clear hi3 hw3 hb3)
          | (refine wpList_load_part 44 DV w1.heap.size 0 rfl (.tmp 6) rfl rfl (is_range HD3.out) Tryz.underlying44 rfl size_dig HDL.out ?_)
          | (refine wpList_build_plE DV PK k HPKE.out rfl (.tmp 28) (.tmp 29) rfl rfl rfl HDL.out ?_)
          | (refine wpList_load_part 52 OC wr.heap.size 0 rfl (.tmp 10) rfl rfl (is_range HI3.out) Tryz.underlying52 rfl size_out HOCL.out ?_)
          | (refine wpList_build_cnE PK OC CK h HCKE.out rfl (.tmp 30) (.tmp 31) (.tmp 32) rfl rfl rfl rfl HPKL.out HOCL.out ?_)
          | (refine wpList_build_one 22 54 CK rfl (.tmp 33) rfl rfl Tryz.underlying22 ZC info_coinS (by omega) (by omega) HCKL.out ?_)
          | (at_builtin; refine cl_append_by (AppK w3 w2.heap.size (newsV D h 0 (outs.take k)) (newV D h k outs[k]) (.slice va k vc)) rfl (.tmp 27) (.tmp 34) rfl (.slice va k vc) (.slice (some ⟨w3.heap.size, 0, none⟩) 1 1) rfl rfl (fun ty => HAPP.out w3 HS3.out HO3.out ty) ?_; intro v6 w6 h6; have HA6 := hide h6; clear h6))
        go_roundw
        case rel => exact ⟨k + 1, by omega, by go_num, HNX.out _ _ _ HB3.out HA6.out⟩
        case measure => simp [intOf]; omega
      · have hki : ¬ (k : Int) < (ol : Int) := by omega
        have hkl : k = ol := by omega
        have HE : Hid (wr.ownsRow w.heap.size 54 36 (.slice va k vc) ol (coinCells (newsV D h 0 outs))) := hide (by
          have h1 := owns_mono HOS.out.own HB2.out.size
          rw [List.take_of_length_le (by rw [← HOL.out]; omega)] at h1
          rw [hkl] at h1 ⊢
          exact h1)
        clear hkl
        go_wp2
        exact bodyPost_ret (v := .tuple #[.slice va k vc, .nilIface]) (by simp [results, Tryz.results18, go_sem]) rfl ⟨⟨_, rfl, HE.out⟩, HOS.out.old⟩
  · simp only [if_neg hc0]
    have HTI := hide (fun W hW => HTB.out hc0 W hW)
    rw [← HZE.out] at HTI
    rw [errV_ne hc0] at HTI ⊢
    clear HTG HTB h40 hDV hc0
    generalize ins.length = il at *
    generalize outs.length = ol at *
    go_enter Tryz.func18, Tryz.ntmps18
    go_wp2_with fail
    refine (HTI.out _ HB0.out).mono ?_
    rintro e w1 ⟨rfl, hb1⟩
    have HB1 := hide (HB0.out.trans (hb1.mono HB0.out.size))
    clear hb1 HTI
    go_wp2_with (refine wpList_store_any3 44 Z Z w1.heap.size rfl (.tmp 6) (.tmp 14) rfl rfl rfl rfl (Is.new w1 _ _) size_dig HZL.out HZL.out HZ1.out ?_; intro w2 hi2 hw2; have hb2 : Below w1.heap.size w1 w2 := (by rw [hw2]; exact ck_new); have HB2 := hide (HB1.out.trans (hb2.mono HB1.out.size)); clear hi2 hw2 hb2)
    exact bodyPost_ret (v := .tuple #[.slice none 0 0, .iface 27 (.int .i64 c)]) (by simp [results, Tryz.results18, go_sem]) rfl ⟨rfl, HB2.out⟩
end Go.Proofs.YtmjilohlchkicaaGreatDoor

/- Coins cloned. -/
namespace Go.Proofs.YtmjilohlchkicaaGreatDoor
open Go.RowKit
set_option linter.unusedVariables false
set_option linter.unusedSimpArgs false

def zerosC (n : Nat) : Array Value := madeCells ZC.toArray (n * 36)
theorem make_roomC (n : Nat) (hn : n ≤ 100000) (w : World) : (Instr.makeSlice 22 (.int .i64 0) (.int .i64 (n : Int))).run Tryz.prog w = .ok (.slice (some ⟨w.heap.size, 0, none⟩) 0 n) (w.alloc (.cells (zerosC n) 54)) := by
  have h : (Tryz.prog.info? 54).map (fun i => (i.zero, i.size, decide (i.bytes ≤ 1000))) = some (some (.agg ZC.toArray), 36, true) := by kernel_rfl
  cases hi : Tryz.prog.info? 54 with
  | none => rw [hi] at h; cases h
  | some i =>
    rw [hi] at h
    simp only [Option.map_some, Option.some.injEq, Prod.mk.injEq, decide_eq_true_eq] at h
    obtain ⟨h1, h2, h3⟩ := h
    have hm : i.bytes * n ≤ 1000 * 100000 := Nat.mul_le_mul h3 hn
    have hr := run_make (P := Tryz.prog) w 22 54 i _ Tryz.underlying22 hi h1 .i64 .i64 0 n (by omega) (by omega) (by have : ((i.bytes * n : Nat) : Int) ≤ ((1000 * 100000 : Nat) : Int) := Int.ofNat_le.2 hm; rw [Int.natCast_mul] at this; omega) (by omega)
    rw [h2, Int.toNat_natCast] at hr
    exact hr
theorem own_room (w : World) (base n : Nat) (hb : base ≤ w.heap.size) (hn : n ≤ 100000) : (w.alloc (.cells (zerosC n) 54)).ownsRow base 54 36 (.slice (some ⟨w.heap.size, 0, none⟩) 0 n) 0 [] :=
  ⟨by simp, .inr ⟨w.heap.size, n, zerosC n, rfl, hb, heap_alloc_new w _, Nat.zero_le _, by unfold maxLen; omega, by simp [zerosC, madeCells], rfl⟩⟩
theorem Acc.call {W W' : World} {base s n : Nat} {e : TypeId} {v : Value} {cs : List Value} {F : World → Prop} (h : Acc W base e s n v cs F) (hb : Below W.heap.size W W') : Acc W' base e s n v cs F := by
  obtain ⟨⟨S, h1, h2, h3⟩, ho⟩ := h
  exact ⟨⟨S, fun k hk => ⟨(h1 k hk).1, Nat.lt_of_lt_of_le (h1 k hk).2 hb.size⟩, h2, h3.step hb.size (fun k hk => hb.block k (h1 k hk).2)⟩, owns_below ho hb⟩
theorem acc_mapC {W : World} {base s n : Nat} {e : TypeId} {v : Value} {cs : List Value} {F G : World → Prop} (h : Acc W base e s n v cs F) (hG : ∀ W, F W → G W) : Acc W base e s n v cs G := by
  obtain ⟨⟨S, h1, h2, h3⟩, ho⟩ := h
  exact ⟨⟨S, h1, h2, h3.map hG⟩, ho⟩
theorem Acc.says {W : World} {base s n : Nat} {e : TypeId} {v : Value} {cs : List Value} {F : World → Prop} (h : Acc W base e s n v cs F) : F W := by
  obtain ⟨⟨S, h1, h2, h3⟩, ho⟩ := h
  exact h3.out
theorem From.itm {lo : Nat} {W : World} {F : World → Prop} (h : From lo W F) : Itm lo W F := ⟨fun k => lo ≤ k ∧ k < W.heap.size, fun k hk => hk, fun W' hs hk => h W' hs (fun k h1 h2 => hk k ⟨h1, h2⟩)⟩
theorem coins_of_row {W : World} {base n : Nat} {v : Value} {S : List CoinV} (h : W.ownsRow base 54 36 v n (coinCells S)) (hn : S.length = n) (ho : ∀ x ∈ S, CoinOk W x) : HasCoins W v S := by
  refine ⟨?_, ho⟩
  by_cases h0 : 0 < n
  · obtain ⟨g, cap, rfl, _, hg, h1, h2, h3⟩ := owns_some h h0
    exact .inr ⟨g, 0, cap, by rw [hn], by omega, by omega, h2, hg, h3⟩
  · obtain ⟨a, cap, rfl⟩ := owns_form h
    have e : n = 0 := by omega
    rw [e] at hn ⊢
    exact .inl ⟨a, cap, rfl, List.length_eq_zero_iff.1 hn⟩
structure CaS (w : World) (R : List CoinV) (k : Nat) (v : Value) (S : List CoinV) (W : World) : Prop where
  its : S.map CoinV.it = (R.take k).map CoinV.it
  acc : Acc W w.heap.size 54 36 k v (coinCells S) (fun W => ∀ x ∈ S, CoinOk W x)
  below : Below w.heap.size w W
theorem CaS.next {w W W2 W' : World} {R S : List CoinV} {k lo : Nat} {v v' : Value} {x' : CoinV} (h : CaS w R k v S W) (hk : k < R.length) (hx : x'.it = R[k].it) (hlo : W.heap.size ≤ lo) (hF : From lo W2 (fun W => CoinOk W x')) (hb : Below W.heap.size W W2)
    (ha : AppG W2 w.heap.size 54 36 k v (coinCells S) (coinCell x') v' W') : CaS w R (k + 1) v' (S ++ [x']) W' where
  its := by rw [List.map_append, h.its, List.take_succ_eq_append_getElem hk, List.map_append]; simp [hx]
  acc := by
    have ho : W'.ownsRow w.heap.size 54 36 v' (k + 1) (coinCells (S ++ [x'])) := by
      rw [show coinCells (S ++ [x']) = coinCells S ++ coinCell x' from by simp [coinCells]]; exact ha.1
    exact acc_mapC ((h.acc.call hb).app hF.itm (fun b hb' => by have := (World.ownsRow.lt h.acc.own b hb').2; omega) (Nat.le_trans h.below.size hlo) ho ha.2.1 ha.2.2) (fun W hW x hx => by
      rcases List.mem_append.1 hx with hx | hx
      · exact hW.1 x hx
      · rw [List.mem_singleton.1 hx]; exact hW.2)
  below := (h.below.trans (hb.mono h.below.size)).grown ha.2.1 (Nat.le_trans h.below.size hb.size) (fun b hb' => (World.ownsRow.lt h.acc.own b hb').1)
def CaTold (R : List CoinV) (e : Ending) (w' : World) : Prop := ∃ v S, e = .returned v ∧ S.map CoinV.it = R.map CoinV.it ∧ HasCoins w' v S
set_option maxRecDepth 100000 in
set_option maxHeartbeats 4000000 in
theorem cloneAll_any (cv : Value) (R : List CoinV) (w : World) (hc : HasCoins w cv R) (hn : R.length ≤ 100000) (hsm : ∀ x ∈ R, x.L.length ≤ 1000 ∧ ∀ p ∈ x.L, p.1.data.length ≤ 180000000000000) :
    Calls Tryz.prog 24 #[cv] w fun e w' => CaTold R e w' ∧ Below w.heap.size w w' := by
  obtain ⟨ca, cc, rfl, hml, hcr⟩ := coins_form hc
  have HCR := hide hcr
  have HOK := hide (fun x (hx : x ∈ R) W (hW : Below w.heap.size w W) => (hc.2 x hx).below hW)
  have HSM := hide hsm
  have hzc := zero_coin
  obtain ⟨Z, hZ⟩ : ∃ Z, Z = ZC := ⟨_, rfl⟩
  have hzc2 : ∀ w : World, (zeroValue 54).run Tryz.prog w = .ok (.agg Z.toArray) w := by rw [hZ]; exact hzc
  have hZl : Z.length = 36 := by rw [hZ]; simp [ZC, vals]
  have hZp : ¬ Z = [] := by intro h; rw [h] at hZl; cases hZl
  have HZL := hide hZl
  obtain ⟨n, hnn⟩ : ∃ n, n = R.length := ⟨_, rfl⟩
  have HN := hide hnn
  rw [← hnn] at hn hml ⊢
  obtain ⟨ZI, hZI⟩ : ∃ z, z = zerosC n := ⟨_, rfl⟩
  have hmk := fun w => make_roomC n hn w
  rw [← hZI] at hmk
  have HST : Hid (CaS w R 0 (.slice (some ⟨w.heap.size, 0, none⟩) 0 n) [] (w.alloc (.cells ZI 54))) := hide ⟨(by simp), ⟨⟨fun _ => False, fun k hk => hk.elim, fun b hb h => h, fun W' _ _ x hx => absurd hx (by simp)⟩, (by rw [hZI]; exact own_room w w.heap.size n (Nat.le_refl _) hn)⟩, (by exact below_alloc w _)⟩
  clear hcr hc hsm hzc hZ hZl hnn hZI
  go_enter Tryz.func24, Tryz.ntmps24
  go_wp2
  go_loopw [3, 11] (fun v i wr => ∃ (k : Nat) (S : List CoinV), k ≤ n ∧ i = .int .i64 k ∧ CaS w R k v S wr) (fun _ i _ => n - (intOf i).toNat)
  case atStart => exact ⟨0, [], by omega, rfl, HST.out⟩
  case round =>
    obtain ⟨k, S, hk, rfl, hcs⟩ := hrel
    obtain ⟨va, vc, hv⟩ := owns_form hcs.acc.own
    subst hv
    have HCS := hide hcs
    clear hcs HST
    by_cases hltn : k < n
    · have hki : (k : Int) < (n : Int) := by omega
      have hlt : k < R.length := by rw [← HN.out]; exact hltn
      obtain ⟨b, off, rfl, hc1, hc2, hb, hri⟩ := HCR.out k hlt
      obtain ⟨C, hC⟩ : ∃ C, C = coinCell R[k] := ⟨_, rfl⟩
      have hxo := HOK.out _ (List.getElem_mem hlt) w (Below.refl _ _)
      have HCLN : Hid (C.length = 36) := hide (by rw [hC]; exact coinCell_length _ hxo.1)
      have HC1 : Hid (∀ v ∈ C, v.oneCell' = true) := hide (by rw [hC]; exact coin_ones _ (hasOps_slice hxo.2.2))
      have hCp : ¬ C = [] := by intro h; have := HCLN.out; rw [h] at this; cases this
      have HRC : Hid (wr.rangeAt b (off + k * 36) C) := hide (by rw [hC]; exact range_keep hri HCS.out.below hb)
      have HCL := hide (fun W (hW : Below w.heap.size w W) => cclone_any R[k] W (HOK.out _ (List.getElem_mem hlt) W hW) (HSM.out _ (List.getElem_mem hlt)).1 (HSM.out _ (List.getElem_mem hlt)).2)
      rw [← hC] at HCL
      clear hC hxo hri
      go_wp2_with (first
        | (refine wpList_load_part 54 C b (off + k * 36) rfl (.tmp 13) rfl rfl HRC.out Tryz.underlying54 rfl size_coin HCLN.out ?_)
        | (refine wpList_store_any3 54 Z C wr.heap.size rfl (.tmp 5) (.tmp 14) rfl rfl rfl rfl (Is.new wr _ _) size_coin HZL.out HCLN.out HC1.out ?_; intro w3 hi3 hw3; have hb3 : Below wr.heap.size wr w3 := (by rw [hw3]; exact ck_new); have HI3 := hide hi3; have HB3 := hide hb3; have HBW3 := hide (HCS.out.below.trans (hb3.mono HCS.out.below.size)); clear hi3 hw3 hb3)
        | (refine wpList_load_part 54 C wr.heap.size 0 rfl (.tmp 5) rfl rfl (is_range HI3.out) Tryz.underlying54 rfl size_coin HCLN.out ?_))
      refine (HCL.out _ HBW3.out).mono ?_
      rintro e w4 ⟨⟨x', rfl, hx1, hx2f⟩, hb4⟩
      obtain ⟨C4, hC4⟩ : ∃ C, C = coinCell x' := ⟨_, rfl⟩
      have hx2 := hx2f.out
      have HCLN4 : Hid (C4.length = 36) := hide (by rw [hC4]; exact coinCell_length _ hx2.1)
      have HC14 : Hid (∀ v ∈ C4, v.oneCell' = true) := hide (by rw [hC4]; exact coin_ones _ (hasOps_slice hx2.2.2))
      have hC4p : ¬ C4 = [] := by intro h; have := HCLN4.out; rw [h] at this; cases this
      have HBA := hide (below_alloc w4 (.cells C4.toArray 54))
      have HB5 : Hid (Below wr.heap.size wr (w4.alloc (.cells C4.toArray 54))) := hide ((HB3.out.trans (hb4.mono HB3.out.size)).trans (HBA.out.mono (Nat.le_trans HB3.out.size hb4.size)))
      have HFR : Hid (From w3.heap.size (w4.alloc (.cells C4.toArray 54)) (fun W => CoinOk W x')) := hide (hx2f.call HBA.out)
      have HOW := hide (owns_below HCS.out.acc.own HB5.out)
      have HAPP := hide (fun ty => run_app1 elem_coin (w4.alloc (.cells C4.toArray 54)) w.heap.size k (.slice va k vc) (coinCells S) C4 HOW.out w4.heap.size 1 (is_range (Is.new w4 C4 54)) HCLN4.out HC14.out (by omega) (Nat.le_trans HCS.out.below.size HB5.out.size) ty)
      have HNX := hide (fun v' W' (ha : AppG (w4.alloc (.cells C4.toArray 54)) w.heap.size 54 36 k (.slice va k vc) (coinCells S) C4 v' W') => HCS.out.next (x' := x') hlt hx1 HB3.out.size HFR.out HB5.out (by rw [← hC4]; exact ha))
      rw [← hC4]
      clear hC4 hx2 hx2f hx1 hb4 HCL
      go_wp2_with (first
        | (refine wpList_build_one 22 54 C4 rfl (.tmp 17) rfl rfl Tryz.underlying22 ZC info_coinS (by omega) (by omega) HCLN4.out ?_)
        | (at_builtin; refine cl_append_by (AppG (w4.alloc (.cells C4.toArray 54)) w.heap.size 54 36 k (.slice va k vc) (coinCells S) C4) rfl (.tmp 15) (.tmp 18) rfl (.slice va k vc) (.slice (some ⟨w4.heap.size, 0, none⟩) 1 1) rfl rfl (fun ty => HAPP.out ty) ?_; intro v6 w6 h6; have HA6 := hide h6; clear h6))
      go_roundw
      case rel => exact ⟨k + 1, S ++ [x'], by omega, by go_num, HNX.out _ _ HA6.out⟩
      case measure => simp [intOf]; omega
    · have hki : ¬ (k : Int) < (n : Int) := by omega
      have HE : Hid (CaTold R (.returned (.slice va k vc)) wr) := hide (by
        have hk2 : k = R.length := by rw [← HN.out]; omega
        have h1 := HCS.out.its
        rw [List.take_of_length_le (by omega)] at h1
        have h2 : S.length = k := by have := congrArg List.length h1; rw [List.length_map, List.length_map] at this; omega
        exact ⟨_, S, rfl, h1, coins_of_row HCS.out.acc.own h2 HCS.out.acc.says⟩)
      go_wp2
      exact bodyPost_ret (v := .slice va k vc) (by simp [results, Tryz.results24, go_sem]) rfl ⟨HE.out, HCS.out.below⟩
end Go.Proofs.YtmjilohlchkicaaGreatDoor

/- A set with coins exchanged: the parts. -/
namespace Go.Proofs.YtmjilohlchkicaaGreatDoor
open Go.RowKit Go.Maps
set_option linter.unusedVariables false
set_option linter.unusedSimpArgs false

theorem map_low {H : Type} {w w' : World} {P : Program} {k : TypeId} {E : Value → Option (DataW H × List MemPlace)} {b n B : Nat} {D : DataW H} (h : w.ownsMap P k E b n D) (hb : Below B w w') (hB : b < B) : w'.ownsMap P k E b n D := by
  obtain ⟨es, clock, h1, F, hs, hD⟩ := h
  exact ⟨es, clock, (hb.block b hB).trans h1, F, hs, hD⟩
theorem app_none (w : World) (base : Nat) (v : Value) (n : Nat) (xs : List Value) (hown : w.ownsRow base 54 36 v n xs) (hm : n ≤ 1000000) (hbase : base ≤ w.heap.size) (a : Option Addr) (c : Nat) (ty : TypeId) :
    ∃ v' w', (Builtin.append_ #[22, 22] ty #[v, .slice a 0 c]).run Tryz.prog w = .ok v' w' ∧ w'.ownsRow base 54 36 v' n xs ∧ w.grownBy w' v.ownBlock := by
  obtain ⟨i, z, hu, hi, hz, hs, hby, hzs, hsz⟩ := elem_coin
  cases a with
  | none =>
    refine ⟨v, w, ?_, hown, ⟨rfl, rfl, rfl, Nat.le_refl _, fun _ _ _ => rfl⟩⟩
    rcases hown.2 with ⟨rfl, rfl⟩ | ⟨g, cap, cur, rfl, _, _, hnc, _⟩
    · simp [Builtin.append_, run_underlying hu, sizeOf, typeInfo, hi, Builtin.lenOf, Builtin.firstCells]
    · simp [Builtin.append_, run_underlying hu, sizeOf, typeInfo, hi, Builtin.lenOf, Builtin.firstCells, hnc, storeCells]
  | some a =>
    have hmul : (n + 0) * i.bytes ≤ n * 10000 := Nat.mul_le_mul (by omega) hby
    obtain ⟨v', w', hr, h2, h3, _⟩ := run_append_own (P := Tryz.prog) w base 22 ty 54 i z 36 i.bytes hu hi hz hs rfl hzs hsz v n xs hown a 0 c [] (by simp) (fun j u hu => by simp at hu) (fun u hu => by cases hu) (by unfold maxLen; omega) (by omega) hbase
    exact ⟨v', w', hr, by simpa using h2, h3⟩
/-- What an append of coins leaves. -/
def AppN (W : World) (base : Nat) (S N : List CoinV) (v' : Value) (W' : World) : Prop := W'.ownsRow base 54 36 v' (S.length + N.length) (coinCells (S ++ N)) ∧ Below base W W'
theorem run_appN (W : World) (base : Nat) (S N : List CoinV) (v nv : Value) (hown : W.ownsRow base 54 36 v S.length (coinCells S)) (hN : HasCoins W nv N) (hm : S.length + N.length ≤ 1000000) (hb : base ≤ W.heap.size) (ty : TypeId) :
    ∃ v' W', (Builtin.append_ #[22, 22] ty #[v, nv]).run Tryz.prog W = .ok v' W' ∧ AppN W base S N v' W' := by
  have hcs : coinCells (S ++ N) = coinCells S ++ coinCells N := by simp [coinCells]
  rcases hN.1 with ⟨a, cap, rfl, rfl⟩ | ⟨b, off, cap, rfl, h0, h1, h2, h3, hc⟩
  · obtain ⟨v', W', hr, ho, hg⟩ := app_none W base v S.length (coinCells S) hown (by omega) hb a cap ty
    exact ⟨v', W', hr, by rw [List.append_nil]; exact ho, (Below.refl base W).grown hg hb (fun k hk => own_low hown k hk)⟩
  · obtain ⟨v', W', hr, ho, hg, _⟩ := run_append_gen W base 22 54 36 elem_coin v S.length (coinCells S) hown ⟨b, off, none⟩ N.length cap h0 (coinCells N) (by rw [coinCells_length N (fun x hx => (hN.2 x hx).1)]) (fun j u hu => by rw [Addr.add_lit]; exact hc j u hu) (fun u hu => by
      obtain ⟨y, hy, hu⟩ := List.mem_flatten.1 hu
      obtain ⟨x, hx, rfl⟩ := List.mem_map.1 hy
      exact coin_ones x (hasOps_slice (hN.2 x hx).2.2) u hu) hm hb ty
    exact ⟨v', W', hr, by unfold AppN; rw [hcs]; exact ⟨ho, (Below.refl base W).grown hg hb (fun k hk => own_low hown k hk)⟩⟩
/-- The row's block, which nothing freezes. -/
theorem own_thaw {W : World} {base n g cap : Nat} {cs : List Value} (h : W.ownsRow base 54 36 (.slice (some ⟨g, 0, none⟩) n cap) n cs) (j : Nat) : W.frozen? ⟨g, j, none⟩ = false := by
  rcases h.2 with ⟨h1, _⟩ | ⟨g', cap', cur, he, hbg, hg, _⟩
  · cases h1
  · injection he with e1
    injection e1 with e1
    injection e1 with e1
    subst e1
    unfold World.frozen?
    dsimp only
    rw [hg]
    simp
def placesOf (G : List CoinV) : List (List Int × Int) := G.map fun x => Cn.place x.it
def keep (G : List (List Int × Int)) (R : List CoinV) : List CoinV := R.filter fun x => decide (Cn.place x.it ∉ G)
theorem keep_next (G : List (List Int × Int)) (R : List CoinV) (k : Nat) (hk : k < R.length) : keep G (R.take (k + 1)) = keep G (R.take k) ++ (if Cn.place R[k].it ∈ G then [] else [R[k]]) := by
  unfold keep
  rw [List.take_succ_eq_append_getElem hk, List.filter_append]
  by_cases h : Cn.place R[k].it ∈ G
  · rw [if_pos h]; simp [h]
  · rw [if_neg h]; simp [h]
theorem keep_le (G : List (List Int × Int)) (R : List CoinV) : (keep G R).length ≤ R.length := List.length_filter_le _ _
theorem keep_mem {G : List (List Int × Int)} {R : List CoinV} {x : CoinV} (h : x ∈ keep G R) : x ∈ R := (List.mem_filter.1 h).1
end Go.Proofs.YtmjilohlchkicaaGreatDoor

/- A set with coins exchanged. -/
namespace Go.Proofs.YtmjilohlchkicaaGreatDoor
open Go.RowKit Go.Maps
set_option linter.unusedVariables false
set_option linter.unusedSimpArgs false

structure XgS (w : World) (R : List CoinV) (PG : List (List Int × Int)) (gl k g c : Nat) (S : List CoinV) (W : World) : Prop where
  eq : S = keep PG (R.take k)
  own : W.ownsRow (w.heap.size + 1) 54 36 (.slice (some ⟨g, 0, none⟩) S.length c) S.length (coinCells S)
  map : W.ownsMap Tryz.prog 46 (unitElem (H := Unit)) w.heap.size gl (setP PG)
  below : Below w.heap.size w W
  big : w.heap.size + 1 ≤ W.heap.size
def XgTold (R N : List CoinV) (PG : List (List Int × Int)) (e : Ending) (w' : World) : Prop := ∃ v X, e = .returned v ∧ HasCoins w' v X ∧ X.Perm (keep PG R ++ N) ∧ Rising X
theorem xg_ck {w : World} {R N S : List CoinV} {PG : List (List Int × Int)} {k : Nat} (hR : ∀ x ∈ R, CoinOk w x) (hN : ∀ x ∈ N, CoinOk w x) (hS : S = keep PG (R.take k)) : ∀ x ∈ S ++ N, CoinOk w x := by
  intro x hx
  rcases List.mem_append.1 hx with hx | hx
  · rw [hS] at hx; exact hR x (List.mem_of_mem_take (keep_mem hx))
  · exact hN x hx
theorem xg_end {w w6 w7 : World} {R N S X : List CoinV} {PG : List (List Int × Int)} {g n c : Nat} (hS : S = keep PG R) (hok : ∀ x ∈ S ++ N, CoinOk w x) (hb : Below w.heap.size w w6) (hg : w.heap.size ≤ g) (hg6 : g < w6.heap.size) (hc : n ≤ c) (hcm : c ≤ maxLen) (hn : n = S.length + N.length) (hp : 0 < n)
    (hxp : X.Perm (S ++ N)) (hxr : Rising X) (hxc : w7.rangeAt g 0 (coinCells X)) (hbut : But g w6 w7) : XgTold R N PG (.returned (.slice (some ⟨g, 0, none⟩) n c)) w7 ∧ Below w.heap.size w w7 := by
  have hb7 : Below w.heap.size w w7 := hb.trans (Only.below hbut hb.size hg)
  have hl : X.length = n := by rw [hxp.length_eq, List.length_append, hn]
  refine ⟨⟨_, X, rfl, ⟨.inr ⟨g, 0, c, by rw [hl], by omega, by omega, hcm, Nat.lt_of_lt_of_le hg6 hbut.size, hxc⟩, fun x hx => (hok x (hxp.mem_iff.1 hx)).below hb7⟩, ?_, hxr⟩, hb7⟩
  rw [← hS]; exact hxp
set_option maxRecDepth 100000 in
set_option maxHeartbeats 8000000 in
theorem exchange_any (cv gv nv : Value) (R G N : List CoinV) (w : World) (hR : HasCoins w cv R) (hG : HasCoins w gv G) (hN : HasCoins w nv N) (hr : R.length ≤ 1000) (hg : G.length ≤ 1000) (hn : N.length ≤ 1000) (hpos : 0 < N.length)
    (hRp : ∀ x ∈ R, 0 ≤ x.at' ∧ x.at' < 40) (hGp : ∀ x ∈ G, 0 ≤ x.at' ∧ x.at' < 40) :
    Calls Tryz.prog 23 #[cv, gv, nv] w fun e w' => XgTold R N (placesOf G) e w' ∧ Below w.heap.size w w' := by
  obtain ⟨ra, rc, rfl, hrm, hrr⟩ := coins_form hR
  obtain ⟨ga, gc, rfl, hgm, hgr⟩ := coins_form hG
  obtain ⟨na, nc, rfl, hnm, _⟩ := coins_form hN
  have HRR := hide hrr
  have HGR := hide hgr
  have HRO := hide hR.2
  have HGO := hide hG.2
  have HNO := hide hN.2
  have HNN := hide (fun W (hW : Below w.heap.size w W) => hN.below hW)
  have HRP := hide hRp
  have HGP := hide hGp
  obtain ⟨PG, hPG⟩ : ∃ PG, PG = placesOf G := ⟨_, rfl⟩
  have HPL : Hid (PG.length = G.length) := hide (by rw [hPG]; simp [placesOf])
  have HPK : Hid (∀ k (hk : k < G.length), PG.take (k + 1) = PG.take k ++ [(G[k].tx, G[k].at')]) := hide (fun k hk => by
    have h2 : k < PG.length := by rw [hPG]; simpa [placesOf] using hk
    rw [List.take_succ_eq_append_getElem h2]
    subst hPG
    simp [placesOf, Cn.place, CoinV.it])
  have HGD : Hid (GoodP PG) := hide (fun p hp => by
    rw [hPG] at hp
    obtain ⟨x, hx, rfl⟩ := List.mem_map.1 hp
    exact ⟨(hG.2 x hx).1, (hG.2 x hx).2.1, (hGp x hx).1, (hGp x hx).2⟩)
  have hmk := make_seen G.length w
  have hzu := zero_unit
  have hzc := zero_coin
  obtain ⟨Z, hZ⟩ : ∃ Z, Z = ZC := ⟨_, rfl⟩
  have hzc2 : ∀ w : World, (zeroValue 54).run Tryz.prog w = .ok (.agg Z.toArray) w := by rw [hZ]; exact hzc
  have hZl : Z.length = 36 := by rw [hZ]; simp [ZC, vals]
  have hZp : ¬ Z = [] := by intro h; rw [h] at hZl; cases hZl
  have HZL := hide hZl
  obtain ⟨gl, hgl⟩ : ∃ n, n = G.length := ⟨_, rfl⟩
  obtain ⟨rl, hrl⟩ : ∃ n, n = R.length := ⟨_, rfl⟩
  obtain ⟨nl, hnl⟩ : ∃ n, n = N.length := ⟨_, rfl⟩
  have HGL := hide hgl
  have HRL := hide hrl
  have HNL := hide hnl
  rw [← hgl] at hmk hg hgm HPL ⊢
  rw [← hrl] at hr hrm ⊢
  rw [← hnl] at hn hnm hpos HNN ⊢
  rw [← hPG]
  obtain ⟨ZI, hZI⟩ : ∃ z, z = zerosC (rl + nl) := ⟨_, rfl⟩
  have hmk2 : ∀ w, (Instr.makeSlice 22 (.int .i64 0) (.int .i64 ((rl : Int) + (nl : Int)))).run Tryz.prog w = .ok (.slice (some ⟨w.heap.size, 0, none⟩) 0 (rl + nl)) (w.alloc (.cells ZI 54)) := fun w => by
    have h := make_roomC (rl + nl) (by omega) w
    rw [Int.natCast_add] at h
    rw [hZI]; exact h
  have HRM : Hid (∀ W : World, w.heap.size + 1 ≤ W.heap.size → (W.alloc (.cells ZI 54)).ownsRow (w.heap.size + 1) 54 36 (.slice (some ⟨W.heap.size, 0, none⟩) 0 (rl + nl)) 0 []) := hide (fun W hW => by rw [hZI]; exact own_room W (w.heap.size + 1) (rl + nl) hW (by omega))
  have hwr : IntKind.i64.wrap ((rl : Int) + (nl : Int)) = (rl : Int) + (nl : Int) := by simp [IntKind.wrap, IntKind.bits, IntKind.signed]; omega
  clear hR hG hN hrr hgr hRp hGp hPG hzc hZ hZl hgl hrl hnl hZI
  go_enter Tryz.func23, Tryz.ntmps23
  go_wp2
  go_loopw [20] (fun i wr => ∃ k : Nat, k ≤ gl ∧ i = .int .i64 k ∧ Below w.heap.size w wr ∧ wr.ownsMap Tryz.prog 46 (unitElem (H := Unit)) w.heap.size k (setP (PG.take k))) (fun i _ => gl - (intOf i).toNat)
  case atStart => exact ⟨0, by omega, rfl, (Below.refl _ _).alloc (Nat.le_refl _) _, World.ownsMap_made _ _ _ _⟩
  case round =>
    obtain ⟨k, hk, rfl, hbel, hown⟩ := hrel
    have HBEL := hide hbel
    have HOWN := hide hown
    clear hbel hown
    by_cases hltn : k < gl
    · have hki : (k : Int) < (gl : Int) := by omega
      have hlt : k < G.length := by rw [← HGL.out]; exact hltn
      obtain ⟨b, off, rfl, hc1, hc2, hb, hri⟩ := HGR.out k hlt
      obtain ⟨C, hC⟩ : ∃ C, C = coinCell G[k] := ⟨_, rfl⟩
      obtain ⟨PK, hPK⟩ : ∃ C, C = vals G[k].tx ++ [Value.int .i64 G[k].at'] := ⟨_, rfl⟩
      have hxo := HGO.out _ (List.getElem_mem hlt)
      have hxp := HGP.out _ (List.getElem_mem hlt)
      have HCLN : Hid (C.length = 36) := hide (by rw [hC]; exact coinCell_length _ hxo.1)
      have HC1 : Hid (∀ v ∈ C, v.oneCell' = true) := hide (by rw [hC]; exact coin_ones _ (hasOps_slice hxo.2.2))
      have HPKL : Hid (PK.length = 33) := hide (by rw [hPK]; simp [vals_length, hxo.1])
      have hCp : ¬ C = [] := by intro h; have := HCLN.out; rw [h] at this; cases this
      have hPKp : ¬ PK = [] := by intro h; have := HPKL.out; rw [h] at this; cases this
      have HRC : Hid (wr.rangeAt b (off + k * 36) C) := hide (by rw [hC]; exact range_keep hri HBEL.out hb)
      have HPR : Hid (∀ W, Is W wr.heap.size C 54 → W.rangeAt wr.heap.size 0 PK) := hide (fun W hW => by rw [hC] at hW; rw [hPK]; exact place_rangeS hW)
      have HKEY : Hid (keyOf Tryz.prog 46 (.agg PK.toArray) = some (placeKey G[k].tx G[k].at')) := hide (by rw [hPK]; exact key_place _ _ hxo.1 hxo.2.1 hxp.1 hxp.2)
      have HNX := hide (HPK.out k hlt)
      clear hC hPK hxo hxp hri
      go_wp2_with (first
        | (refine wpList_load_part 54 C b (off + k * 36) rfl (.tmp 22) rfl rfl HRC.out Tryz.underlying54 rfl size_coin HCLN.out ?_)
        | (refine wpList_store_any3 54 Z C wr.heap.size rfl (.tmp 9) (.tmp 23) rfl rfl rfl rfl (Is.new wr _ _) size_coin HZL.out HCLN.out HC1.out ?_; intro w3 hi3 hw3; have hb3 : Below wr.heap.size wr w3 := (by rw [hw3]; exact ck_new); have HI3 := hide hi3; have HB3 := hide (HBEL.out.trans (hb3.mono HBEL.out.size)); have HM3 := hide (map_below HOWN.out hb3); clear hi3 hw3 hb3)
        | (refine wpList_load_part 46 PK wr.heap.size 0 rfl (.tmp 25) rfl rfl (HPR.out _ HI3.out) Tryz.underlying46 rfl size_placeC HPKL.out ?_)
        | (at_mapUpdate; refine wpList_mapUpdate_own _ rfl _ _ _ 85 rfl 46 86 place_keyed Tryz.underlying85 _ w.heap.size k (setP (PG.take k)) rfl HM3.out (by unfold maxLen; omega) _ _ _ rfl rfl HKEY.out (.agg []) [] unitElem_mk ?_; intro w6 hown6 hgrow6; have HO6 := hide hown6; have HB6 := hide (HB3.out.grown hgrow6 HB3.out.size (fun j hj => by cases hj; exact Nat.le_refl _)); clear hown6 hgrow6))
      go_roundw
      case rel => exact ⟨k + 1, by omega, by go_num, HB6.out, by rw [HNX.out, setP_snoc]; exact HO6.out⟩
      case measure => simp [intOf]; omega
    · have hki : ¬ (k : Int) < (gl : Int) := by omega
      have hkg : k = gl := by omega
      have HM : Hid (wr.ownsMap Tryz.prog 46 (unitElem (H := Unit)) w.heap.size gl (setP PG)) := hide (by
        have h := HOWN.out
        rw [hkg, List.take_of_length_le (by rw [HPL.out]; omega)] at h
        exact h)
      clear hkg HOWN
      have HW1 : Hid (w.heap.size + 1 ≤ wr.heap.size) := hide (by have := HM.out.lt; omega)
      have HBR := hide HBEL.out
      clear HBEL
      obtain ⟨wA, rfl⟩ : ∃ wA, wA = wr := ⟨_, rfl⟩
      have HST : Hid (XgS w R PG gl 0 wA.heap.size (rl + nl) [] (wA.alloc (.cells ZI 54))) := hide ⟨(by simp [keep]), HRM.out wA HW1.out, map_below HM.out (below_alloc wA _), HBR.out.trans ((below_alloc wA _).mono HBR.out.size), (by have := HW1.out; simp; omega)⟩
      go_wp2
      go_loopw [10, 37] (fun v i wr => ∃ (k g c : Nat) (S : List CoinV), k ≤ rl ∧ i = .int .i64 k ∧ v = .slice (some ⟨g, 0, none⟩) S.length c ∧ XgS w R PG gl k g c S wr) (fun _ i _ => rl - (intOf i).toNat)
      case atStart => exact ⟨0, wA.heap.size, rl + nl, [], by omega, rfl, rfl, HST.out⟩
      case round =>
        obtain ⟨k, g, c, S, hk, rfl, rfl, hxs⟩ := hrel
        have HXS := hide hxs
        clear hxs HST
        by_cases hltn : k < rl
        · have hki : (k : Int) < (rl : Int) := by omega
          have hlt : k < R.length := by rw [← HRL.out]; exact hltn
          obtain ⟨b, off, rfl, hc1, hc2, hb, hri⟩ := HRR.out k hlt
          obtain ⟨C, hC⟩ : ∃ C, C = coinCell R[k] := ⟨_, rfl⟩
          obtain ⟨PK, hPK⟩ : ∃ C, C = vals R[k].tx ++ [Value.int .i64 R[k].at'] := ⟨_, rfl⟩
          have hxo := HRO.out _ (List.getElem_mem hlt)
          have hxp := HRP.out _ (List.getElem_mem hlt)
          have HCLN : Hid (C.length = 36) := hide (by rw [hC]; exact coinCell_length _ hxo.1)
          have HC1 : Hid (∀ v ∈ C, v.oneCell' = true) := hide (by rw [hC]; exact coin_ones _ (hasOps_slice hxo.2.2))
          have HPKL : Hid (PK.length = 33) := hide (by rw [hPK]; simp [vals_length, hxo.1])
          have hCp : ¬ C = [] := by intro h; have := HCLN.out; rw [h] at this; cases this
          have hPKp : ¬ PK = [] := by intro h; have := HPKL.out; rw [h] at this; cases this
          have HRC : Hid (wr.rangeAt b (off + k * 36) C) := hide (by rw [hC]; exact range_keep hri HXS.out.below hb)
          have HPR : Hid (∀ W, Is W wr.heap.size C 54 → W.rangeAt wr.heap.size 0 PK) := hide (fun W hW => by rw [hC] at hW; rw [hPK]; exact place_rangeS hW)
          have HKEY : Hid (keyOf Tryz.prog 46 (.agg PK.toArray) = some (placeKey R[k].tx R[k].at')) := hide (by rw [hPK]; exact key_place _ _ hxo.1 hxo.2.1 hxp.1 hxp.2)
          have hhas := place_has (H := Unit) (.agg []) PG R[k].tx R[k].at' hxo.1 hxo.2.1 hxp HGD.out
          have HKN := hide (keep_next PG R k hlt)
          have hslen : S.length ≤ k := by
            rw [HXS.out.eq]; refine Nat.le_trans (keep_le _ _) ?_; rw [List.length_take]; omega
          have HAPP := hide (fun W (hW : w.heap.size + 1 ≤ W.heap.size) (ho : W.ownsRow (w.heap.size + 1) 54 36 (.slice (some ⟨g, 0, none⟩) S.length c) S.length (coinCells S)) ty => run_appC W (w.heap.size + 1) S R[k] (.slice (some ⟨g, 0, none⟩) S.length c) ho hxo.1 (hasOps_slice hxo.2.2) (by omega) hW ty)
          rw [← hC] at HAPP
          have hpe : Cn.place R[k].it = (R[k].tx, R[k].at') := rfl
          rw [hpe] at HKN
          have hcell2 := R[k].at'
          clear hPK hxo hxp hri hpe hcell2
          by_cases hm : (R[k].tx, R[k].at') ∈ PG
          · have hmm : Maps.has (setP PG) (placeKey R[k].tx R[k].at') = true := by unfold setP; rw [hhas]; exact decide_eq_true hm
            rw [if_pos hm, List.append_nil] at HKN
            clear hhas hm hC HAPP
            generalize placeKey R[k].tx R[k].at' = key at *
            go_wp2_with (first
              | (refine wpList_load_part 54 C b (off + k * 36) rfl (.tmp 39) rfl rfl HRC.out Tryz.underlying54 rfl size_coin HCLN.out ?_)
              | (refine wpList_store_any3 54 Z C wr.heap.size rfl (.tmp 12) (.tmp 40) rfl rfl rfl rfl (Is.new wr _ _) size_coin HZL.out HCLN.out HC1.out ?_; intro w3 hi3 hw3; have hb3 : Below wr.heap.size wr w3 := (by rw [hw3]; exact ck_new); have HI3 := hide hi3; have HB3 := hide hb3; have HM3 := hide (map_below HXS.out.map hb3); clear hi3 hw3 hb3)
              | (refine wpList_load_part 46 PK wr.heap.size 0 rfl (.tmp 43) rfl rfl (HPR.out _ HI3.out) Tryz.underlying46 rfl size_placeC HPKL.out ?_)
              | (at_lookup; refine wpList_lookup_own_unit _ rfl _ _ 85 rfl 46 86 place_keyed Tryz.underlying85 (zero_unit _) w.heap.size gl (setP PG) rfl HM3.out _ _ rfl HKEY.out ?_))
            go_roundw
            case rel =>
              have hb4 := HB3.out.trans ((below_alloc w3 (.cells #[] 86)).mono HB3.out.size)
              exact ⟨k + 1, g, c, S, by omega, by go_num, rfl, ⟨by rw [HKN.out]; exact HXS.out.eq, owns_below HXS.out.own hb4, map_below HXS.out.map hb4, HXS.out.below.trans (hb4.mono HXS.out.below.size), Nat.le_trans HXS.out.big hb4.size⟩⟩
            case measure => simp [intOf]; omega
          · have hmm : Maps.has (setP PG) (placeKey R[k].tx R[k].at') = false := by unfold setP; rw [hhas]; exact decide_eq_false hm
            rw [if_neg hm] at HKN
            clear hhas hm hC
            generalize placeKey R[k].tx R[k].at' = key at *
            go_wp2_with (first
              | (refine wpList_load_part 54 C b (off + k * 36) rfl (.tmp 39) rfl rfl HRC.out Tryz.underlying54 rfl size_coin HCLN.out ?_)
              | (refine wpList_store_any3 54 Z C wr.heap.size rfl (.tmp 12) (.tmp 40) rfl rfl rfl rfl (Is.new wr _ _) size_coin HZL.out HCLN.out HC1.out ?_; intro w3 hi3 hw3; have hb3 : Below wr.heap.size wr w3 := (by rw [hw3]; exact ck_new); have HI3 := hide hi3; have HM3 := hide (map_below HXS.out.map hb3); have HB4 := hide (hb3.trans ((below_alloc w3 (.cells #[] 86)).mono hb3.size)); have HO4 := hide (owns_below HXS.out.own HB4.out); have HS4 := hide (Nat.le_trans HXS.out.big HB4.out.size); have HAPb := hide (fun ty => HAPP.out _ HS4.out HO4.out ty); rw [show (w3.alloc (.cells #[] 86)).heap.size = w3.heap.size + 1 from by simp] at HAPb; clear hi3 hw3 hb3)
              | (refine wpList_load_part 46 PK wr.heap.size 0 rfl (.tmp 43) rfl rfl (HPR.out _ HI3.out) Tryz.underlying46 rfl size_placeC HPKL.out ?_)
              | (at_lookup; refine wpList_lookup_own_unit _ rfl _ _ 85 rfl 46 86 place_keyed Tryz.underlying85 (zero_unit _) w.heap.size gl (setP PG) rfl HM3.out _ _ rfl HKEY.out ?_)
              | (refine wpList_load_part 54 C wr.heap.size 0 rfl (.tmp 12) rfl rfl (is_range (HI3.out.alloc (.cells #[] 86))) Tryz.underlying54 rfl size_coin HCLN.out ?_)
              | (refine wpList_build_one 22 54 C rfl (.tmp 51) rfl rfl Tryz.underlying22 ZC info_coinS (by omega) (by omega) HCLN.out ?_)
              | (at_builtin; refine cl_append_by (AppK (w3.alloc (.cells #[] 86)) (w.heap.size + 1) S R[k] (.slice (some ⟨g, 0, none⟩) S.length c)) rfl (.tmp 50) (.tmp 52) rfl (.slice (some ⟨g, 0, none⟩) S.length c) (.slice (some ⟨(w3.alloc (.cells #[] 86)).heap.size, 0, none⟩) 1 1) rfl rfl (fun ty => HAPP.out _ HS4.out HO4.out ty) ?_; intro v6 w6 h6; obtain ⟨g6, c6, hv6, _⟩ := owns_some h6.1 (by omega); subst hv6; have HA6 := hide h6; clear h6)
              | (at_builtin; refine cl_append_by (AppK (w3.alloc (.cells #[] 86)) (w.heap.size + 1) S R[k] (.slice (some ⟨g, 0, none⟩) S.length c)) rfl (.tmp 50) (.tmp 52) rfl (.slice (some ⟨g, 0, none⟩) S.length c) (.slice (some ⟨w3.heap.size + 1, 0, none⟩) 1 1) rfl rfl (fun ty => HAPb.out ty) ?_; intro v6 w6 h6; obtain ⟨g6, c6, hv6, _⟩ := owns_some h6.1 (by omega); subst hv6; have HA6 := hide h6; clear h6))
            go_roundw
            case rel =>
              exact ⟨k + 1, g6, c6, S ++ [R[k]], by omega, by go_num, by simp, ⟨by rw [HKN.out, ← HXS.out.eq], by rw [show (S ++ [R[k]]).length = S.length + 1 from by simp, show coinCells (S ++ [R[k]]) = coinCells S ++ coinCell R[k] from by simp [coinCells]]; exact HA6.out.1, map_low (map_below HXS.out.map HB4.out) HA6.out.2 (Nat.lt_succ_self _), (HXS.out.below.trans (HB4.out.mono HXS.out.below.size)).trans (HA6.out.2.mono (Nat.le_succ _)), Nat.le_trans HS4.out HA6.out.2.size⟩⟩
            case measure => simp [intOf]; omega
        · have hki : ¬ (k : Int) < (rl : Int) := by omega
          have hS : S = keep PG R := by have h := HXS.out.eq; rwa [List.take_of_length_le (by rw [← HRL.out]; omega)] at h
          have HSE := hide hS
          have hsl : S.length ≤ 1000 := by rw [hS]; exact Nat.le_trans (keep_le _ _) (by rw [← HRL.out]; exact hr)
          have HCK := hide (xg_ck HRO.out HNO.out HXS.out.eq)
          have HAN := hide (fun ty => run_appN wr (w.heap.size + 1) S N (.slice (some ⟨g, 0, none⟩) S.length c) (.slice na nl nc) HXS.out.own (HNN.out wr HXS.out.below) (by rw [← HNL.out]; omega) HXS.out.big ty)
          clear hS
          go_wp2_with (at_builtin; refine cl_append_by (AppN wr (w.heap.size + 1) S N) rfl (.tmp 55) (.tmp 56) rfl (.slice (some ⟨g, 0, none⟩) S.length c) (.slice na nl nc) rfl rfl (fun ty => HAN.out ty) ?_; intro v6 w6 h6; obtain ⟨g6, c6, hv6, hg6, hlt6, hc6, hm6, hr6⟩ := owns_some h6.1 (by rw [← HNL.out]; omega); subst hv6; have HFZ := hide (own_thaw h6.1); have HB6 := hide (HXS.out.below.trans (h6.2.mono (Nat.le_succ _))); have HR6 := hide hr6; have HG6 := hide hg6; have HL6 := hide hlt6; have HC6 := hide (And.intro hc6 hm6); clear h6 hg6 hlt6 hc6 hm6 hr6)
          have HSO := hide (sort_any (S ++ N) g6 0 c6 w6 (fun x hx => ⟨(HCK.out x hx).1, (HCK.out x hx).2.1, hasOps_slice (HCK.out x hx).2.2⟩) HR6.out HFZ.out HL6.out (by rw [List.length_append, ← HNL.out]; omega))
          rw [List.length_append] at HSO
          refine HSO.out.mono ?_
          rintro e w7 ⟨rfl, X, hxp, hxr, hxc, hbut⟩
          have HE := hide (xg_end HSE.out HCK.out HB6.out (Nat.le_trans (Nat.le_succ _) HG6.out) HL6.out HC6.out.1 HC6.out.2 rfl (by rw [← HNL.out]; omega) hxp hxr hxc hbut)
          clear hxp hxr hxc hbut HSO
          go_wp2
          exact bodyPost_ret (v := .slice (some ⟨g6, 0, none⟩) (S.length + N.length) c6) (by simp [results, Tryz.results23, go_sem]) rfl HE.out
end Go.Proofs.YtmjilohlchkicaaGreatDoor

/- What the parts of Apply tell, over lists. -/
namespace Go.Proofs.YtmjilohlchkicaaGreatDoor
open Go.RowKit
set_option linter.unusedVariables false

theorem keep_less (R G : List CoinV) : (keep (placesOf G) R).map CoinV.it = Cn.less (R.map CoinV.it) (G.map CoinV.it) := by
  unfold keep Cn.less
  rw [List.filter_map]
  congr 1
  apply List.filter_congr
  intro x hx
  simp only [Function.comp_def, decide_eq_decide, placesOf, List.mem_map, not_exists, not_and, forall_exists_index, and_imp]
  constructor
  · intro h g y hy e
    subst e
    exact h y hy
  · intro h y hy
    exact h y.it y hy rfl
theorem none_at {R : List CoinV} {p : List Int × Int} (h : NoneAt R p) : Cn.at? (R.map CoinV.it) p = none := by
  rw [Cn.at?_none]
  intro c hc
  obtain ⟨x, hx, rfl⟩ := List.mem_map.1 hc
  obtain ⟨i, hi, rfl⟩ := List.getElem_of_mem hx
  exact h i hi
theorem spent_of {R : List CoinV} (hs : Cn.setF (R.map CoinV.it) = 0) : ∀ (S : List CoinV), (∀ x ∈ S, x ∈ R) → Cn.spentOf (R.map CoinV.it) (S.map fun x => Cn.place x.it) = some (S.map CoinV.it)
  | [], _ => rfl
  | x :: S, h => by
    have ih := spent_of hs S (fun y hy => h y (by simp [hy]))
    have hx := Cn.at?_mem (Cn.ord_nodup (Cn.set_ord hs)) (List.mem_map.2 ⟨x, h x (by simp), rfl⟩ : x.it ∈ R.map CoinV.it)
    simp only [List.map_cons, Cn.spentOf, hx, ih]
    rfl
theorem spent_none {l : List Cn.Coin} : ∀ {ps : List (List Int × Int)} {k : Nat} (hk : k < ps.length), Cn.at? l ps[k] = none → Cn.spentOf l ps = none
  | [], k, hk, _ => absurd hk (by simp)
  | p :: r, 0, hk, h => by simp only [List.getElem_cons_zero] at h; simp [Cn.spentOf, h]
  | p :: r, k + 1, hk, h => by
    simp only [List.getElem_cons_succ] at h
    have ih := spent_none (l := l) (ps := r) (by simpa using hk) h
    cases e : Cn.at? l p <;> simp [Cn.spentOf, e, ih]
theorem xg_merged {R G N X : List CoinV} (hR : Cn.Ord (R.map CoinV.it)) (hN : Cn.Ord (N.map CoinV.it)) (hn : ∀ x ∈ Cn.less (R.map CoinV.it) (G.map CoinV.it), ∀ y ∈ N.map CoinV.it, Cn.place x ≠ Cn.place y)
    (hp : X.Perm (keep (placesOf G) R ++ N)) (hr : Rising X) : X.map CoinV.it = Cn.merged (Cn.less (R.map CoinV.it) (G.map CoinV.it)) (N.map CoinV.it) := by
  refine Cn.exchange_eq hR hN hn ?_ (fun i j hi hj => ?_)
  · have h := hp.map CoinV.it
    rwa [List.map_append, keep_less] at h
  · have hj2 : j < X.length := by simpa using hj
    have h := hr i j hi hj2
    simpa using h
theorem amounts_it (R : List CoinV) : Cn.amounts' (R.map CoinV.it) = amounts R := by simp [Cn.amounts', amounts, CoinV.it, Function.comp_def]
theorem news_it (t : TxV) (h : Int) : (newsV (Tm.id t.it) h 0 t.outs).map CoinV.it = Cn.news t.it h := newsV_it _ _ _ _
theorem news_ok {w : World} {t : TxV} (ht : HasTx w t) (h : Int) : ∀ x ∈ newsV (Tm.id t.it) h 0 t.outs, CoinOk w x := by
  intro x hx
  obtain ⟨o, ho, j, rfl⟩ := newsV_mem hx
  exact ⟨by simp [newV, Tm.id, Sh.sum, Sh.digest], Mc.sum_byt _, ht.2.2 o ho⟩
end Go.Proofs.YtmjilohlchkicaaGreatDoor
