/- The document's: a set without some. -/
import Derived.Test.YtmjilohlchkicaaGreatDoorZCp
import Derived.Test.YtmjilohlchkicaaGreatDoorZCk
namespace Go.Proofs.YtmjilohlchkicaaGreatDoor
open Go.RowKit
set_option linter.unusedVariables false
set_option linter.unusedSimpArgs false

theorem found_in {G : List CoinV} {m : Nat} {p : List Int × Int} (h : FoundAt G m p) : p ∈ placesOf G := by
  obtain ⟨hm, e⟩ := h
  exact List.mem_map.2 ⟨G[m], List.getElem_mem hm, e⟩
theorem none_in {G : List CoinV} {p : List Int × Int} (h : NoneAt G p) : p ∉ placesOf G := by
  intro hp
  obtain ⟨x, hx, e⟩ := List.mem_map.1 hp
  obtain ⟨j, hj, rfl⟩ := List.getElem_of_mem hx
  exact h j hj e
structure RlS (w : World) (R G : List CoinV) (k : Nat) (S : List CoinV) (v : Value) (W : World) : Prop where
  eq : S = keep (placesOf G) (R.take k)
  own : W.ownsRow w.heap.size 54 36 v S.length (coinCells S)
  below : Below w.heap.size w W
set_option maxRecDepth 100000 in
set_option maxHeartbeats 4000000 in
theorem rless_any (cv gv : Value) (R G : List CoinV) (w : World) (hR : HasCoins w cv R) (hG : HasCoins w gv G) (hr : R.length ≤ 1000) (hg : G.length ≤ 1000) :
    Calls Tryz.prog 16 #[cv, gv] w fun e w' => (∃ v, e = .returned v ∧ w'.ownsRow w.heap.size 54 36 v (keep (placesOf G) R).length (coinCells (keep (placesOf G) R))) ∧ Below w.heap.size w w' := by
  obtain ⟨ra, rc, rfl, _, hrr⟩ := coins_form hR
  obtain ⟨ga, gc, rfl, _, _⟩ := coins_form hG
  have HRR := hide hrr
  have HRO := hide hR.2
  have HRC := hide (fun k (hk : k < R.length) W (hW : Below w.heap.size w W) => rcoinAt_any _ G R[k].tx R[k].at' W (hG.below hW) hg (hR.2 _ (List.getElem_mem hk)).1)
  have HST : Hid (RlS w R G 0 [] (.slice none 0 0) w) := hide ⟨(by simp [keep]), World.ownsRow_nil w w.heap.size 54 36, Below.refl _ _⟩
  obtain ⟨rl, hrl⟩ : ∃ n, n = R.length := ⟨_, rfl⟩
  obtain ⟨gl, hgl⟩ : ∃ n, n = G.length := ⟨_, rfl⟩
  have HRL := hide hrl
  rw [← hrl, ← hgl]
  rw [← hgl] at HRC
  rw [← hrl] at hr
  clear hR hG hrr hrl hgl hg
  go_enter Tryz.func16, Tryz.ntmps16
  go_wp2
  go_loopw [5, 6] (fun v i wr => ∃ (k : Nat) (S : List CoinV), k ≤ rl ∧ i = .int .i64 k ∧ RlS w R G k S v wr) (fun _ i _ => rl - (intOf i).toNat)
  case atStart => exact ⟨0, [], by omega, rfl, HST.out⟩
  case round =>
    obtain ⟨k, S, hk, rfl, hs⟩ := hrel
    obtain ⟨va, vc, hv⟩ := owns_form hs.own
    subst hv
    have HS := hide hs
    clear hs HST
    by_cases hltn : k < rl
    · have hki : (k : Int) < (rl : Int) := by omega
      have hlt : k < R.length := by rw [← HRL.out]; exact hltn
      obtain ⟨b, off, rfl, hc1, hc2, hb, hri⟩ := HRR.out k hlt
      obtain ⟨C, hC⟩ : ∃ C, C = coinCell R[k] := ⟨_, rfl⟩
      obtain ⟨PK, hPK⟩ : ∃ C, C = vals R[k].tx ++ [Value.int .i64 R[k].at'] := ⟨_, rfl⟩
      have hxo := HRO.out _ (List.getElem_mem hlt)
      have HCLN : Hid (C.length = 36) := hide (by rw [hC]; exact coinCell_length _ hxo.1)
      have HPKL : Hid (PK.length = 33) := hide (by rw [hPK]; simp [vals_length, hxo.1])
      have hCp : ¬ C = [] := by intro h; have := HCLN.out; rw [h] at this; cases this
      have hPKp : ¬ PK = [] := by intro h; have := HPKL.out; rw [h] at this; cases this
      have HRG : Hid (∀ W, Below w.heap.size w W → W.rangeAt b (off + k * 36) C) := hide (fun W hW => by rw [hC]; exact range_keep hri hW hb)
      have HRP : Hid (wr.rangeAt b (off + k * 36) PK) := hide (by
        have h2 := HRG.out wr HS.out.below
        rw [hC, coin_parts] at h2
        rw [hPK]
        exact (tx_range_part h2).1)
      have HRK := hide (fun W hW => HRC.out k hlt W hW)
      rw [← hPK] at HRK
      have HKN := hide (keep_next (placesOf G) R k hlt)
      have HPE : Hid (Cn.place R[k].it = (R[k].tx, R[k].at')) := hide rfl
      have hslen : S.length ≤ k := by
        rw [HS.out.eq]; refine Nat.le_trans (keep_le _ _) ?_; rw [List.length_take]; omega
      have HAPP := hide (fun W (hW : w.heap.size ≤ W.heap.size) (ho : W.ownsRow w.heap.size 54 36 (.slice va S.length vc) S.length (coinCells S)) ty => run_appC W w.heap.size S R[k] (.slice va S.length vc) ho hxo.1 (hasOps_slice hxo.2.2) (by omega) hW ty)
      rw [← hC] at HAPP
      clear hC hPK hxo hri
      go_wp2_with (refine wpList_load_part 46 PK b (off + k * 36) rfl (.tmp 17) rfl rfl HRP.out Tryz.underlying46 rfl size_placeC HPKL.out ?_)
      refine (HRK.out _ HS.out.below).mono ?_
      rintro e w2 ⟨hrc, hb2⟩
      have HO2 := hide (owns_below HS.out.own hb2)
      have HB2 := hide (HS.out.below.trans (hb2.mono HS.out.below.size))
      clear hb2
      rcases hrc with ⟨m, hf, rfl⟩ | ⟨hna, rfl⟩
      · have HIN := hide (found_in hf)
        have hmi : ¬ (m : Int) < 0 := by omega
        clear hf
        go_wp2
        go_roundw
        case rel => exact ⟨k + 1, S, by omega, by go_num, ⟨by rw [HKN.out, if_pos (by rw [HPE.out]; exact HIN.out), List.append_nil]; exact HS.out.eq, HO2.out, HB2.out⟩⟩
        case measure => simp [intOf]; omega
      · have HIN := hide (none_in hna)
        have HR2 := hide (HRG.out w2 HB2.out)
        clear hna
        go_wp2_with (first
          | (refine wpList_load_part 54 C b (off + k * 36) rfl (.tmp 24) rfl rfl HR2.out Tryz.underlying54 rfl size_coin HCLN.out ?_)
          | (refine wpList_build_one 22 54 C rfl (.tmp 25) rfl rfl Tryz.underlying22 ZC info_coinS (by omega) (by omega) HCLN.out ?_)
          | (at_builtin; refine cl_append_by (AppK w2 w.heap.size S R[k] (.slice va S.length vc)) rfl (.tmp 21) (.tmp 26) rfl (.slice va S.length vc) (.slice (some ⟨w2.heap.size, 0, none⟩) 1 1) rfl rfl (fun ty => HAPP.out w2 HB2.out.size HO2.out ty) ?_; intro v6 w6 h6; have HA6 := hide h6; clear h6))
        go_roundw
        case rel =>
          refine ⟨k + 1, S ++ [R[k]], by omega, by go_num, ⟨?_, ?_, HB2.out.trans HA6.out.2⟩⟩
          · rw [HKN.out, if_neg (by rw [HPE.out]; exact HIN.out), ← HS.out.eq]
          · rw [show (S ++ [R[k]]).length = S.length + 1 from by simp, show coinCells (S ++ [R[k]]) = coinCells S ++ coinCell R[k] from by simp [coinCells]]; exact HA6.out.1
        case measure => simp [intOf]; omega
    · have hki : ¬ (k : Int) < (rl : Int) := by omega
      have HE : Hid (wr.ownsRow w.heap.size 54 36 (.slice va S.length vc) (keep (placesOf G) R).length (coinCells (keep (placesOf G) R))) := hide (by
        have h1 := HS.out.eq
        rw [List.take_of_length_le (by rw [← HRL.out]; omega)] at h1
        rw [← h1]; exact HS.out.own)
      go_wp2
      exact bodyPost_ret (v := .slice va S.length vc) (by simp [results, Tryz.results16, go_sem]) rfl ⟨⟨_, rfl, HE.out⟩, HS.out.below⟩
end Go.Proofs.YtmjilohlchkicaaGreatDoor
