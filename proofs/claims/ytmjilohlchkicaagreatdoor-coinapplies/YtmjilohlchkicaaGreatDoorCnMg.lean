/- The document's: sets that are merged. -/
import Derived.Test.YtmjilohlchkicaaGreatDoorCnRl
import Derived.Test.YtmjilohlchkicaaGreatDoorZCm
import Derived.Test.YtmjilohlchkicaaGreatDoorZCl
namespace Go.Proofs.YtmjilohlchkicaaGreatDoor
open Go.RowKit
set_option linter.unusedVariables false
set_option linter.unusedSimpArgs false

/-- Merged, as they lie in memory. -/
def mergedV : List CoinV → List CoinV → List CoinV
  | [], b => b
  | a, [] => a
  | x :: a, y :: b => if Cn.pl (Cn.place x.it) (Cn.place y.it) < 0 then x :: mergedV a (y :: b) else y :: mergedV (x :: a) b
termination_by a b => a.length + b.length
theorem mergedV_nil (a : List CoinV) : mergedV a [] = a := by cases a <;> simp [mergedV]
theorem mergedV_it : ∀ (a b : List CoinV), (mergedV a b).map CoinV.it = Cn.merged (a.map CoinV.it) (b.map CoinV.it)
  | [], b => by simp [mergedV, Cn.merged]
  | x :: a, [] => by simp [mergedV, Cn.merged]
  | x :: a, y :: b => by
    unfold mergedV
    simp only [List.map_cons]
    unfold Cn.merged
    by_cases h : Cn.pl (Cn.place x.it) (Cn.place y.it) < 0
    · rw [if_pos h, if_pos h, List.map_cons, mergedV_it a (y :: b)]; rfl
    · rw [if_neg h, if_neg h, List.map_cons, mergedV_it (x :: a) b]; rfl
termination_by a b => a.length + b.length
theorem mergedV_mem : ∀ (a b : List CoinV), ∀ z ∈ mergedV a b, z ∈ a ∨ z ∈ b
  | [], b => by simp [mergedV]
  | x :: a, [] => by simp [mergedV]
  | x :: a, y :: b => by
    intro z hz
    unfold mergedV at hz
    split at hz
    · rcases List.mem_cons.1 hz with rfl | hz
      · exact .inl (by simp)
      · rcases mergedV_mem a (y :: b) z hz with h | h
        · exact .inl (by simp [h])
        · exact .inr h
    · rcases List.mem_cons.1 hz with rfl | hz
      · exact .inr (by simp)
      · rcases mergedV_mem (x :: a) b z hz with h | h
        · exact .inl h
        · exact .inr (by simp [h])
termination_by a b => a.length + b.length
theorem mergedV_len : ∀ (a b : List CoinV), (mergedV a b).length = a.length + b.length
  | [], b => by simp [mergedV]
  | x :: a, [] => by simp [mergedV]
  | x :: a, y :: b => by
    unfold mergedV
    split
    · rw [List.length_cons, mergedV_len a (y :: b)]; simp; omega
    · rw [List.length_cons, mergedV_len (x :: a) b]; simp; omega
termination_by a b => a.length + b.length
/-- What is merged so far. -/
structure MgS (w : World) (A B : List CoinV) (i j : Nat) (S : List CoinV) (v : Value) (W : World) : Prop where
  eq : mergedV A B = S ++ mergedV (A.drop i) (B.drop j)
  len : S.length = i + j
  own : W.ownsRow w.heap.size 54 36 v S.length (coinCells S)
  below : Below w.heap.size w W
theorem MgS.goA {w : World} {A B : List CoinV} {i j : Nat} {S : List CoinV} {v v' : Value} {W W1 W' : World} (h : MgS w A B i j S v W) (hi : i < A.length) (hc : mergedV (A.drop i) (B.drop j) = A[i] :: mergedV (A.drop (i + 1)) (B.drop j)) (hb : Below W.heap.size W W1) (ha : AppK W1 w.heap.size S A[i] v v' W') : MgS w A B (i + 1) j (S ++ [A[i]]) v' W' :=
  ⟨by rw [h.eq, hc]; simp, by rw [List.length_append, h.len, List.length_singleton]; omega, by rw [List.length_append, List.length_singleton, show coinCells (S ++ [A[i]]) = coinCells S ++ coinCell A[i] from by simp [coinCells]]; exact ha.1, (h.below.trans (hb.mono h.below.size)).trans ha.2⟩
theorem MgS.goB {w : World} {A B : List CoinV} {i j : Nat} {S : List CoinV} {v v' : Value} {W W1 W' : World} (h : MgS w A B i j S v W) (hj : j < B.length) (hc : mergedV (A.drop i) (B.drop j) = B[j] :: mergedV (A.drop i) (B.drop (j + 1))) (hb : Below W.heap.size W W1) (ha : AppK W1 w.heap.size S B[j] v v' W') : MgS w A B i (j + 1) (S ++ [B[j]]) v' W' :=
  ⟨by rw [h.eq, hc]; simp, by rw [List.length_append, h.len, List.length_singleton]; omega, by rw [List.length_append, List.length_singleton, show coinCells (S ++ [B[j]]) = coinCells S ++ coinCell B[j] from by simp [coinCells]]; exact ha.1, (h.below.trans (hb.mono h.below.size)).trans ha.2⟩
theorem mg_endB {A B : List CoinV} {i j : Nat} (hi : i < A.length) (hj : B.length ≤ j) : mergedV (A.drop i) (B.drop j) = A[i] :: mergedV (A.drop (i + 1)) (B.drop j) := by
  rw [List.drop_eq_nil_of_le hj, mergedV_nil, mergedV_nil, List.drop_eq_getElem_cons hi]
theorem mg_endA {A B : List CoinV} {i j : Nat} (hi : A.length ≤ i) (hj : j < B.length) : mergedV (A.drop i) (B.drop j) = B[j] :: mergedV (A.drop i) (B.drop (j + 1)) := by
  rw [List.drop_eq_nil_of_le hi, List.drop_eq_getElem_cons hj]; simp [mergedV]
theorem mg_lt {A B : List CoinV} {i j : Nat} (hi : i < A.length) (hj : j < B.length) (h : Cn.pl (Cn.place A[i].it) (Cn.place B[j].it) < 0) : mergedV (A.drop i) (B.drop j) = A[i] :: mergedV (A.drop (i + 1)) (B.drop j) := by
  rw [List.drop_eq_getElem_cons hi, List.drop_eq_getElem_cons hj, mergedV, if_pos h]
theorem mg_ge {A B : List CoinV} {i j : Nat} (hi : i < A.length) (hj : j < B.length) (h : ¬ Cn.pl (Cn.place A[i].it) (Cn.place B[j].it) < 0) : mergedV (A.drop i) (B.drop j) = B[j] :: mergedV (A.drop i) (B.drop (j + 1)) := by
  rw [List.drop_eq_getElem_cons hi, List.drop_eq_getElem_cons hj, mergedV, if_neg h]
theorem mg_done {A B : List CoinV} {i j : Nat} (hi : A.length ≤ i) (hj : B.length ≤ j) : mergedV (A.drop i) (B.drop j) = [] := by
  rw [List.drop_eq_nil_of_le hi, List.drop_eq_nil_of_le hj]; simp [mergedV]
set_option maxRecDepth 100000 in
set_option maxHeartbeats 8000000 in
theorem rmerged_any (av bv : Value) (A B : List CoinV) (w : World) (hA : HasCoins w av A) (hB : HasCoins w bv B) (hal : A.length ≤ 1000) (hbl : B.length ≤ 1000) :
    Calls Tryz.prog 15 #[av, bv] w fun e w' => (∃ v, e = .returned v ∧ w'.ownsRow w.heap.size 54 36 v (mergedV A B).length (coinCells (mergedV A B))) ∧ Below w.heap.size w w' := by
  obtain ⟨aa, ac, rfl, _, har⟩ := coins_form hA
  obtain ⟨ba, bc, rfl, _, hbr⟩ := coins_form hB
  have HAR := hide har
  have HBR := hide hbr
  have HAO := hide hA.2
  have HBO := hide hB.2
  have HST : Hid (MgS w A B 0 0 [] (.slice none 0 0) w) := hide ⟨rfl, rfl, World.ownsRow_nil w w.heap.size 54 36, Below.refl _ _⟩
  obtain ⟨il, hil⟩ : ∃ n, A.length = n := ⟨_, rfl⟩
  obtain ⟨jl, hjl⟩ : ∃ n, B.length = n := ⟨_, rfl⟩
  have HIL := hide hil
  have HJL := hide hjl
  rw [hil] at hal
  rw [hjl] at hbl
  rw [hil, hjl]
  clear hA hB har hbr hil hjl
  go_enter Tryz.func15, Tryz.ntmps15
  go_wp2
  go_loopw [5, 6, 7] (fun v x y wr => ∃ (i j : Nat) (S : List CoinV), i ≤ il ∧ j ≤ jl ∧ x = .int .i64 i ∧ y = .int .i64 j ∧ MgS w A B i j S v wr) (fun _ x y _ => il + jl - ((intOf x).toNat + (intOf y).toNat))
  case atStart => exact ⟨0, 0, [], by omega, by omega, rfl, rfl, HST.out⟩
  case round =>
    obtain ⟨i, j, S, hi, hj, rfl, rfl, hs⟩ := hrel
    obtain ⟨va, vc, hv⟩ := owns_form hs.own
    subst hv
    have HS := hide hs
    have hSl : S.length ≤ 2000 := by rw [hs.len]; omega
    clear hs HST
    by_cases hilt : i < il
    · have hii : (i : Int) < (il : Int) := by omega
      have hia : i < A.length := by rw [HIL.out]; exact hilt
      obtain ⟨ab, ao, rfl, hc1, hc2, hla0, hra⟩ := HAR.out i hia
      rw [HIL.out] at hc1
      unfold maxLen at hc2
      obtain ⟨CA, hCA⟩ : ∃ C, C = coinCell A[i] := ⟨_, rfl⟩
      obtain ⟨PA, hPA⟩ : ∃ P, P = vals A[i].tx ++ [Value.int .i64 A[i].at'] := ⟨_, rfl⟩
      have hxo := HAO.out _ (List.getElem_mem hia)
      have HCLA : Hid (CA.length = 36) := hide (by rw [hCA]; exact coinCell_length _ hxo.1)
      have hCAp : ¬ CA = [] := by intro h; have := HCLA.out; rw [h] at this; cases this
      have hPAl : PA.length = 33 := by rw [hPA]; simp [vals_length, hxo.1]
      have hPAp : ¬ PA = [] := by intro h; rw [h] at hPAl; cases hPAl
      have hsza : (Tryz.prog.info? 46).map (·.size) = some PA.length := by rw [hPAl]; exact size_placeC
      have HRWA : Hid (∀ W, Below w.heap.size w W → W.rangeAt ab (ao + i * 36) CA) := hide (fun W hW => by rw [hCA]; exact range_keep hra hW hla0)
      have HRA : Hid (wr.drew.rangeAt ab (ao + i * 36) PA) := hide (by rw [hPA]; exact (coin_range (range_keep hra HS.out.below.drew hla0) hxo.1).1)
      have hla : ab < wr.heap.size := Nat.lt_of_lt_of_le hla0 HS.out.below.size
      have HAPA := hide (fun W (hW : w.heap.size ≤ W.heap.size) (ho : W.ownsRow w.heap.size 54 36 (.slice va S.length vc) S.length (coinCells S)) ty => run_appC W w.heap.size S A[i] (.slice va S.length vc) ho hxo.1 (hasOps_slice hxo.2.2) (by omega) hW ty)
      rw [← hCA] at HAPA
      by_cases hjlt : j < jl
      · have hjj : (j : Int) < (jl : Int) := by omega
        have hjz : ((j : Int) == (jl : Int)) = false := by rw [beq_eq_false_iff_ne]; omega
        have hjb : j < B.length := by rw [HJL.out]; exact hjlt
        obtain ⟨bb, bo, rfl, hd1, hd2, hlb0, hrb⟩ := HBR.out j hjb
        rw [HJL.out] at hd1
        unfold maxLen at hd2
        obtain ⟨CB, hCB⟩ : ∃ C, C = coinCell B[j] := ⟨_, rfl⟩
        obtain ⟨PB, hPB⟩ : ∃ P, P = vals B[j].tx ++ [Value.int .i64 B[j].at'] := ⟨_, rfl⟩
        have hyo := HBO.out _ (List.getElem_mem hjb)
        have HCLB : Hid (CB.length = 36) := hide (by rw [hCB]; exact coinCell_length _ hyo.1)
        have hCBp : ¬ CB = [] := by intro h; have := HCLB.out; rw [h] at this; cases this
        have hPBl : PB.length = 33 := by rw [hPB]; simp [vals_length, hyo.1]
        have hPBp : ¬ PB = [] := by intro h; rw [h] at hPBl; cases hPBl
        have hszb : (Tryz.prog.info? 46).map (·.size) = some PB.length := by rw [hPBl]; exact size_placeC
        have HRWB : Hid (∀ W, Below w.heap.size w W → W.rangeAt bb (bo + j * 36) CB) := hide (fun W hW => by rw [hCB]; exact range_keep hrb hW hlb0)
        have HRB : Hid (wr.drew.rangeAt bb (bo + j * 36) PB) := hide (by rw [hPB]; exact (coin_range (range_keep hrb HS.out.below.drew hlb0) hyo.1).1)
        have hlb : bb < wr.heap.size := Nat.lt_of_lt_of_le hlb0 HS.out.below.size
        have HAPB := hide (fun W (hW : w.heap.size ≤ W.heap.size) (ho : W.ownsRow w.heap.size 54 36 (.slice va S.length vc) S.length (coinCells S)) ty => run_appC W w.heap.size S B[j] (.slice va S.length vc) ho hyo.1 (hasOps_slice hyo.2.2) (by omega) hW ty)
        rw [← hCB] at HAPB
        obtain ⟨r, hr⟩ : ∃ r, r = Cn.pl (Cn.place A[i].it) (Cn.place B[j].it) := ⟨_, rfl⟩
        have HRP : Hid (∀ W : World, Calls Tryz.prog 27 #[.agg PA.toArray, .agg PB.toArray] W fun e w' => e = .returned (.int .i64 r) ∧ Below W.heap.size W w') := hide (fun W => by rw [hPA, hPB, hr]; exact rplaces_any A[i].tx B[j].tx A[i].at' B[j].at' W hxo.1 hyo.1)
        by_cases hrlt : r < 0
        · have HNA := hide (fun v' W1 W' (hW : Below wr.heap.size wr W1) (ha : AppK W1 w.heap.size S A[i] (.slice va S.length vc) v' W') => HS.out.goA hia (mg_lt hia hjb (by rw [← hr]; exact hrlt)) hW ha)
          clear hr hCA hCB hPA hPB hPAl hPBl hra hrb hxo hyo
          go_wp2_with fail
          refine wp_region_held_drew (S := fun W : World => W.rangeAt ab (ao + i * 36) PA ∧ W.rangeAt bb (bo + j * 36) PB ∧ Hid (Below wr.heap.size wr W)) (by kernel_rfl) ?_ (fun hHeld0 => ?_)
          · exact ⟨HRA.out, HRB.out, hide (Below.refl _ _).drew⟩
          refine wpAnyH_take (i := 0) (v := ?_) rfl (by kernel_rfl) (by kernel_rfl) (by kernel_rfl) (fun _ _ _ h => h) (Or.inl ⟨by rfl, ?_⟩) hHeld0 ?_
          rotate_left
          · (intro w hSw; (try dsimp only at hSw); go_simp <;> (try with_reducible rfl))
          simp only [Act.put, List.getElem_toArray, List.getElem_cons_zero, List.getElem_cons_succ, List.setIfInBounds_toArray, List.set_cons_zero, List.set_cons_succ]
          refine wpAnyH_take (i := 1) (v := ?_) rfl (by kernel_rfl) (by kernel_rfl) (by kernel_rfl) (fun _ _ _ h => h) (Or.inl ⟨by rfl, ?_⟩) hHeld0 ?_
          rotate_left
          · (intro w hSw; (try dsimp only at hSw); go_simp <;> (try with_reducible rfl))
          simp only [Act.put, List.getElem_toArray, List.getElem_cons_zero, List.getElem_cons_succ, List.setIfInBounds_toArray, List.set_cons_zero, List.set_cons_succ]
          refine wpAnyH_take (i := 2) (v := ?_) rfl (by kernel_rfl) (by kernel_rfl) (by kernel_rfl) (fun _ _ _ h => h) (Or.inl ⟨by rfl, ?_⟩) hHeld0 ?_
          rotate_left
          · (intro w hSw; (try dsimp only at hSw); go_simp <;> (try with_reducible rfl))
          simp only [Act.put, List.getElem_toArray, List.getElem_cons_zero, List.getElem_cons_succ, List.setIfInBounds_toArray, List.set_cons_zero, List.set_cons_succ]
          refine wpAnyH_take (i := 3) (v := ?_) rfl (by kernel_rfl) (by kernel_rfl) (by kernel_rfl) (fun _ _ _ h => h) (Or.inl ⟨by rfl, ?_⟩) hHeld0 ?_
          rotate_left
          · (intro w hSw; (try dsimp only at hSw); go_simp <;> (try with_reducible rfl))
          simp only [Act.put, List.getElem_toArray, List.getElem_cons_zero, List.getElem_cons_succ, List.setIfInBounds_toArray, List.set_cons_zero, List.set_cons_succ]
          refine wpAnyH_take (i := 4) (v := ?_) rfl (by kernel_rfl) (by kernel_rfl) (by kernel_rfl) (fun _ _ _ h => h) (Or.inl ⟨by rfl, ?_⟩) hHeld0 ?_
          rotate_left
          · (intro w hSw; (try dsimp only at hSw); go_simp <;> (try with_reducible rfl))
          simp only [Act.put, List.getElem_toArray, List.getElem_cons_zero, List.getElem_cons_succ, List.setIfInBounds_toArray, List.set_cons_zero, List.set_cons_succ]
          refine wpAnyH_take (i := 5) (v := ?_) rfl (by kernel_rfl) (by kernel_rfl) (by kernel_rfl) (fun _ _ _ h => h) (Or.inl ⟨by rfl, ?_⟩) hHeld0 ?_
          rotate_left
          · (intro w hSw; (try dsimp only at hSw); go_simp <;> (try with_reducible rfl))
          simp only [Act.put, List.getElem_toArray, List.getElem_cons_zero, List.getElem_cons_succ, List.setIfInBounds_toArray, List.set_cons_zero, List.set_cons_succ]
          refine wpAnyH_take (i := 6) (v := ?_) rfl (by kernel_rfl) (by kernel_rfl) (by kernel_rfl) (fun _ _ _ h => h) (Or.inl ⟨by rfl, ?_⟩) hHeld0 ?_
          rotate_left
          · (intro w hSw; (try dsimp only at hSw); go_simp <;> (try with_reducible rfl))
          simp only [Act.put, List.getElem_toArray, List.getElem_cons_zero, List.getElem_cons_succ, List.setIfInBounds_toArray, List.set_cons_zero, List.set_cons_succ]
          refine wpAnyH_take (i := 7) (v := ?_) rfl (by kernel_rfl) (by kernel_rfl) (by kernel_rfl) (fun _ _ _ h => h) (Or.inl ⟨by rfl, ?_⟩) hHeld0 ?_
          rotate_left
          · (intro w hSw; (try dsimp only at hSw); go_simp <;> (try with_reducible rfl))
          simp only [Act.put, List.getElem_toArray, List.getElem_cons_zero, List.getElem_cons_succ, List.setIfInBounds_toArray, List.set_cons_zero, List.set_cons_succ]
          refine wpAnyH_take (i := 8) (v := ?_) rfl (by kernel_rfl) (by kernel_rfl) (by kernel_rfl) (fun _ _ _ h => h) (Or.inl ⟨by rfl, ?_⟩) hHeld0 ?_
          rotate_left
          · (intro w hSw; (try dsimp only at hSw); go_simp <;> (try with_reducible rfl))
          simp only [Act.put, List.getElem_toArray, List.getElem_cons_zero, List.getElem_cons_succ, List.setIfInBounds_toArray, List.set_cons_zero, List.set_cons_succ]
          refine wpAnyH_take (i := 9) (v := ?_) rfl (by kernel_rfl) (by kernel_rfl) (by kernel_rfl) (fun _ _ _ h => h) (Or.inl ⟨by rfl, ?_⟩) hHeld0 ?_
          rotate_left
          · (intro w hSw; (try dsimp only at hSw); go_simp <;> (try with_reducible rfl))
          simp only [Act.put, List.getElem_toArray, List.getElem_cons_zero, List.getElem_cons_succ, List.setIfInBounds_toArray, List.set_cons_zero, List.set_cons_succ]
          refine wpAnyH_take (i := 10) (v := ?_) rfl (by kernel_rfl) (by kernel_rfl) (by kernel_rfl) (fun _ _ _ h => h) (Or.inl ⟨by rfl, ?_⟩) hHeld0 ?_
          rotate_left
          · (intro w hSw; (try dsimp only at hSw); go_simp <;> (try with_reducible rfl))
          simp only [Act.put, List.getElem_toArray, List.getElem_cons_zero, List.getElem_cons_succ, List.setIfInBounds_toArray, List.set_cons_zero, List.set_cons_succ]
          refine wpAnyH_take (i := 11) (v := ?_) rfl (by kernel_rfl) (by kernel_rfl) (by kernel_rfl) (fun _ _ _ h => h) (Or.inl ⟨by rfl, ?_⟩) hHeld0 ?_
          rotate_left
          · (intro w hSw; (try dsimp only at hSw); go_simp <;> (try with_reducible rfl))
          simp only [Act.put, List.getElem_toArray, List.getElem_cons_zero, List.getElem_cons_succ, List.setIfInBounds_toArray, List.set_cons_zero, List.set_cons_succ]
          refine wpAnyH_take (i := 12) (v := ?_) rfl (by kernel_rfl) (by kernel_rfl) (by kernel_rfl) (fun _ _ _ h => h) (Or.inl ⟨by rfl, ?_⟩) hHeld0 ?_
          rotate_left
          · (intro w hSw; (try dsimp only at hSw); go_simp <;> (try with_reducible rfl))
          simp only [Act.put, List.getElem_toArray, List.getElem_cons_zero, List.getElem_cons_succ, List.setIfInBounds_toArray, List.set_cons_zero, List.set_cons_succ]
          refine wpAnyH_take (i := 13) (v := ?_) rfl (by kernel_rfl) (by kernel_rfl) (by kernel_rfl) (fun _ _ _ h => h) (Or.inl ⟨by rfl, ?_⟩) hHeld0 ?_
          rotate_left
          · (intro w hSw; (try dsimp only at hSw); go_simp <;> (try with_reducible rfl))
          simp only [Act.put, List.getElem_toArray, List.getElem_cons_zero, List.getElem_cons_succ, List.setIfInBounds_toArray, List.set_cons_zero, List.set_cons_succ]
          refine wpAnyH_take (i := 14) (v := .agg (PA).toArray) rfl (by kernel_rfl) (by kernel_rfl) (by kernel_rfl) (fun _ _ _ h => h) (yieldsIf_load_mid (by rfl) _ _ rfl _ _ rfl (PA) _ (fun w hSw => hSw.1) Tryz.underlying46 rfl hsza) hHeld0 ?_
          simp only [Act.put, List.getElem_toArray, List.getElem_cons_zero, List.getElem_cons_succ, List.setIfInBounds_toArray, List.set_cons_zero, List.set_cons_succ]
          refine wpAnyH_take (i := 15) (v := ?_) rfl (by kernel_rfl) (by kernel_rfl) (by kernel_rfl) (fun _ _ _ h => h) (Or.inl ⟨by rfl, ?_⟩) hHeld0 ?_
          rotate_left
          · (intro w hSw; (try dsimp only at hSw); go_simp <;> (try with_reducible rfl))
          simp only [Act.put, List.getElem_toArray, List.getElem_cons_zero, List.getElem_cons_succ, List.setIfInBounds_toArray, List.set_cons_zero, List.set_cons_succ]
          refine wpAnyH_take (i := 16) (v := ?_) rfl (by kernel_rfl) (by kernel_rfl) (by kernel_rfl) (fun _ _ _ h => h) (Or.inl ⟨by rfl, ?_⟩) hHeld0 ?_
          rotate_left
          · (intro w hSw; (try dsimp only at hSw); go_simp <;> (try with_reducible rfl))
          simp only [Act.put, List.getElem_toArray, List.getElem_cons_zero, List.getElem_cons_succ, List.setIfInBounds_toArray, List.set_cons_zero, List.set_cons_succ]
          refine wpAnyH_take (i := 17) (v := ?_) rfl (by kernel_rfl) (by kernel_rfl) (by kernel_rfl) (fun _ _ _ h => h) (Or.inl ⟨by rfl, ?_⟩) hHeld0 ?_
          rotate_left
          · (intro w hSw; (try dsimp only at hSw); go_simp <;> (try with_reducible rfl))
          simp only [Act.put, List.getElem_toArray, List.getElem_cons_zero, List.getElem_cons_succ, List.setIfInBounds_toArray, List.set_cons_zero, List.set_cons_succ]
          refine wpAnyH_take (i := 18) (v := ?_) rfl (by kernel_rfl) (by kernel_rfl) (by kernel_rfl) (fun _ _ _ h => h) (Or.inl ⟨by rfl, ?_⟩) hHeld0 ?_
          rotate_left
          · (intro w hSw; (try dsimp only at hSw); go_simp <;> (try with_reducible rfl))
          simp only [Act.put, List.getElem_toArray, List.getElem_cons_zero, List.getElem_cons_succ, List.setIfInBounds_toArray, List.set_cons_zero, List.set_cons_succ]
          refine wpAnyH_take (i := 19) (v := .agg (PB).toArray) rfl (by kernel_rfl) (by kernel_rfl) (by kernel_rfl) (fun _ _ _ h => h) (yieldsIf_load_mid (by rfl) _ _ rfl _ _ rfl (PB) _ (fun w hSw => hSw.2.1) Tryz.underlying46 rfl hszb) hHeld0 ?_
          simp only [Act.put, List.getElem_toArray, List.getElem_cons_zero, List.getElem_cons_succ, List.setIfInBounds_toArray, List.set_cons_zero, List.set_cons_succ]
          refine wpAnyH_ready (rs := [20]) (by kernel_rfl) (by simp) ?_
          refine AllReadyH.cons rfl (fun K hK => ?_) AllReadyH.nil
          go_simp
          go_wp2_with ((go_at_call 27; refine (HRP.out _).mono ?_; rintro e W2 ⟨rfl, hb2⟩))
          refine hK.out _ _ (by exact ⟨range_keep hHeld0.1 hb2 (Nat.lt_of_lt_of_le hla hHeld0.2.2.out.size), range_keep hHeld0.2.1 hb2 (Nat.lt_of_lt_of_le hlb hHeld0.2.2.out.size), hide (hHeld0.2.2.out.trans (hb2.mono hHeld0.2.2.out.size))⟩) (fun hHeld1 => ?_)
          clear hK K hHeld0
          try simp only [Act.put, List.getElem_toArray, List.getElem_cons_zero, List.getElem_cons_succ, List.setIfInBounds_toArray, List.set_cons_zero, List.set_cons_succ]
          refine wpAnyH_take (i := 21) (v := ?_) rfl (by kernel_rfl) (by kernel_rfl) (by kernel_rfl) (fun _ _ _ h => h) (Or.inl ⟨by rfl, ?_⟩) hHeld1 ?_
          rotate_left
          · (intro w hSw; (try dsimp only at hSw); go_simp <;> (try with_reducible rfl))
          simp only [Act.put, List.getElem_toArray, List.getElem_cons_zero, List.getElem_cons_succ, List.setIfInBounds_toArray, List.set_cons_zero, List.set_cons_succ]
          refine wpAnyH_take (i := 22) (v := ?_) rfl (by kernel_rfl) (by kernel_rfl) (by kernel_rfl) (fun _ _ _ h => h) (Or.inl ⟨by rfl, ?_⟩) hHeld1 ?_
          rotate_left
          · (intro w hSw; (try dsimp only at hSw); go_simp <;> (try with_reducible rfl))
          simp only [Act.put, List.getElem_toArray, List.getElem_cons_zero, List.getElem_cons_succ, List.setIfInBounds_toArray, List.set_cons_zero, List.set_cons_succ]
          refine wpAnyH_take (i := 23) (v := ?_) rfl (by kernel_rfl) (by kernel_rfl) (by kernel_rfl) (fun _ _ _ h => h) (Or.inl ⟨by rfl, ?_⟩) hHeld1 ?_
          rotate_left
          · (intro w hSw; (try dsimp only at hSw); go_simp <;> (try with_reducible rfl))
          simp only [Act.put, List.getElem_toArray, List.getElem_cons_zero, List.getElem_cons_succ, List.setIfInBounds_toArray, List.set_cons_zero, List.set_cons_succ]
          refine wpAnyH_done (by kernel_rfl) ?_ _
          have HBW := hide (hHeld1.2.2.out)
          clear hHeld1
          have HO2 := hide (owns_below HS.out.own HBW.out)
          have HRX := hide (HRWA.out _ (HS.out.below.trans (HBW.out.mono HS.out.below.size)))
          go_wp2_with (first
            | (refine wpList_load_part 54 CA ab (ao + i * 36) rfl (.tmp 45) rfl rfl HRX.out Tryz.underlying54 rfl size_coin HCLA.out ?_)
            | (refine wpList_build_one 22 54 CA rfl (.tmp 46) rfl rfl Tryz.underlying22 ZC info_coinS (by omega) (by omega) HCLA.out ?_)
            | (at_builtin; refine cl_append_by (AppK W2 w.heap.size S A[i] (.slice va S.length vc)) rfl (.tmp 42) (.tmp 47) rfl (.slice va S.length vc) (.slice (some ⟨W2.heap.size, 0, none⟩) 1 1) rfl rfl (fun ty => HAPA.out W2 (Nat.le_trans HS.out.below.size HBW.out.size) HO2.out ty) ?_; intro v6 w6 h6; obtain ⟨va6, vc6, hv6⟩ := owns_form h6.1; subst hv6; have HA6 := hide h6; clear h6))
          go_roundw
          case rel => exact ⟨i + 1, j, S ++ [A[i]], by omega, by omega, by go_num, by go_num, HNA.out _ _ _ HBW.out HA6.out⟩
          case measure => simp [intOf]; omega
        · have HNB := hide (fun v' W1 W' (hW : Below wr.heap.size wr W1) (ha : AppK W1 w.heap.size S B[j] (.slice va S.length vc) v' W') => HS.out.goB hjb (mg_ge hia hjb (by rw [← hr]; exact hrlt)) hW ha)
          clear hr hCA hCB hPA hPB hPAl hPBl hra hrb hxo hyo
          go_wp2_with fail
          refine wp_region_held_drew (S := fun W : World => W.rangeAt ab (ao + i * 36) PA ∧ W.rangeAt bb (bo + j * 36) PB ∧ Hid (Below wr.heap.size wr W)) (by kernel_rfl) ?_ (fun hHeld0 => ?_)
          · exact ⟨HRA.out, HRB.out, hide (Below.refl _ _).drew⟩
          refine wpAnyH_take (i := 0) (v := ?_) rfl (by kernel_rfl) (by kernel_rfl) (by kernel_rfl) (fun _ _ _ h => h) (Or.inl ⟨by rfl, ?_⟩) hHeld0 ?_
          rotate_left
          · (intro w hSw; (try dsimp only at hSw); go_simp <;> (try with_reducible rfl))
          simp only [Act.put, List.getElem_toArray, List.getElem_cons_zero, List.getElem_cons_succ, List.setIfInBounds_toArray, List.set_cons_zero, List.set_cons_succ]
          refine wpAnyH_take (i := 1) (v := ?_) rfl (by kernel_rfl) (by kernel_rfl) (by kernel_rfl) (fun _ _ _ h => h) (Or.inl ⟨by rfl, ?_⟩) hHeld0 ?_
          rotate_left
          · (intro w hSw; (try dsimp only at hSw); go_simp <;> (try with_reducible rfl))
          simp only [Act.put, List.getElem_toArray, List.getElem_cons_zero, List.getElem_cons_succ, List.setIfInBounds_toArray, List.set_cons_zero, List.set_cons_succ]
          refine wpAnyH_take (i := 2) (v := ?_) rfl (by kernel_rfl) (by kernel_rfl) (by kernel_rfl) (fun _ _ _ h => h) (Or.inl ⟨by rfl, ?_⟩) hHeld0 ?_
          rotate_left
          · (intro w hSw; (try dsimp only at hSw); go_simp <;> (try with_reducible rfl))
          simp only [Act.put, List.getElem_toArray, List.getElem_cons_zero, List.getElem_cons_succ, List.setIfInBounds_toArray, List.set_cons_zero, List.set_cons_succ]
          refine wpAnyH_take (i := 3) (v := ?_) rfl (by kernel_rfl) (by kernel_rfl) (by kernel_rfl) (fun _ _ _ h => h) (Or.inl ⟨by rfl, ?_⟩) hHeld0 ?_
          rotate_left
          · (intro w hSw; (try dsimp only at hSw); go_simp <;> (try with_reducible rfl))
          simp only [Act.put, List.getElem_toArray, List.getElem_cons_zero, List.getElem_cons_succ, List.setIfInBounds_toArray, List.set_cons_zero, List.set_cons_succ]
          refine wpAnyH_take (i := 4) (v := ?_) rfl (by kernel_rfl) (by kernel_rfl) (by kernel_rfl) (fun _ _ _ h => h) (Or.inl ⟨by rfl, ?_⟩) hHeld0 ?_
          rotate_left
          · (intro w hSw; (try dsimp only at hSw); go_simp <;> (try with_reducible rfl))
          simp only [Act.put, List.getElem_toArray, List.getElem_cons_zero, List.getElem_cons_succ, List.setIfInBounds_toArray, List.set_cons_zero, List.set_cons_succ]
          refine wpAnyH_take (i := 5) (v := ?_) rfl (by kernel_rfl) (by kernel_rfl) (by kernel_rfl) (fun _ _ _ h => h) (Or.inl ⟨by rfl, ?_⟩) hHeld0 ?_
          rotate_left
          · (intro w hSw; (try dsimp only at hSw); go_simp <;> (try with_reducible rfl))
          simp only [Act.put, List.getElem_toArray, List.getElem_cons_zero, List.getElem_cons_succ, List.setIfInBounds_toArray, List.set_cons_zero, List.set_cons_succ]
          refine wpAnyH_take (i := 6) (v := ?_) rfl (by kernel_rfl) (by kernel_rfl) (by kernel_rfl) (fun _ _ _ h => h) (Or.inl ⟨by rfl, ?_⟩) hHeld0 ?_
          rotate_left
          · (intro w hSw; (try dsimp only at hSw); go_simp <;> (try with_reducible rfl))
          simp only [Act.put, List.getElem_toArray, List.getElem_cons_zero, List.getElem_cons_succ, List.setIfInBounds_toArray, List.set_cons_zero, List.set_cons_succ]
          refine wpAnyH_take (i := 7) (v := ?_) rfl (by kernel_rfl) (by kernel_rfl) (by kernel_rfl) (fun _ _ _ h => h) (Or.inl ⟨by rfl, ?_⟩) hHeld0 ?_
          rotate_left
          · (intro w hSw; (try dsimp only at hSw); go_simp <;> (try with_reducible rfl))
          simp only [Act.put, List.getElem_toArray, List.getElem_cons_zero, List.getElem_cons_succ, List.setIfInBounds_toArray, List.set_cons_zero, List.set_cons_succ]
          refine wpAnyH_take (i := 8) (v := ?_) rfl (by kernel_rfl) (by kernel_rfl) (by kernel_rfl) (fun _ _ _ h => h) (Or.inl ⟨by rfl, ?_⟩) hHeld0 ?_
          rotate_left
          · (intro w hSw; (try dsimp only at hSw); go_simp <;> (try with_reducible rfl))
          simp only [Act.put, List.getElem_toArray, List.getElem_cons_zero, List.getElem_cons_succ, List.setIfInBounds_toArray, List.set_cons_zero, List.set_cons_succ]
          refine wpAnyH_take (i := 9) (v := ?_) rfl (by kernel_rfl) (by kernel_rfl) (by kernel_rfl) (fun _ _ _ h => h) (Or.inl ⟨by rfl, ?_⟩) hHeld0 ?_
          rotate_left
          · (intro w hSw; (try dsimp only at hSw); go_simp <;> (try with_reducible rfl))
          simp only [Act.put, List.getElem_toArray, List.getElem_cons_zero, List.getElem_cons_succ, List.setIfInBounds_toArray, List.set_cons_zero, List.set_cons_succ]
          refine wpAnyH_take (i := 10) (v := ?_) rfl (by kernel_rfl) (by kernel_rfl) (by kernel_rfl) (fun _ _ _ h => h) (Or.inl ⟨by rfl, ?_⟩) hHeld0 ?_
          rotate_left
          · (intro w hSw; (try dsimp only at hSw); go_simp <;> (try with_reducible rfl))
          simp only [Act.put, List.getElem_toArray, List.getElem_cons_zero, List.getElem_cons_succ, List.setIfInBounds_toArray, List.set_cons_zero, List.set_cons_succ]
          refine wpAnyH_take (i := 11) (v := ?_) rfl (by kernel_rfl) (by kernel_rfl) (by kernel_rfl) (fun _ _ _ h => h) (Or.inl ⟨by rfl, ?_⟩) hHeld0 ?_
          rotate_left
          · (intro w hSw; (try dsimp only at hSw); go_simp <;> (try with_reducible rfl))
          simp only [Act.put, List.getElem_toArray, List.getElem_cons_zero, List.getElem_cons_succ, List.setIfInBounds_toArray, List.set_cons_zero, List.set_cons_succ]
          refine wpAnyH_take (i := 12) (v := ?_) rfl (by kernel_rfl) (by kernel_rfl) (by kernel_rfl) (fun _ _ _ h => h) (Or.inl ⟨by rfl, ?_⟩) hHeld0 ?_
          rotate_left
          · (intro w hSw; (try dsimp only at hSw); go_simp <;> (try with_reducible rfl))
          simp only [Act.put, List.getElem_toArray, List.getElem_cons_zero, List.getElem_cons_succ, List.setIfInBounds_toArray, List.set_cons_zero, List.set_cons_succ]
          refine wpAnyH_take (i := 13) (v := ?_) rfl (by kernel_rfl) (by kernel_rfl) (by kernel_rfl) (fun _ _ _ h => h) (Or.inl ⟨by rfl, ?_⟩) hHeld0 ?_
          rotate_left
          · (intro w hSw; (try dsimp only at hSw); go_simp <;> (try with_reducible rfl))
          simp only [Act.put, List.getElem_toArray, List.getElem_cons_zero, List.getElem_cons_succ, List.setIfInBounds_toArray, List.set_cons_zero, List.set_cons_succ]
          refine wpAnyH_take (i := 14) (v := .agg (PA).toArray) rfl (by kernel_rfl) (by kernel_rfl) (by kernel_rfl) (fun _ _ _ h => h) (yieldsIf_load_mid (by rfl) _ _ rfl _ _ rfl (PA) _ (fun w hSw => hSw.1) Tryz.underlying46 rfl hsza) hHeld0 ?_
          simp only [Act.put, List.getElem_toArray, List.getElem_cons_zero, List.getElem_cons_succ, List.setIfInBounds_toArray, List.set_cons_zero, List.set_cons_succ]
          refine wpAnyH_take (i := 15) (v := ?_) rfl (by kernel_rfl) (by kernel_rfl) (by kernel_rfl) (fun _ _ _ h => h) (Or.inl ⟨by rfl, ?_⟩) hHeld0 ?_
          rotate_left
          · (intro w hSw; (try dsimp only at hSw); go_simp <;> (try with_reducible rfl))
          simp only [Act.put, List.getElem_toArray, List.getElem_cons_zero, List.getElem_cons_succ, List.setIfInBounds_toArray, List.set_cons_zero, List.set_cons_succ]
          refine wpAnyH_take (i := 16) (v := ?_) rfl (by kernel_rfl) (by kernel_rfl) (by kernel_rfl) (fun _ _ _ h => h) (Or.inl ⟨by rfl, ?_⟩) hHeld0 ?_
          rotate_left
          · (intro w hSw; (try dsimp only at hSw); go_simp <;> (try with_reducible rfl))
          simp only [Act.put, List.getElem_toArray, List.getElem_cons_zero, List.getElem_cons_succ, List.setIfInBounds_toArray, List.set_cons_zero, List.set_cons_succ]
          refine wpAnyH_take (i := 17) (v := ?_) rfl (by kernel_rfl) (by kernel_rfl) (by kernel_rfl) (fun _ _ _ h => h) (Or.inl ⟨by rfl, ?_⟩) hHeld0 ?_
          rotate_left
          · (intro w hSw; (try dsimp only at hSw); go_simp <;> (try with_reducible rfl))
          simp only [Act.put, List.getElem_toArray, List.getElem_cons_zero, List.getElem_cons_succ, List.setIfInBounds_toArray, List.set_cons_zero, List.set_cons_succ]
          refine wpAnyH_take (i := 18) (v := ?_) rfl (by kernel_rfl) (by kernel_rfl) (by kernel_rfl) (fun _ _ _ h => h) (Or.inl ⟨by rfl, ?_⟩) hHeld0 ?_
          rotate_left
          · (intro w hSw; (try dsimp only at hSw); go_simp <;> (try with_reducible rfl))
          simp only [Act.put, List.getElem_toArray, List.getElem_cons_zero, List.getElem_cons_succ, List.setIfInBounds_toArray, List.set_cons_zero, List.set_cons_succ]
          refine wpAnyH_take (i := 19) (v := .agg (PB).toArray) rfl (by kernel_rfl) (by kernel_rfl) (by kernel_rfl) (fun _ _ _ h => h) (yieldsIf_load_mid (by rfl) _ _ rfl _ _ rfl (PB) _ (fun w hSw => hSw.2.1) Tryz.underlying46 rfl hszb) hHeld0 ?_
          simp only [Act.put, List.getElem_toArray, List.getElem_cons_zero, List.getElem_cons_succ, List.setIfInBounds_toArray, List.set_cons_zero, List.set_cons_succ]
          refine wpAnyH_ready (rs := [20]) (by kernel_rfl) (by simp) ?_
          refine AllReadyH.cons rfl (fun K hK => ?_) AllReadyH.nil
          go_simp
          go_wp2_with ((go_at_call 27; refine (HRP.out _).mono ?_; rintro e W2 ⟨rfl, hb2⟩))
          refine hK.out _ _ (by exact ⟨range_keep hHeld0.1 hb2 (Nat.lt_of_lt_of_le hla hHeld0.2.2.out.size), range_keep hHeld0.2.1 hb2 (Nat.lt_of_lt_of_le hlb hHeld0.2.2.out.size), hide (hHeld0.2.2.out.trans (hb2.mono hHeld0.2.2.out.size))⟩) (fun hHeld1 => ?_)
          clear hK K hHeld0
          try simp only [Act.put, List.getElem_toArray, List.getElem_cons_zero, List.getElem_cons_succ, List.setIfInBounds_toArray, List.set_cons_zero, List.set_cons_succ]
          refine wpAnyH_take (i := 21) (v := ?_) rfl (by kernel_rfl) (by kernel_rfl) (by kernel_rfl) (fun _ _ _ h => h) (Or.inl ⟨by rfl, ?_⟩) hHeld1 ?_
          rotate_left
          · (intro w hSw; (try dsimp only at hSw); go_simp <;> (try with_reducible rfl))
          simp only [Act.put, List.getElem_toArray, List.getElem_cons_zero, List.getElem_cons_succ, List.setIfInBounds_toArray, List.set_cons_zero, List.set_cons_succ]
          refine wpAnyH_take (i := 22) (v := ?_) rfl (by kernel_rfl) (by kernel_rfl) (by kernel_rfl) (fun _ _ _ h => h) (Or.inl ⟨by rfl, ?_⟩) hHeld1 ?_
          rotate_left
          · (intro w hSw; (try dsimp only at hSw); go_simp <;> (try with_reducible rfl))
          simp only [Act.put, List.getElem_toArray, List.getElem_cons_zero, List.getElem_cons_succ, List.setIfInBounds_toArray, List.set_cons_zero, List.set_cons_succ]
          refine wpAnyH_take (i := 23) (v := ?_) rfl (by kernel_rfl) (by kernel_rfl) (by kernel_rfl) (fun _ _ _ h => h) (Or.inl ⟨by rfl, ?_⟩) hHeld1 ?_
          rotate_left
          · (intro w hSw; (try dsimp only at hSw); go_simp <;> (try with_reducible rfl))
          simp only [Act.put, List.getElem_toArray, List.getElem_cons_zero, List.getElem_cons_succ, List.setIfInBounds_toArray, List.set_cons_zero, List.set_cons_succ]
          refine wpAnyH_done (by kernel_rfl) ?_ _
          have HBW := hide (hHeld1.2.2.out)
          clear hHeld1
          have HO2 := hide (owns_below HS.out.own HBW.out)
          have HRX := hide (HRWB.out _ (HS.out.below.trans (HBW.out.mono HS.out.below.size)))
          go_wp2_with (first
            | (refine wpList_load_part 54 CB bb (bo + j * 36) rfl (.tmp 54) rfl rfl HRX.out Tryz.underlying54 rfl size_coin HCLB.out ?_)
            | (refine wpList_build_one 22 54 CB rfl (.tmp 55) rfl rfl Tryz.underlying22 ZC info_coinS (by omega) (by omega) HCLB.out ?_)
            | (at_builtin; refine cl_append_by (AppK W2 w.heap.size S B[j] (.slice va S.length vc)) rfl (.tmp 51) (.tmp 56) rfl (.slice va S.length vc) (.slice (some ⟨W2.heap.size, 0, none⟩) 1 1) rfl rfl (fun ty => HAPB.out W2 (Nat.le_trans HS.out.below.size HBW.out.size) HO2.out ty) ?_; intro v6 w6 h6; obtain ⟨va6, vc6, hv6⟩ := owns_form h6.1; subst hv6; have HA6 := hide h6; clear h6))
          go_roundw
          case rel => exact ⟨i, j + 1, S ++ [B[j]], by omega, by omega, by go_num, by go_num, HNB.out _ _ _ HBW.out HA6.out⟩
          case measure => simp [intOf]; omega
      · have hjj : ¬ (j : Int) < (jl : Int) := by omega
        have hje : j = jl := by omega
        subst hje
        have hjz : ((j : Int) == (j : Int)) = true := by simp
        have HNA := hide (fun v' W1 W' (hW : Below wr.heap.size wr W1) (ha : AppK W1 w.heap.size S A[i] (.slice va S.length vc) v' W') => HS.out.goA hia (mg_endB hia (by rw [HJL.out]; omega)) hW ha)
        clear hCA hPA hPAl hra hxo
        go_wp2_with fail
        refine wp_region_held_drew (S := fun W : World => Hid (Below wr.heap.size wr W)) (by kernel_rfl) ?_ (fun hHeld0 => ?_)
        · exact hide (Below.refl _ _).drew
        refine wpAnyH_take (i := 0) (v := ?_) rfl (by kernel_rfl) (by kernel_rfl) (by kernel_rfl) (fun _ _ _ h => h) (Or.inl ⟨by rfl, ?_⟩) hHeld0 ?_
        rotate_left
        · (intro w hSw; (try dsimp only at hSw); go_simp <;> (try with_reducible rfl))
        simp only [Act.put, List.getElem_toArray, List.getElem_cons_zero, List.getElem_cons_succ, List.setIfInBounds_toArray, List.set_cons_zero, List.set_cons_succ]
        refine wpAnyH_take (i := 1) (v := ?_) rfl (by kernel_rfl) (by kernel_rfl) (by kernel_rfl) (fun _ _ _ h => h) (Or.inl ⟨by rfl, ?_⟩) hHeld0 ?_
        rotate_left
        · (intro w hSw; (try dsimp only at hSw); go_simp <;> (try with_reducible rfl))
        simp only [Act.put, List.getElem_toArray, List.getElem_cons_zero, List.getElem_cons_succ, List.setIfInBounds_toArray, List.set_cons_zero, List.set_cons_succ]
        refine wpAnyH_take (i := 2) (v := ?_) rfl (by kernel_rfl) (by kernel_rfl) (by kernel_rfl) (fun _ _ _ h => h) (Or.inl ⟨by rfl, ?_⟩) hHeld0 ?_
        rotate_left
        · (intro w hSw; (try dsimp only at hSw); go_simp <;> (try with_reducible rfl))
        simp only [Act.put, List.getElem_toArray, List.getElem_cons_zero, List.getElem_cons_succ, List.setIfInBounds_toArray, List.set_cons_zero, List.set_cons_succ]
        refine wpAnyH_take (i := 3) (v := ?_) rfl (by kernel_rfl) (by kernel_rfl) (by kernel_rfl) (fun _ _ _ h => h) (Or.inl ⟨by rfl, ?_⟩) hHeld0 ?_
        rotate_left
        · (intro w hSw; (try dsimp only at hSw); go_simp <;> (try with_reducible rfl))
        simp only [Act.put, List.getElem_toArray, List.getElem_cons_zero, List.getElem_cons_succ, List.setIfInBounds_toArray, List.set_cons_zero, List.set_cons_succ]
        refine wpAnyH_take (i := 4) (v := ?_) rfl (by kernel_rfl) (by kernel_rfl) (by kernel_rfl) (fun _ _ _ h => h) (Or.inl ⟨by rfl, ?_⟩) hHeld0 ?_
        rotate_left
        · (intro w hSw; (try dsimp only at hSw); go_simp <;> (try with_reducible rfl))
        simp only [Act.put, List.getElem_toArray, List.getElem_cons_zero, List.getElem_cons_succ, List.setIfInBounds_toArray, List.set_cons_zero, List.set_cons_succ]
        refine wpAnyH_take (i := 5) (v := undef) rfl (by kernel_rfl) (by kernel_rfl) (by kernel_rfl) (fun _ _ _ h => h) (Or.inr ⟨by rfl, rfl⟩) hHeld0 ?_
        simp only [Act.put, List.getElem_toArray, List.getElem_cons_zero, List.getElem_cons_succ, List.setIfInBounds_toArray, List.set_cons_zero, List.set_cons_succ]
        refine wpAnyH_take (i := 6) (v := undef) rfl (by kernel_rfl) (by kernel_rfl) (by kernel_rfl) (fun _ _ _ h => h) (Or.inr ⟨by rfl, rfl⟩) hHeld0 ?_
        simp only [Act.put, List.getElem_toArray, List.getElem_cons_zero, List.getElem_cons_succ, List.setIfInBounds_toArray, List.set_cons_zero, List.set_cons_succ]
        refine wpAnyH_take (i := 7) (v := undef) rfl (by kernel_rfl) (by kernel_rfl) (by kernel_rfl) (fun _ _ _ h => h) (Or.inr ⟨by rfl, rfl⟩) hHeld0 ?_
        simp only [Act.put, List.getElem_toArray, List.getElem_cons_zero, List.getElem_cons_succ, List.setIfInBounds_toArray, List.set_cons_zero, List.set_cons_succ]
        refine wpAnyH_take (i := 8) (v := undef) rfl (by kernel_rfl) (by kernel_rfl) (by kernel_rfl) (fun _ _ _ h => h) (Or.inr ⟨by rfl, rfl⟩) hHeld0 ?_
        simp only [Act.put, List.getElem_toArray, List.getElem_cons_zero, List.getElem_cons_succ, List.setIfInBounds_toArray, List.set_cons_zero, List.set_cons_succ]
        refine wpAnyH_take (i := 9) (v := undef) rfl (by kernel_rfl) (by kernel_rfl) (by kernel_rfl) (fun _ _ _ h => h) (Or.inr ⟨by rfl, rfl⟩) hHeld0 ?_
        simp only [Act.put, List.getElem_toArray, List.getElem_cons_zero, List.getElem_cons_succ, List.setIfInBounds_toArray, List.set_cons_zero, List.set_cons_succ]
        refine wpAnyH_take (i := 10) (v := undef) rfl (by kernel_rfl) (by kernel_rfl) (by kernel_rfl) (fun _ _ _ h => h) (Or.inr ⟨by rfl, rfl⟩) hHeld0 ?_
        simp only [Act.put, List.getElem_toArray, List.getElem_cons_zero, List.getElem_cons_succ, List.setIfInBounds_toArray, List.set_cons_zero, List.set_cons_succ]
        refine wpAnyH_take (i := 11) (v := undef) rfl (by kernel_rfl) (by kernel_rfl) (by kernel_rfl) (fun _ _ _ h => h) (Or.inr ⟨by rfl, rfl⟩) hHeld0 ?_
        simp only [Act.put, List.getElem_toArray, List.getElem_cons_zero, List.getElem_cons_succ, List.setIfInBounds_toArray, List.set_cons_zero, List.set_cons_succ]
        refine wpAnyH_take (i := 12) (v := undef) rfl (by kernel_rfl) (by kernel_rfl) (by kernel_rfl) (fun _ _ _ h => h) (Or.inr ⟨by rfl, rfl⟩) hHeld0 ?_
        simp only [Act.put, List.getElem_toArray, List.getElem_cons_zero, List.getElem_cons_succ, List.setIfInBounds_toArray, List.set_cons_zero, List.set_cons_succ]
        refine wpAnyH_take (i := 13) (v := undef) rfl (by kernel_rfl) (by kernel_rfl) (by kernel_rfl) (fun _ _ _ h => h) (Or.inr ⟨by rfl, rfl⟩) hHeld0 ?_
        simp only [Act.put, List.getElem_toArray, List.getElem_cons_zero, List.getElem_cons_succ, List.setIfInBounds_toArray, List.set_cons_zero, List.set_cons_succ]
        refine wpAnyH_take (i := 14) (v := undef) rfl (by kernel_rfl) (by kernel_rfl) (by kernel_rfl) (fun _ _ _ h => h) (Or.inr ⟨by rfl, rfl⟩) hHeld0 ?_
        simp only [Act.put, List.getElem_toArray, List.getElem_cons_zero, List.getElem_cons_succ, List.setIfInBounds_toArray, List.set_cons_zero, List.set_cons_succ]
        refine wpAnyH_take (i := 15) (v := undef) rfl (by kernel_rfl) (by kernel_rfl) (by kernel_rfl) (fun _ _ _ h => h) (Or.inr ⟨by rfl, rfl⟩) hHeld0 ?_
        simp only [Act.put, List.getElem_toArray, List.getElem_cons_zero, List.getElem_cons_succ, List.setIfInBounds_toArray, List.set_cons_zero, List.set_cons_succ]
        refine wpAnyH_take (i := 16) (v := undef) rfl (by kernel_rfl) (by kernel_rfl) (by kernel_rfl) (fun _ _ _ h => h) (Or.inr ⟨by rfl, rfl⟩) hHeld0 ?_
        simp only [Act.put, List.getElem_toArray, List.getElem_cons_zero, List.getElem_cons_succ, List.setIfInBounds_toArray, List.set_cons_zero, List.set_cons_succ]
        refine wpAnyH_take (i := 17) (v := undef) rfl (by kernel_rfl) (by kernel_rfl) (by kernel_rfl) (fun _ _ _ h => h) (Or.inr ⟨by rfl, rfl⟩) hHeld0 ?_
        simp only [Act.put, List.getElem_toArray, List.getElem_cons_zero, List.getElem_cons_succ, List.setIfInBounds_toArray, List.set_cons_zero, List.set_cons_succ]
        refine wpAnyH_take (i := 18) (v := undef) rfl (by kernel_rfl) (by kernel_rfl) (by kernel_rfl) (fun _ _ _ h => h) (Or.inr ⟨by rfl, rfl⟩) hHeld0 ?_
        simp only [Act.put, List.getElem_toArray, List.getElem_cons_zero, List.getElem_cons_succ, List.setIfInBounds_toArray, List.set_cons_zero, List.set_cons_succ]
        refine wpAnyH_take (i := 19) (v := undef) rfl (by kernel_rfl) (by kernel_rfl) (by kernel_rfl) (fun _ _ _ h => h) (Or.inr ⟨by rfl, rfl⟩) hHeld0 ?_
        simp only [Act.put, List.getElem_toArray, List.getElem_cons_zero, List.getElem_cons_succ, List.setIfInBounds_toArray, List.set_cons_zero, List.set_cons_succ]
        refine wpAnyH_take (i := 20) (v := undef) rfl (by kernel_rfl) (by kernel_rfl) (by kernel_rfl) (fun _ _ _ h => h) (Or.inr ⟨by rfl, rfl⟩) hHeld0 ?_
        simp only [Act.put, List.getElem_toArray, List.getElem_cons_zero, List.getElem_cons_succ, List.setIfInBounds_toArray, List.set_cons_zero, List.set_cons_succ]
        refine wpAnyH_take (i := 21) (v := undef) rfl (by kernel_rfl) (by kernel_rfl) (by kernel_rfl) (fun _ _ _ h => h) (Or.inr ⟨by rfl, rfl⟩) hHeld0 ?_
        simp only [Act.put, List.getElem_toArray, List.getElem_cons_zero, List.getElem_cons_succ, List.setIfInBounds_toArray, List.set_cons_zero, List.set_cons_succ]
        refine wpAnyH_take (i := 22) (v := undef) rfl (by kernel_rfl) (by kernel_rfl) (by kernel_rfl) (fun _ _ _ h => h) (Or.inr ⟨by rfl, rfl⟩) hHeld0 ?_
        simp only [Act.put, List.getElem_toArray, List.getElem_cons_zero, List.getElem_cons_succ, List.setIfInBounds_toArray, List.set_cons_zero, List.set_cons_succ]
        refine wpAnyH_take (i := 23) (v := ?_) rfl (by kernel_rfl) (by kernel_rfl) (by kernel_rfl) (fun _ _ _ h => h) (Or.inl ⟨by rfl, ?_⟩) hHeld0 ?_
        rotate_left
        · (intro w hSw; (try dsimp only at hSw); go_simp <;> (try with_reducible rfl))
        simp only [Act.put, List.getElem_toArray, List.getElem_cons_zero, List.getElem_cons_succ, List.setIfInBounds_toArray, List.set_cons_zero, List.set_cons_succ]
        refine wpAnyH_done (by kernel_rfl) ?_ _
        have HBW := hide (hHeld0.out)
        clear hHeld0
        have HO2 := hide (owns_below HS.out.own HBW.out)
        have HRX := hide (HRWA.out _ (HS.out.below.trans (HBW.out.mono HS.out.below.size)))
        go_wp2_with (first
          | (refine wpList_load_part 54 CA ab (ao + i * 36) rfl (.tmp 45) rfl rfl HRX.out Tryz.underlying54 rfl size_coin HCLA.out ?_)
          | (refine wpList_build_one 22 54 CA rfl (.tmp 46) rfl rfl Tryz.underlying22 ZC info_coinS (by omega) (by omega) HCLA.out ?_)
          | (at_builtin; refine cl_append_by (AppK wr.drew w.heap.size S A[i] (.slice va S.length vc)) rfl (.tmp 42) (.tmp 47) rfl (.slice va S.length vc) (.slice (some ⟨wr.drew.heap.size, 0, none⟩) 1 1) rfl rfl (fun ty => HAPA.out wr.drew (Nat.le_trans HS.out.below.size HBW.out.size) HO2.out ty) ?_; intro v6 w6 h6; obtain ⟨va6, vc6, hv6⟩ := owns_form h6.1; subst hv6; have HA6 := hide h6; clear h6))
        go_roundw
        case rel => exact ⟨i + 1, j, S ++ [A[i]], by omega, by omega, by go_num, by go_num, HNA.out _ _ _ HBW.out HA6.out⟩
        case measure => simp [intOf]; omega
    · have hii : ¬ (i : Int) < (il : Int) := by omega
      by_cases hjlt : j < jl
      · have hjj : (j : Int) < (jl : Int) := by omega
        have hjz : ((j : Int) == (jl : Int)) = false := by rw [beq_eq_false_iff_ne]; omega
        have hjb : j < B.length := by rw [HJL.out]; exact hjlt
        obtain ⟨bb, bo, rfl, hd1, hd2, hlb0, hrb⟩ := HBR.out j hjb
        rw [HJL.out] at hd1
        unfold maxLen at hd2
        obtain ⟨CB, hCB⟩ : ∃ C, C = coinCell B[j] := ⟨_, rfl⟩
        have hyo := HBO.out _ (List.getElem_mem hjb)
        have HCLB : Hid (CB.length = 36) := hide (by rw [hCB]; exact coinCell_length _ hyo.1)
        have hCBp : ¬ CB = [] := by intro h; have := HCLB.out; rw [h] at this; cases this
        have HRWB : Hid (∀ W, Below w.heap.size w W → W.rangeAt bb (bo + j * 36) CB) := hide (fun W hW => by rw [hCB]; exact range_keep hrb hW hlb0)
        have HAPB := hide (fun W (hW : w.heap.size ≤ W.heap.size) (ho : W.ownsRow w.heap.size 54 36 (.slice va S.length vc) S.length (coinCells S)) ty => run_appC W w.heap.size S B[j] (.slice va S.length vc) ho hyo.1 (hasOps_slice hyo.2.2) (by omega) hW ty)
        rw [← hCB] at HAPB
        have HNB := hide (fun v' W1 W' (hW : Below wr.heap.size wr W1) (ha : AppK W1 w.heap.size S B[j] (.slice va S.length vc) v' W') => HS.out.goB hjb (mg_endA (by rw [HIL.out]; omega) hjb) hW ha)
        clear hCB hrb hyo
        go_wp2_with fail
        refine wp_region_held_drew (S := fun W : World => Hid (Below wr.heap.size wr W)) (by kernel_rfl) ?_ (fun hHeld0 => ?_)
        · exact hide (Below.refl _ _).drew
        refine wpAnyH_take (i := 0) (v := ?_) rfl (by kernel_rfl) (by kernel_rfl) (by kernel_rfl) (fun _ _ _ h => h) (Or.inl ⟨by rfl, ?_⟩) hHeld0 ?_
        rotate_left
        · (intro w hSw; (try dsimp only at hSw); go_simp <;> (try with_reducible rfl))
        simp only [Act.put, List.getElem_toArray, List.getElem_cons_zero, List.getElem_cons_succ, List.setIfInBounds_toArray, List.set_cons_zero, List.set_cons_succ]
        refine wpAnyH_take (i := 1) (v := ?_) rfl (by kernel_rfl) (by kernel_rfl) (by kernel_rfl) (fun _ _ _ h => h) (Or.inl ⟨by rfl, ?_⟩) hHeld0 ?_
        rotate_left
        · (intro w hSw; (try dsimp only at hSw); go_simp <;> (try with_reducible rfl))
        simp only [Act.put, List.getElem_toArray, List.getElem_cons_zero, List.getElem_cons_succ, List.setIfInBounds_toArray, List.set_cons_zero, List.set_cons_succ]
        refine wpAnyH_take (i := 2) (v := ?_) rfl (by kernel_rfl) (by kernel_rfl) (by kernel_rfl) (fun _ _ _ h => h) (Or.inl ⟨by rfl, ?_⟩) hHeld0 ?_
        rotate_left
        · (intro w hSw; (try dsimp only at hSw); go_simp <;> (try with_reducible rfl))
        simp only [Act.put, List.getElem_toArray, List.getElem_cons_zero, List.getElem_cons_succ, List.setIfInBounds_toArray, List.set_cons_zero, List.set_cons_succ]
        refine wpAnyH_take (i := 3) (v := ?_) rfl (by kernel_rfl) (by kernel_rfl) (by kernel_rfl) (fun _ _ _ h => h) (Or.inl ⟨by rfl, ?_⟩) hHeld0 ?_
        rotate_left
        · (intro w hSw; (try dsimp only at hSw); go_simp <;> (try with_reducible rfl))
        simp only [Act.put, List.getElem_toArray, List.getElem_cons_zero, List.getElem_cons_succ, List.setIfInBounds_toArray, List.set_cons_zero, List.set_cons_succ]
        refine wpAnyH_take (i := 4) (v := ?_) rfl (by kernel_rfl) (by kernel_rfl) (by kernel_rfl) (fun _ _ _ h => h) (Or.inl ⟨by rfl, ?_⟩) hHeld0 ?_
        rotate_left
        · (intro w hSw; (try dsimp only at hSw); go_simp <;> (try with_reducible rfl))
        simp only [Act.put, List.getElem_toArray, List.getElem_cons_zero, List.getElem_cons_succ, List.setIfInBounds_toArray, List.set_cons_zero, List.set_cons_succ]
        refine wpAnyH_take (i := 5) (v := ?_) rfl (by kernel_rfl) (by kernel_rfl) (by kernel_rfl) (fun _ _ _ h => h) (Or.inl ⟨by rfl, ?_⟩) hHeld0 ?_
        rotate_left
        · (intro w hSw; (try dsimp only at hSw); go_simp <;> (try with_reducible rfl))
        simp only [Act.put, List.getElem_toArray, List.getElem_cons_zero, List.getElem_cons_succ, List.setIfInBounds_toArray, List.set_cons_zero, List.set_cons_succ]
        refine wpAnyH_take (i := 6) (v := ?_) rfl (by kernel_rfl) (by kernel_rfl) (by kernel_rfl) (fun _ _ _ h => h) (Or.inl ⟨by rfl, ?_⟩) hHeld0 ?_
        rotate_left
        · (intro w hSw; (try dsimp only at hSw); go_simp <;> (try with_reducible rfl))
        simp only [Act.put, List.getElem_toArray, List.getElem_cons_zero, List.getElem_cons_succ, List.setIfInBounds_toArray, List.set_cons_zero, List.set_cons_succ]
        refine wpAnyH_take (i := 7) (v := ?_) rfl (by kernel_rfl) (by kernel_rfl) (by kernel_rfl) (fun _ _ _ h => h) (Or.inl ⟨by rfl, ?_⟩) hHeld0 ?_
        rotate_left
        · (intro w hSw; (try dsimp only at hSw); go_simp <;> (try with_reducible rfl))
        simp only [Act.put, List.getElem_toArray, List.getElem_cons_zero, List.getElem_cons_succ, List.setIfInBounds_toArray, List.set_cons_zero, List.set_cons_succ]
        refine wpAnyH_take (i := 8) (v := ?_) rfl (by kernel_rfl) (by kernel_rfl) (by kernel_rfl) (fun _ _ _ h => h) (Or.inl ⟨by rfl, ?_⟩) hHeld0 ?_
        rotate_left
        · (intro w hSw; (try dsimp only at hSw); go_simp <;> (try with_reducible rfl))
        simp only [Act.put, List.getElem_toArray, List.getElem_cons_zero, List.getElem_cons_succ, List.setIfInBounds_toArray, List.set_cons_zero, List.set_cons_succ]
        refine wpAnyH_take (i := 9) (v := ?_) rfl (by kernel_rfl) (by kernel_rfl) (by kernel_rfl) (fun _ _ _ h => h) (Or.inl ⟨by rfl, ?_⟩) hHeld0 ?_
        rotate_left
        · (intro w hSw; (try dsimp only at hSw); go_simp <;> (try with_reducible rfl))
        simp only [Act.put, List.getElem_toArray, List.getElem_cons_zero, List.getElem_cons_succ, List.setIfInBounds_toArray, List.set_cons_zero, List.set_cons_succ]
        refine wpAnyH_take (i := 10) (v := undef) rfl (by kernel_rfl) (by kernel_rfl) (by kernel_rfl) (fun _ _ _ h => h) (Or.inr ⟨by rfl, rfl⟩) hHeld0 ?_
        simp only [Act.put, List.getElem_toArray, List.getElem_cons_zero, List.getElem_cons_succ, List.setIfInBounds_toArray, List.set_cons_zero, List.set_cons_succ]
        refine wpAnyH_take (i := 11) (v := undef) rfl (by kernel_rfl) (by kernel_rfl) (by kernel_rfl) (fun _ _ _ h => h) (Or.inr ⟨by rfl, rfl⟩) hHeld0 ?_
        simp only [Act.put, List.getElem_toArray, List.getElem_cons_zero, List.getElem_cons_succ, List.setIfInBounds_toArray, List.set_cons_zero, List.set_cons_succ]
        refine wpAnyH_take (i := 12) (v := undef) rfl (by kernel_rfl) (by kernel_rfl) (by kernel_rfl) (fun _ _ _ h => h) (Or.inr ⟨by rfl, rfl⟩) hHeld0 ?_
        simp only [Act.put, List.getElem_toArray, List.getElem_cons_zero, List.getElem_cons_succ, List.setIfInBounds_toArray, List.set_cons_zero, List.set_cons_succ]
        refine wpAnyH_take (i := 13) (v := undef) rfl (by kernel_rfl) (by kernel_rfl) (by kernel_rfl) (fun _ _ _ h => h) (Or.inr ⟨by rfl, rfl⟩) hHeld0 ?_
        simp only [Act.put, List.getElem_toArray, List.getElem_cons_zero, List.getElem_cons_succ, List.setIfInBounds_toArray, List.set_cons_zero, List.set_cons_succ]
        refine wpAnyH_take (i := 14) (v := undef) rfl (by kernel_rfl) (by kernel_rfl) (by kernel_rfl) (fun _ _ _ h => h) (Or.inr ⟨by rfl, rfl⟩) hHeld0 ?_
        simp only [Act.put, List.getElem_toArray, List.getElem_cons_zero, List.getElem_cons_succ, List.setIfInBounds_toArray, List.set_cons_zero, List.set_cons_succ]
        refine wpAnyH_take (i := 15) (v := undef) rfl (by kernel_rfl) (by kernel_rfl) (by kernel_rfl) (fun _ _ _ h => h) (Or.inr ⟨by rfl, rfl⟩) hHeld0 ?_
        simp only [Act.put, List.getElem_toArray, List.getElem_cons_zero, List.getElem_cons_succ, List.setIfInBounds_toArray, List.set_cons_zero, List.set_cons_succ]
        refine wpAnyH_take (i := 16) (v := undef) rfl (by kernel_rfl) (by kernel_rfl) (by kernel_rfl) (fun _ _ _ h => h) (Or.inr ⟨by rfl, rfl⟩) hHeld0 ?_
        simp only [Act.put, List.getElem_toArray, List.getElem_cons_zero, List.getElem_cons_succ, List.setIfInBounds_toArray, List.set_cons_zero, List.set_cons_succ]
        refine wpAnyH_take (i := 17) (v := undef) rfl (by kernel_rfl) (by kernel_rfl) (by kernel_rfl) (fun _ _ _ h => h) (Or.inr ⟨by rfl, rfl⟩) hHeld0 ?_
        simp only [Act.put, List.getElem_toArray, List.getElem_cons_zero, List.getElem_cons_succ, List.setIfInBounds_toArray, List.set_cons_zero, List.set_cons_succ]
        refine wpAnyH_take (i := 18) (v := undef) rfl (by kernel_rfl) (by kernel_rfl) (by kernel_rfl) (fun _ _ _ h => h) (Or.inr ⟨by rfl, rfl⟩) hHeld0 ?_
        simp only [Act.put, List.getElem_toArray, List.getElem_cons_zero, List.getElem_cons_succ, List.setIfInBounds_toArray, List.set_cons_zero, List.set_cons_succ]
        refine wpAnyH_take (i := 19) (v := undef) rfl (by kernel_rfl) (by kernel_rfl) (by kernel_rfl) (fun _ _ _ h => h) (Or.inr ⟨by rfl, rfl⟩) hHeld0 ?_
        simp only [Act.put, List.getElem_toArray, List.getElem_cons_zero, List.getElem_cons_succ, List.setIfInBounds_toArray, List.set_cons_zero, List.set_cons_succ]
        refine wpAnyH_take (i := 20) (v := undef) rfl (by kernel_rfl) (by kernel_rfl) (by kernel_rfl) (fun _ _ _ h => h) (Or.inr ⟨by rfl, rfl⟩) hHeld0 ?_
        simp only [Act.put, List.getElem_toArray, List.getElem_cons_zero, List.getElem_cons_succ, List.setIfInBounds_toArray, List.set_cons_zero, List.set_cons_succ]
        refine wpAnyH_take (i := 21) (v := undef) rfl (by kernel_rfl) (by kernel_rfl) (by kernel_rfl) (fun _ _ _ h => h) (Or.inr ⟨by rfl, rfl⟩) hHeld0 ?_
        simp only [Act.put, List.getElem_toArray, List.getElem_cons_zero, List.getElem_cons_succ, List.setIfInBounds_toArray, List.set_cons_zero, List.set_cons_succ]
        refine wpAnyH_take (i := 22) (v := ?_) rfl (by kernel_rfl) (by kernel_rfl) (by kernel_rfl) (fun _ _ _ h => h) (Or.inl ⟨by rfl, ?_⟩) hHeld0 ?_
        rotate_left
        · (intro w hSw; (try dsimp only at hSw); go_simp <;> (try with_reducible rfl))
        simp only [Act.put, List.getElem_toArray, List.getElem_cons_zero, List.getElem_cons_succ, List.setIfInBounds_toArray, List.set_cons_zero, List.set_cons_succ]
        refine wpAnyH_take (i := 23) (v := ?_) rfl (by kernel_rfl) (by kernel_rfl) (by kernel_rfl) (fun _ _ _ h => h) (Or.inl ⟨by rfl, ?_⟩) hHeld0 ?_
        rotate_left
        · (intro w hSw; (try dsimp only at hSw); go_simp <;> (try with_reducible rfl))
        simp only [Act.put, List.getElem_toArray, List.getElem_cons_zero, List.getElem_cons_succ, List.setIfInBounds_toArray, List.set_cons_zero, List.set_cons_succ]
        refine wpAnyH_done (by kernel_rfl) ?_ _
        have HBW := hide (hHeld0.out)
        clear hHeld0
        have HO2 := hide (owns_below HS.out.own HBW.out)
        have HRX := hide (HRWB.out _ (HS.out.below.trans (HBW.out.mono HS.out.below.size)))
        go_wp2_with (first
          | (refine wpList_load_part 54 CB bb (bo + j * 36) rfl (.tmp 54) rfl rfl HRX.out Tryz.underlying54 rfl size_coin HCLB.out ?_)
          | (refine wpList_build_one 22 54 CB rfl (.tmp 55) rfl rfl Tryz.underlying22 ZC info_coinS (by omega) (by omega) HCLB.out ?_)
          | (at_builtin; refine cl_append_by (AppK wr.drew w.heap.size S B[j] (.slice va S.length vc)) rfl (.tmp 51) (.tmp 56) rfl (.slice va S.length vc) (.slice (some ⟨wr.drew.heap.size, 0, none⟩) 1 1) rfl rfl (fun ty => HAPB.out wr.drew (Nat.le_trans HS.out.below.size HBW.out.size) HO2.out ty) ?_; intro v6 w6 h6; obtain ⟨va6, vc6, hv6⟩ := owns_form h6.1; subst hv6; have HA6 := hide h6; clear h6))
        go_roundw
        case rel => exact ⟨i, j + 1, S ++ [B[j]], by omega, by omega, by go_num, by go_num, HNB.out _ _ _ HBW.out HA6.out⟩
        case measure => simp [intOf]; omega
      · have hjj : ¬ (j : Int) < (jl : Int) := by omega
        have HE : Hid (wr.ownsRow w.heap.size 54 36 (.slice va S.length vc) (mergedV A B).length (coinCells (mergedV A B))) := hide (by
          have e := HS.out.eq
          rw [mg_done (by rw [HIL.out]; omega) (by rw [HJL.out]; omega), List.append_nil] at e
          rw [e]; exact HS.out.own)
        go_wp2
        exact bodyPost_ret (v := .slice va S.length vc) (by simp [results, Tryz.results15, go_sem]) rfl ⟨⟨_, rfl, HE.out⟩, HS.out.below⟩
end Go.Proofs.YtmjilohlchkicaaGreatDoor
