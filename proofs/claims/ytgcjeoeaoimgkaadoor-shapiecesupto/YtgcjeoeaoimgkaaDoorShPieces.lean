/- The walk of ShaPieces: bytes that are written piece by piece have the digest of all of them. -/
import Derived.Test.YtgcjeoeaoimgkaaDoorShKnown
namespace Go.Proofs.YtgcjeoeaoimgkaaDoor
open Go.RowKit
set_option linter.unusedVariables false

/-- A slice value whose elements are slices of bytes. -/
def HasRows (w : World) (A : Option Addr) (n : Nat) (ls : List (List Int)) : Prop :=
  n = ls.length ∧ ∀ i, i < n → ∃ b off a m c, A = some ⟨b, off, none⟩ ∧ w.cell? ⟨b, off + i, none⟩ = some (.slice a m c) ∧ Has w (.slice a m c) (ls.getD i [])

theorem Own.only {w w' : World} {base g : Nat} {v : Value} {l : List Int} (h : Own w base v l) (hb : Only g w.heap.size w w') (hg : g < base) : Own w' base v l := by
  refine ⟨h.1, ?_⟩
  rcases h.2 with h0 | ⟨g', cap, cur, rfl, hbg, hg', hn, hc, hs, ht⟩
  · exact .inl h0
  · have hlt : g' < w.heap.size := by
      rcases Nat.lt_or_ge g' w.heap.size with hlt | hge
      · exact hlt
      · rw [Array.getElem?_eq_none hge] at hg'; cases hg'
    exact .inr ⟨g', cap, cur, rfl, hbg, by rw [hb.block g' hlt (by omega)]; exact hg', hn, hc, hs, ht⟩
theorem Hash.grown {w w' : World} {g : Nat} {row : Option Nat} {all : List Int} (h : Hash w g all) (k : w.grownBy w' row) (hne : row ≠ some g) : Hash w' g all := by
  obtain ⟨st, R, h1, h2⟩ := h
  refine ⟨st, R, h1, ?_⟩
  unfold Is
  rw [k.block g h2.lt (fun e => hne e.symm)]
  exact h2
theorem take_flat (ls : List (List Int)) (k : Nat) (h : k < ls.length) : (ls.take (k + 1)).flatten = (ls.take k).flatten ++ ls.getD k [] := by
  have e : ls.getD k [] = ls[k] := by simp [List.getD, List.getElem?_eq_getElem h]
  rw [List.take_succ_eq_append_getElem h, List.flatten_append, e]
  simp
theorem flat_le (ls : List (List Int)) (k : Nat) : (ls.take k).flatten.length ≤ ls.flatten.length := by
  have : ls.flatten = (ls.take k).flatten ++ (ls.drop k).flatten := by rw [← List.flatten_append, List.take_append_drop]
  rw [this, List.length_append]; omega
theorem byt_flat {ls : List (List Int)} (h : ∀ l ∈ ls, Sz.Byt l) : Sz.Byt ls.flatten := fun x hx => by
  obtain ⟨l, hl, hx⟩ := List.mem_flatten.1 hx
  exact h l hl x hx

set_option maxRecDepth 100000 in
set_option maxHeartbeats 800000 in
theorem pieces_walk (A : Option Addr) (cap : Nat) (ls : List (List Int)) (w : World) (hr : HasRows w A ls.length ls) (hB : ∀ l ∈ ls, Sz.Byt l) (hn : ls.length ≤ 4611686018427387904) (hlen : ls.flatten.length ≤ 1048576) (ht : Tab w) (hw : 0 < w.heap.size) :
    Calls Tryd.prog 4 #[.slice A ls.length cap] w fun e w' => e = .returned (.bool true) ∧ Below w.heap.size w w' := by
  have HR := hide hr
  have HT := hide ht
  clear hr ht
  go_enter Tryd.func4, Tryd.ntmps4
  go_wp2_with (first
    | (go_at_call 5; refine (known_any w HT.out hw).mono ?_; rintro e w1 ⟨rfl, hb1⟩)
    | (go_at_call 8; refine (new_any w1).mono ?_; rintro e w2 ⟨rfl, hh2, hb2⟩))
  have hb2' : Below w.heap.size w w2 := hb1.trans (hb2.mono hb1.size)
  have hg0 : 0 < w1.heap.size := Nat.lt_of_lt_of_le hw hb1.size
  have hgw : w.heap.size ≤ w1.heap.size := hb1.size
  have hg2 : w1.heap.size < w2.heap.size := hh2.lt
  obtain ⟨g, hg⟩ : ∃ g, g = w1.heap.size := ⟨_, rfl⟩
  rw [← hg] at hh2 hg0 hgw hg2 ⊢
  clear hb1 hb2 hg
  have HH2 := hide hh2
  have HB2 := hide hb2'
  clear hh2 hb2'
  go_loopw [5, 6] (fun v i wr => ∃ (k : Nat) (F : List Int), k ≤ ls.length ∧ i = .int .i64 k ∧ F = (ls.take k).flatten ∧ Own wr (g + 1) v F ∧ Hash wr g F ∧ Below w.heap.size w wr) (fun _ i _ => ls.length - (intOf i).toNat)
  case atStart => exact ⟨0, [], by omega, rfl, rfl, Own.nil _ _, HH2.out, HB2.out⟩
  case round =>
    obtain ⟨k, F, hk, rfl, hF, ho, hh, hb⟩ := hrel
    clear HH2 HB2
    have hFl : F.length ≤ 1048576 := by rw [hF]; exact Nat.le_trans (flat_le ls k) hlen
    have hFb : Sz.Byt F := by rw [hF]; exact byt_flat (fun l hl => hB l (List.mem_of_mem_take hl))
    obtain ⟨va, vc, rfl, hvc1, hvc2⟩ := ho.form
    have hgr := hh.lt
    by_cases hkl : k < ls.length
    · obtain ⟨b, off, a, m, c, rfl, hcell, hhas⟩ := HR.out.2 k hkl
      have hcb : b < w.heap.size := World.block_lt_of_cell? w ⟨b, off + k, none⟩ hcell
      have hc1 : wr.cell? ⟨b, off + k, none⟩ = some (.slice a m c) := by rw [hb.cell (p := ⟨b, off + k, none⟩) hcb]; exact hcell
      have hne : ∀ b' off' n' c', (Value.slice a m c) = .slice (some ⟨b', off', none⟩) n' c' → 0 < n' → b' ≠ g := fun b' off' n' c' e hn' => by have := hhas.block_lt e hn'; omega
      have hnx := take_flat ls k hkl
      rw [← hF] at hnx
      have hF2l := flat_le ls (k + 1)
      have hlb : Sz.Byt (ls.getD k []) := hB _ (by simp [List.getD, List.getElem?_eq_getElem hkl])
      rw [hnx] at hF2l
      generalize ls.getD k [] = L at *
      have hLl : F.length + L.length ≤ 1048576 := by rw [List.length_append] at hF2l; omega
      have HWR := hide (hwrite_any g _ F L wr hh (HT.out.below hb hw) hg0 (hhas.below hb) hne hlb (by omega))
      have hFb2 : Sz.Byt (F ++ L) := hFb.append hlb
      have hDl : (Sh.sum (F ++ L)).length = 32 := by simp [Sh.sum, Sh.digest]
      have HHS : Hid (∀ w', Below w.heap.size w w' → Hash w' g (F ++ L) → Calls Tryd.prog 10 #[.pointer (some ⟨g, 0, none⟩)] w' fun e w'' => e = .returned (.agg (vals (Sh.sum (F ++ L))).toArray) ∧ Below w'.heap.size w' w'') := fun w' h1 h2 => hsum_any g _ w' h2 (HT.out.below h1 hw) hg0 (by rw [List.length_append]; omega)
      have HSU : Hid (∀ w' v, Below w.heap.size w w' → Has w' v (F ++ L) → Calls Tryd.prog 6 #[v] w' fun e w'' => e = .returned (.agg (vals (Sh.sum (F ++ L))).toArray) ∧ Below w'.heap.size w' w'') := fun w' v h1 h2 => sum_any v _ w' h2 hFb2 (HT.out.below h1 hw) (Nat.lt_of_lt_of_le hw h1.size) (by rw [List.length_append]; omega)
      generalize Sh.sum (F ++ L) = D at *
      have heq : ∀ w', (Op.equalIn 10000 25 (.agg (vals D).toArray) (.agg (vals D).toArray)).run Tryd.prog w' = .ok true w' := fun w' => by rw [dig_eq D D hDl hDl]; simp
      have hgd := guard_dig
      have HO := hide ho
      have HF := hide hF
      have HNX := hide hnx
      have HHAS := hide hhas
      have HLL := hide hLl
      clear ho hF hnx hhas hLl hF2l hh hDl hcell hlb hFb hFb2 hne
      go_wp2_with (first
        | (go_at_call 9; refine HWR.out.mono ?_; rintro e w3 ⟨rfl, hh3, ho3⟩; have hb3 := hb.trans (ho3.below hb.size hgw); have hc3 : w3.cell? ⟨b, off + k, none⟩ = some (.slice a m c) := (by rw [World.cell?_of_block (w := wr) (ho3.block b (Nat.lt_of_lt_of_le hcb hb.size) (by omega))]; exact hc1))
        | (at_builtin; refine wpList_append_bytes _ rfl _ _ rfl (g + 1) _ _ rfl (HO.out.only ho3 (Nat.lt_succ_self _)) _ _ rfl (HHAS.out.below hb3) (Nat.le_trans HLL.out (by omega)) (Nat.le_trans hgr ho3.size) ?_; intro v5 w5 ho5 hg5; have hb5 := hb3.grown hg5 hb3.size (fun q hq => (by have := ((HO.out.only ho3 (Nat.lt_succ_self _)).block q hq).1; omega)); have hh5 := hh3.grown hg5 (fun e => (by have := ((HO.out.only ho3 (Nat.lt_succ_self _)).block g e).1; omega)))
        | (go_at_call 10; refine (HHS.out _ hb5 hh5).mono ?_; rintro e w6 ⟨rfl, hb6⟩; have hb6' := hb5.trans (hb6.mono hb5.size))
        | (go_at_call 6; refine (HSU.out _ _ hb6' (ho5.has.below hb6)).mono ?_; rintro e w7 ⟨rfl, hb7⟩))
      go_roundw
      case rel =>
        refine ⟨k + 1, F ++ L, by omega, by go_num, HNX.out.symm, (ho5.below hb6).below hb7, (hh5.below hb6 hh5.lt).below hb7 (Nat.lt_of_lt_of_le hh5.lt hb6.size), hb6'.trans (hb7.mono hb6'.size)⟩
      case measure => simp [intOf]; omega
    · have hkn : ¬ (k : Int) < (ls.length : Int) := by omega
      have hDl : (Sh.sum F).length = 32 := by simp [Sh.sum, Sh.digest]
      have HHS := hide (hsum_any g F wr hh (HT.out.below hb hw) hg0 (by omega))
      have HSU : Hid (∀ w', Below w.heap.size w w' → Has w' (.slice va F.length vc) F → Calls Tryd.prog 6 #[.slice va F.length vc] w' fun e w'' => e = .returned (.agg (vals (Sh.sum F)).toArray) ∧ Below w'.heap.size w' w'') := fun w' h1 h2 => sum_any _ _ w' h2 hFb (HT.out.below h1 hw) (Nat.lt_of_lt_of_le hw h1.size) (by omega)
      generalize Sh.sum F = D at *
      have heq : ∀ w', (Op.equalIn 10000 25 (.agg (vals D).toArray) (.agg (vals D).toArray)).run Tryd.prog w' = .ok true w' := fun w' => by rw [dig_eq D D hDl hDl]; simp
      have hgd := guard_dig
      have HO := hide ho
      clear ho hh hDl hFb hF hk hkl
      go_wp2_with (first
        | (go_at_call 10; refine HHS.out.mono ?_; rintro e w6 ⟨rfl, hb6⟩; have hb6' := hb.trans (hb6.mono hb.size))
        | (go_at_call 6; refine (HSU.out _ hb6' (HO.out.has.below hb6)).mono ?_; rintro e w7 ⟨rfl, hb7⟩))
      go_ret
      exact ⟨rfl, hb6'.trans (hb7.mono hb6'.size)⟩
end Go.Proofs.YtgcjeoeaoimgkaaDoor
