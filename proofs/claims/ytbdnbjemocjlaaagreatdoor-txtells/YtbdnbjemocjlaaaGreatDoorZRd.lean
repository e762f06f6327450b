/- The texts Read, Reads, Write, Pack, Unpack, one behind the other. -/
import Derived.Test.YtbdnbjemocjlaaaGreatDoorBase
import Derived.Deep.QuietTactic
import Derived.BigQuiet
import Derived.Test.YtbdnbjemocjlaaaGreatDoorAs
import Derived.Test.YtbdnbjemocjlaaaGreatDoorOwns
import Derived.Lib.AppendZeros
import Derived.Lib.SliceRun
/- The contract of size.Read: the five ways in which it answers, and that it turns nothing. -/
namespace Go.Proofs.YtbdnbjemocjlaaaGreatDoor
open Go.RowKit
set_option linter.unusedVariables false

theorem read_range (v : Value) (p : Int) (w : World) (h : p < 0) :
    Calls Tryz.prog 82 #[v, .int .i64 p] w fun e w' => e = .returned (.tuple #[.int .i64 0, .int .i64 0, .iface 27 (.int .i64 2)]) ∧ w = w' := by
  go_enter Tryz.func82, Tryz.ntmps82
  go_wp2
  go_ret3
  exact ⟨rfl, rfl⟩

theorem read_past (a : Option Addr) (n cap : Nat) (p : Int) (w : World) (h : 0 ≤ p) (hp : (n : Int) ≤ p) :
    Calls Tryz.prog 82 #[.slice a n cap, .int .i64 p] w fun e w' => e = .returned (.tuple #[.int .i64 0, .int .i64 0, .iface 27 (.int .i64 3)]) ∧ w = w' := by
  have h' : ¬ p < 0 := by omega
  go_enter Tryz.func82, Tryz.ntmps82
  go_wp2
  go_ret3
  exact ⟨rfl, rfl⟩

theorem drewN_below (w : World) (n : Nat) : Below w.heap.size w (w.drewN n) := by
  induction n with
  | zero => exact Below.refl _ _
  | succ n ih => exact ih.drew

set_option maxHeartbeats 400000 in
theorem read_few (b off cap len : Nat) (f : Int) (p : Nat) (w : World) (hcp : w.cell? ⟨b, off + p, none⟩ = some (.int .u8 f)) (hcap : len ≤ cap) (hm : cap ≤ maxLen)
    (hp : p < len) (hw : len < p + 1 + Sz.wid f) :
    Calls Tryz.prog 82 #[.slice (some ⟨b, off, none⟩) len cap, .int .i64 p] w fun e w' => e = .returned (.tuple #[.int .i64 0, .int .i64 0, .iface 27 (.int .i64 3)]) ∧ Below w.heap.size w w' := by
  unfold maxLen at hm
  have h1 : ¬ (p : Int) < 0 := by omega
  have h2 : (p : Int) < (len : Int) := by omega
  have h3 : (len : Int) ≤ (cap : Int) := by omega
  have h4 : (cap : Int) ≤ 9223372036854775807 := by omega
  have h5 : (((len - (p + 1) : Nat)) : Int) < (Sz.wid f : Int) := by omega
  go_enter Tryz.func82, Tryz.ntmps82
  go_wp2
  go_quiet (fail)
  go_wp2_with (go_at_call 76; refine (behind_any _ _).mono ?_; rintro e w' ⟨rfl, rfl⟩)
  all_goals
    go_ret3
    exact ⟨rfl, drewN_below _ _⟩

/-- The number is one byte. -/
theorem read_one (b off cap len : Nat) (f : Int) (p : Nat) (w : World) (hcp : w.cell? ⟨b, off + p, none⟩ = some (.int .u8 f)) (hcap : len ≤ cap) (hm : cap ≤ maxLen)
    (hp : p < len) (hf0 : 0 ≤ f) (hf : f < 256) (hw : Sz.wid f = 0) :
    Calls Tryz.prog 82 #[.slice (some ⟨b, off, none⟩) len cap, .int .i64 p] w fun e w' => e = .returned (.tuple #[.int .i64 f, .int .i64 ((p : Int) + 1), .nilIface]) ∧ Below w.heap.size w w' := by
  unfold maxLen at hm
  have h1 : ¬ (p : Int) < 0 := by omega
  have h2 : (p : Int) < (len : Int) := by omega
  have h3 : (len : Int) ≤ (cap : Int) := by omega
  have h4 : (cap : Int) ≤ 9223372036854775807 := by omega
  have hff : Sz.fst f = f := by
    have : f < 253 := by unfold Sz.wid at hw; split at hw <;> (try split at hw) <;> (try split at hw) <;> omega
    unfold Sz.fst; rw [if_pos this]
  go_enter Tryz.func82, Tryz.ntmps82
  go_wp2
  go_quiet (fail)
  go_wp2_with (first
    | (go_at_call 76; refine (behind_any _ _).mono ?_; rintro e w' ⟨rfl, rfl⟩)
    | (go_at_call 75; refine (firstOf_any f _ (by omega) (by omega)).mono ?_; rintro e w' ⟨rfl, rfl⟩))
  all_goals
    go_ret3
    exact ⟨rfl, drewN_below _ _⟩

/-- The bytes behind the first one. -/
theorem has_mid {w : World} {b off cap len : Nat} {l : List Int} (p k : Nat) (hl : l.length = len) (hc : ∀ j, j < l.length → w.cell? ⟨b, off + j, none⟩ = some (.int .u8 (l.getD j 0))) (hcap : len ≤ cap) (hm : cap ≤ maxLen)
    (hk : 0 < k) (hw : p + 1 + k ≤ len) : Has w (.slice (some ⟨b, off + (p + 1), none⟩) k (cap - (p + 1))) ((l.drop (p + 1)).take k) := by
  have e : ((l.drop (p + 1)).take k).length = k := by rw [List.length_take, List.length_drop]; omega
  refine .inr ⟨b, off + (p + 1), cap - (p + 1), by rw [e], by omega, by omega, by omega, fun j hj => ?_⟩
  have := hc (p + 1 + j) (by omega)
  rw [show off + (p + 1) + j = off + (p + 1 + j) from by omega, this]
  have e2 : ((l.drop (p + 1)).take k).getD j 0 = l.getD (p + 1 + j) 0 := by
    simp only [List.getD, List.getElem?_take, List.getElem?_drop]
    rw [if_pos (by omega)]
  rw [e2]

set_option maxHeartbeats 800000 in
/-- The number is one of more bytes: which of two answers, is told by what is read. -/
theorem read_more (b off cap len : Nat) (l : List Int) (f : Int) (p k : Nat) (w : World) (hc : ∀ j, j < l.length → w.cell? ⟨b, off + j, none⟩ = some (.int .u8 (l.getD j 0))) (hb : Sz.Byt l) (hl : l.length = len) (hcap : len ≤ cap) (hm : cap ≤ maxLen)
    (hp : p < len) (hf : l.getD p 0 = f) (hk : Sz.wid f = k) (hk0 : 0 < k) (hw : p + 1 + k ≤ len) (m : Int) (hmm : Sz.joinL ((l.drop (p + 1)).take k) = m) :
    Calls Tryz.prog 82 #[.slice (some ⟨b, off, none⟩) len cap, .int .i64 p] w fun e w' =>
      e = .returned (if Sz.fst m = f ∧ m ≤ 9223372036854775807 then .tuple #[.int .i64 m, .int .i64 ((p : Int) + 1 + (k : Int)), .nilIface] else .tuple #[.int .i64 0, .int .i64 0, .iface 27 (.int .i64 1)]) ∧ Below w.heap.size w w' := by
  have hhas := fun w' (hw' : Below w.heap.size w w') => (has_mid (w := w) p k hl hc hcap hm hk0 hw).below hw'
  have hbt := (hb.drop (p + 1)).take k
  have hlen : ((l.drop (p + 1)).take k).length = k := by rw [List.length_take, List.length_drop]; omega
  have hk8 : k ≤ 8 := by rw [← hk]; exact Sz.wid_le f
  have hbd := Sz.joinL_bd _ hbt
  rw [hlen, hmm] at hbd
  have hp8 := Sz.pw_le8 k hk8
  have hm0 : 0 ≤ m := hbd.1
  have hm1 : m < 18446744073709551616 := by omega
  have HH : Hid (∀ w', Below w.heap.size w w' → Has w' (.slice (some ⟨b, off + (p + 1), none⟩) k (cap - (p + 1))) ((l.drop (p + 1)).take k)) := hhas
  have HM : Hid (Sz.joinL ((l.drop (p + 1)).take k) = m) := hmm
  have HL : Hid (((l.drop (p + 1)).take k).length = k) := hlen
  have HB : Hid (Sz.Byt ((l.drop (p + 1)).take k)) := hbt
  have hcp : w.cell? ⟨b, off + p, none⟩ = some (.int .u8 f) := by rw [← hf]; exact hc p (by omega)
  have hbh : ∀ w, Calls Tryz.prog 76 #[.int .u8 f] w fun e w' => e = .returned (.int .i64 (k : Nat)) ∧ w = w' := by rw [← hk]; exact fun w => behind_any f w
  have HBH := hide hbh
  clear hbh hk hf hmm hlen hhas hbd hp8 hbt hb hl hc
  generalize (l.drop (p + 1)).take k = r at *
  unfold maxLen at hm
  have h1 : ¬ (p : Int) < 0 := by omega
  have h2 : (p : Int) < (len : Int) := by omega
  have h3 : (len : Int) ≤ (cap : Int) := by omega
  have h4 : (cap : Int) ≤ 9223372036854775807 := by omega
  have h5 : ¬ (((len - (p + 1) : Nat)) : Int) < (k : Int) := by omega
  have h6 : ¬ cap = p + 1 := by omega
  have h7 : (0 : Int) < (k : Int) := by omega
  have h8 : (k : Int) ≤ ((len - (p + 1) : Nat) : Int) := by omega
  have h9 : (k : Int) ≤ ((cap - (p + 1) : Nat) : Int) := by omega
  have hjn : ∀ w', Below w.heap.size w w' → Calls Tryz.prog 85 #[.slice (some ⟨b, off + (p + 1), none⟩) k (cap - (p + 1))] w' fun e w'' => e = .returned (.int .u64 m) ∧ w' = w'' := fun w' hw' => by
    rw [← HM.out]; exact join_any _ r w' (HH.out w' hw') HB.out (by rw [HL.out]; exact hk8)
  have HJ := hide hjn
  clear hjn HH HM HL HB
  by_cases hfm : Sz.fst m = f
  · by_cases hmx : m ≤ 9223372036854775807
    · rw [if_pos ⟨hfm, hmx⟩]
      have hne : (Sz.fst m != f) = false := by simp [hfm]
      have hcv : IntKind.i64.wrap m = m := by simp [IntKind.wrap, IntKind.bits, IntKind.signed]; omega
      clear hfm
      go_enter Tryz.func82, Tryz.ntmps82
      go_wp2
      go_quiet (fail)
      go_wp2_with (first
        | (go_at_call 76; refine ((unhide HBH) _).mono ?_; rintro e w' ⟨rfl, rfl⟩)
        | (go_at_call 85; refine ((unhide HJ) _ (drewN_below _ _)).mono ?_; rintro e w' ⟨rfl, rfl⟩)
        | (go_at_call 75; refine (firstOf_any m _ hm0 hm1).mono ?_; rintro e w' ⟨rfl, rfl⟩))
      go_ret3
      exact ⟨rfl, drewN_below _ _⟩
    · rw [if_neg (fun h => hmx h.2)]
      have hne : (Sz.fst m != f) = false := by simp [hfm]
      have hmy : 9223372036854775807 < m := by omega
      clear hfm
      go_enter Tryz.func82, Tryz.ntmps82
      go_wp2
      go_quiet (fail)
      go_wp2_with (first
        | (go_at_call 76; refine ((unhide HBH) _).mono ?_; rintro e w' ⟨rfl, rfl⟩)
        | (go_at_call 85; refine ((unhide HJ) _ (drewN_below _ _)).mono ?_; rintro e w' ⟨rfl, rfl⟩)
        | (go_at_call 75; refine (firstOf_any m _ hm0 hm1).mono ?_; rintro e w' ⟨rfl, rfl⟩))
      go_ret3
      exact ⟨rfl, drewN_below _ _⟩
  · rw [if_neg (fun h => hfm h.1)]
    have hne : (Sz.fst m != f) = true := by simp [hfm]
    clear hfm
    go_enter Tryz.func82, Tryz.ntmps82
    go_wp2
    go_quiet (fail)
    go_wp2_with (first
      | (go_at_call 76; refine ((unhide HBH) _).mono ?_; rintro e w' ⟨rfl, rfl⟩)
      | (go_at_call 85; refine ((unhide HJ) _ (drewN_below _ _)).mono ?_; rintro e w' ⟨rfl, rfl⟩)
      | (go_at_call 75; refine (firstOf_any m _ hm0 hm1).mono ?_; rintro e w' ⟨rfl, rfl⟩))
    go_ret3
    exact ⟨rfl, drewN_below _ _⟩
end Go.Proofs.YtbdnbjemocjlaaaGreatDoor

/- The contract of size.Read in one piece. -/
namespace Go.Proofs.YtbdnbjemocjlaaaGreatDoor
open Go.RowKit
set_option linter.unusedVariables false

theorem read_any (v : Value) (l : List Int) (p : Int) (w : World) (h : Has w v l) (hb : Sz.Byt l) :
    Calls Tryz.prog 82 #[v, .int .i64 p] w fun e w' => e = .returned (.tuple #[.int .i64 (Sz.rd l p).1, .int .i64 (Sz.rd l p).2.1, errV (Sz.rd l p).2.2]) ∧ Below w.heap.size w w' := by
  by_cases h1 : p < 0
  · have e : Sz.rd l p = (0, 0, 2) := by unfold Sz.rd; rw [if_pos h1]
    rw [e]
    refine (read_range v p w h1).mono ?_
    rintro e w' ⟨rfl, rfl⟩
    exact ⟨rfl, Below.refl _ _⟩
  · by_cases h2 : (l.length : Int) ≤ p
    · have e : Sz.rd l p = (0, 0, 3) := by unfold Sz.rd; rw [if_neg h1, if_pos h2]
      rw [e]
      obtain ⟨a, cap, rfl⟩ : ∃ a cap, v = .slice a l.length cap := by
        rcases h with ⟨a, cap, rfl, rfl, _⟩ | ⟨b, off, cap, rfl, _⟩
        · exact ⟨a, cap, rfl⟩
        · exact ⟨_, cap, rfl⟩
      refine (read_past a l.length cap p w (by omega) h2).mono ?_
      rintro e w' ⟨rfl, rfl⟩
      exact ⟨rfl, Below.refl _ _⟩
    · obtain ⟨q, rfl⟩ := Int.eq_ofNat_of_zero_le (show 0 ≤ p by omega)
      rcases h with ⟨a, cap, rfl, rfl, _⟩ | ⟨b, off, cap, rfl, h0, hcap, hm, hc⟩
      · exact absurd h2 (by simp)
      · have hq : q < l.length := by omega
        by_cases h3 : l.length < q + 1 + Sz.wid (l.getD q 0)
        · have e : Sz.rd l (q : Int) = (0, 0, 3) := by unfold Sz.rd; rw [if_neg h1, if_neg h2, Int.toNat_natCast, if_pos h3]
          rw [e]
          refine (read_few b off cap l.length (l.getD q 0) q w (hc q hq) hcap hm hq h3).mono ?_
          rintro e w' ⟨rfl, hbel⟩
          exact ⟨rfl, hbel⟩
        · by_cases h4 : Sz.wid (l.getD q 0) = 0
          · have e : Sz.rd l (q : Int) = (l.getD q 0, (q : Int) + 1, 0) := by unfold Sz.rd; rw [if_neg h1, if_neg h2, Int.toNat_natCast, if_neg h3, if_pos h4]
            rw [e]
            have hg := hb.getD q
            refine (read_one b off cap l.length (l.getD q 0) q w (hc q hq) hcap hm hq hg.1 hg.2 h4).mono ?_
            rintro e w' ⟨rfl, hbel⟩
            exact ⟨rfl, hbel⟩
          · refine (read_more b off cap l.length l (l.getD q 0) q (Sz.wid (l.getD q 0)) w hc hb rfl hcap hm hq rfl rfl (by omega) (by omega) _ rfl).mono ?_
            rintro e w' ⟨rfl, hbel⟩
            refine ⟨?_, hbel⟩
            unfold Sz.rd
            rw [if_neg h1, if_neg h2, Int.toNat_natCast, if_neg h3, if_neg h4]
            split <;> rfl
end Go.Proofs.YtbdnbjemocjlaaaGreatDoor

/- The contract of size.Write: what it answers for each number, and that nothing that was there is turned. -/
namespace Go.Proofs.YtbdnbjemocjlaaaGreatDoor
open Go.RowKit
set_option linter.unusedVariables false

set_option maxHeartbeats 400000 in
theorem write_neg (n : Int) (w : World) (h : n < 0) :
    Calls Tryz.prog 64 #[.int .i64 n] w fun e w' => e = .returned (.tuple #[.slice none 0 0, .iface 27 (.int .i64 2)]) ∧ w = w' := by
  go_enter Tryz.func64, Tryz.ntmps64
  go_wp2
  go_ret2
  exact ⟨rfl, rfl⟩

set_option maxHeartbeats 400000 in
theorem write_yes (n : Int) (w : World) (h : 0 ≤ n) (hn : n ≤ 9223372036854775807) :
    Calls Tryz.prog 64 #[.int .i64 n] w fun e w' => e = .returned (.tuple #[.slice (some ⟨w.heap.size, 0, none⟩) (Sz.wr n).length (Sz.wr n).length, .nilIface]) ∧
      Has w' (.slice (some ⟨w.heap.size, 0, none⟩) (Sz.wr n).length (Sz.wr n).length) (Sz.wr n) ∧ Below w.heap.size w w' := by
  have hf := Sz.fst_bd n h
  have hw8 := Sz.wid_le (Sz.fst n)
  have hnn : ¬ n < 0 := by omega
  have hwr : IntKind.u64.wrap n = n := by simp [IntKind.wrap, IntKind.bits, IntKind.signed]; omega
  have hmk := fun w => make_bytes (1 + Sz.wid (Sz.fst n)) (by omega) w
  rw [show (((1 + Sz.wid (Sz.fst n) : Nat)) : Int) = 1 + (Sz.wid (Sz.fst n) : Int) from by omega] at hmk
  have hz0 := zeros_get (1 + Sz.wid (Sz.fst n)) 0 (by omega)
  have HW : Hid (Sz.wr n = Sz.fst n :: Sz.low (Sz.wid (Sz.fst n)) n) := rfl
  have HZ : Hid (∀ j, j < 1 + Sz.wid (Sz.fst n) → (zeros (1 + Sz.wid (Sz.fst n)))[j]? = some (.int .u8 0)) := fun j hj => zeros_get _ j hj
  go_enter Tryz.func64, Tryz.ntmps64
  go_wp2_with (first
    | (go_at_call 75; refine (firstOf_any n _ h (by omega)).mono ?_; rintro e w' ⟨rfl, rfl⟩)
    | (go_at_call 76; refine (behind_any _ _).mono ?_; rintro e w' ⟨rfl, rfl⟩))
  generalize hk : Sz.wid (Sz.fst n) = k at *
  go_loopw [0, 6] (fun m i wr => ∃ q : Nat, q ≤ k ∧ i = .int .i64 q ∧ m = .int .i64 (n / Sz.pw (k - q)) ∧ Below w.heap.size w wr ∧ (∀ j, wr.frozen? ⟨w.heap.size, j, none⟩ = false) ∧
      ∀ j, j < 1 + k → wr.cell? ⟨w.heap.size, j, none⟩ = some (.int .u8 ((Sz.part k q n).getD j 0))) (fun _ i _ => (intOf i).toNat)
  case atStart =>
    refine ⟨k, Nat.le_refl _, by go_num, by simp [Sz.pw], (Below.refl _ _).alloc (Nat.le_refl _) _, fun j => by simp, fun j hj => ?_⟩
    rw [World.cell?_alloc_new, Sz.part_full]
    have hz := HZ.out j hj
    have hsz : (zeros (1 + k)).size = 1 + k := by simp [zeros, madeCells]
    cases j with
    | zero => rw [Array.getElem?_setIfInBounds, if_pos rfl, if_pos (by omega)]; rfl
    | succ j => simp only [Array.getElem?_setIfInBounds]; rw [if_neg (by omega), hz]; simp [List.getD, show j < k from by omega]
  case round =>
    obtain ⟨q, hq, rfl, rfl, hbel, hfr, hcell⟩ := hrel
    have hm0 : 0 ≤ n / Sz.pw (k - q) := Int.ediv_nonneg h (Int.le_of_lt (Sz.pw_pos _))
    have hm1 : n / Sz.pw (k - q) ≤ n := Int.ediv_le_self _ h
    by_cases h0 : 0 < q
    · have hcq := hcell q (by omega)
      have hfq := hfr q
      have hq1 : (q : Int) < 1 + (k : Int) := by omega
      have HC : Hid (∀ j, j < 1 + k → wr.cell? ⟨w.heap.size, j, none⟩ = some (.int .u8 ((Sz.part k q n).getD j 0))) := hcell
      clear hcell
      go_wp2
      go_roundw
      case rel =>
        refine ⟨q - 1, by omega, by go_num, ?_, hbel.setCell (Nat.le_refl _) _, fun j => by rw [World.frozen?_setCell]; exact hfr j, fun j hj => ?_⟩
        · rw [show k - (q - 1) = (k - q) + 1 from by omega, Sz.ediv_pw]
        · rw [cell_stored hcq, HC.out j hj, Sz.part_step k (q - 1) n h (by omega) j, show q - 1 + 1 = q from by omega]
          by_cases e : j = q
          · rw [if_pos e, if_pos e]
          · rw [if_neg e, if_neg e]
      case measure => simp [intOf]; omega
    · obtain rfl : q = 0 := by omega
      go_wp2
      go_ret2
      have hl : (Sz.wr n).length = 1 + k := by rw [Sz.wr_length, hk]
      refine ⟨by rw [hl]; rfl, .inr ⟨w.heap.size, 0, 1 + k, by rw [hl], by omega, by omega, by unfold maxLen; omega, fun j hj => ?_⟩, hbel⟩
      rw [Nat.zero_add, hcell j (by omega), Sz.part_zero, HW.out]
end Go.Proofs.YtbdnbjemocjlaaaGreatDoor

/- The contracts of slices.Grow (on nil), slices.Concat (of two) and size.Pack: the bytes with how many they are ahead of them, in new memory. -/
namespace Go.Proofs.YtbdnbjemocjlaaaGreatDoor
open Go.RowKit
set_option linter.unusedVariables false

set_option maxHeartbeats 400000 in
theorem grow_any (n : Nat) (w : World) (h0 : 0 < n) (hn : n ≤ 180000000000000) :
    Calls Tryz.prog 86 #[.slice none 0 0, .int .i64 n] w fun e w' => ∃ v, e = .returned v ∧ Own w' w.heap.size v [] ∧ Below w.heap.size w w' := by
  obtain ⟨i, hi, hz, hs, hby⟩ := info_u8
  have hrun := fun ty => Go.Lib.run_append_nil_zeros (P := Tryz.prog) w 26 3 ty 5 i (.int .u8 0) .i64 .i64 Tryz.underlying26 Tryz.underlying3 hi hz n h0 (by omega) (by omega) (by rw [hby]; omega)
  have hge := grownCap_ge w n 0 5
  have hle := grownCap_le_maxLen w n 0 5 (by unfold maxLen; omega)
  have HR := hide hrun
  clear hrun hi hz hs hby
  generalize hC : grownCap w n 0 5 = C at *
  have hC2 : (0 : Int) ≤ (C : Int) := by omega
  have HL := hide hle
  unfold maxLen at hle
  go_enter Tryz.func86, Tryz.ntmps86
  go_wp2_with (at_builtin; refine Go.Lib.wpList_append_run _ rfl _ _ 26 3 rfl _ _ rfl rfl _ _ (HR.out _) ?_)
  go_ret
  refine ⟨_, rfl, ⟨rfl, .inr ⟨w.heap.size, C, _, rfl, Nat.le_refl _, heap_alloc_new w.drew _, Nat.zero_le _, HL.out, ?_, by simp [vals]⟩⟩, ((Below.refl _ _).drew).alloc (Nat.le_refl _) _⟩
  simp only [Array.size_append, size_zeroCells]
  simp
  omega

theorem Has.slice {w : World} {v : Value} {l : List Int} (h : Has w v l) : ∃ a cap, v = .slice a l.length cap ∧ cap ≤ maxLen ∧ l.length ≤ maxLen := by
  rcases h with ⟨a, c, rfl, rfl, hm, _⟩ | ⟨b, off, cap, rfl, _, h1, h2, _⟩
  · exact ⟨a, c, rfl, hm, Nat.zero_le _⟩
  · exact ⟨_, _, rfl, h2, by omega⟩

set_option maxHeartbeats 800000 in
theorem concat_two (B : Nat) (v1 v2 : Value) (l1 l2 : List Int) (w : World) (hc1 : w.cell? ⟨B, 0, none⟩ = some v1) (hc2 : w.cell? ⟨B, 1, none⟩ = some v2) (h1 : Has w v1 l1) (h2 : Has w v2 l2) (h0 : 0 < l1.length + l2.length) (hn : l1.length + l2.length ≤ 180000000000000) :
    Calls Tryz.prog 83 #[.slice (some ⟨B, 0, none⟩) 2 2] w fun e w' => ∃ v, e = .returned v ∧ Own w' w.heap.size v (l1 ++ l2) ∧ Below w.heap.size w w' := by
  have hB : B < w.heap.size := World.block_lt_of_cell? w ⟨B, 0, none⟩ hc1
  have H1 := hide h1
  have H2 := hide h2
  obtain ⟨a1, cap1, rfl, -, -⟩ := h1.slice
  obtain ⟨a2, cap2, rfl, -, -⟩ := h2.slice
  clear h1 h2
  have HL1 : Hid (l1.length + l2.length ≤ 180000000000000) := hn
  generalize hn1 : l1.length = n1 at *
  generalize hn2 : l2.length = n2 at *
  have HN1 := hide hn1
  have HN2 := hide hn2
  clear hn1 hn2
  have hg := grow_any (n1 + n2) w h0 hn
  rw [Int.natCast_add] at hg
  have HG := hide hg
  clear hg
  go_enter Tryz.func83, Tryz.ntmps83
  go_wp2_with fail
  refine wp_loop_rounds 3 ?_
  rw [rounds_succ]
  go_wp2_with fail
  rw [rounds_succ]
  go_wp2_with fail
  rw [rounds_succ]
  go_wp2_with fail
  refine HG.out.mono ?_
  rintro e w1 ⟨v, rfl, hown, hbel⟩
  have hc1' : w1.cell? ⟨B, 0, none⟩ = some (.slice a1 n1 cap1) := by rw [hbel.cell (p := ⟨B, 0, none⟩) hB]; exact hc1
  have hh1 := H1.out.below hbel
  have hbn1 : ([] : List Int).length + l1.length ≤ 180000000000000 := by rw [HN1.out]; simp; omega
  have HB1 := hide hbn1
  clear hbn1
  go_wp2_with fail
  refine wp_loop_rounds 3 ?_
  rw [rounds_succ]
  go_wp2_with (at_builtin; refine wpList_append_bytes _ rfl _ _ rfl w.heap.size _ _ rfl hown _ _ rfl hh1 HB1.out hbel.size ?_; intro v2 w2 hown2 hgr2)
  have hbel2 : Below w.heap.size w w2 := hbel.grown hgr2 hbel.size (fun q hq => (hown.block q hq).1)
  have hc2' : w2.cell? ⟨B, 1, none⟩ = some (.slice a2 n2 cap2) := by rw [hbel2.cell (p := ⟨B, 1, none⟩) hB]; exact hc2
  have hh2 := H2.out.below hbel2
  have hbn2 : ([] ++ l1 : List Int).length + l2.length ≤ 180000000000000 := by rw [List.nil_append, HN1.out, HN2.out]; exact hn
  have HB2 := hide hbn2
  clear hbn2
  rw [rounds_succ]
  go_wp2_with (at_builtin; refine wpList_append_bytes _ rfl _ _ rfl w.heap.size _ _ rfl hown2 _ _ rfl hh2 HB2.out hbel2.size ?_; intro v3 w3 hown3 hgr3)
  have hbel3 : Below w.heap.size w w3 := hbel2.grown hgr3 hbel2.size (fun q hq => (hown2.block q hq).1)
  rw [rounds_succ]
  go_wp2_with fail
  go_ret
  exact ⟨v3, rfl, by rw [List.nil_append] at hown3; exact hown3, hbel3⟩

set_option maxHeartbeats 800000 in
theorem pack_any (v : Value) (l : List Int) (w : World) (h : Has w v l) (hn : l.length ≤ 170000000000000) :
    Calls Tryz.prog 77 #[v] w fun e w' => ∃ v', e = .returned v' ∧ Own w' w.heap.size v' (Sz.wr (l.length : Nat) ++ l) ∧ Below w.heap.size w w' := by
  have H1 := hide h
  obtain ⟨a, cap, rfl, -, -⟩ := h.slice
  clear h
  generalize hn1 : l.length = n at *
  have HN := hide hn1
  clear hn1
  go_enter Tryz.func77, Tryz.ntmps77
  go_wp2_with fail
  refine (write_yes n _ (by omega) (by omega)).mono ?_
  rintro e w1 ⟨rfl, hx, hbel⟩
  have H2 := H1.out.below hbel
  have h9 := Sz.wr_le9 n
  have hp := Sz.wr_pos n
  go_wp2_with fail
  have hb2 : ∀ o, Below w1.heap.size w1 (w1.alloc o) := fun o => (Below.refl _ _).alloc (Nat.le_refl _) _
  refine (concat_two w1.heap.size _ _ (Sz.wr n) l _ (by simp) (by simp) (hx.below (hb2 _)) (H2.below (hb2 _)) (by omega) (by rw [HN.out]; omega)).mono ?_
  rintro e w2 ⟨v', rfl, hown, hbel2⟩
  have hbel3 : Below w.heap.size w w2 := (hbel.alloc hbel.size _).trans (hbel2.mono (Nat.le_trans hbel.size (hb2 _).size))
  have hown2 := hown.mono (Nat.le_trans hbel.size (hb2 _).size)
  go_wp2
  go_ret
  exact ⟨v', rfl, hown2, hbel3⟩
end Go.Proofs.YtbdnbjemocjlaaaGreatDoor

/- The contracts of bytes.Clone and of size.Unpack. -/
namespace Go.Proofs.YtbdnbjemocjlaaaGreatDoor
open Go.RowKit
set_option linter.unusedVariables false

/-- A new empty slice: a block with no cells. -/
theorem Own.empty (w : World) (base : Nat) (hb : base ≤ w.heap.size) : Own (w.alloc (.cells #[] 5)) base (.slice (some ⟨w.heap.size, 0, none⟩) 0 0) [] :=
  ⟨rfl, .inr ⟨w.heap.size, 0, #[], rfl, hb, heap_alloc_new w _, Nat.le_refl _, Nat.zero_le _, rfl, rfl⟩⟩

set_option maxHeartbeats 400000 in
theorem clone_some (a : Addr) (n cap : Nat) (l : List Int) (w : World) (h : Has w (.slice (some a) n cap) l) (hn : l.length ≤ 180000000000000) :
    Calls Tryz.prog 87 #[.slice (some a) n cap] w fun e w' => ∃ v, e = .returned v ∧ Own w' w.heap.size v l ∧ Below w.heap.size w w' := by
  have H1 := hide h
  clear h
  have heq : ∀ w, (binOp .eql 26 (.slice (some a) n cap) (.slice none 0 0)).run Tryz.prog w = .ok (.bool false) w := fun w => Go.Lib.run_eql_slice_nil w _ _ (some a) n cap 0 0 Tryz.underlying26
  have hb : ∀ o, Below w.heap.size w (w.alloc o) := fun o => (Below.refl _ _).alloc (Nat.le_refl _) _
  have HB := hide hb
  clear hb
  go_enter Tryz.func87, Tryz.ntmps87
  go_wp2_with (at_builtin; refine wpList_append_bytes _ rfl _ _ rfl w.heap.size _ [] rfl (Own.empty w w.heap.size (Nat.le_refl _)) _ l rfl (H1.out.below (HB.out _)) (by simpa using hn) (HB.out _).size ?_; intro v2 w2 hown2 hgr2)
  go_ret
  exact ⟨v2, rfl, hown2, (HB.out _).grown hgr2 (HB.out _).size (fun q hq => ((Own.empty w w.heap.size (Nat.le_refl _)).block q hq).1)⟩

theorem rd_err (l : List Int) (p : Int) (h : (Sz.rd l p).2.2 ≠ 0) : (Sz.rd l p).1 = 0 ∧ (Sz.rd l p).2.1 = 0 := (Sz.rd_ok l p).resolve_left h

set_option maxHeartbeats 400000 in
theorem unpack_err (v : Value) (l : List Int) (p : Int) (w : World) (h : Has w v l) (hb : Sz.Byt l) (he : (Sz.rd l p).2.2 ≠ 0) :
    Calls Tryz.prog 84 #[v, .int .i64 p] w fun e w' => e = .returned (.tuple #[.slice none 0 0, .int .i64 0, errV (Sz.rd l p).2.2]) ∧ Below w.heap.size w w' := by
  have hr := read_any v l p w h hb
  have hV : errV (Sz.rd l p).2.2 = .iface 27 (.int .i64 (Sz.rd l p).2.2) := by unfold errV; rw [if_neg he]
  rw [hV] at hr ⊢
  generalize (Sz.rd l p).1 = r1 at *
  generalize (Sz.rd l p).2.1 = r2 at *
  generalize (Sz.rd l p).2.2 = r3 at *
  have HR := hide hr
  clear hr hV he h
  go_enter Tryz.func84, Tryz.ntmps84
  go_wp2_with fail
  refine HR.out.mono ?_
  rintro e w1 ⟨rfl, hbel⟩
  go_wp2
  go_ret3
  exact ⟨rfl, hbel⟩

set_option maxHeartbeats 400000 in
theorem unpack_ok (b off cap : Nat) (l : List Int) (p q : Nat) (n : Nat) (w : World) (h : Has w (.slice (some ⟨b, off, none⟩) l.length cap) l) (hb : Sz.Byt l) (hr : Sz.rd l (p : Int) = ((n : Int), (q : Int), 0))
    (hq : q ≤ l.length) (hm : cap ≤ maxLen) (hcap : l.length ≤ cap) (hbig : l.length ≤ 180000000000000) (hc : ∀ j, j < l.length → w.cell? ⟨b, off + j, none⟩ = some (.int .u8 (l.getD j 0))) (hn : q + n ≤ l.length) :
    Calls Tryz.prog 84 #[.slice (some ⟨b, off, none⟩) l.length cap, .int .i64 p] w fun e w' => ∃ v, e = .returned (.tuple #[v, .int .i64 ((q : Int) + (n : Int)), .nilIface]) ∧ Has w' v ((l.drop q).take n) ∧ Below w.heap.size w w' := by
  have hrd := read_any _ l (p : Int) w h hb
  rw [hr] at hrd
  have HR := hide hrd
  have hel : ((l.drop q).take n).length = n := by rw [List.length_take, List.length_drop]; omega
  have hHas : ∀ w', Below w.heap.size w w' → Has w' (.slice (if cap = q then some ⟨b, off, none⟩ else some ⟨b, off + q, none⟩) n (cap - q)) ((l.drop q).take n) := fun w' hw' => by
    refine Has.below (w := w) ?_ hw'
    by_cases h0 : n = 0
    · subst h0
      exact .inl ⟨_, _, rfl, by simp, by omega, by split <;> (intro h; cases h)⟩
    · rw [if_neg (by omega)]
      refine .inr ⟨b, off + q, cap - q, by rw [hel], by omega, by omega, by omega, fun j hj => ?_⟩
      have := hc (q + j) (by omega)
      rw [show off + q + j = off + (q + j) from by omega, this]
      have e2 : ((l.drop q).take n).getD j 0 = l.getD (q + j) 0 := by
        simp only [List.getD, List.getElem?_take, List.getElem?_drop]
        rw [if_pos (by omega)]
      rw [e2]
  have HH := hide hHas
  have HE := hide hel
  clear hrd hr h hb hc hHas hel
  generalize (l.drop q).take n = r at *
  generalize l.length = len at *
  unfold maxLen at hm
  have h1 : ¬ (len : Int) - (q : Int) < (n : Int) := by omega
  have h2 : (q : Int) + (n : Int) ≤ (len : Int) := by omega
  have h3 : (len : Int) ≤ (cap : Int) := by omega
  by_cases hcq : cap = q
  · subst hcq
    have HC : Hid (∀ w', Below w.heap.size w w' → Has w' (.slice (some ⟨b, off, none⟩) n 0) r) := fun w' hw' => by
      have := HH.out w' hw'
      rw [if_pos rfl, Nat.sub_self] at this
      exact this
    clear HH
    have hlen : r.length ≤ 180000000000000 := by rw [HE.out]; omega
    go_enter Tryz.func84, Tryz.ntmps84
    go_wp2_with fail
    refine HR.out.mono ?_
    rintro e w1 ⟨rfl, hbel⟩
    simp only [errV, if_true]
    go_wp2_with fail
    refine (clone_some _ _ _ r _ (HC.out _ hbel) hlen).mono ?_
    rintro e w2 ⟨v, rfl, hown, hbel2⟩
    go_wp2
    go_ret3
    exact ⟨v, rfl, hown.has, hbel.trans (hbel2.mono hbel.size)⟩
  · have HC : Hid (∀ w', Below w.heap.size w w' → Has w' (.slice (some ⟨b, off + q, none⟩) n (cap - q)) r) := fun w' hw' => by
      have := HH.out w' hw'
      rw [if_neg hcq] at this
      exact this
    clear HH
    have hlen : r.length ≤ 180000000000000 := by rw [HE.out]; omega
    go_enter Tryz.func84, Tryz.ntmps84
    go_wp2_with fail
    refine HR.out.mono ?_
    rintro e w1 ⟨rfl, hbel⟩
    simp only [errV, if_true]
    go_wp2_with fail
    refine (clone_some _ _ _ r _ (HC.out _ hbel) hlen).mono ?_
    rintro e w2 ⟨v, rfl, hown, hbel2⟩
    go_wp2
    go_ret3
    exact ⟨v, rfl, hown.has, hbel.trans (hbel2.mono hbel.size)⟩

set_option maxHeartbeats 400000 in
theorem unpack_few (v : Value) (l : List Int) (p q n : Int) (w : World) (h : Has w v l) (hb : Sz.Byt l) (hr : Sz.rd l p = (n, q, 0)) (hq0 : 0 ≤ q) (hq1 : q ≤ l.length) (hn0 : 0 ≤ n) (hn1 : n ≤ 9223372036854775807) (hn : (l.length : Int) - q < n) :
    Calls Tryz.prog 84 #[v, .int .i64 p] w fun e w' => e = .returned (.tuple #[.slice none 0 0, .int .i64 0, .iface 27 (.int .i64 3)]) ∧ Below w.heap.size w w' := by
  have hrd := read_any v l p w h hb
  rw [hr] at hrd
  have HR := hide hrd
  obtain ⟨a, cap, rfl, hm, hlm⟩ := h.slice
  clear hrd hr h
  unfold maxLen at hlm
  generalize l.length = len at *
  go_enter Tryz.func84, Tryz.ntmps84
  go_wp2_with fail
  refine HR.out.mono ?_
  rintro e w1 ⟨rfl, hbel⟩
  simp only [errV, if_true]
  go_wp2
  go_ret3
  exact ⟨rfl, hbel⟩

/-- The contract in one piece. -/
theorem unpack_any (v : Value) (l : List Int) (p : Int) (w : World) (h : Has w v l) (hb : Sz.Byt l) (hbig : l.length ≤ 180000000000000) :
    Calls Tryz.prog 84 #[v, .int .i64 p] w fun e w' => ∃ v', e = .returned (.tuple #[v', .int .i64 (Sz.unp l p).2.1, errV (Sz.unp l p).2.2]) ∧ Has w' v' (Sz.unp l p).1 ∧ Below w.heap.size w w' := by
  by_cases he : (Sz.rd l p).2.2 = 0
  · obtain ⟨n, q, hr⟩ : ∃ n q, Sz.rd l p = (n, q, 0) := ⟨(Sz.rd l p).1, (Sz.rd l p).2.1, by rw [← he]⟩
    have hp : ¬ p < 0 := fun hp => by rw [Sz.rd_neg l p hp] at he; simp at he
    obtain ⟨k, rfl⟩ := Int.eq_ofNat_of_zero_le (show 0 ≤ p by omega)
    obtain ⟨hn0, hn1, hq, hle, _⟩ := Sz.wr_rd l k n q hb hr
    by_cases hfew : (l.length : Int) - q < n
    · have e : Sz.unp l (k : Int) = ([], 0, 3) := by unfold Sz.unp; rw [hr, if_neg (by simp), if_pos hfew]
      rw [e]
      refine (unpack_few v l k q n w h hb hr (by omega) (by omega) hn0 hn1 hfew).mono ?_
      rintro e w' ⟨rfl, hbel⟩
      exact ⟨_, rfl, .inl ⟨none, 0, rfl, rfl, by unfold maxLen; omega, fun _ => rfl⟩, hbel⟩
    · obtain ⟨n', rfl⟩ := Int.eq_ofNat_of_zero_le hn0
      obtain ⟨q', rfl⟩ := Int.eq_ofNat_of_zero_le (show 0 ≤ q by omega)
      have e : Sz.unp l (k : Int) = ((l.drop q').take n', (q' : Int) + (n' : Int), 0) := by unfold Sz.unp; rw [hr, if_neg (by simp), if_neg hfew]; rfl
      rw [e]
      have hpos := Sz.wr_pos (n' : Int)
      have H := h
      rcases h with ⟨a, cap, rfl, rfl, _⟩ | ⟨b, off, cap, rfl, h0, hcap, hm, hc⟩
      · exact absurd hle (by simp only [List.length_nil]; omega)
      · refine (unpack_ok b off cap l k q' n' w H hb hr (by omega) hm hcap hbig hc (by omega)).mono ?_
        rintro e w' ⟨v, rfl, hv, hbel⟩
        exact ⟨v, rfl, hv, hbel⟩
  · have e : Sz.unp l p = ([], 0, (Sz.rd l p).2.2) := by unfold Sz.unp; rw [if_pos he]
    rw [e]
    refine (unpack_err v l p w h hb he).mono ?_
    rintro e w' ⟨rfl, hbel⟩
    exact ⟨_, rfl, .inl ⟨none, 0, rfl, rfl, by unfold maxLen; omega, fun _ => rfl⟩, hbel⟩
end Go.Proofs.YtbdnbjemocjlaaaGreatDoor
