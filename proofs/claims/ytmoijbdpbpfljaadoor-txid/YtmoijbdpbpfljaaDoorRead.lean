/- The contract of size.Read: the five ways in which it answers, and that it turns nothing. -/
import Derived.Test.YtmoijbdpbpfljaaDoorBase
import Derived.Deep.QuietTactic
import Derived.BigQuiet
namespace Go.Proofs.YtmoijbdpbpfljaaDoor
open Go.RowKit
set_option linter.unusedVariables false

theorem read_range (v : Value) (p : Int) (w : World) (h : p < 0) :
    Calls Tryd.prog 67 #[v, .int .i64 p] w fun e w' => e = .returned (.tuple #[.int .i64 0, .int .i64 0, .iface 35 (.int .i64 2)]) ∧ w = w' := by
  go_enter Tryd.func67, Tryd.ntmps67
  go_wp2
  go_ret3
  exact ⟨rfl, rfl⟩

theorem read_past (a : Option Addr) (n cap : Nat) (p : Int) (w : World) (h : 0 ≤ p) (hp : (n : Int) ≤ p) :
    Calls Tryd.prog 67 #[.slice a n cap, .int .i64 p] w fun e w' => e = .returned (.tuple #[.int .i64 0, .int .i64 0, .iface 35 (.int .i64 3)]) ∧ w = w' := by
  have h' : ¬ p < 0 := by omega
  go_enter Tryd.func67, Tryd.ntmps67
  go_wp2
  go_ret3
  exact ⟨rfl, rfl⟩

theorem drewN_below (w : World) (n : Nat) : Below w.heap.size w (w.drewN n) := by
  induction n with
  | zero => exact Below.refl _ _
  | succ n ih => exact ih.drew

set_option maxHeartbeats 400000 in
theorem read_few (b off cap len : Nat) (f : Int) (p : Nat) (w : World) (hcp : w.cell? ⟨b, off + p, none⟩ = some (.int .u8 f)) (hcap : len ≤ cap) (hm : cap ≤ maxLen)
    (hp : p < len) (hw : len < p + 1 + Sz.wid f) :
    Calls Tryd.prog 67 #[.slice (some ⟨b, off, none⟩) len cap, .int .i64 p] w fun e w' => e = .returned (.tuple #[.int .i64 0, .int .i64 0, .iface 35 (.int .i64 3)]) ∧ Below w.heap.size w w' := by
  unfold maxLen at hm
  have h1 : ¬ (p : Int) < 0 := by omega
  have h2 : (p : Int) < (len : Int) := by omega
  have h3 : (len : Int) ≤ (cap : Int) := by omega
  have h4 : (cap : Int) ≤ 9223372036854775807 := by omega
  have h5 : (((len - (p + 1) : Nat)) : Int) < (Sz.wid f : Int) := by omega
  go_enter Tryd.func67, Tryd.ntmps67
  go_wp2
  go_quiet (fail)
  go_wp2_with (go_at_call 62; refine (behind_any _ _).mono ?_; rintro e w' ⟨rfl, rfl⟩)
  all_goals
    go_ret3
    exact ⟨rfl, drewN_below _ _⟩

/-- The number is one byte. -/
theorem read_one (b off cap len : Nat) (f : Int) (p : Nat) (w : World) (hcp : w.cell? ⟨b, off + p, none⟩ = some (.int .u8 f)) (hcap : len ≤ cap) (hm : cap ≤ maxLen)
    (hp : p < len) (hf0 : 0 ≤ f) (hf : f < 256) (hw : Sz.wid f = 0) :
    Calls Tryd.prog 67 #[.slice (some ⟨b, off, none⟩) len cap, .int .i64 p] w fun e w' => e = .returned (.tuple #[.int .i64 f, .int .i64 ((p : Int) + 1), .nilIface]) ∧ Below w.heap.size w w' := by
  unfold maxLen at hm
  have h1 : ¬ (p : Int) < 0 := by omega
  have h2 : (p : Int) < (len : Int) := by omega
  have h3 : (len : Int) ≤ (cap : Int) := by omega
  have h4 : (cap : Int) ≤ 9223372036854775807 := by omega
  have hff : Sz.fst f = f := by
    have : f < 253 := by unfold Sz.wid at hw; split at hw <;> (try split at hw) <;> (try split at hw) <;> omega
    unfold Sz.fst; rw [if_pos this]
  go_enter Tryd.func67, Tryd.ntmps67
  go_wp2
  go_quiet (fail)
  go_wp2_with (first
    | (go_at_call 62; refine (behind_any _ _).mono ?_; rintro e w' ⟨rfl, rfl⟩)
    | (go_at_call 61; refine (firstOf_any f _ (by omega) (by omega)).mono ?_; rintro e w' ⟨rfl, rfl⟩))
  all_goals
    go_ret3
    exact ⟨rfl, drewN_below _ _⟩

/-- The bytes behind the first one. -/
theorem has_mid {w : World} {b off cap len : Nat} {l : List Int} (p k : Nat) (hl : l.length = len) (hc : ∀ j, j < l.length → w.cell? ⟨b, off + j, none⟩ = some (.int .u8 (l.getD j 0))) (hcap : len ≤ cap) (hm : cap ≤ maxLen)
    (hk : 0 < k) (hw : p + 1 + k ≤ len) : Has w (.slice (some ⟨b, off + (p + 1), none⟩) k (cap - (p + 1))) ((l.drop (p + 1)).take k) := by
  have e : ((l.drop (p + 1)).take k).length = k := by rw [List.length_take, List.length_drop]; omega
  refine .inr ⟨b, off + (p + 1), cap - (p + 1), by rw [e], by omega, by omega, by omega, fun j hj => ?_⟩
  have := hc (p + 1 + j) (by omega)
  rw [show off + (p + 1) + j = off + (p + 1 + j) from by omega, this]
  have e2 : ((l.drop (p + 1)).take k).getD j 0 = l.getD (p + 1 + j) 0 := by
    simp only [List.getD, List.getElem?_take, List.getElem?_drop]
    rw [if_pos (by omega)]
  rw [e2]

set_option maxHeartbeats 800000 in
/-- The number is one of more bytes: which of two answers, is told by what is read. -/
theorem read_more (b off cap len : Nat) (l : List Int) (f : Int) (p k : Nat) (w : World) (hc : ∀ j, j < l.length → w.cell? ⟨b, off + j, none⟩ = some (.int .u8 (l.getD j 0))) (hb : Sz.Byt l) (hl : l.length = len) (hcap : len ≤ cap) (hm : cap ≤ maxLen)
    (hp : p < len) (hf : l.getD p 0 = f) (hk : Sz.wid f = k) (hk0 : 0 < k) (hw : p + 1 + k ≤ len) (m : Int) (hmm : Sz.joinL ((l.drop (p + 1)).take k) = m) :
    Calls Tryd.prog 67 #[.slice (some ⟨b, off, none⟩) len cap, .int .i64 p] w fun e w' =>
      e = .returned (if Sz.fst m = f ∧ m ≤ 9223372036854775807 then .tuple #[.int .i64 m, .int .i64 ((p : Int) + 1 + (k : Int)), .nilIface] else .tuple #[.int .i64 0, .int .i64 0, .iface 35 (.int .i64 1)]) ∧ Below w.heap.size w w' := by
  have hhas := fun w' (hw' : Below w.heap.size w w') => (has_mid (w := w) p k hl hc hcap hm hk0 hw).below hw'
  have hbt := (hb.drop (p + 1)).take k
  have hlen : ((l.drop (p + 1)).take k).length = k := by rw [List.length_take, List.length_drop]; omega
  have hk8 : k ≤ 8 := by rw [← hk]; exact Sz.wid_le f
  have hbd := Sz.joinL_bd _ hbt
  rw [hlen, hmm] at hbd
  have hp8 := Sz.pw_le8 k hk8
  have hm0 : 0 ≤ m := hbd.1
  have hm1 : m < 18446744073709551616 := by omega
  have HH : Hid (∀ w', Below w.heap.size w w' → Has w' (.slice (some ⟨b, off + (p + 1), none⟩) k (cap - (p + 1))) ((l.drop (p + 1)).take k)) := hhas
  have HM : Hid (Sz.joinL ((l.drop (p + 1)).take k) = m) := hmm
  have HL : Hid (((l.drop (p + 1)).take k).length = k) := hlen
  have HB : Hid (Sz.Byt ((l.drop (p + 1)).take k)) := hbt
  have hcp : w.cell? ⟨b, off + p, none⟩ = some (.int .u8 f) := by rw [← hf]; exact hc p (by omega)
  have hbh : ∀ w, Calls Tryd.prog 62 #[.int .u8 f] w fun e w' => e = .returned (.int .i64 (k : Nat)) ∧ w = w' := by rw [← hk]; exact fun w => behind_any f w
  have HBH := hide hbh
  clear hbh hk hf hmm hlen hhas hbd hp8 hbt hb hl hc
  generalize (l.drop (p + 1)).take k = r at *
  unfold maxLen at hm
  have h1 : ¬ (p : Int) < 0 := by omega
  have h2 : (p : Int) < (len : Int) := by omega
  have h3 : (len : Int) ≤ (cap : Int) := by omega
  have h4 : (cap : Int) ≤ 9223372036854775807 := by omega
  have h5 : ¬ (((len - (p + 1) : Nat)) : Int) < (k : Int) := by omega
  have h6 : ¬ cap = p + 1 := by omega
  have h7 : (0 : Int) < (k : Int) := by omega
  have h8 : (k : Int) ≤ ((len - (p + 1) : Nat) : Int) := by omega
  have h9 : (k : Int) ≤ ((cap - (p + 1) : Nat) : Int) := by omega
  have hjn : ∀ w', Below w.heap.size w w' → Calls Tryd.prog 74 #[.slice (some ⟨b, off + (p + 1), none⟩) k (cap - (p + 1))] w' fun e w'' => e = .returned (.int .u64 m) ∧ w' = w'' := fun w' hw' => by
    rw [← HM.out]; exact join_any _ r w' (HH.out w' hw') HB.out (by rw [HL.out]; exact hk8)
  have HJ := hide hjn
  clear hjn HH HM HL HB
  by_cases hfm : Sz.fst m = f
  · by_cases hmx : m ≤ 9223372036854775807
    · rw [if_pos ⟨hfm, hmx⟩]
      have hne : (Sz.fst m != f) = false := by simp [hfm]
      have hcv : IntKind.i64.wrap m = m := by simp [IntKind.wrap, IntKind.bits, IntKind.signed]; omega
      clear hfm
      go_enter Tryd.func67, Tryd.ntmps67
      go_wp2
      go_quiet (fail)
      go_wp2_with (first
        | (go_at_call 62; refine ((unhide HBH) _).mono ?_; rintro e w' ⟨rfl, rfl⟩)
        | (go_at_call 74; refine ((unhide HJ) _ (drewN_below _ _)).mono ?_; rintro e w' ⟨rfl, rfl⟩)
        | (go_at_call 61; refine (firstOf_any m _ hm0 hm1).mono ?_; rintro e w' ⟨rfl, rfl⟩))
      go_ret3
      exact ⟨rfl, drewN_below _ _⟩
    · rw [if_neg (fun h => hmx h.2)]
      have hne : (Sz.fst m != f) = false := by simp [hfm]
      have hmy : 9223372036854775807 < m := by omega
      clear hfm
      go_enter Tryd.func67, Tryd.ntmps67
      go_wp2
      go_quiet (fail)
      go_wp2_with (first
        | (go_at_call 62; refine ((unhide HBH) _).mono ?_; rintro e w' ⟨rfl, rfl⟩)
        | (go_at_call 74; refine ((unhide HJ) _ (drewN_below _ _)).mono ?_; rintro e w' ⟨rfl, rfl⟩)
        | (go_at_call 61; refine (firstOf_any m _ hm0 hm1).mono ?_; rintro e w' ⟨rfl, rfl⟩))
      go_ret3
      exact ⟨rfl, drewN_below _ _⟩
  · rw [if_neg (fun h => hfm h.1)]
    have hne : (Sz.fst m != f) = true := by simp [hfm]
    clear hfm
    go_enter Tryd.func67, Tryd.ntmps67
    go_wp2
    go_quiet (fail)
    go_wp2_with (first
      | (go_at_call 62; refine ((unhide HBH) _).mono ?_; rintro e w' ⟨rfl, rfl⟩)
      | (go_at_call 74; refine ((unhide HJ) _ (drewN_below _ _)).mono ?_; rintro e w' ⟨rfl, rfl⟩)
      | (go_at_call 61; refine (firstOf_any m _ hm0 hm1).mono ?_; rintro e w' ⟨rfl, rfl⟩))
    go_ret3
    exact ⟨rfl, drewN_below _ _⟩
end Go.Proofs.YtmoijbdpbpfljaaDoor
