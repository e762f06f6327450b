/- bytes.Equal, and whether a thing is true. -/
import Derived.Test.YtgkpbglllnmbeaaGreatDoorOwnNew
import Derived.Test.YtgkpbglllnmbeaaGreatDoorZKg
import Derived.Laws.BytesArg
namespace Go.Proofs.YtgkpbglllnmbeaaGreatDoor
open Go.RowKit
set_option linter.unusedVariables false

theorem Has.str {w : World} {v : Value} {l : List Int} (h : Has w v l) : (convert 72 9 v).run Tryz.prog w = .ok (.string (strOfNums l)) w := by
  rcases h with ⟨a, cap, rfl, rfl, _⟩ | ⟨b, off, cap, rfl, h0, h1, h2, hc⟩
  · rw [run_convert_bytes_string w 72 9 5 a 0 cap Tryz.underlying72 Tryz.underlying5 Tryz.underlying9]
    cases a with
    | none => simp [Conv.bytesToString]; rfl
    | some a =>
      have := run_bytesToString (P := Tryz.prog) w a 0 cap [] (by simp [loadCells, loadCellsFrom])
      rw [this]; rfl
  · exact run_convert_bytes_arg w 72 5 Tryz.underlying72 Tryz.underlying5 b off l.length cap l rfl hc 9 Tryz.underlying9

theorem map_byte_inj : ∀ (a b : List Int), Sz.Byt a → Sz.Byt b → a.map (fun n => UInt8.ofNat n.toNat) = b.map (fun n => UInt8.ofNat n.toNat) → a = b
  | [], [], _, _, _ => rfl
  | [], _ :: _, _, _, h => by simp at h
  | _ :: _, [], _, _, h => by simp at h
  | x :: a, y :: b, ha, hb, h => by
    simp only [List.map_cons, List.cons.injEq] at h
    have hx := ha x (by simp)
    have hy := hb y (by simp)
    have e : x.toNat = y.toNat := by
      have := congrArg UInt8.toNat h.1
      simp only [UInt8.toNat_ofNat'] at this
      omega
    rw [map_byte_inj a b (fun z hz => ha z (by simp [hz])) (fun z hz => hb z (by simp [hz])) h.2]
    congr 1
    omega
theorem str_eq (a b : List Int) (ha : Sz.Byt a) (hb : Sz.Byt b) : ((strOfNums a).toList == (strOfNums b).toList) = decide (a = b) := by
  have ea : (strOfNums a).toList = a.map (fun n => UInt8.ofNat n.toNat) := by rw [ByteArray.toList_eq]; rfl
  have eb : (strOfNums b).toList = b.map (fun n => UInt8.ofNat n.toNat) := by rw [ByteArray.toList_eq]; rfl
  rw [ea, eb]
  by_cases h : a = b
  · subst h; simp
  · rw [decide_eq_false h]
    simp only [beq_eq_false_iff_ne, ne_eq]
    exact fun e => h (map_byte_inj a b ha hb e)

theorem bequal_any (v1 v2 : Value) (l1 l2 : List Int) (w : World) (h1 : Has w v1 l1) (h2 : Has w v2 l2) (b1 : Sz.Byt l1) (b2 : Sz.Byt l2) :
    Calls Tryz.prog 93 #[v1, v2] w fun e w' => e = .returned (.bool (decide (l1 = l2))) ∧ w = w' := by
  have e1 := h1.str
  have e2 := h2.str
  have e3 := str_eq l1 l2 b1 b2
  rw [← e3]
  clear h1 h2 b1 b2 e3
  go_enter Tryz.func93, Tryz.ntmps93
  go_wp2
  go_ret
  exact ⟨rfl, rfl⟩

set_option maxHeartbeats 800000 in
theorem isTrue_any (v : Value) (l : List Int) (w : World) (h : Has w v l) :
    Calls Tryz.prog 69 #[v] w fun e w' => e = .returned (.bool (Lk.isTrue l)) ∧ w = w' := by
  rcases h with ⟨a, cap, rfl, rfl, _⟩ | ⟨b, off, cap, rfl, h0, h1, hm, hc⟩
  · go_enter Tryz.func69, Tryz.ntmps69
    go_wp2
    refine wp_loop_rounds 1 ?_
    rw [rounds_succ]
    go_wp2
    go_ret
    exact ⟨rfl, rfl⟩
  · unfold maxLen at hm
    have HCC := hide hc
    clear hc
    go_enter Tryz.func69, Tryz.ntmps69
    go_wp2
    go_loop [7] (fun i => ∃ k : Nat, k ≤ l.length ∧ i = .int .i64 k ∧ Lk.isTrue l = Lk.isTrue (l.drop k)) (fun i => l.length - (intOf i).toNat)
    case atStart => exact ⟨0, Nat.zero_le _, rfl, by simp⟩
    case round =>
      obtain ⟨k, hk, rfl, ht⟩ := hrel
      by_cases hlt : k < l.length
      · have hck := HCC.out k hlt
        have e : l.drop k = l.getD k 0 :: l.drop (k + 1) := by
          rw [List.drop_eq_getElem_cons hlt]; simp [List.getD, List.getElem?_eq_getElem hlt]
        rw [e] at ht
        generalize l.getD k 0 = x at *
        clear HCC e
        by_cases hx : x = 0
        · subst hx
          have ht2 : Lk.isTrue l = Lk.isTrue (l.drop (k + 1)) := by rw [ht]; rfl
          have HT := hide ht2
          clear ht ht2
          go_wp2
          go_round
          case rel => exact ⟨k + 1, by omega, by go_num, HT.out⟩
          case measure => simp [intOf]; omega
        · have ht2 : Lk.isTrue l = true := by rw [ht]; simp [Lk.isTrue, hx]
          have HT := hide ht2
          clear ht ht2
          go_wp2
          go_ret
          exact ⟨by rw [HT.out]; rfl, rfl⟩
      · have hki : ¬ (k : Int) < l.length := by omega
        rw [List.drop_eq_nil_of_le (by omega)] at ht
        have HT : Hid (Lk.isTrue l = false) := ht
        clear ht
        go_wp2
        go_ret
        exact ⟨by rw [HT.out]; rfl, rfl⟩
end Go.Proofs.YtgkpbglllnmbeaaGreatDoor
