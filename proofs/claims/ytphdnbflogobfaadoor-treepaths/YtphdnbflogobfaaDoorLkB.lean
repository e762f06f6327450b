/- bytes.Equal, and whether a thing is true. -/
import Derived.Test.YtphdnbflogobfaaDoorOwnNew
import Derived.Test.YtphdnbflogobfaaDoorZKg
import Derived.Laws.BytesArg
namespace Go.Proofs.YtphdnbflogobfaaDoor
open Go.RowKit
set_option linter.unusedVariables false

theorem Has.str {w : World} {v : Value} {l : List Int} (h : Has w v l) : (convert 23 9 v).run Tryd.prog w = .ok (.string (strOfNums l)) w := by
  rcases h with ⟨a, cap, rfl, rfl, _⟩ | ⟨b, off, cap, rfl, h0, h1, h2, hc⟩
  · rw [run_convert_bytes_string w 23 9 5 a 0 cap Tryd.underlying23 Tryd.underlying5 Tryd.underlying9]
    cases a with
    | none => simp [Conv.bytesToString]; rfl
    | some a =>
      have := run_bytesToString (P := Tryd.prog) w a 0 cap [] (by simp [loadCells, loadCellsFrom])
      rw [this]; rfl
  · exact run_convert_bytes_arg w 23 5 Tryd.underlying23 Tryd.underlying5 b off l.length cap l rfl hc 9 Tryd.underlying9

theorem map_byte_inj : ∀ (a b : List Int), Sz.Byt a → Sz.Byt b → a.map (fun n => UInt8.ofNat n.toNat) = b.map (fun n => UInt8.ofNat n.toNat) → a = b
  | [], [], _, _, _ => rfl
  | [], _ :: _, _, _, h => by simp at h
  | _ :: _, [], _, _, h => by simp at h
  | x :: a, y :: b, ha, hb, h => by
    simp only [List.map_cons, List.cons.injEq] at h
    have hx := ha x (by simp)
    have hy := hb y (by simp)
    have e : x.toNat = y.toNat := by
      have := congrArg UInt8.toNat h.1
      simp only [UInt8.toNat_ofNat'] at this
      omega
    rw [map_byte_inj a b (fun z hz => ha z (by simp [hz])) (fun z hz => hb z (by simp [hz])) h.2]
    congr 1
    omega
theorem str_eq (a b : List Int) (ha : Sz.Byt a) (hb : Sz.Byt b) : ((strOfNums a).toList == (strOfNums b).toList) = decide (a = b) := by
  have ea : (strOfNums a).toList = a.map (fun n => UInt8.ofNat n.toNat) := by rw [ByteArray.toList_eq]; rfl
  have eb : (strOfNums b).toList = b.map (fun n => UInt8.ofNat n.toNat) := by rw [ByteArray.toList_eq]; rfl
  rw [ea, eb]
  by_cases h : a = b
  · subst h; simp
  · rw [decide_eq_false h]
    simp only [beq_eq_false_iff_ne, ne_eq]
    exact fun e => h (map_byte_inj a b ha hb e)

end Go.Proofs.YtphdnbflogobfaaDoor
