/- The texts Read, Reads, Write, Pack, Unpack, one behind the other. -/
import Derived.Test.YtifoldkbmpopnaaDoorBase
import Derived.Deep.QuietTactic
import Derived.BigQuiet
import Derived.Test.YtifoldkbmpopnaaDoorAs
import Derived.Test.YtifoldkbmpopnaaDoorOwns
import Derived.Lib.AppendZeros
import Derived.Lib.SliceRun
/- The contract of size.Read: the five ways in which it answers, and that it turns nothing. -/
namespace Go.Proofs.YtifoldkbmpopnaaDoor
open Go.RowKit
set_option linter.unusedVariables false

theorem drewN_below (w : World) (n : Nat) : Below w.heap.size w (w.drewN n) := by
  induction n with
  | zero => exact Below.refl _ _
  | succ n ih => exact ih.drew

/-- The bytes behind the first one. -/
theorem has_mid {w : World} {b off cap len : Nat} {l : List Int} (p k : Nat) (hl : l.length = len) (hc : ∀ j, j < l.length → w.cell? ⟨b, off + j, none⟩ = some (.int .u8 (l.getD j 0))) (hcap : len ≤ cap) (hm : cap ≤ maxLen)
    (hk : 0 < k) (hw : p + 1 + k ≤ len) : Has w (.slice (some ⟨b, off + (p + 1), none⟩) k (cap - (p + 1))) ((l.drop (p + 1)).take k) := by
  have e : ((l.drop (p + 1)).take k).length = k := by rw [List.length_take, List.length_drop]; omega
  refine .inr ⟨b, off + (p + 1), cap - (p + 1), by rw [e], by omega, by omega, by omega, fun j hj => ?_⟩
  have := hc (p + 1 + j) (by omega)
  rw [show off + (p + 1) + j = off + (p + 1 + j) from by omega, this]
  have e2 : ((l.drop (p + 1)).take k).getD j 0 = l.getD (p + 1 + j) 0 := by
    simp only [List.getD, List.getElem?_take, List.getElem?_drop]
    rw [if_pos (by omega)]
  rw [e2]

end Go.Proofs.YtifoldkbmpopnaaDoor

/- The contract of size.Read in one piece. -/
namespace Go.Proofs.YtifoldkbmpopnaaDoor
open Go.RowKit
set_option linter.unusedVariables false

end Go.Proofs.YtifoldkbmpopnaaDoor

/- The contract of size.Write: what it answers for each number, and that nothing that was there is turned. -/
namespace Go.Proofs.YtifoldkbmpopnaaDoor
open Go.RowKit
set_option linter.unusedVariables false

end Go.Proofs.YtifoldkbmpopnaaDoor

/- The contracts of slices.Grow (on nil), slices.Concat (of two) and size.Pack: the bytes with how many they are ahead of them, in new memory. -/
namespace Go.Proofs.YtifoldkbmpopnaaDoor
open Go.RowKit
set_option linter.unusedVariables false

theorem Has.slice {w : World} {v : Value} {l : List Int} (h : Has w v l) : ∃ a cap, v = .slice a l.length cap ∧ cap ≤ maxLen ∧ l.length ≤ maxLen := by
  rcases h with ⟨a, c, rfl, rfl, hm, _⟩ | ⟨b, off, cap, rfl, _, h1, h2, _⟩
  · exact ⟨a, c, rfl, hm, Nat.zero_le _⟩
  · exact ⟨_, _, rfl, h2, by omega⟩

end Go.Proofs.YtifoldkbmpopnaaDoor

/- The contracts of bytes.Clone and of size.Unpack. -/
namespace Go.Proofs.YtifoldkbmpopnaaDoor
open Go.RowKit
set_option linter.unusedVariables false

/-- A new empty slice: a block with no cells. -/
theorem Own.empty (w : World) (base : Nat) (hb : base ≤ w.heap.size) : Own (w.alloc (.cells #[] 5)) base (.slice (some ⟨w.heap.size, 0, none⟩) 0 0) [] :=
  ⟨rfl, .inr ⟨w.heap.size, 0, #[], rfl, hb, heap_alloc_new w _, Nat.le_refl _, Nat.zero_le _, rfl, rfl⟩⟩

set_option maxHeartbeats 400000 in
theorem clone_some (a : Addr) (n cap : Nat) (l : List Int) (w : World) (h : Has w (.slice (some a) n cap) l) (hn : l.length ≤ 180000000000000) :
    Calls Tryd.prog 39 #[.slice (some a) n cap] w fun e w' => ∃ v, e = .returned v ∧ Own w' w.heap.size v l ∧ Below w.heap.size w w' := by
  have H1 := hide h
  clear h
  have heq : ∀ w, (binOp .eql 50 (.slice (some a) n cap) (.slice none 0 0)).run Tryd.prog w = .ok (.bool false) w := fun w => Go.Lib.run_eql_slice_nil w _ _ (some a) n cap 0 0 Tryd.underlying50
  have hb : ∀ o, Below w.heap.size w (w.alloc o) := fun o => (Below.refl _ _).alloc (Nat.le_refl _) _
  have HB := hide hb
  clear hb
  go_enter Tryd.func39, Tryd.ntmps39
  go_wp2_with (at_builtin; refine wpList_append_bytes _ rfl _ _ rfl w.heap.size _ [] rfl (Own.empty w w.heap.size (Nat.le_refl _)) _ l rfl (H1.out.below (HB.out _)) (by simpa using hn) (HB.out _).size ?_; intro v2 w2 hown2 hgr2)
  go_ret
  exact ⟨v2, rfl, hown2, (HB.out _).grown hgr2 (HB.out _).size (fun q hq => ((Own.empty w w.heap.size (Nat.le_refl _)).block q hq).1)⟩

theorem rd_err (l : List Int) (p : Int) (h : (Sz.rd l p).2.2 ≠ 0) : (Sz.rd l p).1 = 0 ∧ (Sz.rd l p).2.1 = 0 := (Sz.rd_ok l p).resolve_left h

end Go.Proofs.YtifoldkbmpopnaaDoor
