/- The contract of moneyerref1.SizeAt: it tells what size.Read tells, in a struct. -/
import Derived.Test.YtgjolcfkefimcaaDoorRef
import Derived.Test.YtgjolcfkefimcaaDoorNum
namespace Go.Proofs.YtgjolcfkefimcaaDoor
open Go.RowKit
set_option linter.unusedVariables false

def got (a b c : Int) : Value := .agg #[.int .i64 a, .int .i64 b, .int .i64 c]

set_option maxHeartbeats 400000 in
theorem at_range (v : Value) (p : Int) (w : World) (h : p < 0) :
    Calls Tryd.prog 9 #[v, .int .i64 p] w fun e w' => e = .returned (got 0 0 2) ∧ Below w.heap.size w w' := by
  go_enter Tryd.func9, Tryd.ntmps9
  go_wp2
  exact bodyPost_ret (v := .agg #[.int .i64 0, .int .i64 0, .int .i64 2]) (by simp [results, Tryd.results9, go_sem]) rfl ⟨rfl, (Below.refl _ _).alloc (Nat.le_refl _) _⟩

set_option maxHeartbeats 400000 in
theorem at_past (a : Option Addr) (n cap : Nat) (p : Int) (w : World) (h : 0 ≤ p) (hp : (n : Int) ≤ p) :
    Calls Tryd.prog 9 #[.slice a n cap, .int .i64 p] w fun e w' => e = .returned (got 0 0 3) ∧ Below w.heap.size w w' := by
  have h' : ¬ p < 0 := by omega
  go_enter Tryd.func9, Tryd.ntmps9
  go_wp2
  exact bodyPost_ret (v := .agg #[.int .i64 0, .int .i64 0, .int .i64 3]) (by simp [results, Tryd.results9, go_sem]) rfl ⟨rfl, (Below.refl _ _).alloc (Nat.le_refl _) _⟩

set_option maxHeartbeats 400000 in
theorem at_one (b off cap len : Nat) (f : Int) (p : Nat) (w : World) (hcp : w.cell? ⟨b, off + p, none⟩ = some (.int .u8 f)) (hcap : len ≤ cap) (hm : cap ≤ maxLen)
    (hp : p < len) (hf0 : 0 ≤ f) (hf : f < 253) :
    Calls Tryd.prog 9 #[.slice (some ⟨b, off, none⟩) len cap, .int .i64 p] w fun e w' => e = .returned (got f ((p : Int) + 1) 0) ∧ Below w.heap.size w w' := by
  have hlt : b < w.heap.size := World.block_lt_of_cell? w ⟨b, off + p, none⟩ hcp
  unfold maxLen at hm
  have h1 : ¬ (p : Int) < 0 := by omega
  have h2 : ¬ (len : Int) ≤ (p : Int) := by omega
  have h2' : (p : Int) < (len : Int) := by omega
  have e1 : (f == 253) = false := by simp; omega
  have e2 : (f == 254) = false := by simp; omega
  have e3 : (f == 255) = false := by simp; omega
  have hw := byte64 f hf0 (by omega)
  go_enter Tryd.func9, Tryd.ntmps9
  go_wp2
  exact bodyPost_ret (v := .agg #[.int .i64 f, .int .i64 ((p : Int) + 1), .int .i64 0]) (by simp [results, Tryd.results9, go_sem]) rfl ⟨rfl, (Below.refl _ _).alloc (Nat.le_refl _) _⟩

/-- The three cells of a struct of the call's own, behind a call that leaves them alone. -/
theorem three_kept {w w1 : World} {x y z : Value} {T : TypeId} (h : Below (w.alloc (.cells #[x, y, z] T)).heap.size (w.alloc (.cells #[x, y, z] T)) w1) :
    w1.cell? ⟨w.heap.size, 0, none⟩ = some x ∧ w1.cell? ⟨w.heap.size, 1, none⟩ = some y ∧ w1.cell? ⟨w.heap.size, 2, none⟩ = some z ∧ ∀ j, w1.frozen? ⟨w.heap.size, j, none⟩ = false := by
  refine ⟨?_, ?_, ?_, fun j => ?_⟩
  · rw [h.cell (p := ⟨w.heap.size, 0, none⟩) (by simp)]; simp
  · rw [h.cell (p := ⟨w.heap.size, 1, none⟩) (by simp)]; simp
  · rw [h.cell (p := ⟨w.heap.size, 2, none⟩) (by simp)]; simp
  · rw [h.frozen (p := ⟨w.heap.size, j, none⟩) (by simp)]; simp

set_option maxHeartbeats 400000 in
theorem at_few2 (b off cap len : Nat) (p : Nat) (w : World) (hcp : w.cell? ⟨b, off + p, none⟩ = some (.int .u8 253)) (hcap : len ≤ cap) (hm : cap ≤ maxLen)
    (hbig : len ≤ 180000000000000) (hp : p < len) (hw : len < p + 1 + 2) :
    Calls Tryd.prog 9 #[.slice (some ⟨b, off, none⟩) len cap, .int .i64 p] w fun e w' => e = .returned (got 0 0 3) ∧ Below w.heap.size w w' := by
  have hlt : b < w.heap.size := World.block_lt_of_cell? w ⟨b, off + p, none⟩ hcp
  unfold maxLen at hm
  have h1 : ¬ (p : Int) < 0 := by omega
  have h2 : ¬ (len : Int) ≤ (p : Int) := by omega
  have h2' : (p : Int) < (len : Int) := by omega
  have h3 : (len : Int) < (p : Int) + 1 + 2 := by omega
  go_enter Tryd.func9, Tryd.ntmps9
  go_wp2
  exact bodyPost_ret (v := .agg #[.int .i64 0, .int .i64 0, .int .i64 3]) (by simp [results, Tryd.results9, go_sem]) rfl ⟨rfl, (Below.refl _ _).alloc (Nat.le_refl _) _⟩

set_option maxHeartbeats 400000 in
theorem at_few4 (b off cap len : Nat) (p : Nat) (w : World) (hcp : w.cell? ⟨b, off + p, none⟩ = some (.int .u8 254)) (hcap : len ≤ cap) (hm : cap ≤ maxLen)
    (hbig : len ≤ 180000000000000) (hp : p < len) (hw : len < p + 1 + 4) :
    Calls Tryd.prog 9 #[.slice (some ⟨b, off, none⟩) len cap, .int .i64 p] w fun e w' => e = .returned (got 0 0 3) ∧ Below w.heap.size w w' := by
  have hlt : b < w.heap.size := World.block_lt_of_cell? w ⟨b, off + p, none⟩ hcp
  unfold maxLen at hm
  have h1 : ¬ (p : Int) < 0 := by omega
  have h2 : ¬ (len : Int) ≤ (p : Int) := by omega
  have h2' : (p : Int) < (len : Int) := by omega
  have h3 : (len : Int) < (p : Int) + 1 + 4 := by omega
  go_enter Tryd.func9, Tryd.ntmps9
  go_wp2
  exact bodyPost_ret (v := .agg #[.int .i64 0, .int .i64 0, .int .i64 3]) (by simp [results, Tryd.results9, go_sem]) rfl ⟨rfl, (Below.refl _ _).alloc (Nat.le_refl _) _⟩

set_option maxHeartbeats 400000 in
theorem at_few8 (b off cap len : Nat) (p : Nat) (w : World) (hcp : w.cell? ⟨b, off + p, none⟩ = some (.int .u8 255)) (hcap : len ≤ cap) (hm : cap ≤ maxLen)
    (hbig : len ≤ 180000000000000) (hp : p < len) (hw : len < p + 1 + 8) :
    Calls Tryd.prog 9 #[.slice (some ⟨b, off, none⟩) len cap, .int .i64 p] w fun e w' => e = .returned (got 0 0 3) ∧ Below w.heap.size w w' := by
  have hlt : b < w.heap.size := World.block_lt_of_cell? w ⟨b, off + p, none⟩ hcp
  unfold maxLen at hm
  have h1 : ¬ (p : Int) < 0 := by omega
  have h2 : ¬ (len : Int) ≤ (p : Int) := by omega
  have h2' : (p : Int) < (len : Int) := by omega
  have h3 : (len : Int) < (p : Int) + 1 + 8 := by omega
  go_enter Tryd.func9, Tryd.ntmps9
  go_wp2
  exact bodyPost_ret (v := .agg #[.int .i64 0, .int .i64 0, .int .i64 3]) (by simp [results, Tryd.results9, go_sem]) rfl ⟨rfl, (Below.refl _ _).alloc (Nat.le_refl _) _⟩
end Go.Proofs.YtgjolcfkefimcaaDoor
