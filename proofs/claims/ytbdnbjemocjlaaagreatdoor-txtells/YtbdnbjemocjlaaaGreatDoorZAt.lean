/- The texts At0, At, Ats, one behind the other. -/
import Derived.Test.YtbdnbjemocjlaaaGreatDoorRef
import Derived.Test.YtbdnbjemocjlaaaGreatDoorGRf
import Derived.Test.YtbdnbjemocjlaaaGreatDoorZRd
/- The contract of moneyerref1.SizeAt: it tells what size.Read tells, in a struct. -/
namespace Go.Proofs.YtbdnbjemocjlaaaGreatDoor
open Go.RowKit
set_option linter.unusedVariables false

def got (a b c : Int) : Value := .agg #[.int .i64 a, .int .i64 b, .int .i64 c]

set_option maxHeartbeats 400000 in
theorem at_range (v : Value) (p : Int) (w : World) (h : p < 0) :
    Calls Tryz.prog 53 #[v, .int .i64 p] w fun e w' => e = .returned (got 0 0 2) ∧ Below w.heap.size w w' := by
  go_enter Tryz.func53, Tryz.ntmps53
  go_wp2
  exact bodyPost_ret (v := .agg #[.int .i64 0, .int .i64 0, .int .i64 2]) (by simp [results, Tryz.results53, go_sem]) rfl ⟨rfl, (Below.refl _ _).alloc (Nat.le_refl _) _⟩

set_option maxHeartbeats 400000 in
theorem at_past (a : Option Addr) (n cap : Nat) (p : Int) (w : World) (h : 0 ≤ p) (hp : (n : Int) ≤ p) :
    Calls Tryz.prog 53 #[.slice a n cap, .int .i64 p] w fun e w' => e = .returned (got 0 0 3) ∧ Below w.heap.size w w' := by
  have h' : ¬ p < 0 := by omega
  go_enter Tryz.func53, Tryz.ntmps53
  go_wp2
  exact bodyPost_ret (v := .agg #[.int .i64 0, .int .i64 0, .int .i64 3]) (by simp [results, Tryz.results53, go_sem]) rfl ⟨rfl, (Below.refl _ _).alloc (Nat.le_refl _) _⟩

set_option maxHeartbeats 400000 in
theorem at_one (b off cap len : Nat) (f : Int) (p : Nat) (w : World) (hcp : w.cell? ⟨b, off + p, none⟩ = some (.int .u8 f)) (hcap : len ≤ cap) (hm : cap ≤ maxLen)
    (hp : p < len) (hf0 : 0 ≤ f) (hf : f < 253) :
    Calls Tryz.prog 53 #[.slice (some ⟨b, off, none⟩) len cap, .int .i64 p] w fun e w' => e = .returned (got f ((p : Int) + 1) 0) ∧ Below w.heap.size w w' := by
  have hlt : b < w.heap.size := World.block_lt_of_cell? w ⟨b, off + p, none⟩ hcp
  unfold maxLen at hm
  have h1 : ¬ (p : Int) < 0 := by omega
  have h2 : ¬ (len : Int) ≤ (p : Int) := by omega
  have h2' : (p : Int) < (len : Int) := by omega
  have e1 : (f == 253) = false := by simp; omega
  have e2 : (f == 254) = false := by simp; omega
  have e3 : (f == 255) = false := by simp; omega
  have hw := byte64 f hf0 (by omega)
  go_enter Tryz.func53, Tryz.ntmps53
  go_wp2
  exact bodyPost_ret (v := .agg #[.int .i64 f, .int .i64 ((p : Int) + 1), .int .i64 0]) (by simp [results, Tryz.results53, go_sem]) rfl ⟨rfl, (Below.refl _ _).alloc (Nat.le_refl _) _⟩

/-- The three cells of a struct of the call's own, behind a call that leaves them alone. -/
theorem three_kept {w w1 : World} {x y z : Value} {T : TypeId} (h : Below (w.alloc (.cells #[x, y, z] T)).heap.size (w.alloc (.cells #[x, y, z] T)) w1) :
    w1.cell? ⟨w.heap.size, 0, none⟩ = some x ∧ w1.cell? ⟨w.heap.size, 1, none⟩ = some y ∧ w1.cell? ⟨w.heap.size, 2, none⟩ = some z ∧ ∀ j, w1.frozen? ⟨w.heap.size, j, none⟩ = false := by
  refine ⟨?_, ?_, ?_, fun j => ?_⟩
  · rw [h.cell (p := ⟨w.heap.size, 0, none⟩) (by simp)]; simp
  · rw [h.cell (p := ⟨w.heap.size, 1, none⟩) (by simp)]; simp
  · rw [h.cell (p := ⟨w.heap.size, 2, none⟩) (by simp)]; simp
  · rw [h.frozen (p := ⟨w.heap.size, j, none⟩) (by simp)]; simp

set_option maxHeartbeats 400000 in
theorem at_few2 (b off cap len : Nat) (p : Nat) (w : World) (hcp : w.cell? ⟨b, off + p, none⟩ = some (.int .u8 253)) (hcap : len ≤ cap) (hm : cap ≤ maxLen)
    (hbig : len ≤ 180000000000000) (hp : p < len) (hw : len < p + 1 + 2) :
    Calls Tryz.prog 53 #[.slice (some ⟨b, off, none⟩) len cap, .int .i64 p] w fun e w' => e = .returned (got 0 0 3) ∧ Below w.heap.size w w' := by
  have hlt : b < w.heap.size := World.block_lt_of_cell? w ⟨b, off + p, none⟩ hcp
  unfold maxLen at hm
  have h1 : ¬ (p : Int) < 0 := by omega
  have h2 : ¬ (len : Int) ≤ (p : Int) := by omega
  have h2' : (p : Int) < (len : Int) := by omega
  have h3 : (len : Int) < (p : Int) + 1 + 2 := by omega
  go_enter Tryz.func53, Tryz.ntmps53
  go_wp2
  exact bodyPost_ret (v := .agg #[.int .i64 0, .int .i64 0, .int .i64 3]) (by simp [results, Tryz.results53, go_sem]) rfl ⟨rfl, (Below.refl _ _).alloc (Nat.le_refl _) _⟩

set_option maxHeartbeats 400000 in
theorem at_few4 (b off cap len : Nat) (p : Nat) (w : World) (hcp : w.cell? ⟨b, off + p, none⟩ = some (.int .u8 254)) (hcap : len ≤ cap) (hm : cap ≤ maxLen)
    (hbig : len ≤ 180000000000000) (hp : p < len) (hw : len < p + 1 + 4) :
    Calls Tryz.prog 53 #[.slice (some ⟨b, off, none⟩) len cap, .int .i64 p] w fun e w' => e = .returned (got 0 0 3) ∧ Below w.heap.size w w' := by
  have hlt : b < w.heap.size := World.block_lt_of_cell? w ⟨b, off + p, none⟩ hcp
  unfold maxLen at hm
  have h1 : ¬ (p : Int) < 0 := by omega
  have h2 : ¬ (len : Int) ≤ (p : Int) := by omega
  have h2' : (p : Int) < (len : Int) := by omega
  have h3 : (len : Int) < (p : Int) + 1 + 4 := by omega
  go_enter Tryz.func53, Tryz.ntmps53
  go_wp2
  exact bodyPost_ret (v := .agg #[.int .i64 0, .int .i64 0, .int .i64 3]) (by simp [results, Tryz.results53, go_sem]) rfl ⟨rfl, (Below.refl _ _).alloc (Nat.le_refl _) _⟩

set_option maxHeartbeats 400000 in
theorem at_few8 (b off cap len : Nat) (p : Nat) (w : World) (hcp : w.cell? ⟨b, off + p, none⟩ = some (.int .u8 255)) (hcap : len ≤ cap) (hm : cap ≤ maxLen)
    (hbig : len ≤ 180000000000000) (hp : p < len) (hw : len < p + 1 + 8) :
    Calls Tryz.prog 53 #[.slice (some ⟨b, off, none⟩) len cap, .int .i64 p] w fun e w' => e = .returned (got 0 0 3) ∧ Below w.heap.size w w' := by
  have hlt : b < w.heap.size := World.block_lt_of_cell? w ⟨b, off + p, none⟩ hcp
  unfold maxLen at hm
  have h1 : ¬ (p : Int) < 0 := by omega
  have h2 : ¬ (len : Int) ≤ (p : Int) := by omega
  have h2' : (p : Int) < (len : Int) := by omega
  have h3 : (len : Int) < (p : Int) + 1 + 8 := by omega
  go_enter Tryz.func53, Tryz.ntmps53
  go_wp2
  exact bodyPost_ret (v := .agg #[.int .i64 0, .int .i64 0, .int .i64 3]) (by simp [results, Tryz.results53, go_sem]) rfl ⟨rfl, (Below.refl _ _).alloc (Nat.le_refl _) _⟩
end Go.Proofs.YtbdnbjemocjlaaaGreatDoor

/- The contract of moneyerref1.SizeAt where the number is one of more bytes. -/
namespace Go.Proofs.YtbdnbjemocjlaaaGreatDoor
open Go.RowKit
set_option linter.unusedVariables false

set_option maxHeartbeats 1600000 in
theorem at_more2 (b off cap len : Nat) (l : List Int) (p : Nat) (w : World) (hc : ∀ j, j < l.length → w.cell? ⟨b, off + j, none⟩ = some (.int .u8 (l.getD j 0))) (hb : Sz.Byt l) (hl : l.length = len) (hcap : len ≤ cap) (hm : cap ≤ maxLen)
    (hbig : len ≤ 180000000000000) (hp : p < len) (hf : l.getD p 0 = 253) (hw : p + 1 + 2 ≤ len) (m : Int) (hmm : Sz.joinL ((l.drop (p + 1)).take 2) = m) :
    Calls Tryz.prog 53 #[.slice (some ⟨b, off, none⟩) len cap, .int .i64 p] w fun e w' =>
      e = .returned (if Sz.wid (Sz.fst m) = 2 ∧ m ≤ 9223372036854775807 then got m ((p : Int) + 1 + 2) 0 else got 0 0 1) ∧ Below w.heap.size w w' := by
  have hcp : w.cell? ⟨b, off + p, none⟩ = some (.int .u8 253) := by rw [← hf]; exact hc p (by omega)
  have hlt : b < w.heap.size := World.block_lt_of_cell? w ⟨b, off + p, none⟩ hcp
  have hmid := has_mid (w := w) p 2 hl hc hcap hm (by omega) hw
  have hbt := (hb.drop (p + 1)).take 2
  have hlen : ((l.drop (p + 1)).take 2).length = 2 := by rw [List.length_take, List.length_drop]; omega
  have hbd := Sz.joinL_bd _ hbt
  rw [hmm] at hbd
  have hm0 : 0 ≤ m := hbd.1
  have hcells : ∀ j, j < ((l.drop (p + 1)).take 2).length → w.cell? ⟨b, off + (p + 1) + j, none⟩ = some (.int .u8 (((l.drop (p + 1)).take 2).getD j 0)) := by
    rcases hmid with ⟨a, c, hv, hnil, _⟩ | ⟨b', off', cap', hv, _, _, _, hcc⟩
    · rw [hnil] at hlen; simp at hlen
    · injection hv with e1 e2 e3
      injection e1 with e1
      injection e1 with e4 e5
      subst e4; subst e5
      exact hcc
  have htop := Sz.join_top ((l.drop (p + 1)).take 2) hbt
  have hsmall := Sz.join_small ((l.drop (p + 1)).take 2) hbt
  rw [hmm] at htop hsmall
  have hnum : m ≤ 9223372036854775807 → ∀ w', Below w.heap.size w w' → Calls Tryz.prog 45 #[.slice (some ⟨b, off + (p + 1), none⟩) 2 (cap - (p + 1))] w' fun e w'' => e = .returned (.tuple #[.int .i64 m, .bool true]) ∧ Below w'.heap.size w' w'' := fun hmx w' hw' => by
    rw [← hmm]
    exact num_ok b (off + (p + 1)) (cap - (p + 1)) 2 _ w' hlen (fun j hj => by rw [hw'.cell (p := ⟨b, off + (p + 1) + j, none⟩) hlt]; exact hcells j hj) hbt (by omega) (by omega) (by rw [hmm]; exact hmx)
  have HN := hide hnum
  have hmx2 : m ≤ 9223372036854775807 := hsmall (by omega)
  clear hnum htop hsmall hcells hbd hlen hbt hmid hmm hf hb hl hc
  unfold maxLen at hm
  have h1 : ¬ (p : Int) < 0 := by omega
  have h2 : ¬ (len : Int) ≤ (p : Int) := by omega
  have h2' : (p : Int) < (len : Int) := by omega
  have h3 : ¬ (len : Int) < (p : Int) + 1 + 2 := by omega
  have h6 : ¬ cap = p + 1 := by omega
  have h7 : (p : Int) + 1 + 2 ≤ (cap : Int) := by omega
  have h8 : (len : Int) ≤ (cap : Int) := by omega
  have hb0 : ∀ o, Below w.heap.size w (w.alloc o) := fun o => (Below.refl _ _).alloc (Nat.le_refl _) _
  have HB0 := hide hb0
  clear hb0
  by_cases hmx : m ≤ 9223372036854775807
  · have hrb := fun w => rbytes_any m w hm0 hmx
    have HRB := hide hrb
    have hwl := Sz.wr_length m
    by_cases hk : Sz.wid (Sz.fst m) = 2
    · rw [if_pos ⟨hk, hmx⟩]
      rw [hk] at hwl
      have HWL := hide hwl
      clear hk hwl hrb
      go_enter Tryz.func53, Tryz.ntmps53
      go_wp2_with fail
      refine (HN.out hmx _ (HB0.out _)).mono ?_
      rintro e w1 ⟨rfl, hb1⟩
      go_wp2_with fail
      refine (HRB.out _).mono ?_
      rintro e w2 ⟨v2, rfl, ho2, hb2⟩
      obtain ⟨a2, c2, hv2, -, -⟩ := ho2.form
      rw [HWL.out] at hv2
      subst hv2
      have hb3 := hb1.trans (hb2.mono hb1.size)
      obtain ⟨z0, z1, z2, zf⟩ := three_kept hb3
      have hS : Below w.heap.size w w2 := (HB0.out _).trans (hb3.mono (by simp))
      clear hb1 hb2 hb3 ho2
      go_wp2
      exact bodyPost_ret (v := .agg #[.int .i64 m, .int .i64 ((p : Int) + 1 + 2), .int .i64 0]) (by simp [results, Tryz.results53, go_sem, z0, z1, z2]) rfl ⟨rfl, ((hS.setCell (Nat.le_refl _) _).setCell (Nat.le_refl _) _).setCell (Nat.le_refl _) _⟩
    · rw [if_neg (fun h => hk h.1)]
      have hne : (((Sz.wr m).length : Int) != 1 + 2) = true := by rw [bne_iff_ne]; omega
      have hne2 : (((Sz.wr m).length : Int) != 3) = true := by rw [bne_iff_ne]; omega
      clear hk hwl hrb
      go_enter Tryz.func53, Tryz.ntmps53
      go_wp2_with fail
      refine (HN.out hmx _ (HB0.out _)).mono ?_
      rintro e w1 ⟨rfl, hb1⟩
      go_wp2_with fail
      refine (HRB.out _).mono ?_
      rintro e w2 ⟨v2, rfl, ho2, hb2⟩
      obtain ⟨a2, c2, rfl, -, -⟩ := ho2.form
      have hb3 := hb1.trans (hb2.mono hb1.size)
      obtain ⟨z0, z1, z2, zf⟩ := three_kept hb3
      have hS : Below w.heap.size w w2 := (HB0.out _).trans (hb3.mono (by simp))
      clear hb1 hb2 hb3 ho2
      go_wp2
      exact bodyPost_ret (v := .agg #[.int .i64 0, .int .i64 0, .int .i64 1]) (by simp [results, Tryz.results53, go_sem, z0, z1, z2]) rfl ⟨rfl, ((hS.setCell (Nat.le_refl _) _).setCell (Nat.le_refl _) _).setCell (Nat.le_refl _) _⟩
  · exact absurd hmx2 hmx

set_option maxHeartbeats 1600000 in
theorem at_more4 (b off cap len : Nat) (l : List Int) (p : Nat) (w : World) (hc : ∀ j, j < l.length → w.cell? ⟨b, off + j, none⟩ = some (.int .u8 (l.getD j 0))) (hb : Sz.Byt l) (hl : l.length = len) (hcap : len ≤ cap) (hm : cap ≤ maxLen)
    (hbig : len ≤ 180000000000000) (hp : p < len) (hf : l.getD p 0 = 254) (hw : p + 1 + 4 ≤ len) (m : Int) (hmm : Sz.joinL ((l.drop (p + 1)).take 4) = m) :
    Calls Tryz.prog 53 #[.slice (some ⟨b, off, none⟩) len cap, .int .i64 p] w fun e w' =>
      e = .returned (if Sz.wid (Sz.fst m) = 4 ∧ m ≤ 9223372036854775807 then got m ((p : Int) + 1 + 4) 0 else got 0 0 1) ∧ Below w.heap.size w w' := by
  have hcp : w.cell? ⟨b, off + p, none⟩ = some (.int .u8 254) := by rw [← hf]; exact hc p (by omega)
  have hlt : b < w.heap.size := World.block_lt_of_cell? w ⟨b, off + p, none⟩ hcp
  have hmid := has_mid (w := w) p 4 hl hc hcap hm (by omega) hw
  have hbt := (hb.drop (p + 1)).take 4
  have hlen : ((l.drop (p + 1)).take 4).length = 4 := by rw [List.length_take, List.length_drop]; omega
  have hbd := Sz.joinL_bd _ hbt
  rw [hmm] at hbd
  have hm0 : 0 ≤ m := hbd.1
  have hcells : ∀ j, j < ((l.drop (p + 1)).take 4).length → w.cell? ⟨b, off + (p + 1) + j, none⟩ = some (.int .u8 (((l.drop (p + 1)).take 4).getD j 0)) := by
    rcases hmid with ⟨a, c, hv, hnil, _⟩ | ⟨b', off', cap', hv, _, _, _, hcc⟩
    · rw [hnil] at hlen; simp at hlen
    · injection hv with e1 e2 e3
      injection e1 with e1
      injection e1 with e4 e5
      subst e4; subst e5
      exact hcc
  have htop := Sz.join_top ((l.drop (p + 1)).take 4) hbt
  have hsmall := Sz.join_small ((l.drop (p + 1)).take 4) hbt
  rw [hmm] at htop hsmall
  have hnum : m ≤ 9223372036854775807 → ∀ w', Below w.heap.size w w' → Calls Tryz.prog 45 #[.slice (some ⟨b, off + (p + 1), none⟩) 4 (cap - (p + 1))] w' fun e w'' => e = .returned (.tuple #[.int .i64 m, .bool true]) ∧ Below w'.heap.size w' w'' := fun hmx w' hw' => by
    rw [← hmm]
    exact num_ok b (off + (p + 1)) (cap - (p + 1)) 4 _ w' hlen (fun j hj => by rw [hw'.cell (p := ⟨b, off + (p + 1) + j, none⟩) hlt]; exact hcells j hj) hbt (by omega) (by omega) (by rw [hmm]; exact hmx)
  have HN := hide hnum
  have hmx4 : m ≤ 9223372036854775807 := hsmall (by omega)
  clear hnum htop hsmall hcells hbd hlen hbt hmid hmm hf hb hl hc
  unfold maxLen at hm
  have h1 : ¬ (p : Int) < 0 := by omega
  have h2 : ¬ (len : Int) ≤ (p : Int) := by omega
  have h2' : (p : Int) < (len : Int) := by omega
  have h3 : ¬ (len : Int) < (p : Int) + 1 + 4 := by omega
  have h6 : ¬ cap = p + 1 := by omega
  have h7 : (p : Int) + 1 + 4 ≤ (cap : Int) := by omega
  have h8 : (len : Int) ≤ (cap : Int) := by omega
  have hb0 : ∀ o, Below w.heap.size w (w.alloc o) := fun o => (Below.refl _ _).alloc (Nat.le_refl _) _
  have HB0 := hide hb0
  clear hb0
  by_cases hmx : m ≤ 9223372036854775807
  · have hrb := fun w => rbytes_any m w hm0 hmx
    have HRB := hide hrb
    have hwl := Sz.wr_length m
    by_cases hk : Sz.wid (Sz.fst m) = 4
    · rw [if_pos ⟨hk, hmx⟩]
      rw [hk] at hwl
      have HWL := hide hwl
      clear hk hwl hrb
      go_enter Tryz.func53, Tryz.ntmps53
      go_wp2_with fail
      refine (HN.out hmx _ (HB0.out _)).mono ?_
      rintro e w1 ⟨rfl, hb1⟩
      go_wp2_with fail
      refine (HRB.out _).mono ?_
      rintro e w2 ⟨v2, rfl, ho2, hb2⟩
      obtain ⟨a2, c2, hv2, -, -⟩ := ho2.form
      rw [HWL.out] at hv2
      subst hv2
      have hb3 := hb1.trans (hb2.mono hb1.size)
      obtain ⟨z0, z1, z2, zf⟩ := three_kept hb3
      have hS : Below w.heap.size w w2 := (HB0.out _).trans (hb3.mono (by simp))
      clear hb1 hb2 hb3 ho2
      go_wp2
      exact bodyPost_ret (v := .agg #[.int .i64 m, .int .i64 ((p : Int) + 1 + 4), .int .i64 0]) (by simp [results, Tryz.results53, go_sem, z0, z1, z2]) rfl ⟨rfl, ((hS.setCell (Nat.le_refl _) _).setCell (Nat.le_refl _) _).setCell (Nat.le_refl _) _⟩
    · rw [if_neg (fun h => hk h.1)]
      have hne : (((Sz.wr m).length : Int) != 1 + 4) = true := by rw [bne_iff_ne]; omega
      have hne2 : (((Sz.wr m).length : Int) != 5) = true := by rw [bne_iff_ne]; omega
      clear hk hwl hrb
      go_enter Tryz.func53, Tryz.ntmps53
      go_wp2_with fail
      refine (HN.out hmx _ (HB0.out _)).mono ?_
      rintro e w1 ⟨rfl, hb1⟩
      go_wp2_with fail
      refine (HRB.out _).mono ?_
      rintro e w2 ⟨v2, rfl, ho2, hb2⟩
      obtain ⟨a2, c2, rfl, -, -⟩ := ho2.form
      have hb3 := hb1.trans (hb2.mono hb1.size)
      obtain ⟨z0, z1, z2, zf⟩ := three_kept hb3
      have hS : Below w.heap.size w w2 := (HB0.out _).trans (hb3.mono (by simp))
      clear hb1 hb2 hb3 ho2
      go_wp2
      exact bodyPost_ret (v := .agg #[.int .i64 0, .int .i64 0, .int .i64 1]) (by simp [results, Tryz.results53, go_sem, z0, z1, z2]) rfl ⟨rfl, ((hS.setCell (Nat.le_refl _) _).setCell (Nat.le_refl _) _).setCell (Nat.le_refl _) _⟩
  · exact absurd hmx4 hmx

set_option maxHeartbeats 1600000 in
theorem at_more8 (b off cap len : Nat) (l : List Int) (p : Nat) (w : World) (hc : ∀ j, j < l.length → w.cell? ⟨b, off + j, none⟩ = some (.int .u8 (l.getD j 0))) (hb : Sz.Byt l) (hl : l.length = len) (hcap : len ≤ cap) (hm : cap ≤ maxLen)
    (hbig : len ≤ 180000000000000) (hp : p < len) (hf : l.getD p 0 = 255) (hw : p + 1 + 8 ≤ len) (m : Int) (hmm : Sz.joinL ((l.drop (p + 1)).take 8) = m) :
    Calls Tryz.prog 53 #[.slice (some ⟨b, off, none⟩) len cap, .int .i64 p] w fun e w' =>
      e = .returned (if Sz.wid (Sz.fst m) = 8 ∧ m ≤ 9223372036854775807 then got m ((p : Int) + 1 + 8) 0 else got 0 0 1) ∧ Below w.heap.size w w' := by
  have hcp : w.cell? ⟨b, off + p, none⟩ = some (.int .u8 255) := by rw [← hf]; exact hc p (by omega)
  have hlt : b < w.heap.size := World.block_lt_of_cell? w ⟨b, off + p, none⟩ hcp
  have hmid := has_mid (w := w) p 8 hl hc hcap hm (by omega) hw
  have hbt := (hb.drop (p + 1)).take 8
  have hlen : ((l.drop (p + 1)).take 8).length = 8 := by rw [List.length_take, List.length_drop]; omega
  have hbd := Sz.joinL_bd _ hbt
  rw [hmm] at hbd
  have hm0 : 0 ≤ m := hbd.1
  have hcells : ∀ j, j < ((l.drop (p + 1)).take 8).length → w.cell? ⟨b, off + (p + 1) + j, none⟩ = some (.int .u8 (((l.drop (p + 1)).take 8).getD j 0)) := by
    rcases hmid with ⟨a, c, hv, hnil, _⟩ | ⟨b', off', cap', hv, _, _, _, hcc⟩
    · rw [hnil] at hlen; simp at hlen
    · injection hv with e1 e2 e3
      injection e1 with e1
      injection e1 with e4 e5
      subst e4; subst e5
      exact hcc
  have htop := Sz.join_top ((l.drop (p + 1)).take 8) hbt
  have hsmall := Sz.join_small ((l.drop (p + 1)).take 8) hbt
  rw [hmm] at htop hsmall
  have hnum : m ≤ 9223372036854775807 → ∀ w', Below w.heap.size w w' → Calls Tryz.prog 45 #[.slice (some ⟨b, off + (p + 1), none⟩) 8 (cap - (p + 1))] w' fun e w'' => e = .returned (.tuple #[.int .i64 m, .bool true]) ∧ Below w'.heap.size w' w'' := fun hmx w' hw' => by
    rw [← hmm]
    exact num_ok b (off + (p + 1)) (cap - (p + 1)) 8 _ w' hlen (fun j hj => by rw [hw'.cell (p := ⟨b, off + (p + 1) + j, none⟩) hlt]; exact hcells j hj) hbt (by omega) (by omega) (by rw [hmm]; exact hmx)
  have HN := hide hnum
  have hbig : ¬ m ≤ 9223372036854775807 → ∀ w', Below w.heap.size w w' → Calls Tryz.prog 45 #[.slice (some ⟨b, off + (p + 1), none⟩) 8 (cap - (p + 1))] w' fun e w'' => e = .returned (.tuple #[.int .i64 0, .bool false]) ∧ Below w'.heap.size w' w'' := fun hmx w' hw' => by
    have hc0 := hcells 0 (by omega)
    rw [Nat.add_zero] at hc0
    exact num_big b (off + (p + 1)) (cap - (p + 1)) _ w' (by rw [hw'.cell (p := ⟨b, off + (p + 1), none⟩) hlt]; exact hc0) ((htop hlen).2 (by omega))
  have HG := hide hbig
  clear hbig
  have hmx8 : True := trivial
  clear hnum htop hsmall hcells hbd hlen hbt hmid hmm hf hb hl hc
  unfold maxLen at hm
  have h1 : ¬ (p : Int) < 0 := by omega
  have h2 : ¬ (len : Int) ≤ (p : Int) := by omega
  have h2' : (p : Int) < (len : Int) := by omega
  have h3 : ¬ (len : Int) < (p : Int) + 1 + 8 := by omega
  have h6 : ¬ cap = p + 1 := by omega
  have h7 : (p : Int) + 1 + 8 ≤ (cap : Int) := by omega
  have h8 : (len : Int) ≤ (cap : Int) := by omega
  have hb0 : ∀ o, Below w.heap.size w (w.alloc o) := fun o => (Below.refl _ _).alloc (Nat.le_refl _) _
  have HB0 := hide hb0
  clear hb0
  by_cases hmx : m ≤ 9223372036854775807
  · have hrb := fun w => rbytes_any m w hm0 hmx
    have HRB := hide hrb
    have hwl := Sz.wr_length m
    by_cases hk : Sz.wid (Sz.fst m) = 8
    · rw [if_pos ⟨hk, hmx⟩]
      rw [hk] at hwl
      have HWL := hide hwl
      clear hk hwl hrb
      go_enter Tryz.func53, Tryz.ntmps53
      go_wp2_with fail
      refine (HN.out hmx _ (HB0.out _)).mono ?_
      rintro e w1 ⟨rfl, hb1⟩
      go_wp2_with fail
      refine (HRB.out _).mono ?_
      rintro e w2 ⟨v2, rfl, ho2, hb2⟩
      obtain ⟨a2, c2, hv2, -, -⟩ := ho2.form
      rw [HWL.out] at hv2
      subst hv2
      have hb3 := hb1.trans (hb2.mono hb1.size)
      obtain ⟨z0, z1, z2, zf⟩ := three_kept hb3
      have hS : Below w.heap.size w w2 := (HB0.out _).trans (hb3.mono (by simp))
      clear hb1 hb2 hb3 ho2
      go_wp2
      exact bodyPost_ret (v := .agg #[.int .i64 m, .int .i64 ((p : Int) + 1 + 8), .int .i64 0]) (by simp [results, Tryz.results53, go_sem, z0, z1, z2]) rfl ⟨rfl, ((hS.setCell (Nat.le_refl _) _).setCell (Nat.le_refl _) _).setCell (Nat.le_refl _) _⟩
    · rw [if_neg (fun h => hk h.1)]
      have hne : (((Sz.wr m).length : Int) != 1 + 8) = true := by rw [bne_iff_ne]; omega
      have hne2 : (((Sz.wr m).length : Int) != 9) = true := by rw [bne_iff_ne]; omega
      clear hk hwl hrb
      go_enter Tryz.func53, Tryz.ntmps53
      go_wp2_with fail
      refine (HN.out hmx _ (HB0.out _)).mono ?_
      rintro e w1 ⟨rfl, hb1⟩
      go_wp2_with fail
      refine (HRB.out _).mono ?_
      rintro e w2 ⟨v2, rfl, ho2, hb2⟩
      obtain ⟨a2, c2, rfl, -, -⟩ := ho2.form
      have hb3 := hb1.trans (hb2.mono hb1.size)
      obtain ⟨z0, z1, z2, zf⟩ := three_kept hb3
      have hS : Below w.heap.size w w2 := (HB0.out _).trans (hb3.mono (by simp))
      clear hb1 hb2 hb3 ho2
      go_wp2
      exact bodyPost_ret (v := .agg #[.int .i64 0, .int .i64 0, .int .i64 1]) (by simp [results, Tryz.results53, go_sem, z0, z1, z2]) rfl ⟨rfl, ((hS.setCell (Nat.le_refl _) _).setCell (Nat.le_refl _) _).setCell (Nat.le_refl _) _⟩
  · rw [if_neg (fun h => hmx h.2)]
    go_enter Tryz.func53, Tryz.ntmps53
    go_wp2_with fail
    refine (HG.out hmx _ (HB0.out _)).mono ?_
    rintro e w1 ⟨rfl, hb1⟩
    obtain ⟨z0, z1, z2, zf⟩ := three_kept hb1
    have hS : Below w.heap.size w w1 := (HB0.out _).trans (hb1.mono (by simp))
    clear hb1
    go_wp2
    exact bodyPost_ret (v := .agg #[.int .i64 0, .int .i64 0, .int .i64 1]) (by simp [results, Tryz.results53, go_sem, z0, z1, z2]) rfl ⟨rfl, ((hS.setCell (Nat.le_refl _) _).setCell (Nat.le_refl _) _).setCell (Nat.le_refl _) _⟩
end Go.Proofs.YtbdnbjemocjlaaaGreatDoor

/- The contract of moneyerref1.SizeAt in one piece: it tells what size.Read tells. -/
namespace Go.Proofs.YtbdnbjemocjlaaaGreatDoor
open Go.RowKit
set_option linter.unusedVariables false

theorem wid_cases (f : Int) (h : Sz.wid f ≠ 0) : (f = 253 ∧ Sz.wid f = 2) ∨ (f = 254 ∧ Sz.wid f = 4) ∨ (f = 255 ∧ Sz.wid f = 8) := by
  by_cases a : f = 253
  · subst a; exact .inl ⟨rfl, rfl⟩
  · by_cases b : f = 254
    · subst b; exact .inr (.inl ⟨rfl, rfl⟩)
    · by_cases c : f = 255
      · subst c; exact .inr (.inr ⟨rfl, rfl⟩)
      · exact absurd (by unfold Sz.wid; rw [if_neg a, if_neg b, if_neg c]) h

/-- The last test, as Read has it and as SizeAt has it. -/
theorem same_test (f m : Int) (k : Nat) (hk : Sz.wid f = k) (h0 : k ≠ 0) (q : Nat) :
    (if Sz.wid (Sz.fst m) = k ∧ m ≤ 9223372036854775807 then got m ((q : Int) + 1 + (k : Int)) 0 else got 0 0 1) =
    got (if Sz.fst m = f ∧ m ≤ 9223372036854775807 then (m, (q : Int) + 1 + (k : Int), (0 : Int)) else (0, 0, 1)).1
      (if Sz.fst m = f ∧ m ≤ 9223372036854775807 then (m, (q : Int) + 1 + (k : Int), (0 : Int)) else (0, 0, 1)).2.1
      (if Sz.fst m = f ∧ m ≤ 9223372036854775807 then (m, (q : Int) + 1 + (k : Int), (0 : Int)) else (0, 0, 1)).2.2 := by
  by_cases h : Sz.fst m = f ∧ m ≤ 9223372036854775807
  · rw [if_pos h, if_pos ⟨by rw [h.1, hk], h.2⟩]
  · rw [if_neg h, if_neg (fun g => h ⟨Sz.fst_of_wid m f (by omega) (by rw [hk]; exact g.1), g.2⟩)]

theorem at_any (v : Value) (l : List Int) (p : Int) (w : World) (h : Has w v l) (hb : Sz.Byt l) (hbig : l.length ≤ 180000000000000) :
    Calls Tryz.prog 53 #[v, .int .i64 p] w fun e w' => e = .returned (got (Sz.rd l p).1 (Sz.rd l p).2.1 (Sz.rd l p).2.2) ∧ Below w.heap.size w w' := by
  by_cases h1 : p < 0
  · have e : Sz.rd l p = (0, 0, 2) := by unfold Sz.rd; rw [if_pos h1]
    rw [e]
    exact at_range v p w h1
  · by_cases h2 : (l.length : Int) ≤ p
    · have e : Sz.rd l p = (0, 0, 3) := by unfold Sz.rd; rw [if_neg h1, if_pos h2]
      rw [e]
      obtain ⟨a, cap, rfl⟩ : ∃ a cap, v = .slice a l.length cap := by
        rcases h with ⟨a, cap, rfl, rfl, _⟩ | ⟨b, off, cap, rfl, _⟩
        · exact ⟨a, cap, rfl⟩
        · exact ⟨_, cap, rfl⟩
      exact at_past a l.length cap p w (by omega) h2
    · obtain ⟨q, rfl⟩ := Int.eq_ofNat_of_zero_le (show 0 ≤ p by omega)
      rcases h with ⟨a, cap, rfl, rfl, _⟩ | ⟨b, off, cap, rfl, h0, hcap, hm, hc⟩
      · exact absurd h2 (by simp)
      · have hq : q < l.length := by omega
        have hg := hb.getD q
        by_cases h4 : Sz.wid (l.getD q 0) = 0
        · have e : Sz.rd l (q : Int) = (l.getD q 0, (q : Int) + 1, 0) := by unfold Sz.rd; rw [if_neg h1, if_neg h2, Int.toNat_natCast, if_neg (by omega), if_pos h4]
          rw [e]
          have hlt : l.getD q 0 < 253 := by
            unfold Sz.wid at h4; split at h4 <;> (try split at h4) <;> (try split at h4) <;> omega
          exact at_one b off cap l.length (l.getD q 0) q w (hc q hq) hcap hm hq hg.1 hlt
        · by_cases h3 : l.length < q + 1 + Sz.wid (l.getD q 0)
          · have e : Sz.rd l (q : Int) = (0, 0, 3) := by unfold Sz.rd; rw [if_neg h1, if_neg h2, Int.toNat_natCast, if_pos h3]
            rw [e]
            rcases wid_cases _ h4 with ⟨e1, e2⟩ | ⟨e1, e2⟩ | ⟨e1, e2⟩
            · exact at_few2 b off cap l.length q w (by rw [← e1]; exact hc q hq) hcap hm hbig hq (by omega)
            · exact at_few4 b off cap l.length q w (by rw [← e1]; exact hc q hq) hcap hm hbig hq (by omega)
            · exact at_few8 b off cap l.length q w (by rw [← e1]; exact hc q hq) hcap hm hbig hq (by omega)
          · have e : Sz.rd l (q : Int) = if Sz.fst (Sz.joinL ((l.drop (q + 1)).take (Sz.wid (l.getD q 0)))) = l.getD q 0 ∧ Sz.joinL ((l.drop (q + 1)).take (Sz.wid (l.getD q 0))) ≤ 9223372036854775807
                then (Sz.joinL ((l.drop (q + 1)).take (Sz.wid (l.getD q 0))), (q : Int) + 1 + Sz.wid (l.getD q 0), 0) else (0, 0, 1) := by
              unfold Sz.rd; rw [if_neg h1, if_neg h2, Int.toNat_natCast, if_neg h3, if_neg h4]
            rw [e]
            rcases wid_cases _ h4 with ⟨e1, e2⟩ | ⟨e1, e2⟩ | ⟨e1, e2⟩
            · rw [e2, ← same_test (l.getD q 0) _ 2 e2 (by omega) q]
              exact at_more2 b off cap l.length l q w hc hb rfl hcap hm hbig hq e1 (by omega) _ rfl
            · rw [e2, ← same_test (l.getD q 0) _ 4 e2 (by omega) q]
              exact at_more4 b off cap l.length l q w hc hb rfl hcap hm hbig hq e1 (by omega) _ rfl
            · rw [e2, ← same_test (l.getD q 0) _ 8 e2 (by omega) q]
              exact at_more8 b off cap l.length l q w hc hb rfl hcap hm hbig hq e1 (by omega) _ rfl
end Go.Proofs.YtbdnbjemocjlaaaGreatDoor
