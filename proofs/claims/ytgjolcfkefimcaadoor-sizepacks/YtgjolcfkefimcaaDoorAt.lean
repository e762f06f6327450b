/- The contract of moneyerref1.SizeAt where the number is one of more bytes. -/
import Derived.Test.YtgjolcfkefimcaaDoorAt0
import Derived.Test.YtgjolcfkefimcaaDoorRead
namespace Go.Proofs.YtgjolcfkefimcaaDoor
open Go.RowKit
set_option linter.unusedVariables false

set_option maxHeartbeats 1600000 in
theorem at_more2 (b off cap len : Nat) (l : List Int) (p : Nat) (w : World) (hc : ∀ j, j < l.length → w.cell? ⟨b, off + j, none⟩ = some (.int .u8 (l.getD j 0))) (hb : Sz.Byt l) (hl : l.length = len) (hcap : len ≤ cap) (hm : cap ≤ maxLen)
    (hbig : len ≤ 180000000000000) (hp : p < len) (hf : l.getD p 0 = 253) (hw : p + 1 + 2 ≤ len) (m : Int) (hmm : Sz.joinL ((l.drop (p + 1)).take 2) = m) :
    Calls Tryd.prog 9 #[.slice (some ⟨b, off, none⟩) len cap, .int .i64 p] w fun e w' =>
      e = .returned (if Sz.wid (Sz.fst m) = 2 ∧ m ≤ 9223372036854775807 then got m ((p : Int) + 1 + 2) 0 else got 0 0 1) ∧ Below w.heap.size w w' := by
  have hcp : w.cell? ⟨b, off + p, none⟩ = some (.int .u8 253) := by rw [← hf]; exact hc p (by omega)
  have hlt : b < w.heap.size := World.block_lt_of_cell? w ⟨b, off + p, none⟩ hcp
  have hmid := has_mid (w := w) p 2 hl hc hcap hm (by omega) hw
  have hbt := (hb.drop (p + 1)).take 2
  have hlen : ((l.drop (p + 1)).take 2).length = 2 := by rw [List.length_take, List.length_drop]; omega
  have hbd := Sz.joinL_bd _ hbt
  rw [hmm] at hbd
  have hm0 : 0 ≤ m := hbd.1
  have hcells : ∀ j, j < ((l.drop (p + 1)).take 2).length → w.cell? ⟨b, off + (p + 1) + j, none⟩ = some (.int .u8 (((l.drop (p + 1)).take 2).getD j 0)) := by
    rcases hmid with ⟨a, c, hv, hnil, _⟩ | ⟨b', off', cap', hv, _, _, _, hcc⟩
    · rw [hnil] at hlen; simp at hlen
    · injection hv with e1 e2 e3
      injection e1 with e1
      injection e1 with e4 e5
      subst e4; subst e5
      exact hcc
  have htop := Sz.join_top ((l.drop (p + 1)).take 2) hbt
  have hsmall := Sz.join_small ((l.drop (p + 1)).take 2) hbt
  rw [hmm] at htop hsmall
  have hnum : m ≤ 9223372036854775807 → ∀ w', Below w.heap.size w w' → Calls Tryd.prog 18 #[.slice (some ⟨b, off + (p + 1), none⟩) 2 (cap - (p + 1))] w' fun e w'' => e = .returned (.tuple #[.int .i64 m, .bool true]) ∧ Below w'.heap.size w' w'' := fun hmx w' hw' => by
    rw [← hmm]
    exact num_ok b (off + (p + 1)) (cap - (p + 1)) 2 _ w' hlen (fun j hj => by rw [hw'.cell (p := ⟨b, off + (p + 1) + j, none⟩) hlt]; exact hcells j hj) hbt (by omega) (by omega) (by rw [hmm]; exact hmx)
  have HN := hide hnum
  have hmx2 : m ≤ 9223372036854775807 := hsmall (by omega)
  clear hnum htop hsmall hcells hbd hlen hbt hmid hmm hf hb hl hc
  unfold maxLen at hm
  have h1 : ¬ (p : Int) < 0 := by omega
  have h2 : ¬ (len : Int) ≤ (p : Int) := by omega
  have h2' : (p : Int) < (len : Int) := by omega
  have h3 : ¬ (len : Int) < (p : Int) + 1 + 2 := by omega
  have h6 : ¬ cap = p + 1 := by omega
  have h7 : (p : Int) + 1 + 2 ≤ (cap : Int) := by omega
  have h8 : (len : Int) ≤ (cap : Int) := by omega
  have hb0 : ∀ o, Below w.heap.size w (w.alloc o) := fun o => (Below.refl _ _).alloc (Nat.le_refl _) _
  have HB0 := hide hb0
  clear hb0
  by_cases hmx : m ≤ 9223372036854775807
  · have hrb := fun w => rbytes_any m w hm0 hmx
    have HRB := hide hrb
    have hwl := Sz.wr_length m
    by_cases hk : Sz.wid (Sz.fst m) = 2
    · rw [if_pos ⟨hk, hmx⟩]
      rw [hk] at hwl
      have HWL := hide hwl
      clear hk hwl hrb
      go_enter Tryd.func9, Tryd.ntmps9
      go_wp2_with fail
      refine (HN.out hmx _ (HB0.out _)).mono ?_
      rintro e w1 ⟨rfl, hb1⟩
      go_wp2_with fail
      refine (HRB.out _).mono ?_
      rintro e w2 ⟨v2, rfl, ho2, hb2⟩
      obtain ⟨a2, c2, hv2, -, -⟩ := ho2.form
      rw [HWL.out] at hv2
      subst hv2
      have hb3 := hb1.trans (hb2.mono hb1.size)
      obtain ⟨z0, z1, z2, zf⟩ := three_kept hb3
      have hS : Below w.heap.size w w2 := (HB0.out _).trans (hb3.mono (by simp))
      clear hb1 hb2 hb3 ho2
      go_wp2
      exact bodyPost_ret (v := .agg #[.int .i64 m, .int .i64 ((p : Int) + 1 + 2), .int .i64 0]) (by simp [results, Tryd.results9, go_sem, z0, z1, z2]) rfl ⟨rfl, ((hS.setCell (Nat.le_refl _) _).setCell (Nat.le_refl _) _).setCell (Nat.le_refl _) _⟩
    · rw [if_neg (fun h => hk h.1)]
      have hne : (((Sz.wr m).length : Int) != 1 + 2) = true := by rw [bne_iff_ne]; omega
      have hne2 : (((Sz.wr m).length : Int) != 3) = true := by rw [bne_iff_ne]; omega
      clear hk hwl hrb
      go_enter Tryd.func9, Tryd.ntmps9
      go_wp2_with fail
      refine (HN.out hmx _ (HB0.out _)).mono ?_
      rintro e w1 ⟨rfl, hb1⟩
      go_wp2_with fail
      refine (HRB.out _).mono ?_
      rintro e w2 ⟨v2, rfl, ho2, hb2⟩
      obtain ⟨a2, c2, rfl, -, -⟩ := ho2.form
      have hb3 := hb1.trans (hb2.mono hb1.size)
      obtain ⟨z0, z1, z2, zf⟩ := three_kept hb3
      have hS : Below w.heap.size w w2 := (HB0.out _).trans (hb3.mono (by simp))
      clear hb1 hb2 hb3 ho2
      go_wp2
      exact bodyPost_ret (v := .agg #[.int .i64 0, .int .i64 0, .int .i64 1]) (by simp [results, Tryd.results9, go_sem, z0, z1, z2]) rfl ⟨rfl, ((hS.setCell (Nat.le_refl _) _).setCell (Nat.le_refl _) _).setCell (Nat.le_refl _) _⟩
  · exact absurd hmx2 hmx

set_option maxHeartbeats 1600000 in
theorem at_more4 (b off cap len : Nat) (l : List Int) (p : Nat) (w : World) (hc : ∀ j, j < l.length → w.cell? ⟨b, off + j, none⟩ = some (.int .u8 (l.getD j 0))) (hb : Sz.Byt l) (hl : l.length = len) (hcap : len ≤ cap) (hm : cap ≤ maxLen)
    (hbig : len ≤ 180000000000000) (hp : p < len) (hf : l.getD p 0 = 254) (hw : p + 1 + 4 ≤ len) (m : Int) (hmm : Sz.joinL ((l.drop (p + 1)).take 4) = m) :
    Calls Tryd.prog 9 #[.slice (some ⟨b, off, none⟩) len cap, .int .i64 p] w fun e w' =>
      e = .returned (if Sz.wid (Sz.fst m) = 4 ∧ m ≤ 9223372036854775807 then got m ((p : Int) + 1 + 4) 0 else got 0 0 1) ∧ Below w.heap.size w w' := by
  have hcp : w.cell? ⟨b, off + p, none⟩ = some (.int .u8 254) := by rw [← hf]; exact hc p (by omega)
  have hlt : b < w.heap.size := World.block_lt_of_cell? w ⟨b, off + p, none⟩ hcp
  have hmid := has_mid (w := w) p 4 hl hc hcap hm (by omega) hw
  have hbt := (hb.drop (p + 1)).take 4
  have hlen : ((l.drop (p + 1)).take 4).length = 4 := by rw [List.length_take, List.length_drop]; omega
  have hbd := Sz.joinL_bd _ hbt
  rw [hmm] at hbd
  have hm0 : 0 ≤ m := hbd.1
  have hcells : ∀ j, j < ((l.drop (p + 1)).take 4).length → w.cell? ⟨b, off + (p + 1) + j, none⟩ = some (.int .u8 (((l.drop (p + 1)).take 4).getD j 0)) := by
    rcases hmid with ⟨a, c, hv, hnil, _⟩ | ⟨b', off', cap', hv, _, _, _, hcc⟩
    · rw [hnil] at hlen; simp at hlen
    · injection hv with e1 e2 e3
      injection e1 with e1
      injection e1 with e4 e5
      subst e4; subst e5
      exact hcc
  have htop := Sz.join_top ((l.drop (p + 1)).take 4) hbt
  have hsmall := Sz.join_small ((l.drop (p + 1)).take 4) hbt
  rw [hmm] at htop hsmall
  have hnum : m ≤ 9223372036854775807 → ∀ w', Below w.heap.size w w' → Calls Tryd.prog 18 #[.slice (some ⟨b, off + (p + 1), none⟩) 4 (cap - (p + 1))] w' fun e w'' => e = .returned (.tuple #[.int .i64 m, .bool true]) ∧ Below w'.heap.size w' w'' := fun hmx w' hw' => by
    rw [← hmm]
    exact num_ok b (off + (p + 1)) (cap - (p + 1)) 4 _ w' hlen (fun j hj => by rw [hw'.cell (p := ⟨b, off + (p + 1) + j, none⟩) hlt]; exact hcells j hj) hbt (by omega) (by omega) (by rw [hmm]; exact hmx)
  have HN := hide hnum
  have hmx4 : m ≤ 9223372036854775807 := hsmall (by omega)
  clear hnum htop hsmall hcells hbd hlen hbt hmid hmm hf hb hl hc
  unfold maxLen at hm
  have h1 : ¬ (p : Int) < 0 := by omega
  have h2 : ¬ (len : Int) ≤ (p : Int) := by omega
  have h2' : (p : Int) < (len : Int) := by omega
  have h3 : ¬ (len : Int) < (p : Int) + 1 + 4 := by omega
  have h6 : ¬ cap = p + 1 := by omega
  have h7 : (p : Int) + 1 + 4 ≤ (cap : Int) := by omega
  have h8 : (len : Int) ≤ (cap : Int) := by omega
  have hb0 : ∀ o, Below w.heap.size w (w.alloc o) := fun o => (Below.refl _ _).alloc (Nat.le_refl _) _
  have HB0 := hide hb0
  clear hb0
  by_cases hmx : m ≤ 9223372036854775807
  · have hrb := fun w => rbytes_any m w hm0 hmx
    have HRB := hide hrb
    have hwl := Sz.wr_length m
    by_cases hk : Sz.wid (Sz.fst m) = 4
    · rw [if_pos ⟨hk, hmx⟩]
      rw [hk] at hwl
      have HWL := hide hwl
      clear hk hwl hrb
      go_enter Tryd.func9, Tryd.ntmps9
      go_wp2_with fail
      refine (HN.out hmx _ (HB0.out _)).mono ?_
      rintro e w1 ⟨rfl, hb1⟩
      go_wp2_with fail
      refine (HRB.out _).mono ?_
      rintro e w2 ⟨v2, rfl, ho2, hb2⟩
      obtain ⟨a2, c2, hv2, -, -⟩ := ho2.form
      rw [HWL.out] at hv2
      subst hv2
      have hb3 := hb1.trans (hb2.mono hb1.size)
      obtain ⟨z0, z1, z2, zf⟩ := three_kept hb3
      have hS : Below w.heap.size w w2 := (HB0.out _).trans (hb3.mono (by simp))
      clear hb1 hb2 hb3 ho2
      go_wp2
      exact bodyPost_ret (v := .agg #[.int .i64 m, .int .i64 ((p : Int) + 1 + 4), .int .i64 0]) (by simp [results, Tryd.results9, go_sem, z0, z1, z2]) rfl ⟨rfl, ((hS.setCell (Nat.le_refl _) _).setCell (Nat.le_refl _) _).setCell (Nat.le_refl _) _⟩
    · rw [if_neg (fun h => hk h.1)]
      have hne : (((Sz.wr m).length : Int) != 1 + 4) = true := by rw [bne_iff_ne]; omega
      have hne2 : (((Sz.wr m).length : Int) != 5) = true := by rw [bne_iff_ne]; omega
      clear hk hwl hrb
      go_enter Tryd.func9, Tryd.ntmps9
      go_wp2_with fail
      refine (HN.out hmx _ (HB0.out _)).mono ?_
      rintro e w1 ⟨rfl, hb1⟩
      go_wp2_with fail
      refine (HRB.out _).mono ?_
      rintro e w2 ⟨v2, rfl, ho2, hb2⟩
      obtain ⟨a2, c2, rfl, -, -⟩ := ho2.form
      have hb3 := hb1.trans (hb2.mono hb1.size)
      obtain ⟨z0, z1, z2, zf⟩ := three_kept hb3
      have hS : Below w.heap.size w w2 := (HB0.out _).trans (hb3.mono (by simp))
      clear hb1 hb2 hb3 ho2
      go_wp2
      exact bodyPost_ret (v := .agg #[.int .i64 0, .int .i64 0, .int .i64 1]) (by simp [results, Tryd.results9, go_sem, z0, z1, z2]) rfl ⟨rfl, ((hS.setCell (Nat.le_refl _) _).setCell (Nat.le_refl _) _).setCell (Nat.le_refl _) _⟩
  · exact absurd hmx4 hmx

set_option maxHeartbeats 1600000 in
theorem at_more8 (b off cap len : Nat) (l : List Int) (p : Nat) (w : World) (hc : ∀ j, j < l.length → w.cell? ⟨b, off + j, none⟩ = some (.int .u8 (l.getD j 0))) (hb : Sz.Byt l) (hl : l.length = len) (hcap : len ≤ cap) (hm : cap ≤ maxLen)
    (hbig : len ≤ 180000000000000) (hp : p < len) (hf : l.getD p 0 = 255) (hw : p + 1 + 8 ≤ len) (m : Int) (hmm : Sz.joinL ((l.drop (p + 1)).take 8) = m) :
    Calls Tryd.prog 9 #[.slice (some ⟨b, off, none⟩) len cap, .int .i64 p] w fun e w' =>
      e = .returned (if Sz.wid (Sz.fst m) = 8 ∧ m ≤ 9223372036854775807 then got m ((p : Int) + 1 + 8) 0 else got 0 0 1) ∧ Below w.heap.size w w' := by
  have hcp : w.cell? ⟨b, off + p, none⟩ = some (.int .u8 255) := by rw [← hf]; exact hc p (by omega)
  have hlt : b < w.heap.size := World.block_lt_of_cell? w ⟨b, off + p, none⟩ hcp
  have hmid := has_mid (w := w) p 8 hl hc hcap hm (by omega) hw
  have hbt := (hb.drop (p + 1)).take 8
  have hlen : ((l.drop (p + 1)).take 8).length = 8 := by rw [List.length_take, List.length_drop]; omega
  have hbd := Sz.joinL_bd _ hbt
  rw [hmm] at hbd
  have hm0 : 0 ≤ m := hbd.1
  have hcells : ∀ j, j < ((l.drop (p + 1)).take 8).length → w.cell? ⟨b, off + (p + 1) + j, none⟩ = some (.int .u8 (((l.drop (p + 1)).take 8).getD j 0)) := by
    rcases hmid with ⟨a, c, hv, hnil, _⟩ | ⟨b', off', cap', hv, _, _, _, hcc⟩
    · rw [hnil] at hlen; simp at hlen
    · injection hv with e1 e2 e3
      injection e1 with e1
      injection e1 with e4 e5
      subst e4; subst e5
      exact hcc
  have htop := Sz.join_top ((l.drop (p + 1)).take 8) hbt
  have hsmall := Sz.join_small ((l.drop (p + 1)).take 8) hbt
  rw [hmm] at htop hsmall
  have hnum : m ≤ 9223372036854775807 → ∀ w', Below w.heap.size w w' → Calls Tryd.prog 18 #[.slice (some ⟨b, off + (p + 1), none⟩) 8 (cap - (p + 1))] w' fun e w'' => e = .returned (.tuple #[.int .i64 m, .bool true]) ∧ Below w'.heap.size w' w'' := fun hmx w' hw' => by
    rw [← hmm]
    exact num_ok b (off + (p + 1)) (cap - (p + 1)) 8 _ w' hlen (fun j hj => by rw [hw'.cell (p := ⟨b, off + (p + 1) + j, none⟩) hlt]; exact hcells j hj) hbt (by omega) (by omega) (by rw [hmm]; exact hmx)
  have HN := hide hnum
  have hbig : ¬ m ≤ 9223372036854775807 → ∀ w', Below w.heap.size w w' → Calls Tryd.prog 18 #[.slice (some ⟨b, off + (p + 1), none⟩) 8 (cap - (p + 1))] w' fun e w'' => e = .returned (.tuple #[.int .i64 0, .bool false]) ∧ Below w'.heap.size w' w'' := fun hmx w' hw' => by
    have hc0 := hcells 0 (by omega)
    rw [Nat.add_zero] at hc0
    exact num_big b (off + (p + 1)) (cap - (p + 1)) _ w' (by rw [hw'.cell (p := ⟨b, off + (p + 1), none⟩) hlt]; exact hc0) ((htop hlen).2 (by omega))
  have HG := hide hbig
  clear hbig
  have hmx8 : True := trivial
  clear hnum htop hsmall hcells hbd hlen hbt hmid hmm hf hb hl hc
  unfold maxLen at hm
  have h1 : ¬ (p : Int) < 0 := by omega
  have h2 : ¬ (len : Int) ≤ (p : Int) := by omega
  have h2' : (p : Int) < (len : Int) := by omega
  have h3 : ¬ (len : Int) < (p : Int) + 1 + 8 := by omega
  have h6 : ¬ cap = p + 1 := by omega
  have h7 : (p : Int) + 1 + 8 ≤ (cap : Int) := by omega
  have h8 : (len : Int) ≤ (cap : Int) := by omega
  have hb0 : ∀ o, Below w.heap.size w (w.alloc o) := fun o => (Below.refl _ _).alloc (Nat.le_refl _) _
  have HB0 := hide hb0
  clear hb0
  by_cases hmx : m ≤ 9223372036854775807
  · have hrb := fun w => rbytes_any m w hm0 hmx
    have HRB := hide hrb
    have hwl := Sz.wr_length m
    by_cases hk : Sz.wid (Sz.fst m) = 8
    · rw [if_pos ⟨hk, hmx⟩]
      rw [hk] at hwl
      have HWL := hide hwl
      clear hk hwl hrb
      go_enter Tryd.func9, Tryd.ntmps9
      go_wp2_with fail
      refine (HN.out hmx _ (HB0.out _)).mono ?_
      rintro e w1 ⟨rfl, hb1⟩
      go_wp2_with fail
      refine (HRB.out _).mono ?_
      rintro e w2 ⟨v2, rfl, ho2, hb2⟩
      obtain ⟨a2, c2, hv2, -, -⟩ := ho2.form
      rw [HWL.out] at hv2
      subst hv2
      have hb3 := hb1.trans (hb2.mono hb1.size)
      obtain ⟨z0, z1, z2, zf⟩ := three_kept hb3
      have hS : Below w.heap.size w w2 := (HB0.out _).trans (hb3.mono (by simp))
      clear hb1 hb2 hb3 ho2
      go_wp2
      exact bodyPost_ret (v := .agg #[.int .i64 m, .int .i64 ((p : Int) + 1 + 8), .int .i64 0]) (by simp [results, Tryd.results9, go_sem, z0, z1, z2]) rfl ⟨rfl, ((hS.setCell (Nat.le_refl _) _).setCell (Nat.le_refl _) _).setCell (Nat.le_refl _) _⟩
    · rw [if_neg (fun h => hk h.1)]
      have hne : (((Sz.wr m).length : Int) != 1 + 8) = true := by rw [bne_iff_ne]; omega
      have hne2 : (((Sz.wr m).length : Int) != 9) = true := by rw [bne_iff_ne]; omega
      clear hk hwl hrb
      go_enter Tryd.func9, Tryd.ntmps9
      go_wp2_with fail
      refine (HN.out hmx _ (HB0.out _)).mono ?_
      rintro e w1 ⟨rfl, hb1⟩
      go_wp2_with fail
      refine (HRB.out _).mono ?_
      rintro e w2 ⟨v2, rfl, ho2, hb2⟩
      obtain ⟨a2, c2, rfl, -, -⟩ := ho2.form
      have hb3 := hb1.trans (hb2.mono hb1.size)
      obtain ⟨z0, z1, z2, zf⟩ := three_kept hb3
      have hS : Below w.heap.size w w2 := (HB0.out _).trans (hb3.mono (by simp))
      clear hb1 hb2 hb3 ho2
      go_wp2
      exact bodyPost_ret (v := .agg #[.int .i64 0, .int .i64 0, .int .i64 1]) (by simp [results, Tryd.results9, go_sem, z0, z1, z2]) rfl ⟨rfl, ((hS.setCell (Nat.le_refl _) _).setCell (Nat.le_refl _) _).setCell (Nat.le_refl _) _⟩
  · rw [if_neg (fun h => hmx h.2)]
    go_enter Tryd.func9, Tryd.ntmps9
    go_wp2_with fail
    refine (HG.out hmx _ (HB0.out _)).mono ?_
    rintro e w1 ⟨rfl, hb1⟩
    obtain ⟨z0, z1, z2, zf⟩ := three_kept hb1
    have hS : Below w.heap.size w w1 := (HB0.out _).trans (hb1.mono (by simp))
    clear hb1
    go_wp2
    exact bodyPost_ret (v := .agg #[.int .i64 0, .int .i64 0, .int .i64 1]) (by simp [results, Tryd.results9, go_sem, z0, z1, z2]) rfl ⟨rfl, ((hS.setCell (Nat.le_refl _) _).setCell (Nat.le_refl _) _).setCell (Nat.le_refl _) _⟩
end Go.Proofs.YtgjolcfkefimcaaDoor
