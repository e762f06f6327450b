/- Digests of bytes for the kernel to reckon, and what it reckons: the public key of the seed of bytes 0 is not made of 0 alone. -/
import Derived.Test.YtfgjgaenhpelkaaDoorKy
namespace Go.Proofs.YtfgjgaenhpelkaaDoor.Kf
set_option linter.unusedVariables false

/-- Bytes as words. -/
def toW : List Int → List Nat
  | a :: b :: c :: d :: r => Nat.add (Nat.add (Nat.add (Nat.mul a.toNat 16777216) (Nat.mul b.toNat 65536)) (Nat.mul c.toNat 256)) d.toNat :: toW r
  | _ => []
/-- Words, sixteen by sixteen, brought into the eight. -/
def goW : Sh.St → List Nat → Sh.St
  | s, w0 :: w1 :: w2 :: w3 :: w4 :: w5 :: w6 :: w7 :: w8 :: w9 :: w10 :: w11 :: w12 :: w13 :: w14 :: w15 :: r => goW (Fs.mixW s w0 w1 w2 w3 w4 w5 w6 w7 w8 w9 w10 w11 w12 w13 w14 w15) r
  | s, _ => s
def fsum (l : List Int) : Sh.St := goW Sh.init (toW (Sh.padded l))

theorem toW_step (P : List Int) (h : 4 ≤ P.length) : toW P = Sh.word P 0 :: toW (P.drop 4) := by
  match P, h with
  | a :: b :: c :: d :: r, _ => rfl
theorem word_drop (P : List Int) (t : Nat) : Sh.word (P.drop (4 * t)) 0 = Sh.word P t := by
  unfold Sh.word
  simp only [List.getD, List.getElem?_drop]
  rfl
theorem word_take (P : List Int) (t : Nat) (h : t < 16) : Sh.word (P.take 64) t = Sh.word P t := by
  unfold Sh.word
  simp only [List.getD, List.getElem?_take]
  rw [if_pos (by omega), if_pos (by omega), if_pos (by omega), if_pos (by omega)]
theorem toW_block (P : List Int) (h : 64 ≤ P.length) : toW P = Sh.word P 0 :: Sh.word P 1 :: Sh.word P 2 :: Sh.word P 3 :: Sh.word P 4 :: Sh.word P 5 :: Sh.word P 6 :: Sh.word P 7 :: Sh.word P 8 :: Sh.word P 9 :: Sh.word P 10 :: Sh.word P 11 :: Sh.word P 12 :: Sh.word P 13 :: Sh.word P 14 :: Sh.word P 15 :: toW (P.drop 64) := by
  have t0 := toW_step P (by omega)
  have t1 := toW_step (P.drop 4) (by rw [List.length_drop]; omega)
  have t2 := toW_step (P.drop 8) (by rw [List.length_drop]; omega)
  have t3 := toW_step (P.drop 12) (by rw [List.length_drop]; omega)
  have t4 := toW_step (P.drop 16) (by rw [List.length_drop]; omega)
  have t5 := toW_step (P.drop 20) (by rw [List.length_drop]; omega)
  have t6 := toW_step (P.drop 24) (by rw [List.length_drop]; omega)
  have t7 := toW_step (P.drop 28) (by rw [List.length_drop]; omega)
  have t8 := toW_step (P.drop 32) (by rw [List.length_drop]; omega)
  have t9 := toW_step (P.drop 36) (by rw [List.length_drop]; omega)
  have t10 := toW_step (P.drop 40) (by rw [List.length_drop]; omega)
  have t11 := toW_step (P.drop 44) (by rw [List.length_drop]; omega)
  have t12 := toW_step (P.drop 48) (by rw [List.length_drop]; omega)
  have t13 := toW_step (P.drop 52) (by rw [List.length_drop]; omega)
  have t14 := toW_step (P.drop 56) (by rw [List.length_drop]; omega)
  have t15 := toW_step (P.drop 60) (by rw [List.length_drop]; omega)
  simp only [List.drop_drop] at t1 t2 t3 t4 t5 t6 t7 t8 t9 t10 t11 t12 t13 t14 t15
  rw [t0, t1, t2, t3, t4, t5, t6, t7, t8, t9, t10, t11, t12, t13, t14, t15]
  have wd := fun t => word_drop P t
  rw [show P.drop 4 = P.drop (4 * 1) from rfl, wd 1, show P.drop 8 = P.drop (4 * 2) from rfl, wd 2, show P.drop 12 = P.drop (4 * 3) from rfl, wd 3, show P.drop 16 = P.drop (4 * 4) from rfl, wd 4, show P.drop 20 = P.drop (4 * 5) from rfl, wd 5, show P.drop 24 = P.drop (4 * 6) from rfl, wd 6, show P.drop 28 = P.drop (4 * 7) from rfl, wd 7, show P.drop 32 = P.drop (4 * 8) from rfl, wd 8, show P.drop 36 = P.drop (4 * 9) from rfl, wd 9, show P.drop 40 = P.drop (4 * 10) from rfl, wd 10, show P.drop 44 = P.drop (4 * 11) from rfl, wd 11, show P.drop 48 = P.drop (4 * 12) from rfl, wd 12, show P.drop 52 = P.drop (4 * 13) from rfl, wd 13, show P.drop 56 = P.drop (4 * 14) from rfl, wd 14, show P.drop 60 = P.drop (4 * 15) from rfl, wd 15]

/-- The words behind so many blocks, from a state on. -/
def from_ (s : Sh.St) (P : List Int) : Nat → Sh.St
  | 0 => s
  | k + 1 => Sh.mix (from_ s P k) ((P.drop (64 * k)).take 64)
theorem from_comp (P : List Int) (k : Nat) : from_ Sh.init P k = Sh.comp P k := by
  induction k with
  | zero => rfl
  | succ k ih => rw [from_, Sh.comp, ih]
theorem from_head (s : Sh.St) (P : List Int) (k : Nat) : from_ s P (k + 1) = from_ (Sh.mix s (P.take 64)) (P.drop 64) k := by
  induction k with
  | zero => rfl
  | succ k ih =>
    rw [from_, ih, from_, List.drop_drop, show 64 + 64 * k = 64 * (k + 1) by omega]
theorem goW_eq : ∀ (k : Nat) (s : Sh.St) (P : List Int), s.Ok → Sz.Byt P → P.length = 64 * k → goW s (toW P) = from_ s P k
  | 0, s, P, _, _, h => by
    have : P = [] := List.eq_nil_of_length_eq_zero (by omega)
    subst this; rfl
  | k + 1, s, P, hok, hb, h => by
    rw [toW_block P (by omega), goW, from_head, ← goW_eq k _ (P.drop 64) (Sh.mix_ok _ _) (hb.drop _) (by rw [List.length_drop]; omega), Fs.mixW_eq s (P.take 64) hok (hb.take _)]
    rw [word_take P 0 (by omega), word_take P 1 (by omega), word_take P 2 (by omega), word_take P 3 (by omega), word_take P 4 (by omega), word_take P 5 (by omega), word_take P 6 (by omega), word_take P 7 (by omega), word_take P 8 (by omega), word_take P 9 (by omega), word_take P 10 (by omega), word_take P 11 (by omega), word_take P 12 (by omega), word_take P 13 (by omega), word_take P 14 (by omega), word_take P 15 (by omega)]
theorem fsum_eq (l : List Int) (hb : Sz.Byt l) : Sh.sum l = Sh.digest (fsum l) := by
  have hz : (l.length + 9 + Sh.zeros l.length) % 64 = 0 := by unfold Sh.zeros; omega
  have hp : (Sh.padded l).length = l.length + 9 + Sh.zeros l.length := by rw [Sh.padded, List.length_append, ending_length]; omega
  have h64 : (Sh.padded l).length = 64 * ((Sh.padded l).length / 64) := by rw [hp]; omega
  have hpb : Sz.Byt (Sh.padded l) := hb.append (ending_byt _)
  unfold Sh.sum fsum
  rw [goW_eq _ _ _ Sh.init_ok hpb h64, from_comp]
theorem fsum_ok (l : List Int) (hb : Sz.Byt l) : (fsum l).Ok := by
  have hz : (l.length + 9 + Sh.zeros l.length) % 64 = 0 := by unfold Sh.zeros; omega
  have hp : (Sh.padded l).length = l.length + 9 + Sh.zeros l.length := by rw [Sh.padded, List.length_append, ending_length]; omega
  have h64 : (Sh.padded l).length = 64 * ((Sh.padded l).length / 64) := by rw [hp]; omega
  have hpb : Sz.Byt (Sh.padded l) := hb.append (ending_byt _)
  unfold fsum
  rw [goW_eq _ _ _ Sh.init_ok hpb h64, from_comp]
  exact Sh.comp_ok _ _

def macF (key b : List Int) : Sh.St := fsum (Mc.mask 92 (Mc.block key) ++ Sh.digest (fsum (Mc.mask 54 (Mc.block key) ++ b)))
theorem macF_eq (key b : List Int) (hk : Sz.Byt key) (hb : Sz.Byt b) : Mc.mac key b = Sh.digest (macF key b) ∧ (macF key b).Ok := by
  have h1 : Sz.Byt (Mc.mask 54 (Mc.block key) ++ b) := (Mc.mask_byt 54 _ (Mc.block_byt key hk) (by omega)).append hb
  have h2 : Sz.Byt (Mc.mask 92 (Mc.block key) ++ Sh.digest (fsum (Mc.mask 54 (Mc.block key) ++ b))) := (Mc.mask_byt 92 _ (Mc.block_byt key hk) (by omega)).append (Mc.digest_byt _)
  unfold Mc.mac macF
  rw [fsum_eq _ h1]
  exact ⟨fsum_eq _ h2, fsum_ok _ h2⟩
def endF (seed : List Int) (i : Nat) : Sh.St := Ky.stpsW (macF seed [5, (i : Int)]) 15
theorem endF_eq (seed : List Int) (hs : Sz.Byt seed) (i : Nat) (hi : i < 256) : Ky.steps (Ky.secret seed i) 15 = Sh.digest (endF seed i) := by
  have hb : Sz.Byt [5, (i : Int)] := fun x hx => by simp at hx; rcases hx with rfl | rfl <;> omega
  have h := macF_eq seed [5, (i : Int)] hs hb
  unfold Ky.secret endF
  rw [h.1]
  exact (Ky.steps_eq _ h.2 15).1
def pubF (seed : List Int) : Sh.St := fsum ((7 : Int) :: ((List.range 67).map fun i => Sh.digest (endF seed i)).flatten)
theorem pubF_eq (seed : List Int) (hs : Sz.Byt seed) : Ky.pub seed = Sh.digest (pubF seed) := by
  have e : Ky.ends seed 67 = ((List.range 67).map fun i => Sh.digest (endF seed i)).flatten := by
    unfold Ky.ends
    congr 1
    apply List.map_congr_left
    intro i hi
    exact endF_eq seed hs i (by simp at hi; omega)
  unfold Ky.pub pubF
  rw [e]
  refine fsum_eq _ (fun x hx => ?_)
  rcases List.mem_cons.1 hx with rfl | hx
  · omega
  · obtain ⟨l, hl, hx⟩ := List.mem_flatten.1 hx
    simp only [List.mem_map] at hl
    obtain ⟨i, _, rfl⟩ := hl
    exact Mc.digest_byt _ x hx

set_option maxRecDepth 1000000 in
theorem pub_word : Nat.shiftRight (pubF (List.replicate 32 0)).a 24 = 195 := by kernel_rfl
theorem pub_zero : (Ky.pub (List.replicate 32 0)).getD 0 0 = 195 := by
  have h := pub_word
  rw [pubF_eq _ (fun x hx => by rw [List.eq_of_mem_replicate hx]; omega)]
  generalize pubF (List.replicate 32 0) = S at *
  have h' : S.a >>> 24 = 195 := h
  have e : (Sh.digest S).getD 0 0 = ((S.a >>> 24 % 256 : Nat) : Int) := rfl
  rw [e, h']; rfl
end Go.Proofs.YtfgjgaenhpelkaaDoor.Kf
