/- A key for one text, as functions of lists; and that the public key of the seed of bytes 0 is not made of 0 alone. -/
import Derived.Test.YtkdihbgjeanjdaaDoorFs
namespace Go.Proofs.YtkdihbgjeanjdaaDoor.Ky
set_option linter.unusedVariables false

def step (d : List Int) : List Int := Sh.sum ((8 : Int) :: d)
def steps (d : List Int) : Nat → List Int
  | 0 => d
  | n + 1 => step (steps d n)
theorem step_length (d : List Int) : (step d).length = 32 := Mc.sum_length _
theorem steps_add (d : List Int) (m n : Nat) : steps (steps d m) n = steps d (m + n) := by
  induction n with
  | zero => rfl
  | succ n ih => rw [steps, ih]; rfl
def secret (seed : List Int) (i : Nat) : List Int := Mc.mac seed [5, (i : Int)]
def ends (seed : List Int) (n : Nat) : List Int := ((List.range n).map fun i => steps (secret seed i) 15).flatten
def pub (seed : List Int) : List Int := Sh.sum ((7 : Int) :: ends seed 67)

/-- One step, in words. -/
def stpW (s : Sh.St) : Sh.St :=
  Fs.mixW Sh.init (Nat.add 134217728 (Nat.shiftRight s.a 8)) (Nat.add (Nat.mul (Nat.mod s.a 256) 16777216) (Nat.shiftRight s.b 8)) (Nat.add (Nat.mul (Nat.mod s.b 256) 16777216) (Nat.shiftRight s.c 8)) (Nat.add (Nat.mul (Nat.mod s.c 256) 16777216) (Nat.shiftRight s.d 8))
    (Nat.add (Nat.mul (Nat.mod s.d 256) 16777216) (Nat.shiftRight s.e 8)) (Nat.add (Nat.mul (Nat.mod s.e 256) 16777216) (Nat.shiftRight s.f 8)) (Nat.add (Nat.mul (Nat.mod s.f 256) 16777216) (Nat.shiftRight s.g 8)) (Nat.add (Nat.mul (Nat.mod s.g 256) 16777216) (Nat.shiftRight s.h 8))
    (Nat.add (Nat.mul (Nat.mod s.h 256) 16777216) 8388608) 0 0 0 0 0 0 264
def stpsW (s : Sh.St) : Nat → Sh.St
  | 0 => s
  | n + 1 => stpW (stpsW s n)

theorem three (a b : Nat) (h : b < 4294967296) : a % 256 * 16777216 + b >>> 24 % 256 * 65536 + b >>> 16 % 256 * 256 + b >>> 8 % 256 = Nat.add (Nat.mul (Nat.mod a 256) 16777216) (Nat.shiftRight b 8) := by
  show _ = a % 256 * 16777216 + b >>> 8
  simp only [Nat.shiftRight_eq_div_pow]
  omega

set_option maxRecDepth 100000 in
theorem step_eq (s : Sh.St) (h : s.Ok) : step (Sh.digest s) = Sh.digest (stpW s) := by
  obtain ⟨h1, h2, h3, h4, h5, h6, h7, h8⟩ := h
  have hd : (Sh.digest s).length = 32 := by simp [Sh.digest]
  have hp : (Sh.padded ((8 : Int) :: Sh.digest s)).length = 64 := by
    rw [Sh.padded, List.length_append, ending_length, List.length_cons, hd]; rfl
  have hb : Sz.Byt (Sh.padded ((8 : Int) :: Sh.digest s)) := Sz.Byt.append (fun x hx => by
    rcases List.mem_cons.1 hx with rfl | hx
    · omega
    · exact Mc.digest_byt s x hx) (ending_byt _)
  have e : step (Sh.digest s) = Sh.digest (Sh.mix Sh.init (Sh.padded ((8 : Int) :: Sh.digest s))) := by
    unfold step Sh.sum
    rw [hp]
    show Sh.digest (Sh.mix (Sh.comp _ 0) ((List.drop (64 * 0) (Sh.padded ((8 : Int) :: Sh.digest s))).take 64)) = _
    rw [Nat.mul_zero, List.drop_zero, List.take_of_length_le (Nat.le_of_eq hp)]
    rfl
  have g0 : (Sh.padded ((8 : Int) :: Sh.digest s)).getD 0 0 = 8 := rfl
  have g1 : ∀ i, i < 32 → (Sh.padded ((8 : Int) :: Sh.digest s)).getD (i + 1) 0 = dby s i := fun i hi => by
    simp only [Sh.padded, List.getD, List.cons_append, List.getElem?_cons_succ]
    rw [List.getElem?_append_left (by omega)]
    simp [Sh.digest, hi, dby]
  have g2 : ∀ j, (Sh.padded ((8 : Int) :: Sh.digest s)).getD (33 + j) 0 = (Sh.ending 33).getD j 0 := fun j => by
    have e33 : ((8 : Int) :: Sh.digest s).length = 33 := by rw [List.length_cons, hd]
    simp only [Sh.padded, List.getD]
    rw [List.getElem?_append_right (by omega), e33, show 33 + j - 33 = j by omega]
  generalize Sh.padded ((8 : Int) :: Sh.digest s) = P at *
  have w0 : Sh.word P 0 = Nat.add 134217728 (Nat.shiftRight s.a 8) := by
    unfold Sh.word
    rw [show 4 * 0 = 0 from rfl, g0, g1 0 (by omega), g1 1 (by omega), g1 2 (by omega)]
    exact three 8 s.a h1
  have w1 : Sh.word P 1 = Nat.add (Nat.mul (Nat.mod s.a 256) 16777216) (Nat.shiftRight s.b 8) := by
    unfold Sh.word
    rw [g1 3 (by omega), g1 4 (by omega), g1 5 (by omega), g1 6 (by omega)]
    exact three s.a s.b h2
  have w2 : Sh.word P 2 = Nat.add (Nat.mul (Nat.mod s.b 256) 16777216) (Nat.shiftRight s.c 8) := by
    unfold Sh.word
    rw [g1 7 (by omega), g1 8 (by omega), g1 9 (by omega), g1 10 (by omega)]
    exact three s.b s.c h3
  have w3 : Sh.word P 3 = Nat.add (Nat.mul (Nat.mod s.c 256) 16777216) (Nat.shiftRight s.d 8) := by
    unfold Sh.word
    rw [g1 11 (by omega), g1 12 (by omega), g1 13 (by omega), g1 14 (by omega)]
    exact three s.c s.d h4
  have w4 : Sh.word P 4 = Nat.add (Nat.mul (Nat.mod s.d 256) 16777216) (Nat.shiftRight s.e 8) := by
    unfold Sh.word
    rw [g1 15 (by omega), g1 16 (by omega), g1 17 (by omega), g1 18 (by omega)]
    exact three s.d s.e h5
  have w5 : Sh.word P 5 = Nat.add (Nat.mul (Nat.mod s.e 256) 16777216) (Nat.shiftRight s.f 8) := by
    unfold Sh.word
    rw [g1 19 (by omega), g1 20 (by omega), g1 21 (by omega), g1 22 (by omega)]
    exact three s.e s.f h6
  have w6 : Sh.word P 6 = Nat.add (Nat.mul (Nat.mod s.f 256) 16777216) (Nat.shiftRight s.g 8) := by
    unfold Sh.word
    rw [g1 23 (by omega), g1 24 (by omega), g1 25 (by omega), g1 26 (by omega)]
    exact three s.f s.g h7
  have w7 : Sh.word P 7 = Nat.add (Nat.mul (Nat.mod s.g 256) 16777216) (Nat.shiftRight s.h 8) := by
    unfold Sh.word
    rw [g1 27 (by omega), g1 28 (by omega), g1 29 (by omega), g1 30 (by omega)]
    exact three s.g s.h h8
  have w8 : Sh.word P 8 = Nat.add (Nat.mul (Nat.mod s.h 256) 16777216) 8388608 := by
    unfold Sh.word
    have d31 : (dby s 31).toNat = s.h % 256 := rfl
    have e0 : ((Sh.ending 33).getD 0 0).toNat = 128 := by decide
    have e1 : ((Sh.ending 33).getD 1 0).toNat = 0 := by decide
    have e2 : ((Sh.ending 33).getD 2 0).toNat = 0 := by decide
    rw [g1 31 (by omega), g2 0, g2 1, g2 2, d31, e0, e1, e2]
    show _ = s.h % 256 * 16777216 + 8388608
    omega
  have wz : ∀ t, 9 ≤ t → t < 16 → Sh.word P t = if t = 15 then 264 else 0 := fun t h9 h16 => by
    unfold Sh.word
    rw [show 4 * t = 33 + (4 * t - 33) by omega, show 33 + (4 * t - 33) + 1 = 33 + (4 * t - 32) by omega, show 33 + (4 * t - 33) + 2 = 33 + (4 * t - 31) by omega, show 33 + (4 * t - 33) + 3 = 33 + (4 * t - 30) by omega, g2, g2, g2, g2]
    have := (by decide : ∀ i : Fin 7, (((Sh.ending 33).getD (4 * (i.1 + 9) - 33) 0).toNat * 16777216 + ((Sh.ending 33).getD (4 * (i.1 + 9) - 32) 0).toNat * 65536 + ((Sh.ending 33).getD (4 * (i.1 + 9) - 31) 0).toNat * 256 + ((Sh.ending 33).getD (4 * (i.1 + 9) - 30) 0).toNat) = if i.1 + 9 = 15 then 264 else 0) ⟨t - 9, by omega⟩
    simpa [show t - 9 + 9 = t by omega] using this
  rw [e, Fs.mixW_eq _ _ Sh.init_ok hb, w0, w1, w2, w3, w4, w5, w6, w7, w8, wz 9 (by omega) (by omega), wz 10 (by omega) (by omega), wz 11 (by omega) (by omega), wz 12 (by omega) (by omega), wz 13 (by omega) (by omega), wz 14 (by omega) (by omega), wz 15 (by omega) (by omega)]
  rfl
theorem stpW_ok (s : Sh.St) : (stpW s).Ok := Sh.add_ok _ _
theorem steps_eq (s : Sh.St) (h : s.Ok) (n : Nat) : steps (Sh.digest s) n = Sh.digest (stpsW s n) ∧ (stpsW s n).Ok := by
  induction n with
  | zero => exact ⟨rfl, h⟩
  | succ n ih =>
    rw [steps, ih.1, step_eq _ ih.2]
    exact ⟨rfl, stpW_ok _⟩
end Go.Proofs.YtkdihbgjeanjdaaDoor.Ky
