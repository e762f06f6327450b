/- Digests for the kernel to reckon: the rounds with a window of sixteen words, and that they are the digest's own. -/
import Derived.Test.YtkdihbgjeanjdaaDoorMc
import Derived.Laws.BitsAllLaws
namespace Go.Proofs.YtkdihbgjeanjdaaDoor.Fs
set_option linter.unusedVariables false

/-- A word, twice. -/
def dbl (x : Nat) : Nat := Nat.mul x 4294967297
def S1 (x : Nat) : Nat := Nat.mod (Nat.xor (Nat.xor (Nat.shiftRight (dbl x) 6) (Nat.shiftRight (dbl x) 11)) (Nat.shiftRight (dbl x) 25)) 4294967296
def S0 (x : Nat) : Nat := Nat.mod (Nat.xor (Nat.xor (Nat.shiftRight (dbl x) 2) (Nat.shiftRight (dbl x) 13)) (Nat.shiftRight (dbl x) 22)) 4294967296
def s1 (x : Nat) : Nat := Nat.mod (Nat.xor (Nat.xor (Nat.shiftRight (dbl x) 17) (Nat.shiftRight (dbl x) 19)) (Nat.shiftRight x 10)) 4294967296
def s0 (x : Nat) : Nat := Nat.mod (Nat.xor (Nat.xor (Nat.shiftRight (dbl x) 7) (Nat.shiftRight (dbl x) 18)) (Nat.shiftRight x 3)) 4294967296

theorem dbl2 (x : Nat) (h : x < 4294967296) : Nat.shiftRight (dbl x) 2 % 4294967296 = Sh.rotr 2 x := by
  show (x * 4294967297) >>> 2 % 4294967296 = x >>> 2 ||| (x <<< 30) % 4294967296
  rw [Nat.shiftRight_eq_div_pow, Nat.shiftRight_eq_div_pow, Nat.shiftLeft_eq, Nat.or_comm, nat_join 30 _ _ (by omega) (by omega)]
  have e1 : x * 4294967297 / 2 ^ 2 = x * 1073741824 + x / 4 := by omega
  have e2 : x * 2 ^ 30 = x * 1073741824 := rfl
  rw [e1, e2]
  obtain ⟨q, r, hr, hq, rfl⟩ : ∃ q r, r < 4 ∧ q < 1073741824 ∧ x = 4 * q + r := ⟨x / 4, x % 4, by omega, by omega, by omega⟩
  have e3 : (4 * q + r) / 4 = q := by omega
  have e4 : (4 * q + r) * 1073741824 = 4294967296 * q + 1073741824 * r := by omega
  rw [e3, e4]
  omega
theorem dbl6 (x : Nat) (h : x < 4294967296) : Nat.shiftRight (dbl x) 6 % 4294967296 = Sh.rotr 6 x := by
  show (x * 4294967297) >>> 6 % 4294967296 = x >>> 6 ||| (x <<< 26) % 4294967296
  rw [Nat.shiftRight_eq_div_pow, Nat.shiftRight_eq_div_pow, Nat.shiftLeft_eq, Nat.or_comm, nat_join 26 _ _ (by omega) (by omega)]
  have e1 : x * 4294967297 / 2 ^ 6 = x * 67108864 + x / 64 := by omega
  have e2 : x * 2 ^ 26 = x * 67108864 := rfl
  rw [e1, e2]
  obtain ⟨q, r, hr, hq, rfl⟩ : ∃ q r, r < 64 ∧ q < 67108864 ∧ x = 64 * q + r := ⟨x / 64, x % 64, by omega, by omega, by omega⟩
  have e3 : (64 * q + r) / 64 = q := by omega
  have e4 : (64 * q + r) * 67108864 = 4294967296 * q + 67108864 * r := by omega
  rw [e3, e4]
  omega
theorem dbl7 (x : Nat) (h : x < 4294967296) : Nat.shiftRight (dbl x) 7 % 4294967296 = Sh.rotr 7 x := by
  show (x * 4294967297) >>> 7 % 4294967296 = x >>> 7 ||| (x <<< 25) % 4294967296
  rw [Nat.shiftRight_eq_div_pow, Nat.shiftRight_eq_div_pow, Nat.shiftLeft_eq, Nat.or_comm, nat_join 25 _ _ (by omega) (by omega)]
  have e1 : x * 4294967297 / 2 ^ 7 = x * 33554432 + x / 128 := by omega
  have e2 : x * 2 ^ 25 = x * 33554432 := rfl
  rw [e1, e2]
  obtain ⟨q, r, hr, hq, rfl⟩ : ∃ q r, r < 128 ∧ q < 33554432 ∧ x = 128 * q + r := ⟨x / 128, x % 128, by omega, by omega, by omega⟩
  have e3 : (128 * q + r) / 128 = q := by omega
  have e4 : (128 * q + r) * 33554432 = 4294967296 * q + 33554432 * r := by omega
  rw [e3, e4]
  omega
theorem dbl11 (x : Nat) (h : x < 4294967296) : Nat.shiftRight (dbl x) 11 % 4294967296 = Sh.rotr 11 x := by
  show (x * 4294967297) >>> 11 % 4294967296 = x >>> 11 ||| (x <<< 21) % 4294967296
  rw [Nat.shiftRight_eq_div_pow, Nat.shiftRight_eq_div_pow, Nat.shiftLeft_eq, Nat.or_comm, nat_join 21 _ _ (by omega) (by omega)]
  have e1 : x * 4294967297 / 2 ^ 11 = x * 2097152 + x / 2048 := by omega
  have e2 : x * 2 ^ 21 = x * 2097152 := rfl
  rw [e1, e2]
  obtain ⟨q, r, hr, hq, rfl⟩ : ∃ q r, r < 2048 ∧ q < 2097152 ∧ x = 2048 * q + r := ⟨x / 2048, x % 2048, by omega, by omega, by omega⟩
  have e3 : (2048 * q + r) / 2048 = q := by omega
  have e4 : (2048 * q + r) * 2097152 = 4294967296 * q + 2097152 * r := by omega
  rw [e3, e4]
  omega
theorem dbl13 (x : Nat) (h : x < 4294967296) : Nat.shiftRight (dbl x) 13 % 4294967296 = Sh.rotr 13 x := by
  show (x * 4294967297) >>> 13 % 4294967296 = x >>> 13 ||| (x <<< 19) % 4294967296
  rw [Nat.shiftRight_eq_div_pow, Nat.shiftRight_eq_div_pow, Nat.shiftLeft_eq, Nat.or_comm, nat_join 19 _ _ (by omega) (by omega)]
  have e1 : x * 4294967297 / 2 ^ 13 = x * 524288 + x / 8192 := by omega
  have e2 : x * 2 ^ 19 = x * 524288 := rfl
  rw [e1, e2]
  obtain ⟨q, r, hr, hq, rfl⟩ : ∃ q r, r < 8192 ∧ q < 524288 ∧ x = 8192 * q + r := ⟨x / 8192, x % 8192, by omega, by omega, by omega⟩
  have e3 : (8192 * q + r) / 8192 = q := by omega
  have e4 : (8192 * q + r) * 524288 = 4294967296 * q + 524288 * r := by omega
  rw [e3, e4]
  omega
theorem dbl17 (x : Nat) (h : x < 4294967296) : Nat.shiftRight (dbl x) 17 % 4294967296 = Sh.rotr 17 x := by
  show (x * 4294967297) >>> 17 % 4294967296 = x >>> 17 ||| (x <<< 15) % 4294967296
  rw [Nat.shiftRight_eq_div_pow, Nat.shiftRight_eq_div_pow, Nat.shiftLeft_eq, Nat.or_comm, nat_join 15 _ _ (by omega) (by omega)]
  have e1 : x * 4294967297 / 2 ^ 17 = x * 32768 + x / 131072 := by omega
  have e2 : x * 2 ^ 15 = x * 32768 := rfl
  rw [e1, e2]
  obtain ⟨q, r, hr, hq, rfl⟩ : ∃ q r, r < 131072 ∧ q < 32768 ∧ x = 131072 * q + r := ⟨x / 131072, x % 131072, by omega, by omega, by omega⟩
  have e3 : (131072 * q + r) / 131072 = q := by omega
  have e4 : (131072 * q + r) * 32768 = 4294967296 * q + 32768 * r := by omega
  rw [e3, e4]
  omega
theorem dbl18 (x : Nat) (h : x < 4294967296) : Nat.shiftRight (dbl x) 18 % 4294967296 = Sh.rotr 18 x := by
  show (x * 4294967297) >>> 18 % 4294967296 = x >>> 18 ||| (x <<< 14) % 4294967296
  rw [Nat.shiftRight_eq_div_pow, Nat.shiftRight_eq_div_pow, Nat.shiftLeft_eq, Nat.or_comm, nat_join 14 _ _ (by omega) (by omega)]
  have e1 : x * 4294967297 / 2 ^ 18 = x * 16384 + x / 262144 := by omega
  have e2 : x * 2 ^ 14 = x * 16384 := rfl
  rw [e1, e2]
  obtain ⟨q, r, hr, hq, rfl⟩ : ∃ q r, r < 262144 ∧ q < 16384 ∧ x = 262144 * q + r := ⟨x / 262144, x % 262144, by omega, by omega, by omega⟩
  have e3 : (262144 * q + r) / 262144 = q := by omega
  have e4 : (262144 * q + r) * 16384 = 4294967296 * q + 16384 * r := by omega
  rw [e3, e4]
  omega
theorem dbl19 (x : Nat) (h : x < 4294967296) : Nat.shiftRight (dbl x) 19 % 4294967296 = Sh.rotr 19 x := by
  show (x * 4294967297) >>> 19 % 4294967296 = x >>> 19 ||| (x <<< 13) % 4294967296
  rw [Nat.shiftRight_eq_div_pow, Nat.shiftRight_eq_div_pow, Nat.shiftLeft_eq, Nat.or_comm, nat_join 13 _ _ (by omega) (by omega)]
  have e1 : x * 4294967297 / 2 ^ 19 = x * 8192 + x / 524288 := by omega
  have e2 : x * 2 ^ 13 = x * 8192 := rfl
  rw [e1, e2]
  obtain ⟨q, r, hr, hq, rfl⟩ : ∃ q r, r < 524288 ∧ q < 8192 ∧ x = 524288 * q + r := ⟨x / 524288, x % 524288, by omega, by omega, by omega⟩
  have e3 : (524288 * q + r) / 524288 = q := by omega
  have e4 : (524288 * q + r) * 8192 = 4294967296 * q + 8192 * r := by omega
  rw [e3, e4]
  omega
theorem dbl22 (x : Nat) (h : x < 4294967296) : Nat.shiftRight (dbl x) 22 % 4294967296 = Sh.rotr 22 x := by
  show (x * 4294967297) >>> 22 % 4294967296 = x >>> 22 ||| (x <<< 10) % 4294967296
  rw [Nat.shiftRight_eq_div_pow, Nat.shiftRight_eq_div_pow, Nat.shiftLeft_eq, Nat.or_comm, nat_join 10 _ _ (by omega) (by omega)]
  have e1 : x * 4294967297 / 2 ^ 22 = x * 1024 + x / 4194304 := by omega
  have e2 : x * 2 ^ 10 = x * 1024 := rfl
  rw [e1, e2]
  obtain ⟨q, r, hr, hq, rfl⟩ : ∃ q r, r < 4194304 ∧ q < 1024 ∧ x = 4194304 * q + r := ⟨x / 4194304, x % 4194304, by omega, by omega, by omega⟩
  have e3 : (4194304 * q + r) / 4194304 = q := by omega
  have e4 : (4194304 * q + r) * 1024 = 4294967296 * q + 1024 * r := by omega
  rw [e3, e4]
  omega
theorem dbl25 (x : Nat) (h : x < 4294967296) : Nat.shiftRight (dbl x) 25 % 4294967296 = Sh.rotr 25 x := by
  show (x * 4294967297) >>> 25 % 4294967296 = x >>> 25 ||| (x <<< 7) % 4294967296
  rw [Nat.shiftRight_eq_div_pow, Nat.shiftRight_eq_div_pow, Nat.shiftLeft_eq, Nat.or_comm, nat_join 7 _ _ (by omega) (by omega)]
  have e1 : x * 4294967297 / 2 ^ 25 = x * 128 + x / 33554432 := by omega
  have e2 : x * 2 ^ 7 = x * 128 := rfl
  rw [e1, e2]
  obtain ⟨q, r, hr, hq, rfl⟩ : ∃ q r, r < 33554432 ∧ q < 128 ∧ x = 33554432 * q + r := ⟨x / 33554432, x % 33554432, by omega, by omega, by omega⟩
  have e3 : (33554432 * q + r) / 33554432 = q := by omega
  have e4 : (33554432 * q + r) * 128 = 4294967296 * q + 128 * r := by omega
  rw [e3, e4]
  omega
theorem xor_mod (a b c : Nat) : Nat.mod (Nat.xor (Nat.xor a b) c) 4294967296 = ((a % 4294967296) ^^^ (b % 4294967296)) ^^^ (c % 4294967296) := by
  show ((a ^^^ b) ^^^ c) % 2 ^ 32 = _
  rw [Nat.xor_mod_two_pow, Nat.xor_mod_two_pow]
theorem S1_eq (x : Nat) (h : x < 4294967296) : S1 x = Sh.S1 x := by
  unfold S1 Sh.S1; rw [xor_mod, dbl6 x h, dbl11 x h, dbl25 x h]
theorem S0_eq (x : Nat) (h : x < 4294967296) : S0 x = Sh.S0 x := by
  unfold S0 Sh.S0; rw [xor_mod, dbl2 x h, dbl13 x h, dbl22 x h]
theorem s1_eq (x : Nat) (h : x < 4294967296) : s1 x = Sh.s1 x := by
  unfold s1 Sh.s1
  rw [xor_mod, dbl17 x h, dbl19 x h]
  have : Nat.shiftRight x 10 % 4294967296 = x >>> 10 := Nat.mod_eq_of_lt (Sh.shr_lt 10 x h)
  rw [this]
theorem s0_eq (x : Nat) (h : x < 4294967296) : s0 x = Sh.s0 x := by
  unfold s0 Sh.s0
  rw [xor_mod, dbl7 x h, dbl18 x h]
  have : Nat.shiftRight x 3 % 4294967296 = x >>> 3 := Nat.mod_eq_of_lt (Sh.shr_lt 3 x h)
  rw [this]

/-- The rounds, from a list of their words on, with a window of sixteen words. -/
def fr : List Nat → Nat → Nat → Nat → Nat → Nat → Nat → Nat → Nat → Nat → Nat → Nat → Nat → Nat → Nat → Nat → Nat → Nat → Nat → Nat → Nat → Nat → Nat → Nat → Nat → Sh.St
  | [], _, _, _, _, _, _, _, _, _, _, _, _, _, _, _, _, a, b, c, d, e, f, g, h => ⟨a, b, c, d, e, f, g, h⟩
  | k :: K, w0, w1, w2, w3, w4, w5, w6, w7, w8, w9, w10, w11, w12, w13, w14, w15, a, b, c, d, e, f, g, h =>
    (fun p => fr K w1 w2 w3 w4 w5 w6 w7 w8 w9 w10 w11 w12 w13 w14 w15 (Nat.mod (Nat.add (Nat.add (Nat.add (s1 w14) w9) (s0 w1)) w0) 4294967296)
      (Nat.mod (Nat.add p (Nat.add (S0 a) (Nat.xor (Nat.xor (Nat.land a b) (Nat.land a c)) (Nat.land b c)))) 4294967296) a b c (Nat.mod (Nat.add d p) 4294967296) e f g)
    (Nat.add (Nat.add (Nat.add (Nat.add h (S1 e)) (Nat.xor (Nat.land e f) (Nat.land (Nat.sub 4294967295 e) g))) k) w0)

/-- So many rounds from round t on. -/
def rest (x : Nat → Nat) : Nat → Nat → Sh.St → Sh.St
  | 0, _, s => s
  | n + 1, t, s => rest x n (t + 1) (Sh.rnd s (Sh.ks.getD t 0) (x t))

theorem drop_ks (t : Nat) (h : t < 64) : Sh.ks.drop t = Sh.ks.getD t 0 :: Sh.ks.drop (t + 1) := by
  have hl : t < Sh.ks.length := by rw [Sh.ks_len]; exact h
  rw [List.drop_eq_getElem_cons hl]
  simp [List.getD, List.getElem?_eq_getElem hl]

theorem fr_eq (x : Nat → Nat) (hx : ∀ i, x i < 4294967296) (hs : ∀ i, x (i + 16) = (Sh.s1 (x (i + 14)) + x (i + 9) + Sh.s0 (x (i + 1)) + x i) % 4294967296) : ∀ (n t : Nat) (s : Sh.St), t + n = 64 → s.Ok →
    fr (Sh.ks.drop t) (x t) (x (t + 1)) (x (t + 2)) (x (t + 3)) (x (t + 4)) (x (t + 5)) (x (t + 6)) (x (t + 7)) (x (t + 8)) (x (t + 9)) (x (t + 10)) (x (t + 11)) (x (t + 12)) (x (t + 13)) (x (t + 14)) (x (t + 15)) s.a s.b s.c s.d s.e s.f s.g s.h = rest x n t s
  | 0, t, s, ht, _ => by
    have : Sh.ks.drop t = [] := List.drop_eq_nil_of_le (by rw [Sh.ks_len]; omega)
    rw [this]; rfl
  | n + 1, t, s, ht, hok => by
    have ih := fr_eq x hx hs n (t + 1) (Sh.rnd s (Sh.ks.getD t 0) (x t)) (by omega) (Sh.rnd_ok _ _ _ hok)
    rw [rest, ← ih, drop_ks t (by omega), fr]
    have e1 : Nat.mod (Nat.add (Nat.add (Nat.add (s1 (x (t + 14))) (x (t + 9))) (s0 (x (t + 1)))) (x t)) 4294967296 = x (t + 1 + 15) := by
      rw [show t + 1 + 15 = t + 16 by omega, hs t, s1_eq _ (hx _), s0_eq _ (hx _)]; rfl
    have e2 : S1 s.e = Sh.S1 s.e := S1_eq _ hok.2.2.2.2.1
    have e3 : S0 s.a = Sh.S0 s.a := S0_eq _ hok.1
    rw [e1, e2, e3]
    simp only [show t + 1 + 1 = t + 2 by omega, show t + 1 + 2 = t + 3 by omega, show t + 1 + 3 = t + 4 by omega, show t + 1 + 4 = t + 5 by omega, show t + 1 + 5 = t + 6 by omega, show t + 1 + 6 = t + 7 by omega, show t + 1 + 7 = t + 8 by omega, show t + 1 + 8 = t + 9 by omega, show t + 1 + 9 = t + 10 by omega, show t + 1 + 10 = t + 11 by omega, show t + 1 + 11 = t + 12 by omega, show t + 1 + 12 = t + 13 by omega, show t + 1 + 13 = t + 14 by omega, show t + 1 + 14 = t + 15 by omega]
    rfl

theorem rest_rnds (x : Nat → Nat) (s : Sh.St) (W : List Nat) (hW : ∀ t, t < 64 → W.getD t 0 = x t) : ∀ n t, t + n = 64 → rest x n t (Sh.rnds s W t) = Sh.rnds s W 64
  | 0, t, h => by rw [rest, show t = 64 by omega]
  | n + 1, t, h => by
    rw [rest, ← hW t (by omega)]
    exact rest_rnds x s W hW n (t + 1) (by omega)

/-- A word that never ends: the schedule, and on. -/
def xs (b : List Int) (i : Nat) : Nat := (Sh.exts (i + 1) (Sh.first b)).getD i 0
theorem xs_of (b : List Int) (i n : Nat) (h : i < 16 + n) : (Sh.exts n (Sh.first b)).getD i 0 = xs b i := by
  unfold xs
  by_cases e : n ≤ i + 1
  · have := Sh.exts_get n (Sh.first b) i (by rw [Sh.first_length]; exact h) (i + 1 - n)
    rw [show n + (i + 1 - n) = i + 1 by omega] at this
    exact this.symm
  · have := Sh.exts_get (i + 1) (Sh.first b) i (by rw [Sh.first_length]; omega) (n - (i + 1))
    rw [show i + 1 + (n - (i + 1)) = n by omega] at this
    exact this
theorem xs_lt (b : List Int) (hb : Sz.Byt b) (i : Nat) : xs b i < 4294967296 := Sh.getD_lt (Sh.exts_lt _ _ (Sh.first_lt b hb)) (by omega) i
theorem xs_step (b : List Int) (i : Nat) : xs b (i + 16) = (Sh.s1 (xs b (i + 14)) + xs b (i + 9) + Sh.s0 (xs b (i + 1)) + xs b i) % 4294967296 := by
  have e : xs b (i + 16) = Sh.ext (Sh.exts i (Sh.first b)) := by
    rw [← xs_of b (i + 16) (i + 1) (by omega), Sh.exts]
    simp only [List.getD]
    rw [List.getElem?_append_right (by rw [Sh.exts_length, Sh.first_length]; omega), Sh.exts_length, Sh.first_length, show i + 16 - (16 + i) = 0 by omega]
    rfl
  rw [e, Sh.ext, Sh.exts_length, Sh.first_length, show 16 + i - 2 = i + 14 by omega, show 16 + i - 7 = i + 9 by omega, show 16 + i - 15 = i + 1 by omega, show 16 + i - 16 = i by omega,
    xs_of b _ i (by omega), xs_of b _ i (by omega), xs_of b _ i (by omega), xs_of b _ i (by omega)]
theorem xs_word (b : List Int) (i : Nat) (h : i < 16) : xs b i = Sh.word b i := by
  rw [← xs_of b i 0 (by omega), Sh.exts]
  simp [Sh.first, List.getD, h]

/-- A block's sixteen words brought into the eight. -/
def mixW (s : Sh.St) (w0 w1 w2 w3 w4 w5 w6 w7 w8 w9 w10 w11 w12 w13 w14 w15 : Nat) : Sh.St :=
  s.add (fr Sh.ks w0 w1 w2 w3 w4 w5 w6 w7 w8 w9 w10 w11 w12 w13 w14 w15 s.a s.b s.c s.d s.e s.f s.g s.h)
theorem mixW_eq (s : Sh.St) (b : List Int) (hok : s.Ok) (hb : Sz.Byt b) :
    Sh.mix s b = mixW s (Sh.word b 0) (Sh.word b 1) (Sh.word b 2) (Sh.word b 3) (Sh.word b 4) (Sh.word b 5) (Sh.word b 6) (Sh.word b 7) (Sh.word b 8) (Sh.word b 9) (Sh.word b 10) (Sh.word b 11) (Sh.word b 12) (Sh.word b 13) (Sh.word b 14) (Sh.word b 15) := by
  have h := fr_eq (xs b) (xs_lt b hb) (xs_step b) 64 0 s (by omega) hok
  rw [List.drop_zero] at h
  have h2 := rest_rnds (xs b) s (Sh.sched b) (fun t ht => xs_of b t 48 (by omega)) 64 0 (by omega)
  rw [Sh.rnds] at h2
  unfold Sh.mix mixW
  rw [← h2, ← h]
  simp only [Nat.zero_add]
  rw [xs_word b 0 (by omega), xs_word b 1 (by omega), xs_word b 2 (by omega), xs_word b 3 (by omega), xs_word b 4 (by omega), xs_word b 5 (by omega), xs_word b 6 (by omega), xs_word b 7 (by omega), xs_word b 8 (by omega), xs_word b 9 (by omega), xs_word b 10 (by omega), xs_word b 11 (by omega), xs_word b 12 (by omega), xs_word b 13 (by omega), xs_word b 14 (by omega), xs_word b 15 (by omega)]
end Go.Proofs.YtkdihbgjeanjdaaDoor.Fs
