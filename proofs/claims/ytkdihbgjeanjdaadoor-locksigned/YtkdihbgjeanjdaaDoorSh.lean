/- The digest of bytes as a function of lists: words of 32 bits as Nat, bytes as Int. -/
import Derived.KernelRfl
import Derived.Test.YtkdihbgjeanjdaaDoorMath
namespace Go.Proofs.YtkdihbgjeanjdaaDoor.Sh
set_option linter.unusedVariables false

def rotr (n x : Nat) : Nat := x >>> n ||| (x <<< (32 - n)) % 4294967296
def s0 (x : Nat) : Nat := (rotr 7 x ^^^ rotr 18 x) ^^^ x >>> 3
def s1 (x : Nat) : Nat := (rotr 17 x ^^^ rotr 19 x) ^^^ x >>> 10
def S0 (x : Nat) : Nat := (rotr 2 x ^^^ rotr 13 x) ^^^ rotr 22 x
def S1 (x : Nat) : Nat := (rotr 6 x ^^^ rotr 11 x) ^^^ rotr 25 x
def ch (e f g : Nat) : Nat := (e &&& f) ^^^ ((4294967295 - e) &&& g)
def maj (a b c : Nat) : Nat := ((a &&& b) ^^^ (a &&& c)) ^^^ (b &&& c)

def ks : List Nat := [1116352408, 1899447441, 3049323471, 3921009573, 961987163, 1508970993, 2453635748, 2870763221, 3624381080, 310598401, 607225278, 1426881987, 1925078388, 2162078206, 2614888103, 3248222580, 3835390401, 4022224774, 264347078, 604807628, 770255983, 1249150122, 1555081692, 1996064986, 2554220882, 2821834349, 2952996808, 3210313671, 3336571891, 3584528711, 113926993, 338241895, 666307205, 773529912, 1294757372, 1396182291, 1695183700, 1986661051, 2177026350, 2456956037, 2730485921, 2820302411, 3259730800, 3345764771, 3516065817, 3600352804, 4094571909, 275423344, 430227734, 506948616, 659060556, 883997877, 958139571, 1322822218, 1537002063, 1747873779, 1955562222, 2024104815, 2227730452, 2361852424, 2428436474, 2756734187, 3204031479, 3329325298]
theorem ks_len : ks.length = 64 := by decide
theorem ks_lt (t : Nat) : ks.getD t 0 < 4294967296 := by
  by_cases h : t < 64
  · have := (by decide : ∀ i : Fin 64, ks.getD i.1 0 < 4294967296) ⟨t, h⟩
    exact this
  · simp [List.getD, List.getElem?_eq_none (l := ks) (i := t) (by rw [ks_len]; omega)]

/-- The word at place t of a block. -/
def word (b : List Int) (t : Nat) : Nat := (b.getD (4 * t) 0).toNat * 16777216 + (b.getD (4 * t + 1) 0).toNat * 65536 + (b.getD (4 * t + 2) 0).toNat * 256 + (b.getD (4 * t + 3) 0).toNat
def first (b : List Int) : List Nat := (List.range 16).map (word b)
def ext (l : List Nat) : Nat := (s1 (l.getD (l.length - 2) 0) + l.getD (l.length - 7) 0 + s0 (l.getD (l.length - 15) 0) + l.getD (l.length - 16) 0) % 4294967296
def exts : Nat → List Nat → List Nat
  | 0, l => l
  | n + 1, l => exts n l ++ [ext (exts n l)]
def sched (b : List Int) : List Nat := exts 48 (first b)

structure St where
  (a b c d e f g h : Nat)

def rnd (s : St) (k w : Nat) : St :=
  let p := s.h + S1 s.e + ch s.e s.f s.g + k + w
  let q := S0 s.a + maj s.a s.b s.c
  ⟨(p + q) % 4294967296, s.a, s.b, s.c, (s.d + p) % 4294967296, s.e, s.f, s.g⟩
def rnds (s : St) (w : List Nat) : Nat → St
  | 0 => s
  | t + 1 => rnd (rnds s w t) (ks.getD t 0) (w.getD t 0)
def St.list (s : St) : List Nat := [s.a, s.b, s.c, s.d, s.e, s.f, s.g, s.h]
def St.add (x y : St) : St := ⟨(x.a + y.a) % 4294967296, (x.b + y.b) % 4294967296, (x.c + y.c) % 4294967296, (x.d + y.d) % 4294967296, (x.e + y.e) % 4294967296, (x.f + y.f) % 4294967296, (x.g + y.g) % 4294967296, (x.h + y.h) % 4294967296⟩
def mix (s : St) (b : List Int) : St := s.add (rnds s (sched b) 64)

def init : St := ⟨1779033703, 3144134277, 1013904242, 2773480762, 1359893119, 2600822924, 528734635, 1541459225⟩
/-- The words behind the first k blocks. -/
def comp (l : List Int) : Nat → St
  | 0 => init
  | k + 1 => mix (comp l k) ((l.drop (64 * k)).take 64)
def zeros (n : Nat) : Nat := (119 - n % 64) % 64
def be8 (n : Nat) : List Int := (List.range 8).map fun i => ((n >>> (56 - 8 * i) % 256 : Nat) : Int)
def ending (n : Nat) : List Int := (128 : Int) :: (List.replicate (zeros n) (0 : Int) ++ be8 (n * 8))
def padded (l : List Int) : List Int := l ++ ending l.length
def digest (s : St) : List Int := (List.range 32).map fun i => (((s.list.getD (i / 4) 0) >>> (24 - i % 4 * 8) % 256 : Nat) : Int)
def sum (l : List Int) : List Int := digest (comp (padded l) ((padded l).length / 64))

set_option maxRecDepth 100000 in
theorem abc : ((sum [97, 98, 99]).getD 0 0, (sum [97, 98, 99]).getD 1 0, (sum [97, 98, 99]).getD 31 0) = (186, 120, 173) := by kernel_rfl

theorem rotr_lt (n x : Nat) (h : x < 4294967296) : rotr n x < 4294967296 := by
  have h1 : x >>> n < 2 ^ 32 := by rw [Nat.shiftRight_eq_div_pow]; exact Nat.lt_of_le_of_lt (Nat.div_le_self _ _) h
  have h2 : (x <<< (32 - n)) % 4294967296 < 2 ^ 32 := Nat.mod_lt _ (by omega)
  exact Nat.or_lt_two_pow h1 h2
theorem shr_lt (n x : Nat) (h : x < 4294967296) : x >>> n < 4294967296 := by rw [Nat.shiftRight_eq_div_pow]; exact Nat.lt_of_le_of_lt (Nat.div_le_self _ _) h
theorem xor_lt {a b : Nat} (h : a < 4294967296) (h' : b < 4294967296) : a ^^^ b < 4294967296 := Nat.xor_lt_two_pow (n := 32) h h'
theorem and_lt {a b : Nat} (h : a < 4294967296) : a &&& b < 4294967296 := Nat.lt_of_le_of_lt Nat.and_le_left h
theorem s0_lt (x : Nat) (h : x < 4294967296) : s0 x < 4294967296 := xor_lt (xor_lt (rotr_lt _ _ h) (rotr_lt _ _ h)) (shr_lt _ _ h)
theorem s1_lt (x : Nat) (h : x < 4294967296) : s1 x < 4294967296 := xor_lt (xor_lt (rotr_lt _ _ h) (rotr_lt _ _ h)) (shr_lt _ _ h)
theorem S0_lt (x : Nat) (h : x < 4294967296) : S0 x < 4294967296 := xor_lt (xor_lt (rotr_lt _ _ h) (rotr_lt _ _ h)) (rotr_lt _ _ h)
theorem S1_lt (x : Nat) (h : x < 4294967296) : S1 x < 4294967296 := xor_lt (xor_lt (rotr_lt _ _ h) (rotr_lt _ _ h)) (rotr_lt _ _ h)
theorem ch_lt (e f g : Nat) (h : e < 4294967296) : ch e f g < 4294967296 := xor_lt (and_lt h) (and_lt (by omega))
theorem maj_lt (a b c : Nat) (h : a < 4294967296) (h' : b < 4294967296) : maj a b c < 4294967296 := xor_lt (xor_lt (and_lt h) (and_lt h)) (and_lt h')

theorem word_lt (b : List Int) (hb : Sz.Byt b) (t : Nat) : word b t < 4294967296 := by
  have h0 := hb.getD (4 * t)
  have h1 := hb.getD (4 * t + 1)
  have h2 := hb.getD (4 * t + 2)
  have h3 := hb.getD (4 * t + 3)
  unfold word
  omega
theorem first_length (b : List Int) : (first b).length = 16 := by simp [first]
theorem exts_length (n : Nat) (l : List Nat) : (exts n l).length = l.length + n := by
  induction n with
  | zero => rfl
  | succ n ih => rw [exts, List.length_append, ih]; simp; omega
theorem exts_lt (n : Nat) (l : List Nat) (h : ∀ x ∈ l, x < 4294967296) : ∀ x ∈ exts n l, x < 4294967296 := by
  induction n with
  | zero => exact h
  | succ n ih =>
    intro x hx
    rw [exts, List.mem_append] at hx
    rcases hx with hx | hx
    · exact ih x hx
    · rw [List.mem_singleton] at hx
      subst hx
      unfold ext
      omega
theorem first_lt (b : List Int) (hb : Sz.Byt b) : ∀ x ∈ first b, x < 4294967296 := by
  intro x hx
  simp only [first, List.mem_map] at hx
  obtain ⟨t, _, rfl⟩ := hx
  exact word_lt b hb t
theorem getD_lt {l : List Nat} {m : Nat} (h : ∀ x ∈ l, x < m) (hm : 0 < m) (i : Nat) : l.getD i 0 < m := by
  by_cases hi : i < l.length
  · simp only [List.getD, List.getElem?_eq_getElem hi, Option.getD_some]; exact h _ (List.getElem_mem hi)
  · simp [List.getD, List.getElem?_eq_none (Nat.le_of_not_lt hi), hm]
theorem sched_lt (b : List Int) (hb : Sz.Byt b) (i : Nat) : (sched b).getD i 0 < 4294967296 := getD_lt (exts_lt _ _ (first_lt b hb)) (by omega) i
theorem sched_length (b : List Int) : (sched b).length = 64 := by rw [sched, exts_length, first_length]

theorem exts_get (n : Nat) (l : List Nat) (i : Nat) (h : i < l.length + n) : ∀ m, (exts (n + m) l).getD i 0 = (exts n l).getD i 0
  | 0 => rfl
  | m + 1 => by
    rw [← exts_get n l i h m, show n + (m + 1) = (n + m) + 1 by omega, exts]
    simp only [List.getD]
    rw [List.getElem?_append_left (by rw [exts_length]; omega)]
theorem sched_lo (b : List Int) (t : Nat) (h : t < 16) : (sched b).getD t 0 = word b t := by
  have e := exts_get 0 (first b) t (by rw [first_length]; omega) 48
  rw [Nat.zero_add] at e
  rw [sched, e, exts]
  simp [first, List.getD, h]
theorem sched_hi (b : List Int) (j : Nat) (h : j < 48) : (sched b).getD (16 + j) 0 = (s1 ((sched b).getD (14 + j) 0) + (sched b).getD (9 + j) 0 + s0 ((sched b).getD (1 + j) 0) + (sched b).getD j 0) % 4294967296 := by
  have e : ∀ i, i < 16 + j → (sched b).getD i 0 = (exts j (first b)).getD i 0 := fun i hi => by
    have := exts_get j (first b) i (by rw [first_length]; exact hi) (48 - j)
    rwa [show j + (48 - j) = 48 by omega] at this
  have e1 : (sched b).getD (16 + j) 0 = ext (exts j (first b)) := by
    have := exts_get (j + 1) (first b) (16 + j) (by rw [first_length]; omega) (47 - j)
    rw [show j + 1 + (47 - j) = 48 by omega] at this
    rw [sched, this, exts]
    simp only [List.getD]
    rw [List.getElem?_append_right (by rw [exts_length, first_length]; omega), exts_length, first_length]
    simp
  rw [e1, e _ (by omega), e _ (by omega), e _ (by omega), e _ (by omega)]
  unfold ext
  rw [exts_length, first_length, show 16 + j - 2 = 14 + j by omega, show 16 + j - 7 = 9 + j by omega, show 16 + j - 15 = 1 + j by omega, show 16 + j - 16 = j by omega]

/-- All words have 32 bits. -/
def St.Ok (s : St) : Prop := s.a < 4294967296 ∧ s.b < 4294967296 ∧ s.c < 4294967296 ∧ s.d < 4294967296 ∧ s.e < 4294967296 ∧ s.f < 4294967296 ∧ s.g < 4294967296 ∧ s.h < 4294967296
theorem rnd_ok (s : St) (k w : Nat) (h : s.Ok) : (rnd s k w).Ok := by
  obtain ⟨h1, h2, h3, h4, h5, h6, h7, h8⟩ := h
  exact ⟨Nat.mod_lt _ (by omega), h1, h2, h3, Nat.mod_lt _ (by omega), h5, h6, h7⟩
theorem rnds_ok (s : St) (w : List Nat) (h : s.Ok) (k : Nat) : (rnds s w k).Ok := by
  induction k with
  | zero => exact h
  | succ k ih => exact rnd_ok _ _ _ ih
theorem add_ok (x y : St) : (x.add y).Ok := ⟨Nat.mod_lt _ (by omega), Nat.mod_lt _ (by omega), Nat.mod_lt _ (by omega), Nat.mod_lt _ (by omega), Nat.mod_lt _ (by omega), Nat.mod_lt _ (by omega), Nat.mod_lt _ (by omega), Nat.mod_lt _ (by omega)⟩
theorem mix_ok (s : St) (b : List Int) : (mix s b).Ok := add_ok _ _
theorem init_ok : init.Ok := by unfold St.Ok init; decide
theorem comp_ok (l : List Int) (k : Nat) : (comp l k).Ok := by
  cases k with
  | zero => exact init_ok
  | succ k => exact mix_ok _ _
/-- The first k of eight words added. -/
def padd (x y : St) (k : Nat) : List Nat := (List.range 8).map fun i => if i < k then (x.list.getD i 0 + y.list.getD i 0) % 4294967296 else x.list.getD i 0
theorem padd_zero (x y : St) : padd x y 0 = x.list := rfl
theorem padd_all (x y : St) : padd x y 8 = (x.add y).list := rfl
theorem padd_length (x y : St) (k : Nat) : (padd x y k).length = 8 := by simp [padd]
theorem padd_get (x y : St) (k : Nat) (h : k < 8) : (padd x y k).getD k 0 = x.list.getD k 0 := by
  simp [padd, List.getD, h]
theorem padd_step (x y : St) (k : Nat) (h : k < 8) : (padd x y k).set k ((x.list.getD k 0 + y.list.getD k 0) % 4294967296) = padd x y (k + 1) := by
  apply List.ext_getElem
  · simp [padd]
  · intro i h1 h2
    simp only [padd, List.getElem_set, List.getElem_map, List.getElem_range]
    by_cases e : k = i
    · subst e; simp
    · rw [if_neg e]
      by_cases e2 : i < k
      · rw [if_pos e2, if_pos (by omega)]
      · rw [if_neg e2, if_neg (by omega)]
theorem list_lt (s : St) (h : s.Ok) : ∀ x ∈ s.list, x < 4294967296 := by
  obtain ⟨h1, h2, h3, h4, h5, h6, h7, h8⟩ := h
  intro x hx
  simp only [St.list, List.mem_cons, List.not_mem_nil, or_false] at hx
  rcases hx with rfl | rfl | rfl | rfl | rfl | rfl | rfl | rfl <;> assumption
end Go.Proofs.YtkdihbgjeanjdaaDoor.Sh
