/- The texts Sh, ShTurn, ShSpread, ShMix, GSh, Mc, Fs, Ky, one behind the other. -/
import Derived.KernelRfl
import Derived.Test.YtphdnbflogobfaaDoorZMt
import Derived.Test.YtphdnbflogobfaaDoorHas
import Derived.Test.YtphdnbflogobfaaDoorOwns
import Derived.Deep.QuietTactic
import Derived.BigQuiet
import Derived.BigRegion
import Derived.Deep.WholeRow
import Derived.Laws.CopyOwn
import Derived.WalkSmall
import Derived.Deep.MidRow
import Derived.Deep.RegionHeld2
import Derived.Laws.BitsAllLaws
/- The digest of bytes as a function of lists: words of 32 bits as Nat, bytes as Int. -/
namespace Go.Proofs.YtphdnbflogobfaaDoor.Sh
set_option linter.unusedVariables false

def rotr (n x : Nat) : Nat := x >>> n ||| (x <<< (32 - n)) % 4294967296
def s0 (x : Nat) : Nat := (rotr 7 x ^^^ rotr 18 x) ^^^ x >>> 3
def s1 (x : Nat) : Nat := (rotr 17 x ^^^ rotr 19 x) ^^^ x >>> 10
def S0 (x : Nat) : Nat := (rotr 2 x ^^^ rotr 13 x) ^^^ rotr 22 x
def S1 (x : Nat) : Nat := (rotr 6 x ^^^ rotr 11 x) ^^^ rotr 25 x
def ch (e f g : Nat) : Nat := (e &&& f) ^^^ ((4294967295 - e) &&& g)
def maj (a b c : Nat) : Nat := ((a &&& b) ^^^ (a &&& c)) ^^^ (b &&& c)

def ks : List Nat := [1116352408, 1899447441, 3049323471, 3921009573, 961987163, 1508970993, 2453635748, 2870763221, 3624381080, 310598401, 607225278, 1426881987, 1925078388, 2162078206, 2614888103, 3248222580, 3835390401, 4022224774, 264347078, 604807628, 770255983, 1249150122, 1555081692, 1996064986, 2554220882, 2821834349, 2952996808, 3210313671, 3336571891, 3584528711, 113926993, 338241895, 666307205, 773529912, 1294757372, 1396182291, 1695183700, 1986661051, 2177026350, 2456956037, 2730485921, 2820302411, 3259730800, 3345764771, 3516065817, 3600352804, 4094571909, 275423344, 430227734, 506948616, 659060556, 883997877, 958139571, 1322822218, 1537002063, 1747873779, 1955562222, 2024104815, 2227730452, 2361852424, 2428436474, 2756734187, 3204031479, 3329325298]
theorem ks_len : ks.length = 64 := by decide
theorem ks_lt (t : Nat) : ks.getD t 0 < 4294967296 := by
  by_cases h : t < 64
  · have := (by decide : ∀ i : Fin 64, ks.getD i.1 0 < 4294967296) ⟨t, h⟩
    exact this
  · simp [List.getD, List.getElem?_eq_none (l := ks) (i := t) (by rw [ks_len]; omega)]

/-- The word at place t of a block. -/
def word (b : List Int) (t : Nat) : Nat := (b.getD (4 * t) 0).toNat * 16777216 + (b.getD (4 * t + 1) 0).toNat * 65536 + (b.getD (4 * t + 2) 0).toNat * 256 + (b.getD (4 * t + 3) 0).toNat
def first (b : List Int) : List Nat := (List.range 16).map (word b)
def ext (l : List Nat) : Nat := (s1 (l.getD (l.length - 2) 0) + l.getD (l.length - 7) 0 + s0 (l.getD (l.length - 15) 0) + l.getD (l.length - 16) 0) % 4294967296
def exts : Nat → List Nat → List Nat
  | 0, l => l
  | n + 1, l => exts n l ++ [ext (exts n l)]
def sched (b : List Int) : List Nat := exts 48 (first b)

structure St where
  (a b c d e f g h : Nat)

def rnd (s : St) (k w : Nat) : St :=
  let p := s.h + S1 s.e + ch s.e s.f s.g + k + w
  let q := S0 s.a + maj s.a s.b s.c
  ⟨(p + q) % 4294967296, s.a, s.b, s.c, (s.d + p) % 4294967296, s.e, s.f, s.g⟩
def rnds (s : St) (w : List Nat) : Nat → St
  | 0 => s
  | t + 1 => rnd (rnds s w t) (ks.getD t 0) (w.getD t 0)
def St.list (s : St) : List Nat := [s.a, s.b, s.c, s.d, s.e, s.f, s.g, s.h]
def St.add (x y : St) : St := ⟨(x.a + y.a) % 4294967296, (x.b + y.b) % 4294967296, (x.c + y.c) % 4294967296, (x.d + y.d) % 4294967296, (x.e + y.e) % 4294967296, (x.f + y.f) % 4294967296, (x.g + y.g) % 4294967296, (x.h + y.h) % 4294967296⟩
def mix (s : St) (b : List Int) : St := s.add (rnds s (sched b) 64)

def init : St := ⟨1779033703, 3144134277, 1013904242, 2773480762, 1359893119, 2600822924, 528734635, 1541459225⟩
/-- The words behind the first k blocks. -/
def comp (l : List Int) : Nat → St
  | 0 => init
  | k + 1 => mix (comp l k) ((l.drop (64 * k)).take 64)
def zeros (n : Nat) : Nat := (119 - n % 64) % 64
def be8 (n : Nat) : List Int := (List.range 8).map fun i => ((n >>> (56 - 8 * i) % 256 : Nat) : Int)
def ending (n : Nat) : List Int := (128 : Int) :: (List.replicate (zeros n) (0 : Int) ++ be8 (n * 8))
def padded (l : List Int) : List Int := l ++ ending l.length
def digest (s : St) : List Int := (List.range 32).map fun i => (((s.list.getD (i / 4) 0) >>> (24 - i % 4 * 8) % 256 : Nat) : Int)
def sum (l : List Int) : List Int := digest (comp (padded l) ((padded l).length / 64))

set_option maxRecDepth 100000 in
theorem abc : ((sum [97, 98, 99]).getD 0 0, (sum [97, 98, 99]).getD 1 0, (sum [97, 98, 99]).getD 31 0) = (186, 120, 173) := by kernel_rfl

theorem rotr_lt (n x : Nat) (h : x < 4294967296) : rotr n x < 4294967296 := by
  have h1 : x >>> n < 2 ^ 32 := by rw [Nat.shiftRight_eq_div_pow]; exact Nat.lt_of_le_of_lt (Nat.div_le_self _ _) h
  have h2 : (x <<< (32 - n)) % 4294967296 < 2 ^ 32 := Nat.mod_lt _ (by omega)
  exact Nat.or_lt_two_pow h1 h2
theorem shr_lt (n x : Nat) (h : x < 4294967296) : x >>> n < 4294967296 := by rw [Nat.shiftRight_eq_div_pow]; exact Nat.lt_of_le_of_lt (Nat.div_le_self _ _) h
theorem xor_lt {a b : Nat} (h : a < 4294967296) (h' : b < 4294967296) : a ^^^ b < 4294967296 := Nat.xor_lt_two_pow (n := 32) h h'
theorem and_lt {a b : Nat} (h : a < 4294967296) : a &&& b < 4294967296 := Nat.lt_of_le_of_lt Nat.and_le_left h
theorem s0_lt (x : Nat) (h : x < 4294967296) : s0 x < 4294967296 := xor_lt (xor_lt (rotr_lt _ _ h) (rotr_lt _ _ h)) (shr_lt _ _ h)
theorem s1_lt (x : Nat) (h : x < 4294967296) : s1 x < 4294967296 := xor_lt (xor_lt (rotr_lt _ _ h) (rotr_lt _ _ h)) (shr_lt _ _ h)
theorem S0_lt (x : Nat) (h : x < 4294967296) : S0 x < 4294967296 := xor_lt (xor_lt (rotr_lt _ _ h) (rotr_lt _ _ h)) (rotr_lt _ _ h)
theorem S1_lt (x : Nat) (h : x < 4294967296) : S1 x < 4294967296 := xor_lt (xor_lt (rotr_lt _ _ h) (rotr_lt _ _ h)) (rotr_lt _ _ h)
theorem ch_lt (e f g : Nat) (h : e < 4294967296) : ch e f g < 4294967296 := xor_lt (and_lt h) (and_lt (by omega))
theorem maj_lt (a b c : Nat) (h : a < 4294967296) (h' : b < 4294967296) : maj a b c < 4294967296 := xor_lt (xor_lt (and_lt h) (and_lt h)) (and_lt h')

theorem word_lt (b : List Int) (hb : Sz.Byt b) (t : Nat) : word b t < 4294967296 := by
  have h0 := hb.getD (4 * t)
  have h1 := hb.getD (4 * t + 1)
  have h2 := hb.getD (4 * t + 2)
  have h3 := hb.getD (4 * t + 3)
  unfold word
  omega
theorem first_length (b : List Int) : (first b).length = 16 := by simp [first]
theorem exts_length (n : Nat) (l : List Nat) : (exts n l).length = l.length + n := by
  induction n with
  | zero => rfl
  | succ n ih => rw [exts, List.length_append, ih]; simp; omega
theorem exts_lt (n : Nat) (l : List Nat) (h : ∀ x ∈ l, x < 4294967296) : ∀ x ∈ exts n l, x < 4294967296 := by
  induction n with
  | zero => exact h
  | succ n ih =>
    intro x hx
    rw [exts, List.mem_append] at hx
    rcases hx with hx | hx
    · exact ih x hx
    · rw [List.mem_singleton] at hx
      subst hx
      unfold ext
      omega
theorem first_lt (b : List Int) (hb : Sz.Byt b) : ∀ x ∈ first b, x < 4294967296 := by
  intro x hx
  simp only [first, List.mem_map] at hx
  obtain ⟨t, _, rfl⟩ := hx
  exact word_lt b hb t
theorem getD_lt {l : List Nat} {m : Nat} (h : ∀ x ∈ l, x < m) (hm : 0 < m) (i : Nat) : l.getD i 0 < m := by
  by_cases hi : i < l.length
  · simp only [List.getD, List.getElem?_eq_getElem hi, Option.getD_some]; exact h _ (List.getElem_mem hi)
  · simp [List.getD, List.getElem?_eq_none (Nat.le_of_not_lt hi), hm]
theorem sched_lt (b : List Int) (hb : Sz.Byt b) (i : Nat) : (sched b).getD i 0 < 4294967296 := getD_lt (exts_lt _ _ (first_lt b hb)) (by omega) i
theorem sched_length (b : List Int) : (sched b).length = 64 := by rw [sched, exts_length, first_length]

theorem exts_get (n : Nat) (l : List Nat) (i : Nat) (h : i < l.length + n) : ∀ m, (exts (n + m) l).getD i 0 = (exts n l).getD i 0
  | 0 => rfl
  | m + 1 => by
    rw [← exts_get n l i h m, show n + (m + 1) = (n + m) + 1 by omega, exts]
    simp only [List.getD]
    rw [List.getElem?_append_left (by rw [exts_length]; omega)]
theorem sched_lo (b : List Int) (t : Nat) (h : t < 16) : (sched b).getD t 0 = word b t := by
  have e := exts_get 0 (first b) t (by rw [first_length]; omega) 48
  rw [Nat.zero_add] at e
  rw [sched, e, exts]
  simp [first, List.getD, h]
theorem sched_hi (b : List Int) (j : Nat) (h : j < 48) : (sched b).getD (16 + j) 0 = (s1 ((sched b).getD (14 + j) 0) + (sched b).getD (9 + j) 0 + s0 ((sched b).getD (1 + j) 0) + (sched b).getD j 0) % 4294967296 := by
  have e : ∀ i, i < 16 + j → (sched b).getD i 0 = (exts j (first b)).getD i 0 := fun i hi => by
    have := exts_get j (first b) i (by rw [first_length]; exact hi) (48 - j)
    rwa [show j + (48 - j) = 48 by omega] at this
  have e1 : (sched b).getD (16 + j) 0 = ext (exts j (first b)) := by
    have := exts_get (j + 1) (first b) (16 + j) (by rw [first_length]; omega) (47 - j)
    rw [show j + 1 + (47 - j) = 48 by omega] at this
    rw [sched, this, exts]
    simp only [List.getD]
    rw [List.getElem?_append_right (by rw [exts_length, first_length]; omega), exts_length, first_length]
    simp
  rw [e1, e _ (by omega), e _ (by omega), e _ (by omega), e _ (by omega)]
  unfold ext
  rw [exts_length, first_length, show 16 + j - 2 = 14 + j by omega, show 16 + j - 7 = 9 + j by omega, show 16 + j - 15 = 1 + j by omega, show 16 + j - 16 = j by omega]

/-- All words have 32 bits. -/
def St.Ok (s : St) : Prop := s.a < 4294967296 ∧ s.b < 4294967296 ∧ s.c < 4294967296 ∧ s.d < 4294967296 ∧ s.e < 4294967296 ∧ s.f < 4294967296 ∧ s.g < 4294967296 ∧ s.h < 4294967296
theorem rnd_ok (s : St) (k w : Nat) (h : s.Ok) : (rnd s k w).Ok := by
  obtain ⟨h1, h2, h3, h4, h5, h6, h7, h8⟩ := h
  exact ⟨Nat.mod_lt _ (by omega), h1, h2, h3, Nat.mod_lt _ (by omega), h5, h6, h7⟩
theorem rnds_ok (s : St) (w : List Nat) (h : s.Ok) (k : Nat) : (rnds s w k).Ok := by
  induction k with
  | zero => exact h
  | succ k ih => exact rnd_ok _ _ _ ih
theorem add_ok (x y : St) : (x.add y).Ok := ⟨Nat.mod_lt _ (by omega), Nat.mod_lt _ (by omega), Nat.mod_lt _ (by omega), Nat.mod_lt _ (by omega), Nat.mod_lt _ (by omega), Nat.mod_lt _ (by omega), Nat.mod_lt _ (by omega), Nat.mod_lt _ (by omega)⟩
theorem mix_ok (s : St) (b : List Int) : (mix s b).Ok := add_ok _ _
theorem init_ok : init.Ok := by unfold St.Ok init; decide
theorem comp_ok (l : List Int) (k : Nat) : (comp l k).Ok := by
  cases k with
  | zero => exact init_ok
  | succ k => exact mix_ok _ _
/-- The first k of eight words added. -/
def padd (x y : St) (k : Nat) : List Nat := (List.range 8).map fun i => if i < k then (x.list.getD i 0 + y.list.getD i 0) % 4294967296 else x.list.getD i 0
theorem padd_zero (x y : St) : padd x y 0 = x.list := rfl
theorem padd_all (x y : St) : padd x y 8 = (x.add y).list := rfl
theorem padd_length (x y : St) (k : Nat) : (padd x y k).length = 8 := by simp [padd]
theorem padd_get (x y : St) (k : Nat) (h : k < 8) : (padd x y k).getD k 0 = x.list.getD k 0 := by
  simp [padd, List.getD, h]
theorem padd_step (x y : St) (k : Nat) (h : k < 8) : (padd x y k).set k ((x.list.getD k 0 + y.list.getD k 0) % 4294967296) = padd x y (k + 1) := by
  apply List.ext_getElem
  · simp [padd]
  · intro i h1 h2
    simp only [padd, List.getElem_set, List.getElem_map, List.getElem_range]
    by_cases e : k = i
    · subst e; simp
    · rw [if_neg e]
      by_cases e2 : i < k
      · rw [if_pos e2, if_pos (by omega)]
      · rw [if_neg e2, if_neg (by omega)]
theorem list_lt (s : St) (h : s.Ok) : ∀ x ∈ s.list, x < 4294967296 := by
  obtain ⟨h1, h2, h3, h4, h5, h6, h7, h8⟩ := h
  intro x hx
  simp only [St.list, List.mem_cons, List.not_mem_nil, or_false] at hx
  rcases hx with rfl | rfl | rfl | rfl | rfl | rfl | rfl | rfl <;> assumption
end Go.Proofs.YtphdnbflogobfaaDoor.Sh

/- The contract of the turn of a word. -/
namespace Go.Proofs.YtphdnbflogobfaaDoor
open Go.RowKit
set_option linter.unusedVariables false

theorem rot_mask (n : Nat) (h0 : 0 < n) (h1 : n < 32) : bits BinOp.and IntKind.u64 (IntKind.u64.wrap (-(n : Int))) 31 = ((32 - n : Nat) : Int) := by
  have h : IntKind.u64.wrap (-(n : Int)) = ((18446744073709551616 - n : Nat) : Int) := by
    simp [IntKind.wrap, IntKind.bits, IntKind.signed]; omega
  rw [h]
  have := u64_and_nat (18446744073709551616 - n) 31 (by omega) (by omega)
  rw [show ((31 : Nat) : Int) = 31 from rfl] at this
  rw [this, nat_mask5]
  congr 1; omega

theorem rot_end (n s x : Nat) (hs : n + s = 32) (h0 : 0 < n) (hx : x < 4294967296) : bits BinOp.or IntKind.u32 (IntKind.u32.wrap ((x : Int) * 2 ^ s)) ((x : Int) / 2 ^ n) = ((Sh.rotr n x : Nat) : Int) := by
  have e1 : IntKind.u32.wrap ((x : Int) * 2 ^ s) = ((x <<< s % 4294967296 : Nat) : Int) := by
    rw [IntKind.wrap_u32', Nat.shiftLeft_eq, Int.natCast_emod, Int.natCast_mul, Int.natCast_pow]; rfl
  have e2 : (x : Int) / 2 ^ n = ((x >>> n : Nat) : Int) := by rw [Nat.shiftRight_eq_div_pow]; push_cast; rfl
  rw [e1, e2, u32_or_nat _ _ (Nat.mod_lt _ (by omega)) (Sh.shr_lt _ _ hx), Nat.or_comm]
  unfold Sh.rotr
  rw [show 32 - n = s by omega]

theorem rotl_any (n x : Nat) (w : World) (h0 : 0 < n) (h1 : n < 32) (hx : x < 4294967296) :
    Calls Tryd.prog 59 #[.int .u32 x, .int .i64 (-(n : Int))] w fun e w' => e = .returned (.int .u32 (Sh.rotr n x : Nat)) ∧ w = w' := by
  obtain ⟨s, hs⟩ : ∃ s, n + s = 32 := ⟨32 - n, by omega⟩
  have hb := rot_mask n h0 h1
  rw [show 32 - n = s by omega] at hb
  have he := rot_end n s x hs h0 hx
  have hm : (32 : Int) - s = n := by omega
  have HE := hide he
  clear he
  have hsu : (s : Int) < 32 := by omega
  go_enter Tryd.func59, Tryd.ntmps59
  go_wp2
  go_ret
  exact ⟨ret_int (by rw [← HE.out, IntKind.wrap_u32']), rfl⟩

theorem turn_any (n x : Nat) (w : World) (h0 : 0 < n) (h1 : n < 32) (hx : x < 4294967296) :
    Calls Tryd.prog 53 #[.int .u32 x, .int .i64 n] w fun e w' => e = .returned (.int .u32 (Sh.rotr n x : Nat)) ∧ w = w' := by
  go_enter Tryd.func53, Tryd.ntmps53
  go_wp2_with fail
  refine (rotl_any n x w h0 h1 hx).mono ?_
  rintro e w1 ⟨rfl, rfl⟩
  go_wp2
  go_ret
  exact ⟨rfl, rfl⟩

theorem turn_int (n : Int) (x : Nat) (w : World) (h0 : 0 < n) (h1 : n < 32) (hx : x < 4294967296) :
    Calls Tryd.prog 53 #[.int .u32 x, .int .i64 n] w fun e w' => e = .returned (.int .u32 (Sh.rotr n.toNat x : Nat)) ∧ w = w' := by
  have h := turn_any n.toNat x w (by omega) (by omega) hx
  rwa [show ((n.toNat : Nat) : Int) = n by omega] at h

theorem turn_q (n : Int) (x : Nat) (w : World) (h0 : 0 < n) (h1 : n < 32) (hx : x < 4294967296) :
    Calls Tryd.prog 53 #[.int .u32 x, .int .i64 n] w fun e w' => e = .returned (.int .u32 (Sh.rotr n.toNat x : Nat)) ∧ w' = w :=
  (turn_int n x w h0 h1 hx).mono fun _ _ ⟨a, b⟩ => ⟨a, b.symm⟩

theorem shr_cast (x n m : Nat) (h : 2 ^ n = m) : (x : Int) / (m : Nat) = ((x >>> n : Nat) : Int) := by rw [Nat.shiftRight_eq_div_pow, h]; rfl
theorem s0_bits (x : Nat) (h : x < 4294967296) : bits .xor .u32 (bits .xor .u32 (Sh.rotr 7 x : Nat) (Sh.rotr 18 x : Nat)) ((x : Int) / 8) = (Sh.s0 x : Nat) := by
  have e := shr_cast x 3 8 rfl
  rw [show ((8 : Nat) : Int) = 8 from rfl] at e
  rw [e, u32_xor_nat _ _ (Sh.rotr_lt _ _ h) (Sh.rotr_lt _ _ h), u32_xor_nat _ _ (Sh.xor_lt (Sh.rotr_lt _ _ h) (Sh.rotr_lt _ _ h)) (Sh.shr_lt _ _ h)]
  rfl
theorem s1_bits (x : Nat) (h : x < 4294967296) : bits .xor .u32 (bits .xor .u32 (Sh.rotr 17 x : Nat) (Sh.rotr 19 x : Nat)) ((x : Int) / 1024) = (Sh.s1 x : Nat) := by
  have e := shr_cast x 10 1024 rfl
  rw [show ((1024 : Nat) : Int) = 1024 from rfl] at e
  rw [e, u32_xor_nat _ _ (Sh.rotr_lt _ _ h) (Sh.rotr_lt _ _ h), u32_xor_nat _ _ (Sh.xor_lt (Sh.rotr_lt _ _ h) (Sh.rotr_lt _ _ h)) (Sh.shr_lt _ _ h)]
  rfl
theorem not_bits (e : Nat) (h : e < 4294967296) : bits .xor .u32 (if IntKind.u32.signed = true then -1 else IntKind.u32.max) (e : Int) = ((4294967295 - e : Nat) : Int) := by
  have h1 : (if IntKind.u32.signed = true then -1 else IntKind.u32.max) = ((4294967295 : Nat) : Int) := by decide
  rw [h1, u32_xor_nat _ _ (by omega) h]
  congr 1
  apply Nat.eq_of_testBit_eq
  intro i
  rw [Nat.testBit_xor, show (4294967295 : Nat) - e = 2 ^ 32 - (e + 1) by omega, Nat.testBit_two_pow_sub_succ h, show (4294967295 : Nat) = 2 ^ 32 - 1 by rfl, Nat.testBit_two_pow_sub_one]
  by_cases hi : i < 32
  · simp [hi]
  · have : e.testBit i = false := Nat.testBit_lt_two_pow (Nat.lt_of_lt_of_le h (show (2 : Nat) ^ 32 ≤ 2 ^ i from Nat.pow_le_pow_right (by decide) (Nat.le_of_not_lt hi)))
    simp [hi, this]
theorem S1_bits (x : Nat) (h : x < 4294967296) : bits .xor .u32 (bits .xor .u32 (Sh.rotr 6 x : Nat) (Sh.rotr 11 x : Nat)) (Sh.rotr 25 x : Nat) = (Sh.S1 x : Nat) := by
  rw [u32_xor_nat _ _ (Sh.rotr_lt _ _ h) (Sh.rotr_lt _ _ h), u32_xor_nat _ _ (Sh.xor_lt (Sh.rotr_lt _ _ h) (Sh.rotr_lt _ _ h)) (Sh.rotr_lt _ _ h)]
  rfl
theorem S0_bits (x : Nat) (h : x < 4294967296) : bits .xor .u32 (bits .xor .u32 (Sh.rotr 2 x : Nat) (Sh.rotr 13 x : Nat)) (Sh.rotr 22 x : Nat) = (Sh.S0 x : Nat) := by
  rw [u32_xor_nat _ _ (Sh.rotr_lt _ _ h) (Sh.rotr_lt _ _ h), u32_xor_nat _ _ (Sh.xor_lt (Sh.rotr_lt _ _ h) (Sh.rotr_lt _ _ h)) (Sh.rotr_lt _ _ h)]
  rfl
theorem ch_bits (e f g : Nat) (he : e < 4294967296) (hf : f < 4294967296) (hg : g < 4294967296) :
    bits .xor .u32 (bits .and .u32 (e : Int) (f : Int)) (bits .and .u32 (bits .xor .u32 (if IntKind.u32.signed = true then -1 else IntKind.u32.max) (e : Int)) (g : Int)) = (Sh.ch e f g : Nat) := by
  rw [not_bits e he, u32_and_nat _ _ he hf, u32_and_nat _ _ (by omega) hg, u32_xor_nat _ _ (Sh.and_lt he) (Sh.and_lt (by omega))]
  rfl
theorem maj_bits (a b c : Nat) (ha : a < 4294967296) (hb : b < 4294967296) (hc : c < 4294967296) :
    bits .xor .u32 (bits .xor .u32 (bits .and .u32 (a : Int) (b : Int)) (bits .and .u32 (a : Int) (c : Int))) (bits .and .u32 (b : Int) (c : Int)) = (Sh.maj a b c : Nat) := by
  rw [u32_and_nat _ _ ha hb, u32_and_nat _ _ ha hc, u32_and_nat _ _ hb hc, u32_xor_nat _ _ (Sh.and_lt ha) (Sh.and_lt ha), u32_xor_nat _ _ (Sh.xor_lt (Sh.and_lt ha) (Sh.and_lt ha)) (Sh.and_lt hb)]
  rfl
theorem word_or (x0 x1 x2 x3 : Int) (b0 : 0 ≤ x0 ∧ x0 < 256) (b1 : 0 ≤ x1 ∧ x1 < 256) (b2 : 0 ≤ x2 ∧ x2 < 256) (b3 : 0 ≤ x3 ∧ x3 < 256) :
    bits .or .u32 (bits .or .u32 (bits .or .u32 (x0 * 16777216) (x1 * 65536)) (x2 * 256)) x3 = ((x0.toNat * 16777216 + x1.toNat * 65536 + x2.toNat * 256 + x3.toNat : Nat) : Int) := by
  obtain ⟨a, rfl⟩ := Int.eq_ofNat_of_zero_le b0.1
  obtain ⟨b, rfl⟩ := Int.eq_ofNat_of_zero_le b1.1
  obtain ⟨c, rfl⟩ := Int.eq_ofNat_of_zero_le b2.1
  obtain ⟨d, rfl⟩ := Int.eq_ofNat_of_zero_le b3.1
  simp only [Int.toNat_natCast]
  rw [show (a : Int) * 16777216 = ((a * 16777216 : Nat) : Int) by omega, show (b : Int) * 65536 = ((b * 65536 : Nat) : Int) by omega, show (c : Int) * 256 = ((c * 256 : Nat) : Int) by omega]
  have hb : b < 256 := by omega
  have hc : c < 256 := by omega
  have hd : d < 256 := by omega
  rw [u32_or_nat _ _ (by omega) (by omega), nat_join 24 _ _ (by omega) (by omega), u32_or_nat _ _ (by omega) (by omega), nat_join 16 _ _ (by omega) (by omega), u32_or_nat _ _ (by omega) (by omega), nat_join 8 _ _ (by omega) (by omega)]
end Go.Proofs.YtphdnbflogobfaaDoor

/- The contract of spread: a block's words and those that are made out of them. -/
namespace Go.Proofs.YtphdnbflogobfaaDoor
open Go.RowKit
set_option linter.unusedVariables false

def wvals (l : List Nat) : List Value := l.map (fun x => Value.int .u32 (x : Nat))

theorem wvals_length (l : List Nat) : (wvals l).length = l.length := by simp [wvals]
theorem wvals_get (l : List Nat) (j : Nat) (h : j < l.length) : (wvals l)[j]? = some (.int .u32 (l.getD j 0 : Nat)) := by
  simp [wvals, List.getD, List.getElem?_eq_getElem h]

theorem wvals_one (l : List Nat) : ∀ u ∈ wvals l, u.oneCell' = true := by
  intro u hu
  obtain ⟨x, _, rfl⟩ := List.mem_map.1 hu
  rfl

/-- The words of the first k places, and 0 behind them. -/
def part1 (l : List Int) (k : Nat) : List Nat := (List.range k).map (Sh.word l) ++ List.replicate (64 - k) 0
theorem part1_length (l : List Int) (k : Nat) (h : k ≤ 64) : (part1 l k).length = 64 := by simp [part1]; omega
theorem part1_zero (l : List Int) : part1 l 0 = List.replicate 64 0 := rfl

theorem part1_step (l : List Int) (k : Nat) (h : k < 64) : (wvals (part1 l k)).set k (.int .u32 (Sh.word l k : Nat)) = wvals (part1 l (k + 1)) := by
  unfold wvals
  rw [← List.map_set]
  congr 1
  unfold part1
  rw [List.range_succ, List.map_append, List.append_assoc, List.set_append_right _ _ (by simp), show 64 - k = (64 - (k + 1)) + 1 by omega, List.replicate_succ]
  simp
/-- The words as far as they are made, and 0 behind them. -/
def part2 (l : List Int) (j : Nat) : List Nat := Sh.exts j (Sh.first l) ++ List.replicate (48 - j) 0
theorem part2_zero (l : List Int) : part2 l 0 = part1 l 16 := rfl
theorem part2_all (l : List Int) : part2 l 48 = Sh.sched l := by simp [part2, Sh.sched]
theorem part2_length (l : List Int) (j : Nat) (h : j ≤ 48) : (part2 l j).length = 64 := by simp [part2, Sh.exts_length, Sh.first_length]; omega
theorem part2_get (l : List Int) (j i : Nat) (h : i < 16 + j) : (part2 l j).getD i 0 = (Sh.exts j (Sh.first l)).getD i 0 := by
  simp only [List.getD, part2]
  rw [List.getElem?_append_left (by rw [Sh.exts_length, Sh.first_length]; exact h)]
theorem part2_step (l : List Int) (j : Nat) (h : j < 48) : (wvals (part2 l j)).set (16 + j) (.int .u32 (Sh.ext (Sh.exts j (Sh.first l)) : Nat)) = wvals (part2 l (j + 1)) := by
  unfold wvals
  rw [← List.map_set]
  congr 1
  unfold part2
  rw [Sh.exts, List.append_assoc, List.set_append_right _ _ (by rw [Sh.exts_length, Sh.first_length]; omega), show 48 - j = (48 - (j + 1)) + 1 by omega, List.replicate_succ]
  simp [Sh.exts_length, Sh.first_length]

set_option maxRecDepth 100000 in
set_option maxHeartbeats 800000 in
theorem spread_any (l : List Int) (w : World) (hl : l.length = 64) (hb : Sz.Byt l) :
    Calls Tryd.prog 52 #[.agg (vals l).toArray] w fun e w' => e = .returned (.agg (wvals (Sh.sched l)).toArray) ∧ Below w.heap.size w w' := by
  go_enter Tryd.func52, Tryd.ntmps52
  go_wp2
  go_loopw [11] (fun i wr => ∃ k : Nat, k ≤ 16 ∧ i = .int .i64 k ∧ Below w.heap.size w wr ∧ Is wr w.heap.size (vals l) 74 ∧ (∃ c, c.length = 64 ∧ Is wr (w.heap.size + 1) c 96) ∧
      Is wr (w.heap.size + 1 + 1) (wvals (part1 l k)) 96) (fun i _ => 16 - (intOf i).toNat)
  case atStart =>
    refine ⟨0, by omega, rfl, below_alloc3 _ _ _ _, ((Is.new w (vals l) _).alloc _).alloc _, ⟨wvals (part1 l 0), by rw [wvals_length, part1_length _ _ (by omega)], (Is.new' (wvals (part1 l 0)) 96 (by simp)).alloc _⟩, Is.new' (wvals (part1 l 0)) 96 (by simp)⟩
  case round =>
    obtain ⟨k, hk, rfl, hbel, h1, ⟨c, hcl, h2⟩, h3⟩ := hrel
    by_cases hlt : k < 16
    · have H3 := hide h3
      have H1 := hide h1
      have H2 := hide h2
      have hc0 : wr.cell? ⟨w.heap.size, 4 * k, none⟩ = some (.int .u8 (l.getD (4 * k) 0)) := by rw [h1.cell, vals_get l _ (by omega)]
      have hc1 : wr.cell? ⟨w.heap.size, 4 * k + 1, none⟩ = some (.int .u8 (l.getD (4 * k + 1) 0)) := by rw [h1.cell, vals_get l _ (by omega)]
      have hc2 : wr.cell? ⟨w.heap.size, 4 * k + 2, none⟩ = some (.int .u8 (l.getD (4 * k + 2) 0)) := by rw [h1.cell, vals_get l _ (by omega)]
      have hc3 : wr.cell? ⟨w.heap.size, 4 * k + 3, none⟩ = some (.int .u8 (l.getD (4 * k + 3) 0)) := by rw [h1.cell, vals_get l _ (by omega)]
      have hw := h3.cell k
      rw [wvals_get _ _ (by rw [part1_length _ _ (by omega)]; omega)] at hw
      have hf := h3.frozen k
      have b0 := hb.getD (4 * k)
      have b1 := hb.getD (4 * k + 1)
      have b2 := hb.getD (4 * k + 2)
      have b3 := hb.getD (4 * k + 3)
      have HW : Hid (_ = ((Sh.word l k : Nat) : Int)) := word_or _ _ _ _ b0 b1 b2 b3
      generalize l.getD (4 * k) 0 = x0 at *
      generalize l.getD (4 * k + 1) 0 = x1 at *
      generalize l.getD (4 * k + 2) 0 = x2 at *
      generalize l.getD (4 * k + 3) 0 = x3 at *
      clear h1 h2 h3
      go_wp2
      go_region
      go_wp2
      go_roundw
      case rel =>
        refine ⟨k + 1, by omega, by go_num, (hbel.setCell (p := ⟨w.heap.size + 1 + 1, k, none⟩) (by show w.heap.size ≤ w.heap.size + 1 + 1; omega) _).drew, (H1.out.other ⟨w.heap.size + 1 + 1, k, none⟩ _ (by show w.heap.size + 1 + 1 ≠ w.heap.size; omega)).drew, ⟨c, hcl, (H2.out.other ⟨w.heap.size + 1 + 1, k, none⟩ _ (by show w.heap.size + 1 + 1 ≠ w.heap.size + 1; omega)).drew⟩, ?_⟩
        rw [← part1_step l k (by omega), ← HW.out]
        exact (H3.out.set k _).drew
      case measure => simp [intOf]; omega
    · have hk16 : k = 16 := by omega
      rw [hk16, ← part2_zero] at h3
      have hkn : ¬ (k : Int) < 16 := by omega
      clear hk16 hk hlt
      obtain ⟨wA, rfl⟩ : ∃ wA, wA = wr := ⟨_, rfl⟩
      have HB := hide hbel
      have H2 := hide h2
      have H3 := hide h3
      clear h1 h2 h3 hbel
      go_wp2
      go_loopw [6] (fun i wr => ∃ j : Nat, j ≤ 48 ∧ i = .int .i64 ((16 : Int) + j) ∧ Below w.heap.size w wr ∧ (∃ c, c.length = 64 ∧ Is wr (w.heap.size + 1) c 96) ∧
        Is wr (w.heap.size + 1 + 1) (wvals (part2 l j)) 96) (fun i _ => 64 - (intOf i).toNat)
      case atStart => exact ⟨0, by omega, rfl, HB.out, ⟨c, hcl, H2.out⟩, H3.out⟩
      case round =>
        obtain ⟨j, hj, rfl, hbel, ⟨c', hcl', h2⟩, h3⟩ := hrel
        clear HB H2 H3
        have H3 := hide h3
        have H2 := hide h2
        by_cases hlt : j < 48
        · have gt : ∀ i, i < 16 + j → wr.cell? ⟨w.heap.size + 1 + 1, i, none⟩ = some (.int .u32 ((Sh.exts j (Sh.first l)).getD i 0 : Nat)) := fun i hi => by
            rw [h3.cell, wvals_get _ _ (by rw [part2_length _ _ hj]; omega), part2_get l j i hi]
          have hf := h3.frozen (16 + j)
          have hw := h3.cell (16 + j)
          rw [wvals_get _ _ (by rw [part2_length _ _ (by omega)]; omega)] at hw
          have lt := fun i => Sh.getD_lt (Sh.exts_lt j _ (Sh.first_lt l hb)) (by omega) i
          obtain ⟨t, ht⟩ : ∃ t : Nat, t = 16 + j := ⟨_, rfl⟩
          rw [show (16 : Int) + (j : Int) = (t : Int) by omega]
          rw [← ht] at hw hf
          have i0 : (t : Int) - 15 = ((1 + j : Nat) : Int) := by omega
          have i1 : (t : Int) - 2 = ((14 + j : Nat) : Int) := by omega
          have i2 : (t : Int) - 7 = ((9 + j : Nat) : Int) := by omega
          have i3 : (t : Int) - 16 = ((j : Nat) : Int) := by omega
          have t64 : t < 64 := by omega
          have c0 := gt (1 + j) (by omega)
          have c1 := gt (14 + j) (by omega)
          have c2 := gt (9 + j) (by omega)
          have c3 := gt j (by omega)
          have l0 := lt (1 + j)
          have l1 := lt (14 + j)
          have l2 := lt (9 + j)
          have l3 := lt j
          have HX : Hid (Sh.ext (Sh.exts j (Sh.first l)) = (Sh.s1 ((Sh.exts j (Sh.first l)).getD (14 + j) 0) + (Sh.exts j (Sh.first l)).getD (9 + j) 0 + Sh.s0 ((Sh.exts j (Sh.first l)).getD (1 + j) 0) + (Sh.exts j (Sh.first l)).getD j 0) % 4294967296) := by
            show _ = _
            unfold Sh.ext
            rw [Sh.exts_length, Sh.first_length, show 16 + j - 2 = 14 + j by omega, show 16 + j - 7 = 9 + j by omega, show 16 + j - 15 = 1 + j by omega, show 16 + j - 16 = j by omega]
          generalize (Sh.exts j (Sh.first l)).getD (1 + j) 0 = x at *
          generalize (Sh.exts j (Sh.first l)).getD (14 + j) 0 = y at *
          generalize (Sh.exts j (Sh.first l)).getD (9 + j) 0 = z at *
          generalize (Sh.exts j (Sh.first l)).getD j 0 = u at *
          obtain ⟨p0, hp0⟩ : ∃ p, p = 1 + j := ⟨_, rfl⟩
          obtain ⟨p1, hp1⟩ : ∃ p, p = 14 + j := ⟨_, rfl⟩
          obtain ⟨p2, hp2⟩ : ∃ p, p = 9 + j := ⟨_, rfl⟩
          rw [← hp0] at i0 c0
          rw [← hp1] at i1 c1
          rw [← hp2] at i2 c2
          have q0 : p0 < 64 := by omega
          have q1 : p1 < 64 := by omega
          have q2 : p2 < 64 := by omega
          have q3 : j < 64 := by omega
          have HT := hide ht
          clear h2 h3 gt lt hp0 hp1 hp2 ht
          go_wp2
          go_quiet (fail)
          go_wp2_with (go_at_call 53; refine (turn_int _ _ _ (by decide) (by decide) (by assumption)).mono ?_; rintro e w' ⟨rfl, rfl⟩)
          go_region
          go_wp2
          go_roundw
          case rel =>
            have e : (bits .xor .u32 (bits .xor .u32 (Sh.rotr 17 y : Nat) (Sh.rotr 19 y : Nat)) ((y : Int) / 1024) + (z : Int) + bits .xor .u32 (bits .xor .u32 (Sh.rotr 7 x : Nat) (Sh.rotr 18 x : Nat)) ((x : Int) / 8) + (u : Int)) % 4294967296 = ((Sh.ext (Sh.exts j (Sh.first l)) : Nat) : Int) := by
              rw [HX.out, s1_bits y l1, s0_bits x l0]; omega
            have ht := HT.out
            subst ht
            refine ⟨j + 1, by omega, by go_num, (below_drewN hbel _).setCell (p := ⟨w.heap.size + 1 + 1, 16 + j, none⟩) (by show w.heap.size ≤ w.heap.size + 1 + 1; omega) _, ⟨c', hcl', Is.other (w := wr.drewN _) H2.out ⟨w.heap.size + 1 + 1, 16 + j, none⟩ _ (by show w.heap.size + 1 + 1 ≠ w.heap.size + 1; omega)⟩, ?_⟩
            rw [← part2_step l j (by omega), ← e]
            exact Is.set (w := wr.drewN _) H3.out (16 + j) _
          case measure => simp [intOf]; omega
        · obtain rfl : j = 48 := by omega
          rw [part2_all] at h3
          clear H3
          have hld := hide (h3.load Tryd.underlying96 (by rw [wvals_length, Sh.sched_length]; kernel_rfl))
          have hst := hide (h2.store (c' := wvals (Sh.sched l)) (by rw [wvals_length, Sh.sched_length]; kernel_rfl) (by rw [wvals_length, Sh.sched_length, hcl']) (wvals_one _))
          have hrd := (h2.row (wvals (Sh.sched l))).cellsOf Tryd.underlying96 (by rw [wvals_length, Sh.sched_length]; kernel_rfl)
          have HR := hide hrd
          clear h2 h3 hrd
          go_wp2_with (first
            | (refine wpList_load_is 96 (.agg (wvals (Sh.sched l)).toArray) (w.heap.size + 1 + 1) rfl (.tmp 3) rfl rfl hld.out ?_)
            | (refine wpList_store_is 96 (.agg (wvals (Sh.sched l)).toArray) (w.heap.size + 1) rfl (.tmp 2) (.tmp 87) rfl rfl rfl hst.out ?_))
          exact bodyPost_ret (v := .agg (wvals (Sh.sched l)).toArray) (results_cell1 Tryd.results52 rfl HR.out) rfl ⟨rfl, below_setRow hbel (by omega) _⟩
end Go.Proofs.YtphdnbflogobfaaDoor

/- The contract of mix: a block is brought into the eight words of a state, and nothing else that was there is turned. -/
namespace Go.Proofs.YtphdnbflogobfaaDoor
open Go.RowKit
set_option linter.unusedVariables false

/-- The table of the rounds' words, as the program's text lays it. -/
def Tab (w : World) : Prop := ∀ t, t < 64 → w.cell? ⟨1, t, none⟩ = some (.int .u32 (Sh.ks.getD t 0 : Nat))
theorem Tab.only {w w' : World} {g B : Nat} (h : Tab w) (k : Only g B w w') (hB : 1 < B) (hg : 1 < g) : Tab w' := fun t ht => by
  rw [World.cell?_of_block (w := w) (k.block 1 hB (by omega))]; exact h t ht
theorem Tab.below {w w' : World} {B : Nat} (h : Tab w) (k : Below B w w') (hB : 1 < B) : Tab w' := fun t ht => by
  rw [k.cell (p := ⟨1, t, none⟩) hB]; exact h t ht

theorem size_rest : Sized 74 64 := by unfold Sized; kernel_rfl
theorem size_u32 : Sized 71 1 := by unfold Sized; kernel_rfl
theorem agg_u32 (w : World) : (isAgg 71).run Tryd.prog w = .ok false w := by simp [isAgg, underlying, Tryd.underlying71]
theorem size_w64 : Sized 96 64 := by unfold Sized; kernel_rfl

set_option maxRecDepth 100000 in
set_option maxHeartbeats 400000 in
theorem mix_any (g : Nat) (s : Sh.St) (tail : List Value) (ty : TypeId) (l : List Int) (w : World) (hs : Is w g (wvals s.list ++ tail) ty) (hok : s.Ok) (hl : l.length = 64) (hb : Sz.Byt l) (ht : Tab w) (hg : 1 < g) :
    Calls Tryd.prog 44 #[.pointer (some ⟨g, 0, none⟩), .agg (vals l).toArray] w fun e w' => e = .returned (.tuple #[]) ∧ Is w' g (wvals (Sh.mix s l).list ++ tail) ty ∧ Only g w.heap.size w w' := by
  have hlt := hs.lt
  have HS := hide hs
  have HT := hide ht
  clear hs ht
  have hsp : ∀ w', Calls Tryd.prog 52 #[.agg (vals l).toArray] w' fun e w'' => e = .returned (.agg (wvals (Sh.sched l)).toArray) ∧ Below w'.heap.size w' w'' := fun w' => spread_any l w' hl hb
  have hWl := Sh.sched_length l
  have hWb := Sh.sched_lt l hb
  have hmx : Hid (Sh.mix s l = s.add (Sh.rnds s (Sh.sched l) 64)) := rfl
  generalize Sh.sched l = W at *
  have HSP := hide hsp
  have HWL := hide hWl
  have HWB := hide hWb
  clear hsp hWl hWb
  go_enter Tryd.func44, Tryd.ntmps44
  go_wp2_with (first
    | (go_at_call 52; refine (HSP.out _).mono ?_; rintro e w1 ⟨rfl, hb1⟩)
    | (refine wpList_load_arr 74 (vals l) w.heap.size (Is.new w _ _) Tryd.underlying74 size_rest (by rw [vals_length]; exact hl) rfl (.tmp 3) rfl rfl ?_)
    | (refine wpList_store_new 96 (wvals (List.replicate 64 0)) (wvals W) w1 size_w64 (by rw [wvals_length]; rfl) (by rw [wvals_length]; exact HWL.out) (wvals_one _) rfl (.tmp 4) (.tmp 20) rfl rfl rfl rfl ?_))
  have hb2 : Below w.heap.size w w1 := (below_alloc w _).trans (hb1.mono (by simp))
  have hb3 : Below w.heap.size w (w1.alloc (Obj.cells (wvals W).toArray 96)) := hb2.alloc hb2.size _
  have hs2 := HS.out.below hb3 hlt
  have ht2 := HT.out.below hb3 (by omega)
  have ho2 : Only g w.heap.size w (w1.alloc (Obj.cells (wvals W).toArray 96)) := .of_below hb3 (Nat.le_refl _)
  have hw2 := Is.new w1 (wvals W) 96
  have hsz : w.heap.size ≤ w1.heap.size := hb2.size
  generalize w1.alloc (Obj.cells (wvals W).toArray 96) = w2 at *
  clear hb1 hb2 hb3 HS HT
  have c0 : w2.cell? ⟨g, 0, none⟩ = some (.int .u32 (s.a : Nat)) := hs2.cell 0
  have c1 : w2.cell? ⟨g, 1, none⟩ = some (.int .u32 (s.b : Nat)) := hs2.cell 1
  have c2 : w2.cell? ⟨g, 2, none⟩ = some (.int .u32 (s.c : Nat)) := hs2.cell 2
  have c3 : w2.cell? ⟨g, 3, none⟩ = some (.int .u32 (s.d : Nat)) := hs2.cell 3
  have c4 : w2.cell? ⟨g, 4, none⟩ = some (.int .u32 (s.e : Nat)) := hs2.cell 4
  have c5 : w2.cell? ⟨g, 5, none⟩ = some (.int .u32 (s.f : Nat)) := hs2.cell 5
  have c6 : w2.cell? ⟨g, 6, none⟩ = some (.int .u32 (s.g : Nat)) := hs2.cell 6
  have c7 : w2.cell? ⟨g, 7, none⟩ = some (.int .u32 (s.h : Nat)) := hs2.cell 7
  have HS := hide hs2
  have HT := hide ht2
  have HO := hide ho2
  have HW := hide hw2
  clear hs2 ht2 ho2 hw2
  go_quiet (fail)
  clear c0 c1 c2 c3 c4 c5 c6 c7
  go_wp2_with (refine wpList_load_arr 96 (wvals W) w1.heap.size (w := w2.drewN _) HW.out Tryd.underlying96 size_w64 (by rw [wvals_length]; exact HWL.out) rfl (.tmp 4) rfl rfl ?_)
  go_loopw [5, 6, 7, 8, 9, 10, 11, 12, 54] (fun a b c d e f g' h i wr => ∃ (k : Nat) (st : Sh.St), k ≤ 64 ∧ st = Sh.rnds s W k ∧ i = .int .i64 k ∧ a = .int .u32 (st.a : Nat) ∧ b = .int .u32 (st.b : Nat) ∧ c = .int .u32 (st.c : Nat) ∧ d = .int .u32 (st.d : Nat) ∧
      e = .int .u32 (st.e : Nat) ∧ f = .int .u32 (st.f : Nat) ∧ g' = .int .u32 (st.g : Nat) ∧ h = .int .u32 (st.h : Nat) ∧ Is wr g (wvals s.list ++ tail) ty ∧ Tab wr ∧ Only g w.heap.size w wr) (fun _ _ _ _ _ _ _ _ i _ => 64 - (intOf i).toNat)
  case atStart => exact ⟨0, s, by omega, rfl, rfl, rfl, rfl, rfl, rfl, rfl, rfl, rfl, rfl, HS.out, HT.out, HO.out.trans ⟨rfl, rfl, rfl, Nat.le_refl _, fun _ _ _ => rfl⟩⟩
  case round =>
    obtain ⟨k, st, hk, hst, rfl, rfl, rfl, rfl, rfl, rfl, rfl, rfl, rfl, hs3, ht3, ho3⟩ := hrel
    clear HS HT HO
    have HS := hide hs3
    have HT := hide ht3
    have HO := hide ho3
    clear hs3 ht3 ho3
    by_cases hk64 : k < 64
    · have hix := wvals_get W k (by rw [HWL.out]; exact hk64)
      have hkc := HT.out k hk64
      have lw := HWB.out k
      have lk := Sh.ks_lt k
      have hok' := Sh.rnds_ok s W hok k
      have hnx : Hid (Sh.rnds s W (k + 1) = Sh.rnd (Sh.rnds s W k) (Sh.ks.getD k 0) (W.getD k 0)) := rfl
      rw [← hst] at hok' hnx
      obtain ⟨l1, l2, l3, l4, l5, l6, l7, l8⟩ := hok'
      clear hst
      generalize Sh.ks.getD k 0 = kk at *
      generalize W.getD k 0 = wk at *
      have HI := hide hix
      clear hix
      go_wp2_with (refine wpList_index_any 96 71 64 k (wvals W) (.int .u32 (wk : Nat)) Tryd.underlying96 size_u32 agg_u32 hk64 HI.out rfl (.tmp 53) (.tmp 54) rfl rfl rfl ?_)
      go_quiet ((go_at_call 53; exact Calls.quiet_of_same (turn_q _ _ _ (by decide) (by decide) (by assumption))))
      go_wp2_with (go_at_call 53; refine (turn_int _ _ _ (by decide) (by decide) (by assumption)).mono ?_; rintro e w' ⟨rfl, rfl⟩)
      go_roundw
      case rel =>
        refine ⟨k + 1, Sh.rnd st kk wk, by omega, hnx.out.symm, by go_num, ?_, rfl, rfl, rfl, ?_, rfl, rfl, rfl, HS.out, HT.out, HO.out.trans ⟨rfl, rfl, rfl, Nat.le_refl _, fun _ _ _ => rfl⟩⟩
        · rw [S1_bits _ l5, ch_bits _ _ _ l5 l6 l7, S0_bits _ l1, maj_bits _ _ _ l1 l2 l3]
          simp only [Sh.rnd]
          congr 1
          omega
        · rw [S1_bits _ l5, ch_bits _ _ _ l5 l6 l7]
          simp only [Sh.rnd]
          congr 1
          omega
      case measure => simp [intOf]; omega
    · have hk' : k = 64 := by omega
      have hok' := Sh.rnds_ok s W hok k
      rw [← hst] at hok'
      rw [hk'] at hst
      have HST := hide hst
      have hkn : ¬ (k : Int) < 64 := by omega
      clear hst hk' hk64 hk
      obtain ⟨wA, rfl⟩ : ∃ wA, wA = wr := ⟨_, rfl⟩
      go_wp2
      go_loopw [125] (fun i wr => ∃ k : Nat, k ≤ 8 ∧ i = .int .i64 k ∧ Is wr g (wvals (Sh.padd s st k) ++ tail) ty ∧ Only g w.heap.size w wr) (fun i _ => 8 - (intOf i).toNat)
      case atStart => exact ⟨0, by omega, rfl, HS.out, HO.out⟩
      case round =>
        obtain ⟨j, hj, rfl, hs4, ho4⟩ := hrel
        by_cases hj8 : j < 8
        · have hc := hs4.cell j
          rw [List.getElem?_append_left (by rw [wvals_length, Sh.padd_length]; exact hj8), wvals_get _ _ (by rw [Sh.padd_length]; exact hj8), Sh.padd_get _ _ _ hj8] at hc
          have hf := hs4.frozen j
          have hix := wvals_get st.list j hj8
          have lx := Sh.getD_lt (Sh.list_lt s hok) (by omega) j
          have ly := Sh.getD_lt (Sh.list_lt st hok') (by omega) j
          have hstep : Hid ((Sh.padd s st j).set j ((s.list.getD j 0 + st.list.getD j 0) % 4294967296) = Sh.padd s st (j + 1)) := Sh.padd_step s st j hj8
          generalize s.list.getD j 0 = x at *
          generalize hy : st.list.getD j 0 = y at *
          have HI := hide hix
          have H4 := hide hs4
          clear hix hs4 hy HS HT HO
          go_wp2_with (refine wpList_index_any 72 71 8 j (wvals st.list) (.int .u32 (y : Nat)) Tryd.underlying72 size_u32 agg_u32 hj8 HI.out rfl (.tmp 124) (.tmp 125) rfl rfl rfl ?_)
          go_region
          go_wp2
          go_roundw
          case rel =>
            refine ⟨j + 1, by omega, by go_num, ?_, (ho4.setCell (p := ⟨g, j, none⟩) (.inl rfl) _).drew⟩
            have h5 := (H4.out.set j (.int .u32 ((((x + y) % 4294967296 : Nat)) : Int))).drew
            rw [List.set_append_left _ _ (by rw [wvals_length, Sh.padd_length]; exact hj8)] at h5
            have e : (wvals (Sh.padd s st j)).set j (.int .u32 ((((x + y) % 4294967296 : Nat)) : Int)) = wvals (Sh.padd s st (j + 1)) := by
              rw [← hstep.out]; unfold wvals; rw [← List.map_set]
            rw [e] at h5
            exact h5
          case measure => simp [intOf]; omega
        · have hj' : j = 8 := by omega
          rw [hj', Sh.padd_all] at hs4
          have H4 := hide hs4
          have hjn : ¬ (j : Int) < 8 := by omega
          clear hs4 hj' hj8 hj
          go_wp2
          go_end0
          refine ⟨rfl, ?_, ho4⟩
          rw [hmx.out, ← HST.out]
          exact H4.out
end Go.Proofs.YtphdnbflogobfaaDoor

/- The texts ShDig, ShEnd, ShAbs, ShWrite, ShSum, one behind the other. -/
/- The contract of digest: the eight words as 32 bytes. -/
namespace Go.Proofs.YtphdnbflogobfaaDoor
open Go.RowKit
set_option linter.unusedVariables false

/-- The byte at a place of the digest. -/
def dby (s : Sh.St) (i : Nat) : Int := (((s.list.getD (i / 4) 0) >>> (24 - i % 4 * 8) % 256 : Nat) : Int)
/-- The bytes of the first k words, and 0 behind them. -/
def pdig (s : Sh.St) (k : Nat) : List Int := (List.range 32).map fun i => if i < 4 * k then dby s i else 0
theorem pdig_length (s : Sh.St) (k : Nat) : (pdig s k).length = 32 := by simp [pdig]
theorem pdig_zero (s : Sh.St) : pdig s 0 = List.replicate 32 0 := rfl
theorem pdig_all (s : Sh.St) : pdig s 8 = Sh.digest s := by
  unfold pdig Sh.digest
  apply List.map_congr_left
  intro i hi
  rw [if_pos (by simpa using hi)]
  rfl
theorem pdig_step (s : Sh.St) (k : Nat) (h : k < 8) :
    ((((pdig s k).set (4 * k) (dby s (4 * k))).set (4 * k + 1) (dby s (4 * k + 1))).set (4 * k + 2) (dby s (4 * k + 2))).set (4 * k + 3) (dby s (4 * k + 3)) = pdig s (k + 1) := by
  apply List.ext_getElem
  · simp [pdig]
  · intro i h1 h2
    simp only [List.getElem_set]
    by_cases e3 : 4 * k + 3 = i
    · subst e3; simp [pdig]; omega
    · rw [if_neg e3]
      by_cases e2 : 4 * k + 2 = i
      · subst e2; simp [pdig]; omega
      · rw [if_neg e2]
        by_cases e1 : 4 * k + 1 = i
        · subst e1; simp [pdig]; omega
        · rw [if_neg e1]
          by_cases e0 : 4 * k = i
          · subst e0; simp [pdig]
          · rw [if_neg e0]
            simp only [pdig, List.getElem_map, List.getElem_range]
            by_cases hi : i < 4 * k
            · rw [if_pos hi, if_pos (by omega)]
            · rw [if_neg hi, if_neg (by omega)]
theorem dby_at (s : Sh.St) (k j : Nat) (h : j < 4) : dby s (4 * k + j) = (((s.list.getD k 0) >>> (24 - j * 8) % 256 : Nat) : Int) := by
  unfold dby
  rw [show (4 * k + j) / 4 = k by omega, show (4 * k + j) % 4 = j by omega]

set_option maxRecDepth 100000 in
set_option maxHeartbeats 400000 in
theorem digest_any (g : Nat) (s : Sh.St) (tail : List Value) (ty : TypeId) (w : World) (hs : Is w g (wvals s.list ++ tail) ty) (hok : s.Ok) :
    Calls Tryd.prog 46 #[.pointer (some ⟨g, 0, none⟩)] w fun e w' => e = .returned (.agg (vals (Sh.digest s)).toArray) ∧ Below w.heap.size w w' := by
  have hlt := hs.lt
  have HS := hide hs
  clear hs
  go_enter Tryd.func46, Tryd.ntmps46
  go_wp2
  go_loopw [7] (fun i wr => ∃ k : Nat, k ≤ 8 ∧ i = .int .i64 k ∧ Below w.heap.size w wr ∧ (∃ c, c.length = 32 ∧ Is wr w.heap.size c 26) ∧ Is wr (w.heap.size + 1) (vals (pdig s k)) 26) (fun i _ => 8 - (intOf i).toNat)
  case atStart => exact ⟨0, by omega, rfl, below_alloc2 _ _ _, ⟨vals (pdig s 0), by rw [vals_length, pdig_length], (Is.new w (vals (pdig s 0)) 26).alloc _⟩, Is.new' (vals (pdig s 0)) 26 (by simp)⟩
  case round =>
    obtain ⟨k, hk, rfl, hbel, ⟨c, hcl, h1⟩, h2⟩ := hrel
    by_cases hk8 : k < 8
    · have hc := (HS.out.below hbel hlt).cell k
      rw [List.getElem?_append_left (by rw [wvals_length]; exact hk8), wvals_get _ _ hk8] at hc
      have hst : Hid _ := pdig_step s k hk8
      have hd0 : Hid (dby s (4 * k) = _) := dby_at s k 0 (by omega)
      have hd1 : Hid (dby s (4 * k + 1) = _) := dby_at s k 1 (by omega)
      have hd2 : Hid (dby s (4 * k + 2) = _) := dby_at s k 2 (by omega)
      have hd3 : Hid (dby s (4 * k + 3) = _) := dby_at s k 3 (by omega)
      have lx := Sh.getD_lt (Sh.list_lt s hok) (by omega) k
      generalize s.list.getD k 0 = x at *
      have hg : ∀ j, j < 32 → wr.cell? ⟨w.heap.size + 1, j, none⟩ = some (.int .u8 ((pdig s k).getD j 0)) := fun j hj => by rw [h2.cell, vals_get _ _ (by rw [pdig_length]; exact hj)]
      have g0 := hg (4 * k) (by omega)
      have g1 := hg (4 * k + 1) (by omega)
      have g2 := hg (4 * k + 2) (by omega)
      have g3 := hg (4 * k + 3) (by omega)
      have f0 := h2.frozen (4 * k)
      have f1 := h2.frozen (4 * k + 1)
      have f2 := h2.frozen (4 * k + 2)
      have f3 := h2.frozen (4 * k + 3)
      generalize (pdig s k).getD (4 * k) 0 = y0 at *
      generalize (pdig s k).getD (4 * k + 1) 0 = y1 at *
      generalize (pdig s k).getD (4 * k + 2) 0 = y2 at *
      generalize (pdig s k).getD (4 * k + 3) 0 = y3 at *
      have H1 := hide h1
      have H2 := hide h2
      clear h1 h2 hg
      go_wp2
      go_quiet (fail)
      go_wp2
      go_roundw
      case rel =>
        have sh : ∀ (n m : Nat), 2 ^ n = m → (x : Int) / (m : Nat) = ((x >>> n : Nat) : Int) := fun n m h => shr_cast x n m h
        have e0 : (x : Int) / 16777216 = dby s (4 * k) := by
          have := sh 24 16777216 rfl
          rw [show ((16777216 : Nat) : Int) = 16777216 from rfl] at this
          have h8 : x >>> 24 < 256 := by rw [Nat.shiftRight_eq_div_pow]; omega
          rw [hd0.out, this, Nat.zero_mul, Nat.sub_zero, Nat.mod_eq_of_lt h8]
        have e1 : (x : Int) / 65536 % 256 = dby s (4 * k + 1) := by
          have := sh 16 65536 rfl
          rw [show ((65536 : Nat) : Int) = 65536 from rfl] at this
          rw [hd1.out, this]; omega
        have e2 : (x : Int) / 256 % 256 = dby s (4 * k + 2) := by
          have := sh 8 256 rfl
          rw [show ((256 : Nat) : Int) = 256 from rfl] at this
          rw [hd2.out, this]; omega
        have e3 : (x : Int) % 256 = dby s (4 * k + 3) := by
          rw [hd3.out]; simp
        refine ⟨k + 1, by omega, by go_num, ?_, ⟨c, hcl, ?_⟩, ?_⟩
        · exact ((((below_drewN hbel _).setCell (p := ⟨w.heap.size + 1, 4 * k, none⟩) (Nat.le_succ _) _).setCell (p := ⟨w.heap.size + 1, 4 * k + 1, none⟩) (Nat.le_succ _) _).setCell (p := ⟨w.heap.size + 1, 4 * k + 2, none⟩) (Nat.le_succ _) _).setCell (p := ⟨w.heap.size + 1, 4 * k + 3, none⟩) (Nat.le_succ _) _
        · have hne : w.heap.size + 1 ≠ w.heap.size := by omega
          exact (((Is.other (w := wr.drewN _) H1.out ⟨w.heap.size + 1, 4 * k, none⟩ _ hne).other ⟨w.heap.size + 1, 4 * k + 1, none⟩ _ hne).other ⟨w.heap.size + 1, 4 * k + 2, none⟩ _ hne).other ⟨w.heap.size + 1, 4 * k + 3, none⟩ _ hne
        · rw [e0, e1, e2, e3, ← hst.out, ← vals_set, ← vals_set, ← vals_set, ← vals_set]
          exact (((Is.set (w := wr.drewN _) H2.out (4 * k) _).set (4 * k + 1) _).set (4 * k + 2) _).set (4 * k + 3) _
      case measure => simp [intOf]; omega
    · have hk' : k = 8 := by omega
      rw [hk', pdig_all] at h2
      have hkn : ¬ (k : Int) < 8 := by omega
      have hdl : (Sh.digest s).length = 32 := by simp [Sh.digest]
      have hr := (h1.row (vals (Sh.digest s))).cellsOf Tryd.underlying26 (by rw [vals_length, hdl]; exact size_dig)
      generalize hD : Sh.digest s = D at *
      have HD := hide hD
      clear hD
      have H1 := hide h1
      have H2 := hide h2
      have HR := hide hr
      clear h1 h2 hr hk' hk8 hk
      go_wp2_with (first
        | (refine wpList_load_arr 26 (vals D) (w.heap.size + 1) H2.out Tryd.underlying26 size_dig (by rw [vals_length]; exact hdl) rfl (.tmp 3) rfl rfl ?_)
        | (refine wpList_store_row 26 c (vals D) w.heap.size H1.out size_dig hcl (by rw [vals_length]; exact hdl) (vals_one _) rfl (.tmp 2) (.tmp 40) rfl rfl rfl rfl ?_))
      exact bodyPost_ret (v := .agg (vals D).toArray) (results_cell1 Tryd.results46 rfl HR.out) rfl ⟨by rw [HD.out], below_setRow hbel (Nat.le_refl _) _⟩
end Go.Proofs.YtphdnbflogobfaaDoor

/- The contract of ending: what stands behind so many bytes. -/
namespace Go.Proofs.YtphdnbflogobfaaDoor
open Go.RowKit
set_option linter.unusedVariables false

/-- What is laid into the 72 bytes by k rounds. -/
def pend (n k : Nat) : List Int := (List.range 72).map fun i => if i = 0 then 128 else if 1 + Sh.zeros n ≤ i ∧ i < 1 + Sh.zeros n + k then (((n * 8) >>> (56 - 8 * (i - 1 - Sh.zeros n)) % 256 : Nat) : Int) else 0
theorem pend_length (n k : Nat) : (pend n k).length = 72 := by simp [pend]
theorem zeros_lt (n : Nat) : Sh.zeros n < 64 := Nat.mod_lt _ (by omega)
theorem pend_zero (n : Nat) : pend n 0 = (128 : Int) :: List.replicate 71 0 := by
  have h : pend n 0 = (List.range 72).map fun i => if i = 0 then (128 : Int) else 0 := by
    unfold pend
    apply List.map_congr_left
    intro i _
    by_cases e : i = 0
    · rw [if_pos e, if_pos e]
    · rw [if_neg e, if_neg e, if_neg (by omega)]
  rw [h]; rfl
theorem pend_step (n k : Nat) (h : k < 8) : (pend n k).set (1 + Sh.zeros n + k) (((n * 8) >>> (56 - 8 * k) % 256 : Nat) : Int) = pend n (k + 1) := by
  have hz := zeros_lt n
  apply List.ext_getElem
  · simp [pend]
  · intro i h1 h2
    simp only [List.getElem_set, pend, List.getElem_map, List.getElem_range]
    by_cases e : 1 + Sh.zeros n + k = i
    · subst e
      rw [if_pos rfl, if_neg (by omega), if_pos (by omega), show 1 + Sh.zeros n + k - 1 - Sh.zeros n = k by omega]
    · rw [if_neg e]
      by_cases e0 : i = 0
      · rw [if_pos e0, if_pos e0]
      · rw [if_neg e0, if_neg e0]
        by_cases e1 : 1 + Sh.zeros n ≤ i ∧ i < 1 + Sh.zeros n + k
        · rw [if_pos e1, if_pos (by omega)]
        · rw [if_neg e1, if_neg (by omega)]
theorem ending_length (n : Nat) : (Sh.ending n).length = 9 + Sh.zeros n := by simp [Sh.ending, Sh.be8]; omega
theorem pend_all (n : Nat) : (pend n 8).take (9 + Sh.zeros n) = Sh.ending n := by
  have hz := zeros_lt n
  apply List.ext_getElem
  · simp [pend, ending_length]; omega
  · intro i h1 h2
    rw [ending_length] at h2
    simp only [List.getElem_take, pend, List.getElem_map, List.getElem_range]
    cases i with
    | zero => simp [Sh.ending]
    | succ i =>
      rw [if_neg (by omega)]
      simp only [Sh.ending, List.getElem_cons_succ]
      by_cases e1 : i < Sh.zeros n
      · rw [if_neg (by omega), List.getElem_append_left (by simpa using e1)]; simp
      · rw [if_pos (by omega), List.getElem_append_right (by simpa using e1)]
        simp only [Sh.be8, List.getElem_map, List.getElem_range, List.length_replicate]
        rw [show i + 1 - 1 - Sh.zeros n = i - Sh.zeros n by omega]
theorem ending_byt (n : Nat) : Sz.Byt (Sh.ending n) := by
  intro x hx
  simp only [Sh.ending, Sh.be8, List.mem_cons, List.mem_append, List.mem_replicate, List.mem_map] at hx
  rcases hx with rfl | ⟨_, rfl⟩ | ⟨i, _, rfl⟩
  · omega
  · omega
  · omega
theorem pend_byt (n k : Nat) : Sz.Byt (pend n k) := by
  intro x hx
  simp only [pend, List.mem_map] at hx
  obtain ⟨i, _, rfl⟩ := hx
  split
  · omega
  · split <;> omega
theorem size_end : Sized 79 72 := by unfold Sized; kernel_rfl
theorem zero_end (w : World) : (zeroValue 79).run Tryd.prog w = .ok (.agg (vals (List.replicate 72 0)).toArray) w := by
  have h : (Tryd.prog.info? 79).map (fun i => (i.zero, i.size)) = some (some (.agg (vals (List.replicate 72 0)).toArray), 72) := by kernel_rfl
  exact (zero_of_info h).1 w
theorem zeros_int (n : Nat) (h : n < 18446744073709551616) : ((55 - (n : Int)) % 18446744073709551616) % 64 = ((Sh.zeros n : Nat) : Int) := by
  unfold Sh.zeros; omega

set_option maxRecDepth 100000 in
set_option maxHeartbeats 400000 in
theorem ending_any (n : Nat) (w : World) (hn : n < 2305843009213693952) :
    Calls Tryd.prog 45 #[.int .u64 n] w fun e w' => e = .returned (.tuple #[.agg (vals (pend n 8)).toArray, .int .i64 ((9 + Sh.zeros n : Nat) : Int)]) ∧ Below w.heap.size w w' := by
  obtain ⟨Z, hZ⟩ : ∃ Z, Z = vals (List.replicate 72 0) := ⟨_, rfl⟩
  have hz := zero_end
  rw [← hZ] at hz
  have hZl : Z.length = 72 := by rw [hZ]; simp [vals]
  have hZ0 : Z.set 0 (.int .u8 128) = vals (pend n 0) := by rw [hZ, vals_set, pend_zero]; rfl
  have hZ1 : ∀ v ∈ Z.set 0 (.int .u8 128), v.oneCell' = true := by rw [hZ0]; exact vals_one _
  have hZ2 : (Z.set 0 (.int .u8 128)).length = 72 := by rw [List.length_set]; exact hZl
  have hI2 : Is ((w.alloc (.cells Z.toArray 79)).alloc (.cells Z.toArray 79)) (w.heap.size + 1) Z 79 := Is.new' Z 79 (by simp)
  have hI1 : Is ((w.alloc (.cells Z.toArray 79)).alloc (.cells Z.toArray 79)) w.heap.size Z 79 := (Is.new w Z 79).alloc _
  have HZ0 := hide hZ0
  have HZ1 := hide hZ1
  have HZ2 := hide hZ2
  have HI1 := hide hI1
  have HI2 := hide hI2
  have HZL := hide hZl
  have hzi := zeros_int n (by omega)
  have hzl := zeros_lt n
  have HST := hide (pend_step n)
  have HB := hide (below_alloc2 w (.cells Z.toArray 79) (.cells Z.toArray 79))
  have hZp : ¬ Z = [] := by intro h; rw [h] at hZl; cases hZl
  clear hZ hZ0 hZ1 hZ2 hI1 hI2 hZl
  obtain ⟨z, hzz⟩ : ∃ z, z = Sh.zeros n := ⟨_, rfl⟩
  rw [← hzz] at hzi hzl HST
  have hzw : (IntKind.u64.wrap (55 - (n : Int))).tmod 64 = (z : Int) := by
    have e : IntKind.u64.wrap (55 - (n : Int)) = (55 - (n : Int)) % 18446744073709551616 := by simp [IntKind.wrap, IntKind.bits, IntKind.signed]
    rw [e, Int.tmod_eq_emod_of_nonneg (Int.emod_nonneg _ (by decide)), hzi]
  clear hzi
  have HZZ := hide hzz
  clear hzz
  go_enter Tryd.func45, Tryd.ntmps45
  go_wp2_with (refine wpList_store_row 79 Z (Z.set 0 (.int .u8 128)) (w.heap.size + 1) HI2.out size_end HZL.out HZ2.out HZ1.out rfl (.tmp 4) (.tmp 8) rfl rfl rfl rfl ?_)
  go_loopw [15] (fun i wr => ∃ k : Nat, k ≤ 8 ∧ i = .int .i64 k ∧ Below w.heap.size w wr ∧ Is wr w.heap.size Z 79 ∧ Is wr (w.heap.size + 1) (vals (pend n k)) 79) (fun i _ => 8 - (intOf i).toNat)
  case atStart =>
    refine ⟨0, by omega, rfl, below_setRow HB.out (Nat.le_succ _) _, ?_, ?_⟩
    · unfold Is; rw [setRow_other _ _ _ _ (by omega)]; exact HI1.out
    · rw [← HZ0.out]; exact HI2.out.row _
  case round =>
    obtain ⟨k, hk, rfl, hbel, h1, h2⟩ := hrel
    clear HI1 HI2 HB
    have H1 := hide h1
    have H2 := hide h2
    by_cases hk8 : k < 8
    · have hc := h2.cell (1 + z + k)
      rw [vals_get _ _ (by rw [pend_length]; omega)] at hc
      have hf := h2.frozen (1 + z + k)
      have hst := hide (HST.out k hk8)
      have hm : (56 : Int) - 8 * (k : Int) = ((56 - 8 * k : Nat) : Int) := by omega
      have hm2 : 56 - 8 * k < 64 := by omega
      obtain ⟨m, hmm⟩ : ∃ m, m = 56 - 8 * k := ⟨_, rfl⟩
      rw [← hmm] at hm hm2 hst
      clear h1 h2 HST hmm
      go_wp2
      go_roundw
      case rel =>
        have e : (n : Int) * 8 / 2 ^ m % 256 = (((n * 8) >>> m % 256 : Nat) : Int) := by
          rw [Nat.shiftRight_eq_div_pow, Int.natCast_emod, Int.natCast_ediv, Int.natCast_mul, Int.natCast_pow]; rfl
        rw [e]
        refine ⟨k + 1, by omega, by go_num, hbel.setCell (p := ⟨w.heap.size + 1, 1 + z + k, none⟩) (Nat.le_succ _) _, H1.out.other ⟨w.heap.size + 1, 1 + z + k, none⟩ _ (by show w.heap.size + 1 ≠ w.heap.size; omega), ?_⟩
        rw [← hst.out, ← vals_set]
        exact H2.out.set _ _
      case measure => simp [intOf]; omega
    · have hk' : k = 8 := by omega
      rw [hk'] at h2
      clear H1 H2
      have hr := (h1.row (vals (pend n 8))).cellsOf Tryd.underlying79 (by rw [vals_length, pend_length]; exact size_end)
      have hel := pend_length n 8
      have hkn : ¬ (k : Int) < 8 := by omega
      generalize hE : pend n 8 = E at *
      have HE := hide hE
      have H1 := hide h1
      have H2 := hide h2
      have HR := hide hr
      have HEL := hide hel
      clear h1 h2 hr hk' hk8 hk hE hel HST
      go_wp2_with (first
        | (refine wpList_load_arr 79 (vals E) (w.heap.size + 1) H2.out Tryd.underlying79 size_end (by rw [vals_length]; exact HEL.out) rfl (.tmp 4) rfl rfl ?_)
        | (refine wpList_store_row 79 Z (vals E) w.heap.size H1.out size_end HZL.out (by rw [vals_length]; exact HEL.out) (vals_one _) rfl (.tmp 2) (.tmp 30) rfl rfl rfl rfl ?_))
      refine bodyPost_ret (results_cell2 Tryd.results45 rfl HR.out) rfl ⟨?_, below_setRow hbel (Nat.le_refl _) _⟩
      rw [HE.out, ← HZZ.out]
      have e9 : (1 : Int) + z + 8 = 9 + (z : Int) := by omega
      show Ending.returned (.tuple #[.agg (vals E).toArray, .int .i64 ((1 : Int) + z + 8)]) = _
      rw [e9]
end Go.Proofs.YtphdnbflogobfaaDoor

/- What a hasher holds of the bytes that were written into it: lists alone. -/
namespace Go.Proofs.YtphdnbflogobfaaDoor
open Go.RowKit
set_option linter.unusedVariables false

theorem comp_append (l m : List Int) (k : Nat) (h : 64 * k ≤ l.length) : Sh.comp (l ++ m) k = Sh.comp l k := by
  induction k with
  | zero => rfl
  | succ k ih =>
    rw [Sh.comp, Sh.comp, ih (by omega), List.drop_append_of_le_length (by omega), List.take_append_of_le_length (by rw [List.length_drop]; omega)]

/-- The words st and the bytes R that lie behind them, of all bytes. -/
structure Abs (st : Sh.St) (R all : List Int) : Prop where
  len : R.length = 64
  byt : Sz.Byt R
  tail : R.take (all.length % 64) = all.drop (64 * (all.length / 64))
  words : st = Sh.comp all (all.length / 64)

theorem Abs.ok {st : Sh.St} {R all : List Int} (h : Abs st R all) : st.Ok := by rw [h.words]; exact Sh.comp_ok _ _

theorem splice_len (R c : List Int) (f : Nat) (h : R.length = 64) (hf : f + c.length ≤ 64) : (splice R f c).length = 64 := by rw [length_splice _ _ _ (by omega), h]
theorem splice_byt {R c : List Int} (f : Nat) (h : Sz.Byt R) (hc : Sz.Byt c) : Sz.Byt (splice R f c) := (h.take _).append (hc.append (h.drop _))
theorem splice_take (R c : List Int) (f : Nat) (h : f ≤ R.length) : (splice R f c).take (f + c.length) = R.take f ++ c := by
  unfold splice
  have hf : (R.take f).length = f := by rw [List.length_take]; omega
  rw [List.take_append, hf, List.take_of_length_le (by omega), Nat.add_sub_cancel_left, List.take_append_of_le_length (Nat.le_refl _), List.take_length]

theorem Abs.part {st : Sh.St} {R all c : List Int} (h : Abs st R all) (hc : Sz.Byt c) (hl : all.length % 64 + c.length < 64) : Abs st (splice R (all.length % 64) c) (all ++ c) := by
  have e1 : (all ++ c).length % 64 = all.length % 64 + c.length := by rw [List.length_append]; omega
  have e2 : (all ++ c).length / 64 = all.length / 64 := by rw [List.length_append]; omega
  have hR := h.len
  refine ⟨splice_len R c _ hR (by omega), splice_byt _ h.byt hc, ?_, ?_⟩
  · rw [e1, e2, splice_take _ _ _ (by omega), h.tail, List.drop_append_of_le_length (by omega)]
  · rw [e2, comp_append _ _ _ (by omega)]; exact h.words

theorem Abs.full {st : Sh.St} {R all c : List Int} (h : Abs st R all) (hc : Sz.Byt c) (hl : all.length % 64 + c.length = 64) : Abs (Sh.mix st (splice R (all.length % 64) c)) (splice R (all.length % 64) c) (all ++ c) := by
  have e1 : (all ++ c).length % 64 = 0 := by rw [List.length_append]; omega
  have e2 : (all ++ c).length / 64 = all.length / 64 + 1 := by rw [List.length_append]; omega
  have hR := h.len
  have e3 : splice R (all.length % 64) c = (all ++ c).drop (64 * (all.length / 64)) := by
    have := splice_take R c (all.length % 64) (by omega)
    rw [hl, List.take_of_length_le (by rw [splice_len R c _ hR (by omega)]; omega), h.tail] at this
    rw [this, List.drop_append_of_le_length (by omega)]
  refine ⟨splice_len R c _ hR (by omega), splice_byt _ h.byt hc, ?_, ?_⟩
  · rw [e1, e2, List.take_zero, List.drop_eq_nil_of_le (by rw [List.length_append]; omega)]
  · rw [e2, Sh.comp, comp_append _ _ _ (by omega), ← h.words, ← e3, List.take_of_length_le (by rw [splice_len R c _ hR (by omega)]; omega)]

theorem Abs.zero (R : List Int) (h : R.length = 64) (hb : Sz.Byt R) : Abs Sh.init R [] := ⟨h, hb, rfl, rfl⟩

/-- The cells of a hasher. -/
def hcells (st : Sh.St) (R : List Int) (n : Nat) : List Value := wvals st.list ++ (vals R ++ [.int .u64 (n : Int)])
theorem hcells_length (st : Sh.St) (R : List Int) (n : Nat) (h : R.length = 64) : (hcells st R n).length = 73 := by simp [hcells, wvals_length, vals_length, h, Sh.St.list]
theorem hcells_taken (st : Sh.St) (R : List Int) (n : Nat) (h : R.length = 64) : (hcells st R n)[72]? = some (.int .u64 (n : Int)) := by
  have h8 : (wvals st.list).length = 8 := rfl
  have h64 : (vals R).length = 64 := by rw [vals_length, h]
  unfold hcells
  rw [List.getElem?_append_right (by omega), h8, List.getElem?_append_right (by omega), h64]
  rfl
theorem hcells_set (st : Sh.St) (R : List Int) (n m : Nat) (h : R.length = 64) : (hcells st R n).set 72 (.int .u64 (m : Int)) = hcells st R m := by
  have h8 : (wvals st.list).length = 8 := rfl
  have h64 : (vals R).length = 64 := by rw [vals_length, h]
  unfold hcells
  rw [List.set_append_right _ _ (by omega), h8, List.set_append_right _ _ (by omega), h64]
  rfl
theorem hcells_splice (st : Sh.St) (R c : List Int) (n f : Nat) (h : R.length = 64) (hf : f + c.length ≤ 64) :
    (hcells st R n).take (8 + f) ++ (vals c ++ (hcells st R n).drop (8 + f + (vals c).length)) = hcells st (splice R f c) n := by
  have h8 : (wvals st.list).length = 8 := rfl
  have h64 : (vals R).length = 64 := by rw [vals_length, h]
  unfold hcells splice
  rw [List.take_append, h8, List.take_of_length_le (by omega), Nat.add_sub_cancel_left, List.take_append_of_le_length (by omega), vals_length, List.drop_append, h8, List.drop_eq_nil_of_le (by omega), List.nil_append, show 8 + f + c.length - 8 = f + c.length by omega, List.drop_append_of_le_length (by omega)]
  simp only [vals, List.map_append, List.map_take, List.map_drop, List.append_assoc]
theorem hcells_range {w : World} {g : Nat} {st : Sh.St} {R : List Int} {n : Nat} {t : TypeId} (h : Is w g (hcells st R n) t) : w.rangeAt g 8 (vals R) := fun j v hv => by
  have hj : j < (vals R).length := (List.getElem?_eq_some_iff.1 hv).1
  rw [h.cell]
  unfold hcells
  rw [List.getElem?_append_right (by show 8 ≤ _; omega), show 8 + j - (wvals st.list).length = j by show 8 + j - 8 = j; omega, List.getElem?_append_left hj]
  exact hv
end Go.Proofs.YtphdnbflogobfaaDoor

/- The contract of the hasher's Write: it takes the bytes, and turns nothing that was there but the hasher. -/
namespace Go.Proofs.YtphdnbflogobfaaDoor
open Go.RowKit
set_option linter.unusedVariables false

/-- How long a slice is: for the loop's measure. -/
def lenOf : Value → Nat | .slice _ n _ => n | _ => 0

theorem size_u8 : (Tryd.prog.info? 5).map (·.size) = some 1 := by kernel_rfl

theorem size_u8' (w : World) : (sizeOf 5).run Tryd.prog w = .ok 1 w := by
  obtain ⟨i, hi, hz, hs, hby⟩ := info_u8
  simp [sizeOf, typeInfo, hi, hs]
theorem slice_rest (g o f : Nat) (w : World) (hf : f < 64) : (Instr.sliceAt 74 (.pointer (some ⟨g, o, none⟩)) (some (.int .i64 (f : Int))) none none).run Tryd.prog w = .ok (.slice (some ⟨g, o + f, none⟩) (64 - f) (64 - f)) w := by
  have hu := Tryd.underlying74
  have ha : Tryd.prog.arrayLen 74 = 64 := by simp [Program.arrayLen, hu]
  have he : Tryd.prog.elem 74 = 5 := by simp [Program.elem, hu]
  have := run_sliceAt_array_l (P := Tryd.prog) w 74 ⟨g, o, none⟩ (by rw [ha, he]; exact hu) .i64 (f : Int) (by omega) (by rw [ha]; omega)
  rw [this, he, size_u8', ha]
  simp [slicedAt, Addr.add_lit, show ¬ (64 : Nat) = f by omega]

theorem slice_from (a : Addr) (L C m : Nat) (w : World) (hm : m ≤ L) : (Instr.slice 23 (.slice (some a) L C) (some (.int .i64 (m : Int))) none none).run Tryd.prog w = .ok (.slice (if C = m then some a else some (a.add m)) (L - m) (C - m)) w := by
  have hu := Tryd.underlying23
  have hun : (underlying 23).run Tryd.prog w = .ok (.slice 5) w := by simp [underlying, hu]
  simp [Instr.slice, hun, Instr.sliceBounds, Instr.sliceBound, asIntOf, hm, Result.andThen]
theorem slice_from' (a : Addr) (L C m : Nat) (w : World) (hm : m ≤ L) : (Instr.sliceAt 23 (.slice (some a) L C) (some (.int .i64 (m : Int))) none none).run Tryd.prog w = .ok (.slice (if C = m then some a else some (a.add m)) (L - m) (C - m)) w := by
  have hu := Tryd.underlying23
  have he : Tryd.prog.elem 23 = 5 := by simp [Program.elem, hu]
  rw [run_sliceAt_slice (P := Tryd.prog) w _ _ _ _ _ (by rw [he]; exact hu), slice_from a L C m w hm]

/-- Bytes are copied into what a hasher has not mixed in yet. -/
theorem wpList_copy_hash {w : World} {ops : Array Oper} {rest : List Oper} {o : Oper} {a : Act} {Q : Exit → Act → World → Prop} (g : Nat) (st : Sh.St) (R : List Int) (n : Nat) (ty : TypeId) (hi : Is w g (hcells st R n) ty) (hgd : o.guard = none) (d s : Operand)
    (ho : o.op = .call { callee := .builtin .copy, args := #[d, s], argTypes := #[23, 23] }) (f L C : Nat) (ad : Addr) (hd : a.eval d = .slice (some ⟨g, 8 + f, none⟩) (64 - f) (64 - f)) (hs : a.eval s = .slice (some ad) L C)
    (hR : R.length = 64) (c : List Int) (m : Nat) (hcm : c.length = m) (hm : m = Nat.min L (64 - f)) (hf : f + m ≤ 64) (hsrc : ∀ j v, (vals c)[j]? = some v → w.cell? (ad.add j) = some v)
    (h : ∀ w2, Is w2 g (hcells st (splice R f c) n) ty → (∀ B w0, Only g B w0 w → Only g B w0 w2) → wpList Tryd.prog ops Q rest (a.put o.dst (.int .i64 (m : Int))) w2) : wpList Tryd.prog ops Q (o :: rest) a w := by
  have hl := hcells_length st R n hR
  refine wpList_copy_own hgd d s 23 23 ho 5 Tryd.underlying23 size_u8 g (8 + f) (64 - f) (64 - f) ad L C hd hs _ ty hi (vals c) (by rw [vals_length, hcm, hm]) hsrc (by rw [List.size_toArray, hl, vals_length]; omega) (vals_one _) ?_
  have e := hcells_splice st R c n f hR (by omega)
  have hg : goInt ((vals c).length : Nat) = .int .i64 (m : Int) := by rw [vals_length, hcm]; rfl
  rw [hg]
  refine h _ ?_ (fun B w0 h0 => h0.setRow (.inl rfl) _)
  rw [← e]
  exact Is.row hi _

set_option maxRecDepth 100000 in
set_option maxHeartbeats 800000 in
theorem hwrite_some (g b off cap : Nat) (all l : List Int) (st : Sh.St) (R : List Int) (w : World) (hA : Abs st R all) (hS : Is w g (hcells st R all.length) 77) (ht : Tab w) (hg : 1 < g)
    (hne : b ≠ g) (hbt : Sz.Byt l) (h0 : 0 < l.length) (hcap : l.length ≤ cap) (hm : cap ≤ maxLen) (hc : ∀ j, j < l.length → w.cell? ⟨b, off + j, none⟩ = some (.int .u8 (l.getD j 0))) (hlen : all.length + l.length < 2305843009213693952) :
    Calls Tryd.prog 37 #[.pointer (some ⟨g, 0, none⟩), .slice (some ⟨b, off, none⟩) l.length cap] w fun e w' => e = .returned (.tuple #[]) ∧
      (∃ st' R', Abs st' R' (all ++ l) ∧ Is w' g (hcells st' R' (all ++ l).length) 77) ∧ Only g w.heap.size w w' := by
  unfold maxLen at hm
  have hlt := hS.lt
  have hlb : b < w.heap.size := World.block_lt_of_cell? w ⟨b, off + 0, none⟩ (hc 0 h0)
  have HS := hide hS
  have HT := hide ht
  have HC := hide hc
  clear hS ht hc
  go_enter Tryd.func37, Tryd.ntmps37
  go_wp2
  go_loopw [1] (fun v wr => ∃ (k : Nat) (A : Option Addr) (st : Sh.St) (R : List Int) (n : Nat), k ≤ l.length ∧ v = .slice A (l.length - k) (cap - k) ∧ (k < l.length → A = some ⟨b, off + k, none⟩) ∧ n = all.length + k ∧ Abs st R (all ++ l.take k) ∧
      Is wr g (hcells st R n) 77 ∧ Only g w.heap.size w wr) (fun v _ => lenOf v)
  case atStart => exact ⟨0, _, st, R, all.length, by omega, rfl, fun _ => rfl, rfl, by simpa using hA, HS.out, Only.refl _ _ _⟩
  case round =>
    obtain ⟨k, A, st, R, n, hk, rfl, hAd, hn, hAb, hs1, ho1⟩ := hrel
    by_cases hkl : k < l.length
    · obtain rfl := hAd hkl
      have hnl : (all ++ l.take k).length = n := by rw [List.length_append, List.length_take]; omega
      have hR := hAb.len
      have hct := hs1.cell 72
      rw [hcells_taken _ _ _ hR] at hct
      have hft := hs1.frozen 72
      obtain ⟨L, hL⟩ : ∃ L, L = l.length - k := ⟨_, rfl⟩
      obtain ⟨C, hC⟩ : ∃ C, C = cap - k := ⟨_, rfl⟩
      rw [← hL, ← hC]
      have hL0 : 0 < L := by omega
      obtain ⟨f, hf⟩ : ∃ f, f = n % 64 := ⟨_, rfl⟩
      have hfi : (n : Int).tmod 64 = (f : Int) := by rw [Int.tmod_eq_emod_of_nonneg (by omega)]; omega
      have hf64 : f < 64 := by omega
      have hnb : n < 2305843009213693952 := by omega
      have hC47 : C ≤ 9223372036854775807 := by omega
      have hLC : L ≤ C := by omega
      have hsl := fun w => slice_rest g 8 f w hf64
      obtain ⟨m, hmm⟩ : ∃ m, m = Nat.min L (64 - f) := ⟨_, rfl⟩
      have hm1 : 0 < m := by rw [hmm]; exact Nat.lt_min.2 ⟨hL0, by omega⟩
      have hmL : m ≤ L := by rw [hmm]; exact Nat.min_le_left _ _
      have hmf : m ≤ 64 - f := by rw [hmm]; exact Nat.min_le_right _ _
      have hmf' : f + m ≤ 64 := by omega
      have hmC : m ≤ C := by omega
      have hmL' : (m : Int) ≤ (L : Int) := by omega
      have hnm : n + m < 2305843009213693952 := by omega
      obtain ⟨c, hcc⟩ : ∃ c, c = (l.drop k).take m := ⟨_, rfl⟩
      have hcl : c.length = m := by rw [hcc, List.length_take, List.length_drop]; omega
      have hcb : Sz.Byt c := by rw [hcc]; exact (hbt.drop _).take _
      have hsrc : ∀ j v, (vals c)[j]? = some v → wr.cell? ((⟨b, off + k, none⟩ : Addr).add j) = some v := fun j v hv => by
        have hj : j < c.length := by have := (List.getElem?_eq_some_iff.1 hv).1; rwa [vals_length] at this
        rw [Addr.add_lit, Nat.add_assoc, World.cell?_of_block (w := w) (ho1.block b hlb hne), HC.out (k + j) (by omega), ← hv, vals_get _ _ hj, hcc]
        simp only [List.getD, List.getElem?_take, List.getElem?_drop]
        rw [if_pos (by omega)]
      have hnx : all ++ l.take (k + m) = (all ++ l.take k) ++ c := by rw [hcc, List.append_assoc, ← List.take_add]
      have HL := hide hL
      have HCc := hide hC
      have HF := hide hf
      have HN := hide hn
      have HNL := hide hnl
      have HS1 := hide hs1
      have HM := hide hmm
      have HCL := hide hcl
      have HSRC := hide hsrc
      have HNX := hide hnx
      clear hL hC hf hn hnl hs1 HS hA hAd hmm hcl hsrc hcc hnx
      obtain ⟨A', hA'⟩ : ∃ A', A' = (if C = m then some (⟨b, off + k, none⟩ : Addr) else some ((⟨b, off + k, none⟩ : Addr).add m)) := ⟨_, rfl⟩
      have hsl2 := fun w => slice_from ⟨b, off + k, none⟩ L C m w hmL
      have hsl3 := fun w => slice_from' ⟨b, off + k, none⟩ L C m w hmL
      rw [← hA'] at hsl2 hsl3
      have HA' : Hid (m < L → A' = some ⟨b, off + (k + m), none⟩) := fun h => by rw [hA', if_neg (by omega), Addr.add_lit, Nat.add_assoc]
      clear hA'
      by_cases hfull : f + m = 64
      · have hfi2 : ((f : Int) + (m : Int) == 64) = true := by simp; omega
        go_wp2_with (refine wpList_copy_hash g st R n 77 HS1.out rfl (.tmp 19) (.tmp 20) rfl f L C ⟨b, off + k, none⟩ rfl rfl hR c m HCL.out HM.out hmf' HSRC.out ?_; intro w2 hs2 ho2; have hct2 := hs2.cell 72; rw [hcells_taken _ _ _ (splice_len R c f hR (by rw [HCL.out]; exact hmf'))] at hct2; have hft2 := hs2.frozen 72; have HS2 := hide hs2; have HO2 := hide ho2; clear hs2 ho2)
        have hs3 := HS2.out.set 72 (.int .u64 ((n : Int) + (m : Int)))
        rw [show (n : Int) + (m : Int) = ((n + m : Nat) : Int) by omega, hcells_set _ _ _ _ (splice_len R c f hR (by rw [HCL.out]; exact hmf'))] at hs3
        have ho3 := (HO2.out _ _ ho1).setCell (p := ⟨g, 72, none⟩) (.inl rfl) (.int .u64 ((n + m : Nat) : Int))
        have hE : Abs (Sh.mix st (splice R f c)) (splice R f c) (all ++ l.take (k + m)) := by
          rw [HNX.out]
          have := hAb.full hcb (by rw [HNL.out, HCL.out, ← HF.out]; exact hfull)
          rwa [HNL.out, ← HF.out] at this
        have ht3 := HT.out.only ho3 (by omega) hg
        have hR3 : (splice R f c).length = 64 := splice_len R c f hR (by rw [HCL.out]; exact hmf')
        have hB3 : Sz.Byt (splice R f c) := splice_byt f hAb.byt hcb
        have hok3 := hAb.ok
        rw [show (n : Int) + (m : Int) = ((n + m : Nat) : Int) by omega]
        generalize w2.setCell ⟨g, 72, none⟩ (.int .u64 ((n + m : Nat) : Int)) = w3 at *
        generalize splice R f c = R' at *
        have hrg := hcells_range hs3
        have hvl : (Tryd.prog.info? 74).map (·.size) = some (vals R').length := by rw [vals_length, hR3]; exact size_rest
        have hul := Tryd.underlying74
        have HS3 := hide hs3
        have HO3 := hide ho3
        have HT3 := hide ht3
        clear hs3 ho3 ht3 HS2 HO2 HT HC hct2 hft2 hct hft
        go_region_held2 (fun W : World => W.rangeAt g 8 (vals R')) ((first | exact hrg | (exact hcells_range (by assumption)))) ((go_at_call 44; refine (mix_any g st (vals R' ++ [.int .u64 ((n + m : Nat) : Int)]) 77 R' _ ?_ hok3 hR3 hB3 ?_ hg).mono ?_; exact HS3.out; exact HT3.out; rintro e w4 ⟨rfl, hs4, ho4⟩))
        go_wp2
        go_roundw
        case rel =>
          refine ⟨k + m, A', Sh.mix st R', R', n + m, by have := HL.out; omega, ?_, fun h => HA'.out (by have := HL.out; omega), by have := HN.out; omega, hE, hs4, HO3.out.drew.trans (ho4.mono (by exact HO3.out.size))⟩
          have h1 := HL.out
          have h2 := HCc.out
          rw [show L - m = l.length - (k + m) by omega, show C - m = cap - (k + m) by omega]
        case measure => simp [lenOf]; omega
      · have hfi2 : ((f : Int) + (m : Int) == 64) = false := by simp; omega
        go_wp2_with (refine wpList_copy_hash g st R n 77 HS1.out rfl (.tmp 19) (.tmp 20) rfl f L C ⟨b, off + k, none⟩ rfl rfl hR c m HCL.out HM.out hmf' HSRC.out ?_; intro w2 hs2 ho2; have hct2 := hs2.cell 72; rw [hcells_taken _ _ _ (splice_len R c f hR (by rw [HCL.out]; exact hmf'))] at hct2; have hft2 := hs2.frozen 72; have HS2 := hide hs2; have HO2 := hide ho2; clear hs2 ho2)
        have hs3 := HS2.out.set 72 (.int .u64 ((n : Int) + (m : Int)))
        rw [show (n : Int) + (m : Int) = ((n + m : Nat) : Int) by omega, hcells_set _ _ _ _ (splice_len R c f hR (by rw [HCL.out]; exact hmf'))] at hs3
        have ho3 := (HO2.out _ _ ho1).setCell (p := ⟨g, 72, none⟩) (.inl rfl) (.int .u64 ((n + m : Nat) : Int))
        have hE : Abs st (splice R f c) (all ++ l.take (k + m)) := by
          rw [HNX.out]
          have := hAb.part hcb (by rw [HNL.out, HCL.out, ← HF.out]; omega)
          rwa [HNL.out, ← HF.out] at this
        go_roundw
        case rel =>
          rw [show (n : Int) + (m : Int) = ((n + m : Nat) : Int) by omega]
          refine ⟨k + m, A', st, splice R f c, n + m, by have := HL.out; omega, ?_, fun h => HA'.out (by have := HL.out; omega), by have := HN.out; omega, hE, hs3, ho3⟩
          have h1 := HL.out
          have h2 := HCc.out
          rw [show L - m = l.length - (k + m) by omega, show C - m = cap - (k + m) by omega]
        case measure => simp [lenOf]; omega
    · have hk' : k = l.length := by omega
      have hL0 : l.length - k = 0 := by omega
      rw [hL0]
      have HE : Hid (Abs st R (all ++ l)) := by show Abs st R (all ++ l); rw [hk', List.take_length] at hAb; exact hAb
      have HNN : Hid (n = (all ++ l).length) := by show n = _; rw [List.length_append]; omega
      have HS1 := hide hs1
      clear hs1 hAb hn hk' hL0 hAd HS HT HC
      go_wp2
      go_end0
      refine ⟨rfl, ⟨st, R, HE.out, ?_⟩, ho1⟩
      rw [← HNN.out]
      exact HS1.out
end Go.Proofs.YtphdnbflogobfaaDoor

/- The contracts of the hasher's New, Write and Sum, and of sha.Sum. -/
namespace Go.Proofs.YtphdnbflogobfaaDoor
open Go.RowKit
set_option linter.unusedVariables false

theorem hwrite_nil (g cap : Nat) (a : Option Addr) (w : World) :
    Calls Tryd.prog 37 #[.pointer (some ⟨g, 0, none⟩), .slice a 0 cap] w fun e w' => e = .returned (.tuple #[]) ∧ w = w' := by
  go_enter Tryd.func37, Tryd.ntmps37
  go_wp2
  go_loop [1] (fun v => v = .slice a 0 cap) (fun _ => 0)
  case atStart => exact rfl
  case round =>
    obtain rfl := hrel
    go_wp2
    go_end0
    exact ⟨rfl, rfl⟩

/-- The hasher in block g has taken all. -/
def Hash (w : World) (g : Nat) (all : List Int) : Prop := ∃ st R, Abs st R all ∧ Is w g (hcells st R all.length) 77
theorem Hash.below {w w' : World} {g B : Nat} {all : List Int} (h : Hash w g all) (k : Below B w w') (hB : g < B) : Hash w' g all := by
  obtain ⟨st, R, h1, h2⟩ := h
  exact ⟨st, R, h1, h2.below k hB⟩
theorem Hash.lt {w : World} {g : Nat} {all : List Int} (h : Hash w g all) : g < w.heap.size := by
  obtain ⟨st, R, h1, h2⟩ := h
  exact h2.lt

theorem hwrite_any (g : Nat) (v : Value) (all l : List Int) (w : World) (hH : Hash w g all) (ht : Tab w) (hg : 1 < g) (h : Has w v l) (hne : ∀ b off n c, v = .slice (some ⟨b, off, none⟩) n c → 0 < n → b ≠ g) (hbt : Sz.Byt l) (hlen : all.length + l.length < 2305843009213693952) :
    Calls Tryd.prog 37 #[.pointer (some ⟨g, 0, none⟩), v] w fun e w' => e = .returned (.tuple #[]) ∧ Hash w' g (all ++ l) ∧ Only g w.heap.size w w' := by
  obtain ⟨st, R, hA, hS⟩ := hH
  rcases h with ⟨a, cap, rfl, rfl, hm, hn⟩ | ⟨b, off, cap, rfl, h0, h1, hm, hc⟩
  · refine (hwrite_nil g cap a w).mono fun e w' ⟨he, hw⟩ => ?_
    subst hw
    rw [List.append_nil]
    exact ⟨he, ⟨st, R, hA, hS⟩, Only.refl _ _ _⟩
  · refine (hwrite_some g b off cap all l st R w hA hS ht hg (hne b off _ _ rfl h0) hbt h0 h1 hm hc hlen).mono fun e w' ⟨he, ⟨st', R', h2, h3⟩, ho⟩ => ?_
    exact ⟨he, ⟨st', R', h2, h3⟩, ho⟩

theorem size_hash : Sized 77 73 := by unfold Sized; kernel_rfl
def zhash : List Value := hcells ⟨0, 0, 0, 0, 0, 0, 0, 0⟩ (List.replicate 64 0) 0
theorem zero_hash (w : World) : (zeroValue 77).run Tryd.prog w = .ok (.agg zhash.toArray) w := by
  have h : (Tryd.prog.info? 77).map (fun i => (i.zero, i.size)) = some (some (.agg zhash.toArray), 73) := by kernel_rfl
  exact (zero_of_info h).1 w

set_option maxRecDepth 100000 in
theorem new_any (w : World) :
    Calls Tryd.prog 36 #[] w fun e w' => e = .returned (.pointer (some ⟨w.heap.size, 0, none⟩)) ∧ Hash w' w.heap.size [] ∧ Below w.heap.size w w' := by
  have hz := zero_hash
  have hzl : ¬ zhash.length < 8 := by decide
  go_enter Tryd.func36, Tryd.ntmps36
  go_wp2
  go_ret
  refine ⟨rfl, ⟨Sh.init, List.replicate 64 0, Abs.zero _ (by simp) (fun x hx => ?_), Is.new w (hcells Sh.init (List.replicate 64 0) 0) 77⟩, below_alloc w _⟩
  rw [List.eq_of_mem_replicate hx]; omega

theorem hasher_desc : ∃ fs, Tryd.prog.underlying 77 = some (.struct fs) := ⟨_, Tryd.underlying77⟩
theorem hcells_one (st : Sh.St) (R : List Int) (n : Nat) : ∀ v ∈ hcells st R n, v.oneCell' = true := by
  intro v hv
  simp only [hcells, List.mem_append, List.mem_singleton] at hv
  rcases hv with hv | hv | rfl
  · exact wvals_one _ v hv
  · exact vals_one _ v hv
  · rfl
theorem slice_end (g n : Nat) (w : World) (h : n ≤ 72) : (Instr.sliceAt 79 (.pointer (some ⟨g, 0, none⟩)) none (some (.int .i64 (n : Int))) none).run Tryd.prog w = .ok (.slice (some ⟨g, 0, none⟩) n 72) w := by
  have hu := Tryd.underlying79
  have ha : Tryd.prog.arrayLen 79 = 72 := by simp [Program.arrayLen, hu]
  have he : Tryd.prog.elem 79 = 5 := by simp [Program.elem, hu]
  have := run_sliceAt_array_h (P := Tryd.prog) w 79 ⟨g, 0, none⟩ (by rw [ha, he]; exact hu) .i64 (n : Int) (by omega) (by rw [ha]; omega)
  rw [this, he, size_u8', ha]
  simp [slicedAt, Addr.add_lit]

set_option maxRecDepth 100000 in
set_option maxHeartbeats 400000 in
theorem hsum_any (g : Nat) (all : List Int) (w : World) (hH : Hash w g all) (ht : Tab w) (hg : 1 < g) (hlen : all.length < 1152921504606846976) :
    Calls Tryd.prog 38 #[.pointer (some ⟨g, 0, none⟩)] w fun e w' => e = .returned (.agg (vals (Sh.sum all)).toArray) ∧ Below w.heap.size w w' := by
  obtain ⟨st, R, hA, hS⟩ := hH
  have hA' := hide hA
  have hR := hA.len
  have hcl := hcells_length st R all.length hR
  have hct0 := hS.cell 72
  rw [hcells_taken _ _ _ hR] at hct0
  obtain ⟨n, hn⟩ : ∃ n, n = all.length := ⟨_, rfl⟩
  obtain ⟨H, hH⟩ : ∃ H, H = hcells st R all.length := ⟨_, rfl⟩
  obtain ⟨E, hE⟩ : ∃ E, E = pend n 8 := ⟨_, rfl⟩
  obtain ⟨q, hq⟩ : ∃ q, q = 9 + Sh.zeros n := ⟨_, rfl⟩
  obtain ⟨X, hX⟩ : ∃ X, X = Sh.ending n := ⟨_, rfl⟩
  have HEND : Hid (∀ w', Calls Tryd.prog 45 #[.int .u64 (n : Int)] w' fun e w'' => e = .returned (.tuple #[.agg (vals E).toArray, .int .i64 (q : Int)]) ∧ Below w'.heap.size w' w'') := fun w' => by rw [hE, hq]; exact ending_any n w' (by omega)
  have hEl : (vals E).length = 72 := by rw [vals_length, hE, pend_length]
  have hXE : E.take q = X := by rw [hE, hq, hX]; exact pend_all n
  have hXl : X.length = q := by rw [hX, hq]; exact ending_length n
  have hXb : Sz.Byt X := by rw [hX]; exact ending_byt n
  have hq72 : q ≤ 72 := by have := zeros_lt n; omega
  have hq0 : 0 < q := by omega
  have HSUM : Hid (∀ st', st' = Sh.comp (all ++ X) ((all ++ X).length / 64) → Sh.digest st' = Sh.sum all) := fun st' h => by rw [h, hX, hn]; rfl
  rw [← hn] at hct0
  have hH1 : ∀ v ∈ H, v.oneCell' = true := by rw [hH]; exact hcells_one _ _ _
  have hHash : Hid (∀ w' b, Is w' b H 77 → Hash w' b all) := fun w' b h => ⟨st, R, hA, by rw [hH] at h; exact h⟩
  rw [← hH] at hS hcl
  have hlt := hS.lt
  have HS := hide hS
  have HCL := hide hcl
  have HEL := hide hEl
  have HXE := hide hXE
  have HXL := hide hXl
  have HH1 := hide hH1
  have HT := hide ht
  have hnl : n < 1152921504606846976 := by omega
  have HNL : Hid (all.length + X.length < 2305843009213693952) := by show _ < _; omega
  have hzl : zhash.length = 73 := hcells_length _ _ _ (by simp)
  have hze : ∀ w, (zeroValue 79).run Tryd.prog w = .ok (.agg (vals (List.replicate 72 0)).toArray) w := zero_end
  obtain ⟨Y, hY⟩ : ∃ Y, Y = vals (List.replicate 72 0) := ⟨_, rfl⟩
  rw [← hY] at hze
  have hYl : Y.length = 72 := by rw [hY]; simp [vals]
  have hzh := zero_hash
  generalize zhash = Zh at *
  have HZL := hide hzl
  have HYL := hide hYl
  have HCT0 := hide hct0
  have hsl := fun w' b => slice_end b q w' hq72
  clear hE hq hX hH hn hA hS hcl hEl hXE hXl hH1 ht hY hYl hzl hct0
  go_enter Tryd.func38, Tryd.ntmps38
  go_wp2_with (first
    | (go_at_call 45; refine (HEND.out _).mono ?_; rintro e w3 ⟨rfl, hb3⟩)
    | (refine wpList_load_str 77 H g (HS.out.alloc _) Tryd.underlying77 size_hash HCL.out rfl (.tmp 7) rfl rfl ?_)
    | (refine wpList_store_any 77 Zh H (w.heap.size + 1) (Is.new' Zh 77 (by simp)) size_hash HZL.out HCL.out HH1.out rfl (.tmp 3) (.tmp 8) rfl rfl rfl rfl ?_; intro w2 hi2 hb2 hk2 hz2; have hb2' := hb2 _ _ (below_alloc2 w _ _) (Nat.le_succ _); have hct2 : w2.cell? ⟨g, 72, none⟩ = some (.int .u64 (n : Int)) := (by rw [hb2'.cell (p := ⟨g, 72, none⟩) hlt]; exact HCT0.out))
    | (refine wpList_store_any 79 Y (vals E) w3.heap.size (Is.new w3 Y 79) size_end HYL.out HEL.out (vals_one _) rfl (.tmp 4) (.tmp 15) rfl rfl rfl rfl ?_; intro w4 hi4 hb4 hk4 hz4))
  have hb3' : Below w.heap.size w w3 := hb2'.trans (hb3.mono hb2'.size)
  have hz2' : w2.heap.size = w.heap.size + 2 := by rw [hz2]; simp
  have hI3 : Is w3 (w.heap.size + 1) H 77 := hi2.below hb3 (by omega)
  have hI3d : Is w3 w.heap.size (vals (List.replicate 32 0)) 26 := (hk2 _ _ _ (by omega) ((Is.new w (vals (List.replicate 32 0)) 26).alloc _)).below hb3 (by omega)
  have hz3 : w.heap.size + 2 ≤ w3.heap.size := by have := hb3.size; omega
  have hb4' : Below w3.heap.size w3 w4 := hb4 _ _ (below_alloc w3 _) (Nat.le_refl _)
  have hI4 := hHash.out _ _ (hI3.below hb4' (by omega))
  have hI4d := hI3d.below hb4' (by omega)
  have hb4w : Below w.heap.size w w4 := hb3'.trans (hb4'.mono hb3'.size)
  have ht4 := HT.out.below hb4w (by omega)
  have hz4' : w3.heap.size ≤ w4.heap.size := hb4'.size
  have has4 : Has w4 (.slice (some ⟨w3.heap.size, 0, none⟩) q 72) X := .inr ⟨w3.heap.size, 0, 72, by rw [HXL.out], by rw [HXL.out]; exact hq0, by rw [HXL.out]; exact hq72, by unfold maxLen; omega, fun j hj => by
    rw [HXL.out] at hj
    have hEl : E.length = 72 := by have := HEL.out; rwa [vals_length] at this
    rw [hi4.cell, Nat.zero_add, vals_get _ _ (by omega), ← HXE.out]
    simp only [List.getD, List.getElem?_take]
    rw [if_pos hj]⟩
  have HNE : Hid (∀ b off n c, (Value.slice (some ⟨w3.heap.size, 0, none⟩) q 72) = .slice (some ⟨b, off, none⟩) n c → 0 < n → b ≠ w.heap.size + 1) := fun b off n c e _ => by
    injection e with e1 e2 e3
    injection e1 with e1
    injection e1 with e1 e2
    omega
  have HW := hide (hwrite_any (w.heap.size + 1) _ all X w4 hI4 ht4 (by omega) has4 HNE.out hXb HNL.out)
  clear hI4 ht4 has4 HNE hi4 hb4 hk4 hi2 hb2 hk2 hI3 hI3d
  refine HW.out.mono ?_
  rintro e w5 ⟨rfl, ⟨st5, R5, hA5, hS5⟩, ho5⟩
  have hI5d := hI4d.only ho5 (by omega) (by omega)
  have hb5 : Below w.heap.size w w5 := hb4w.trans (ho5.below (by omega) (by omega))
  have hz5 : w4.heap.size ≤ w5.heap.size := ho5.size
  have HD := hide (digest_any (w.heap.size + 1) st5 _ 77 w5 hS5 hA5.ok)
  have hdg : Hid (Sh.digest st5 = Sh.sum all) := HSUM.out st5 hA5.words
  have hdl : (Sh.digest st5).length = 32 := by simp [Sh.digest]
  generalize Sh.digest st5 = D at *
  have HI5 := hide hI5d
  have HDL := hide hdl
  clear hS5 hA5 HW hI4d hI5d hdl
  go_wp2_with (first
    | (go_at_call 46; refine HD.out.mono ?_; rintro e w6 ⟨rfl, hb6⟩)
    | (refine wpList_store_any 26 (vals (List.replicate 32 0)) (vals D) w.heap.size (HI5.out.below hb6 (by omega)) size_dig (by simp [vals]) (by rw [vals_length]; exact HDL.out) (vals_one _) rfl (.tmp 2) (.tmp 21) rfl rfl rfl rfl ?_; intro w7 hi7 hb7 hk7 hz7))
  have hr := hi7.cellsOf Tryd.underlying26 (by rw [vals_length, HDL.out]; exact size_dig)
  exact bodyPost_ret (v := .agg (vals D).toArray) (results_cell1 Tryd.results38 rfl hr) rfl ⟨by rw [hdg.out], hb7 _ _ (hb5.trans (hb6.mono hb5.size)) (Nat.le_refl _)⟩

theorem new_at (w : World) (k : Nat) (hk : k = w.heap.size) :
    Calls Tryd.prog 36 #[] w fun e w' => e = .returned (.pointer (some ⟨k, 0, none⟩)) ∧ Hash w' k [] ∧ Below w.heap.size w w' := by subst hk; exact new_any w
theorem Has.block_lt {w : World} {v : Value} {l : List Int} (h : Has w v l) {b off n c : Nat} (e : v = .slice (some ⟨b, off, none⟩) n c) (hn : 0 < n) : b < w.heap.size := by
  rcases h with ⟨a, cap, rfl, rfl, hm, hc⟩ | ⟨b', off', cap, rfl, h0, h1, hm, hc⟩
  · injection e with e1 e2 e3; omega
  · injection e with e1 e2 e3
    injection e1 with e1
    injection e1 with e1 e4
    subst e1
    exact World.block_lt_of_cell? w ⟨b', off' + 0, none⟩ (hc 0 h0)

set_option maxRecDepth 100000 in
set_option maxHeartbeats 400000 in
theorem sum_any (v : Value) (l : List Int) (w : World) (h : Has w v l) (hbt : Sz.Byt l) (ht : Tab w) (hw : 1 < w.heap.size) (hlen : l.length < 1152921504606846976) :
    Calls Tryd.prog 26 #[v] w fun e w' => e = .returned (.agg (vals (Sh.sum l)).toArray) ∧ Below w.heap.size w w' := by
  have hdl : (Sh.sum l).length = 32 := by simp [Sh.sum, Sh.digest]
  obtain ⟨D, hD⟩ : ∃ D, D = Sh.sum l := ⟨_, rfl⟩
  rw [← hD] at hdl ⊢
  have hHW : ∀ w1, Below w.heap.size w w1 → Hash w1 (w.heap.size + 1) [] → Calls Tryd.prog 37 #[.pointer (some ⟨w.heap.size + 1, 0, none⟩), v] w1 fun e w' => e = .returned (.tuple #[]) ∧ Hash w' (w.heap.size + 1) l ∧ Only (w.heap.size + 1) w1.heap.size w1 w' := fun w1 hb hh1 => by
    have := hwrite_any (w.heap.size + 1) v [] l w1 hh1 (ht.below hb hw) (by omega) (h.below hb) (fun b off n c e hn => by have := h.block_lt e hn; omega) hbt (by simp; omega)
    simpa using this
  have hHS : ∀ w1, Below w.heap.size w w1 → Hash w1 (w.heap.size + 1) l → Calls Tryd.prog 38 #[.pointer (some ⟨w.heap.size + 1, 0, none⟩)] w1 fun e w' => e = .returned (.agg (vals D).toArray) ∧ Below w1.heap.size w1 w' := fun w1 hb1 hh1 => by
    rw [hD]; exact hsum_any _ l w1 hh1 (ht.below hb1 hw) (by omega) hlen
  have HHW := hide hHW
  have HHS := hide hHS
  have HI := hide (Is.new w (vals (List.replicate 32 0)) 26)
  have HBA := hide (below_alloc w (.cells (vals (List.replicate 32 0)).toArray 26))
  have HDL := hide hdl
  clear hHW hHS hdl hD
  go_enter Tryd.func26, Tryd.ntmps26
  go_wp2_with (first
    | (go_at_call 36; refine (new_at _ (w.heap.size + 1) (by simp)).mono ?_; rintro e w1 ⟨rfl, hh1, hb1⟩; have hI1 := HI.out.below hb1 (by simp); have hb1' := HBA.out.trans (hb1.mono (by simp)))
    | (go_at_call 37; refine (HHW.out _ hb1' hh1).mono ?_; rintro e w2 ⟨rfl, hh2, ho2⟩; have hI2 := hI1.only ho2 hI1.lt (by omega); have hb2 := hb1'.trans (ho2.below hb1'.size (Nat.le_succ _)))
    | (go_at_call 38; refine (HHS.out _ hb2 hh2).mono ?_; rintro e w3 ⟨rfl, hb3⟩; have HI3 := hide (hI2.below hb3 hI2.lt); have HB3 := hide (hb2.trans (hb3.mono hb2.size)); clear hI1 hI2 hb1 hb1' hb2 hb3 hh1 hh2 ho2)
    | (refine wpList_store_any 26 (vals (List.replicate 32 0)) (vals D) w.heap.size HI3.out size_dig (by simp [vals]) (by rw [vals_length]; exact HDL.out) (vals_one _) rfl (.tmp 2) (.tmp 9) rfl rfl rfl rfl ?_; intro w7 hi7 hb7 hk7 hz7))
  have hr := hi7.cellsOf Tryd.underlying26 (by rw [vals_length, HDL.out]; exact size_dig)
  exact bodyPost_ret (v := .agg (vals D).toArray) (results_cell1 Tryd.results26 rfl hr) rfl ⟨rfl, hb7 _ _ HB3.out (Nat.le_refl _)⟩
end Go.Proofs.YtphdnbflogobfaaDoor

/- Digests with a key as functions of lists: the key's block, Mac, and what Expand tells. -/
namespace Go.Proofs.YtphdnbflogobfaaDoor.Mc
set_option linter.unusedVariables false

theorem digest_byt (s : Sh.St) : Sz.Byt (Sh.digest s) := by
  intro x hx
  simp only [Sh.digest, List.mem_map] at hx
  obtain ⟨i, _, rfl⟩ := hx
  omega
theorem sum_byt (l : List Int) : Sz.Byt (Sh.sum l) := digest_byt _
theorem sum_length (l : List Int) : (Sh.sum l).length = 32 := by simp [Sh.sum, Sh.digest]

/-- The key, or its digest where it is longer than a block. -/
def short (key : List Int) : List Int := if 64 < key.length then Sh.sum key else key
theorem short_length (key : List Int) : (short key).length ≤ 64 := by
  unfold short
  split
  · rw [sum_length]; omega
  · omega
theorem short_byt (key : List Int) (h : Sz.Byt key) : Sz.Byt (short key) := by
  unfold short
  split
  · exact sum_byt key
  · exact h
/-- The key's block. -/
def block (key : List Int) : List Int := short key ++ List.replicate (64 - (short key).length) 0
theorem block_length (key : List Int) : (block key).length = 64 := by
  have := short_length key
  simp [block]; omega
theorem block_byt (key : List Int) (h : Sz.Byt key) : Sz.Byt (block key) :=
  (short_byt key h).append (fun x hx => by rw [List.eq_of_mem_replicate hx]; omega)
/-- Each byte unlike c. -/
def mask (c : Nat) (l : List Int) : List Int := l.map fun x => ((x.toNat ^^^ c : Nat) : Int)
theorem mask_length (c : Nat) (l : List Int) : (mask c l).length = l.length := by simp [mask]
theorem mask_byt (c : Nat) (l : List Int) (h : Sz.Byt l) (hc : c < 256) : Sz.Byt (mask c l) := by
  intro x hx
  simp only [mask, List.mem_map] at hx
  obtain ⟨y, hy, rfl⟩ := hx
  have hb := h y hy
  have : y.toNat ^^^ c < 2 ^ 8 := Nat.xor_lt_two_pow (by omega) (by omega)
  omega
def mac (key b : List Int) : List Int := Sh.sum (mask 92 (block key) ++ Sh.sum (mask 54 (block key) ++ b))
theorem mac_length (key b : List Int) : (mac key b).length = 32 := sum_length _
theorem mac_byt (key b : List Int) : Sz.Byt (mac key b) := sum_byt _

/-- A key longer than a block is as its digest. -/
theorem mac_long (key b : List Int) (h : 64 < key.length) : mac (Sh.sum key) b = mac key b := by
  have e : short (Sh.sum key) = short key := by
    unfold short
    rw [if_neg (by rw [sum_length]; omega), if_pos h]
  have e2 : block (Sh.sum key) = block key := by unfold block; rw [e]
  unfold mac; rw [e2]
/-- Bytes 0 behind a key, to a block, change nothing. -/
theorem mac_zeros (key b : List Int) (z : Nat) (h : key.length + z ≤ 64) : mac (key ++ List.replicate z 0) b = mac key b := by
  have e1 : short (key ++ List.replicate z 0) = key ++ List.replicate z 0 := by unfold short; rw [if_neg (by simp; omega)]
  have e2 : short key = key := by unfold short; rw [if_neg (by omega)]
  have e3 : block (key ++ List.replicate z 0) = block key := by
    unfold block
    rw [e1, e2, List.append_assoc, List.length_append, List.length_replicate, List.replicate_append_replicate, show z + (64 - (key.length + z)) = 64 - key.length by omega]
  unfold mac; rw [e3]

/-- The i-th part of what Expand tells. -/
def part (key info : List Int) : Nat → List Int
  | 0 => []
  | i + 1 => mac key (part key info i ++ info ++ [(((i + 1) % 256 : Nat) : Int)])
def parts (key info : List Int) : Nat → List Int
  | 0 => []
  | i + 1 => parts key info i ++ part key info (i + 1)
theorem part_length (key info : List Int) (i : Nat) : (part key info (i + 1)).length = 32 := mac_length _ _
theorem part_byt (key info : List Int) (i : Nat) : Sz.Byt (part key info i) := by
  cases i with
  | zero => exact Sz.Byt.nil
  | succ i => exact mac_byt _ _
theorem parts_length (key info : List Int) (i : Nat) : (parts key info i).length = 32 * i := by
  induction i with
  | zero => rfl
  | succ i ih => rw [parts, List.length_append, ih, part_length]; omega
theorem parts_byt (key info : List Int) (i : Nat) : Sz.Byt (parts key info i) := by
  induction i with
  | zero => exact Sz.Byt.nil
  | succ i ih => exact ih.append (part_byt _ _ _)
theorem parts_take (key info : List Int) (i j n : Nat) (h : i ≤ j) (hn : n ≤ 32 * i) : (parts key info j).take n = (parts key info i).take n := by
  obtain ⟨d, rfl⟩ : ∃ d, j = i + d := ⟨j - i, by omega⟩
  induction d with
  | zero => rfl
  | succ d ih => rw [show i + (d + 1) = (i + d) + 1 by omega, parts, List.take_append_of_le_length (by rw [parts_length]; omega)]; exact ih (by omega)
/-- What Expand tells: the first n bytes. -/
def expand (key info : List Int) (n : Nat) : List Int := (parts key info ((n + 31) / 32)).take n
theorem expand_length (key info : List Int) (n : Nat) : (expand key info n).length = n := by rw [expand, List.length_take, parts_length]; omega
theorem expand_of (key info : List Int) (n i : Nat) (h : n ≤ 32 * i) : (parts key info i).take n = expand key info n := by
  unfold expand
  exact parts_take _ _ _ _ _ (by omega) (by omega)
theorem expand_take (key info : List Int) (m n : Nat) (h : m ≤ n) : (expand key info n).take m = expand key info m := by
  rw [expand, List.take_take, Nat.min_eq_left h, expand_of _ _ _ _ (by omega)]

set_option maxRecDepth 100000 in
/-- Mac of nothing with no key is not made of 0 alone. -/
theorem none_at : (mac [] []).getD 0 0 = 182 := by kernel_rfl
end Go.Proofs.YtphdnbflogobfaaDoor.Mc

/- Digests for the kernel to reckon: the rounds with a window of sixteen words, and that they are the digest's own. -/
namespace Go.Proofs.YtphdnbflogobfaaDoor.Fs
set_option linter.unusedVariables false

/-- A word, twice. -/
def dbl (x : Nat) : Nat := Nat.mul x 4294967297
def S1 (x : Nat) : Nat := Nat.mod (Nat.xor (Nat.xor (Nat.shiftRight (dbl x) 6) (Nat.shiftRight (dbl x) 11)) (Nat.shiftRight (dbl x) 25)) 4294967296
def S0 (x : Nat) : Nat := Nat.mod (Nat.xor (Nat.xor (Nat.shiftRight (dbl x) 2) (Nat.shiftRight (dbl x) 13)) (Nat.shiftRight (dbl x) 22)) 4294967296
def s1 (x : Nat) : Nat := Nat.mod (Nat.xor (Nat.xor (Nat.shiftRight (dbl x) 17) (Nat.shiftRight (dbl x) 19)) (Nat.shiftRight x 10)) 4294967296
def s0 (x : Nat) : Nat := Nat.mod (Nat.xor (Nat.xor (Nat.shiftRight (dbl x) 7) (Nat.shiftRight (dbl x) 18)) (Nat.shiftRight x 3)) 4294967296

theorem dbl2 (x : Nat) (h : x < 4294967296) : Nat.shiftRight (dbl x) 2 % 4294967296 = Sh.rotr 2 x := by
  show (x * 4294967297) >>> 2 % 4294967296 = x >>> 2 ||| (x <<< 30) % 4294967296
  rw [Nat.shiftRight_eq_div_pow, Nat.shiftRight_eq_div_pow, Nat.shiftLeft_eq, Nat.or_comm, nat_join 30 _ _ (by omega) (by omega)]
  have e1 : x * 4294967297 / 2 ^ 2 = x * 1073741824 + x / 4 := by omega
  have e2 : x * 2 ^ 30 = x * 1073741824 := rfl
  rw [e1, e2]
  obtain ⟨q, r, hr, hq, rfl⟩ : ∃ q r, r < 4 ∧ q < 1073741824 ∧ x = 4 * q + r := ⟨x / 4, x % 4, by omega, by omega, by omega⟩
  have e3 : (4 * q + r) / 4 = q := by omega
  have e4 : (4 * q + r) * 1073741824 = 4294967296 * q + 1073741824 * r := by omega
  rw [e3, e4]
  omega
theorem dbl6 (x : Nat) (h : x < 4294967296) : Nat.shiftRight (dbl x) 6 % 4294967296 = Sh.rotr 6 x := by
  show (x * 4294967297) >>> 6 % 4294967296 = x >>> 6 ||| (x <<< 26) % 4294967296
  rw [Nat.shiftRight_eq_div_pow, Nat.shiftRight_eq_div_pow, Nat.shiftLeft_eq, Nat.or_comm, nat_join 26 _ _ (by omega) (by omega)]
  have e1 : x * 4294967297 / 2 ^ 6 = x * 67108864 + x / 64 := by omega
  have e2 : x * 2 ^ 26 = x * 67108864 := rfl
  rw [e1, e2]
  obtain ⟨q, r, hr, hq, rfl⟩ : ∃ q r, r < 64 ∧ q < 67108864 ∧ x = 64 * q + r := ⟨x / 64, x % 64, by omega, by omega, by omega⟩
  have e3 : (64 * q + r) / 64 = q := by omega
  have e4 : (64 * q + r) * 67108864 = 4294967296 * q + 67108864 * r := by omega
  rw [e3, e4]
  omega
theorem dbl7 (x : Nat) (h : x < 4294967296) : Nat.shiftRight (dbl x) 7 % 4294967296 = Sh.rotr 7 x := by
  show (x * 4294967297) >>> 7 % 4294967296 = x >>> 7 ||| (x <<< 25) % 4294967296
  rw [Nat.shiftRight_eq_div_pow, Nat.shiftRight_eq_div_pow, Nat.shiftLeft_eq, Nat.or_comm, nat_join 25 _ _ (by omega) (by omega)]
  have e1 : x * 4294967297 / 2 ^ 7 = x * 33554432 + x / 128 := by omega
  have e2 : x * 2 ^ 25 = x * 33554432 := rfl
  rw [e1, e2]
  obtain ⟨q, r, hr, hq, rfl⟩ : ∃ q r, r < 128 ∧ q < 33554432 ∧ x = 128 * q + r := ⟨x / 128, x % 128, by omega, by omega, by omega⟩
  have e3 : (128 * q + r) / 128 = q := by omega
  have e4 : (128 * q + r) * 33554432 = 4294967296 * q + 33554432 * r := by omega
  rw [e3, e4]
  omega
theorem dbl11 (x : Nat) (h : x < 4294967296) : Nat.shiftRight (dbl x) 11 % 4294967296 = Sh.rotr 11 x := by
  show (x * 4294967297) >>> 11 % 4294967296 = x >>> 11 ||| (x <<< 21) % 4294967296
  rw [Nat.shiftRight_eq_div_pow, Nat.shiftRight_eq_div_pow, Nat.shiftLeft_eq, Nat.or_comm, nat_join 21 _ _ (by omega) (by omega)]
  have e1 : x * 4294967297 / 2 ^ 11 = x * 2097152 + x / 2048 := by omega
  have e2 : x * 2 ^ 21 = x * 2097152 := rfl
  rw [e1, e2]
  obtain ⟨q, r, hr, hq, rfl⟩ : ∃ q r, r < 2048 ∧ q < 2097152 ∧ x = 2048 * q + r := ⟨x / 2048, x % 2048, by omega, by omega, by omega⟩
  have e3 : (2048 * q + r) / 2048 = q := by omega
  have e4 : (2048 * q + r) * 2097152 = 4294967296 * q + 2097152 * r := by omega
  rw [e3, e4]
  omega
theorem dbl13 (x : Nat) (h : x < 4294967296) : Nat.shiftRight (dbl x) 13 % 4294967296 = Sh.rotr 13 x := by
  show (x * 4294967297) >>> 13 % 4294967296 = x >>> 13 ||| (x <<< 19) % 4294967296
  rw [Nat.shiftRight_eq_div_pow, Nat.shiftRight_eq_div_pow, Nat.shiftLeft_eq, Nat.or_comm, nat_join 19 _ _ (by omega) (by omega)]
  have e1 : x * 4294967297 / 2 ^ 13 = x * 524288 + x / 8192 := by omega
  have e2 : x * 2 ^ 19 = x * 524288 := rfl
  rw [e1, e2]
  obtain ⟨q, r, hr, hq, rfl⟩ : ∃ q r, r < 8192 ∧ q < 524288 ∧ x = 8192 * q + r := ⟨x / 8192, x % 8192, by omega, by omega, by omega⟩
  have e3 : (8192 * q + r) / 8192 = q := by omega
  have e4 : (8192 * q + r) * 524288 = 4294967296 * q + 524288 * r := by omega
  rw [e3, e4]
  omega
theorem dbl17 (x : Nat) (h : x < 4294967296) : Nat.shiftRight (dbl x) 17 % 4294967296 = Sh.rotr 17 x := by
  show (x * 4294967297) >>> 17 % 4294967296 = x >>> 17 ||| (x <<< 15) % 4294967296
  rw [Nat.shiftRight_eq_div_pow, Nat.shiftRight_eq_div_pow, Nat.shiftLeft_eq, Nat.or_comm, nat_join 15 _ _ (by omega) (by omega)]
  have e1 : x * 4294967297 / 2 ^ 17 = x * 32768 + x / 131072 := by omega
  have e2 : x * 2 ^ 15 = x * 32768 := rfl
  rw [e1, e2]
  obtain ⟨q, r, hr, hq, rfl⟩ : ∃ q r, r < 131072 ∧ q < 32768 ∧ x = 131072 * q + r := ⟨x / 131072, x % 131072, by omega, by omega, by omega⟩
  have e3 : (131072 * q + r) / 131072 = q := by omega
  have e4 : (131072 * q + r) * 32768 = 4294967296 * q + 32768 * r := by omega
  rw [e3, e4]
  omega
theorem dbl18 (x : Nat) (h : x < 4294967296) : Nat.shiftRight (dbl x) 18 % 4294967296 = Sh.rotr 18 x := by
  show (x * 4294967297) >>> 18 % 4294967296 = x >>> 18 ||| (x <<< 14) % 4294967296
  rw [Nat.shiftRight_eq_div_pow, Nat.shiftRight_eq_div_pow, Nat.shiftLeft_eq, Nat.or_comm, nat_join 14 _ _ (by omega) (by omega)]
  have e1 : x * 4294967297 / 2 ^ 18 = x * 16384 + x / 262144 := by omega
  have e2 : x * 2 ^ 14 = x * 16384 := rfl
  rw [e1, e2]
  obtain ⟨q, r, hr, hq, rfl⟩ : ∃ q r, r < 262144 ∧ q < 16384 ∧ x = 262144 * q + r := ⟨x / 262144, x % 262144, by omega, by omega, by omega⟩
  have e3 : (262144 * q + r) / 262144 = q := by omega
  have e4 : (262144 * q + r) * 16384 = 4294967296 * q + 16384 * r := by omega
  rw [e3, e4]
  omega
theorem dbl19 (x : Nat) (h : x < 4294967296) : Nat.shiftRight (dbl x) 19 % 4294967296 = Sh.rotr 19 x := by
  show (x * 4294967297) >>> 19 % 4294967296 = x >>> 19 ||| (x <<< 13) % 4294967296
  rw [Nat.shiftRight_eq_div_pow, Nat.shiftRight_eq_div_pow, Nat.shiftLeft_eq, Nat.or_comm, nat_join 13 _ _ (by omega) (by omega)]
  have e1 : x * 4294967297 / 2 ^ 19 = x * 8192 + x / 524288 := by omega
  have e2 : x * 2 ^ 13 = x * 8192 := rfl
  rw [e1, e2]
  obtain ⟨q, r, hr, hq, rfl⟩ : ∃ q r, r < 524288 ∧ q < 8192 ∧ x = 524288 * q + r := ⟨x / 524288, x % 524288, by omega, by omega, by omega⟩
  have e3 : (524288 * q + r) / 524288 = q := by omega
  have e4 : (524288 * q + r) * 8192 = 4294967296 * q + 8192 * r := by omega
  rw [e3, e4]
  omega
theorem dbl22 (x : Nat) (h : x < 4294967296) : Nat.shiftRight (dbl x) 22 % 4294967296 = Sh.rotr 22 x := by
  show (x * 4294967297) >>> 22 % 4294967296 = x >>> 22 ||| (x <<< 10) % 4294967296
  rw [Nat.shiftRight_eq_div_pow, Nat.shiftRight_eq_div_pow, Nat.shiftLeft_eq, Nat.or_comm, nat_join 10 _ _ (by omega) (by omega)]
  have e1 : x * 4294967297 / 2 ^ 22 = x * 1024 + x / 4194304 := by omega
  have e2 : x * 2 ^ 10 = x * 1024 := rfl
  rw [e1, e2]
  obtain ⟨q, r, hr, hq, rfl⟩ : ∃ q r, r < 4194304 ∧ q < 1024 ∧ x = 4194304 * q + r := ⟨x / 4194304, x % 4194304, by omega, by omega, by omega⟩
  have e3 : (4194304 * q + r) / 4194304 = q := by omega
  have e4 : (4194304 * q + r) * 1024 = 4294967296 * q + 1024 * r := by omega
  rw [e3, e4]
  omega
theorem dbl25 (x : Nat) (h : x < 4294967296) : Nat.shiftRight (dbl x) 25 % 4294967296 = Sh.rotr 25 x := by
  show (x * 4294967297) >>> 25 % 4294967296 = x >>> 25 ||| (x <<< 7) % 4294967296
  rw [Nat.shiftRight_eq_div_pow, Nat.shiftRight_eq_div_pow, Nat.shiftLeft_eq, Nat.or_comm, nat_join 7 _ _ (by omega) (by omega)]
  have e1 : x * 4294967297 / 2 ^ 25 = x * 128 + x / 33554432 := by omega
  have e2 : x * 2 ^ 7 = x * 128 := rfl
  rw [e1, e2]
  obtain ⟨q, r, hr, hq, rfl⟩ : ∃ q r, r < 33554432 ∧ q < 128 ∧ x = 33554432 * q + r := ⟨x / 33554432, x % 33554432, by omega, by omega, by omega⟩
  have e3 : (33554432 * q + r) / 33554432 = q := by omega
  have e4 : (33554432 * q + r) * 128 = 4294967296 * q + 128 * r := by omega
  rw [e3, e4]
  omega
theorem xor_mod (a b c : Nat) : Nat.mod (Nat.xor (Nat.xor a b) c) 4294967296 = ((a % 4294967296) ^^^ (b % 4294967296)) ^^^ (c % 4294967296) := by
  show ((a ^^^ b) ^^^ c) % 2 ^ 32 = _
  rw [Nat.xor_mod_two_pow, Nat.xor_mod_two_pow]
theorem S1_eq (x : Nat) (h : x < 4294967296) : S1 x = Sh.S1 x := by
  unfold S1 Sh.S1; rw [xor_mod, dbl6 x h, dbl11 x h, dbl25 x h]
theorem S0_eq (x : Nat) (h : x < 4294967296) : S0 x = Sh.S0 x := by
  unfold S0 Sh.S0; rw [xor_mod, dbl2 x h, dbl13 x h, dbl22 x h]
theorem s1_eq (x : Nat) (h : x < 4294967296) : s1 x = Sh.s1 x := by
  unfold s1 Sh.s1
  rw [xor_mod, dbl17 x h, dbl19 x h]
  have : Nat.shiftRight x 10 % 4294967296 = x >>> 10 := Nat.mod_eq_of_lt (Sh.shr_lt 10 x h)
  rw [this]
theorem s0_eq (x : Nat) (h : x < 4294967296) : s0 x = Sh.s0 x := by
  unfold s0 Sh.s0
  rw [xor_mod, dbl7 x h, dbl18 x h]
  have : Nat.shiftRight x 3 % 4294967296 = x >>> 3 := Nat.mod_eq_of_lt (Sh.shr_lt 3 x h)
  rw [this]

/-- The rounds, from a list of their words on, with a window of sixteen words. -/
def fr : List Nat → Nat → Nat → Nat → Nat → Nat → Nat → Nat → Nat → Nat → Nat → Nat → Nat → Nat → Nat → Nat → Nat → Nat → Nat → Nat → Nat → Nat → Nat → Nat → Nat → Sh.St
  | [], _, _, _, _, _, _, _, _, _, _, _, _, _, _, _, _, a, b, c, d, e, f, g, h => ⟨a, b, c, d, e, f, g, h⟩
  | k :: K, w0, w1, w2, w3, w4, w5, w6, w7, w8, w9, w10, w11, w12, w13, w14, w15, a, b, c, d, e, f, g, h =>
    (fun p => fr K w1 w2 w3 w4 w5 w6 w7 w8 w9 w10 w11 w12 w13 w14 w15 (Nat.mod (Nat.add (Nat.add (Nat.add (s1 w14) w9) (s0 w1)) w0) 4294967296)
      (Nat.mod (Nat.add p (Nat.add (S0 a) (Nat.xor (Nat.xor (Nat.land a b) (Nat.land a c)) (Nat.land b c)))) 4294967296) a b c (Nat.mod (Nat.add d p) 4294967296) e f g)
    (Nat.add (Nat.add (Nat.add (Nat.add h (S1 e)) (Nat.xor (Nat.land e f) (Nat.land (Nat.sub 4294967295 e) g))) k) w0)

/-- So many rounds from round t on. -/
def rest (x : Nat → Nat) : Nat → Nat → Sh.St → Sh.St
  | 0, _, s => s
  | n + 1, t, s => rest x n (t + 1) (Sh.rnd s (Sh.ks.getD t 0) (x t))

theorem drop_ks (t : Nat) (h : t < 64) : Sh.ks.drop t = Sh.ks.getD t 0 :: Sh.ks.drop (t + 1) := by
  have hl : t < Sh.ks.length := by rw [Sh.ks_len]; exact h
  rw [List.drop_eq_getElem_cons hl]
  simp [List.getD, List.getElem?_eq_getElem hl]

theorem fr_eq (x : Nat → Nat) (hx : ∀ i, x i < 4294967296) (hs : ∀ i, x (i + 16) = (Sh.s1 (x (i + 14)) + x (i + 9) + Sh.s0 (x (i + 1)) + x i) % 4294967296) : ∀ (n t : Nat) (s : Sh.St), t + n = 64 → s.Ok →
    fr (Sh.ks.drop t) (x t) (x (t + 1)) (x (t + 2)) (x (t + 3)) (x (t + 4)) (x (t + 5)) (x (t + 6)) (x (t + 7)) (x (t + 8)) (x (t + 9)) (x (t + 10)) (x (t + 11)) (x (t + 12)) (x (t + 13)) (x (t + 14)) (x (t + 15)) s.a s.b s.c s.d s.e s.f s.g s.h = rest x n t s
  | 0, t, s, ht, _ => by
    have : Sh.ks.drop t = [] := List.drop_eq_nil_of_le (by rw [Sh.ks_len]; omega)
    rw [this]; rfl
  | n + 1, t, s, ht, hok => by
    have ih := fr_eq x hx hs n (t + 1) (Sh.rnd s (Sh.ks.getD t 0) (x t)) (by omega) (Sh.rnd_ok _ _ _ hok)
    rw [rest, ← ih, drop_ks t (by omega), fr]
    have e1 : Nat.mod (Nat.add (Nat.add (Nat.add (s1 (x (t + 14))) (x (t + 9))) (s0 (x (t + 1)))) (x t)) 4294967296 = x (t + 1 + 15) := by
      rw [show t + 1 + 15 = t + 16 by omega, hs t, s1_eq _ (hx _), s0_eq _ (hx _)]; rfl
    have e2 : S1 s.e = Sh.S1 s.e := S1_eq _ hok.2.2.2.2.1
    have e3 : S0 s.a = Sh.S0 s.a := S0_eq _ hok.1
    rw [e1, e2, e3]
    simp only [show t + 1 + 1 = t + 2 by omega, show t + 1 + 2 = t + 3 by omega, show t + 1 + 3 = t + 4 by omega, show t + 1 + 4 = t + 5 by omega, show t + 1 + 5 = t + 6 by omega, show t + 1 + 6 = t + 7 by omega, show t + 1 + 7 = t + 8 by omega, show t + 1 + 8 = t + 9 by omega, show t + 1 + 9 = t + 10 by omega, show t + 1 + 10 = t + 11 by omega, show t + 1 + 11 = t + 12 by omega, show t + 1 + 12 = t + 13 by omega, show t + 1 + 13 = t + 14 by omega, show t + 1 + 14 = t + 15 by omega]
    rfl

theorem rest_rnds (x : Nat → Nat) (s : Sh.St) (W : List Nat) (hW : ∀ t, t < 64 → W.getD t 0 = x t) : ∀ n t, t + n = 64 → rest x n t (Sh.rnds s W t) = Sh.rnds s W 64
  | 0, t, h => by rw [rest, show t = 64 by omega]
  | n + 1, t, h => by
    rw [rest, ← hW t (by omega)]
    exact rest_rnds x s W hW n (t + 1) (by omega)

/-- A word that never ends: the schedule, and on. -/
def xs (b : List Int) (i : Nat) : Nat := (Sh.exts (i + 1) (Sh.first b)).getD i 0
theorem xs_of (b : List Int) (i n : Nat) (h : i < 16 + n) : (Sh.exts n (Sh.first b)).getD i 0 = xs b i := by
  unfold xs
  by_cases e : n ≤ i + 1
  · have := Sh.exts_get n (Sh.first b) i (by rw [Sh.first_length]; exact h) (i + 1 - n)
    rw [show n + (i + 1 - n) = i + 1 by omega] at this
    exact this.symm
  · have := Sh.exts_get (i + 1) (Sh.first b) i (by rw [Sh.first_length]; omega) (n - (i + 1))
    rw [show i + 1 + (n - (i + 1)) = n by omega] at this
    exact this
theorem xs_lt (b : List Int) (hb : Sz.Byt b) (i : Nat) : xs b i < 4294967296 := Sh.getD_lt (Sh.exts_lt _ _ (Sh.first_lt b hb)) (by omega) i
theorem xs_step (b : List Int) (i : Nat) : xs b (i + 16) = (Sh.s1 (xs b (i + 14)) + xs b (i + 9) + Sh.s0 (xs b (i + 1)) + xs b i) % 4294967296 := by
  have e : xs b (i + 16) = Sh.ext (Sh.exts i (Sh.first b)) := by
    rw [← xs_of b (i + 16) (i + 1) (by omega), Sh.exts]
    simp only [List.getD]
    rw [List.getElem?_append_right (by rw [Sh.exts_length, Sh.first_length]; omega), Sh.exts_length, Sh.first_length, show i + 16 - (16 + i) = 0 by omega]
    rfl
  rw [e, Sh.ext, Sh.exts_length, Sh.first_length, show 16 + i - 2 = i + 14 by omega, show 16 + i - 7 = i + 9 by omega, show 16 + i - 15 = i + 1 by omega, show 16 + i - 16 = i by omega,
    xs_of b _ i (by omega), xs_of b _ i (by omega), xs_of b _ i (by omega), xs_of b _ i (by omega)]
theorem xs_word (b : List Int) (i : Nat) (h : i < 16) : xs b i = Sh.word b i := by
  rw [← xs_of b i 0 (by omega), Sh.exts]
  simp [Sh.first, List.getD, h]

/-- A block's sixteen words brought into the eight. -/
def mixW (s : Sh.St) (w0 w1 w2 w3 w4 w5 w6 w7 w8 w9 w10 w11 w12 w13 w14 w15 : Nat) : Sh.St :=
  s.add (fr Sh.ks w0 w1 w2 w3 w4 w5 w6 w7 w8 w9 w10 w11 w12 w13 w14 w15 s.a s.b s.c s.d s.e s.f s.g s.h)
theorem mixW_eq (s : Sh.St) (b : List Int) (hok : s.Ok) (hb : Sz.Byt b) :
    Sh.mix s b = mixW s (Sh.word b 0) (Sh.word b 1) (Sh.word b 2) (Sh.word b 3) (Sh.word b 4) (Sh.word b 5) (Sh.word b 6) (Sh.word b 7) (Sh.word b 8) (Sh.word b 9) (Sh.word b 10) (Sh.word b 11) (Sh.word b 12) (Sh.word b 13) (Sh.word b 14) (Sh.word b 15) := by
  have h := fr_eq (xs b) (xs_lt b hb) (xs_step b) 64 0 s (by omega) hok
  rw [List.drop_zero] at h
  have h2 := rest_rnds (xs b) s (Sh.sched b) (fun t ht => xs_of b t 48 (by omega)) 64 0 (by omega)
  rw [Sh.rnds] at h2
  unfold Sh.mix mixW
  rw [← h2, ← h]
  simp only [Nat.zero_add]
  rw [xs_word b 0 (by omega), xs_word b 1 (by omega), xs_word b 2 (by omega), xs_word b 3 (by omega), xs_word b 4 (by omega), xs_word b 5 (by omega), xs_word b 6 (by omega), xs_word b 7 (by omega), xs_word b 8 (by omega), xs_word b 9 (by omega), xs_word b 10 (by omega), xs_word b 11 (by omega), xs_word b 12 (by omega), xs_word b 13 (by omega), xs_word b 14 (by omega), xs_word b 15 (by omega)]
end Go.Proofs.YtphdnbflogobfaaDoor.Fs

/- A key for one text, as functions of lists; and that the public key of the seed of bytes 0 is not made of 0 alone. -/
namespace Go.Proofs.YtphdnbflogobfaaDoor.Ky
set_option linter.unusedVariables false

def step (d : List Int) : List Int := Sh.sum ((8 : Int) :: d)
def steps (d : List Int) : Nat → List Int
  | 0 => d
  | n + 1 => step (steps d n)
theorem step_length (d : List Int) : (step d).length = 32 := Mc.sum_length _
theorem steps_add (d : List Int) (m n : Nat) : steps (steps d m) n = steps d (m + n) := by
  induction n with
  | zero => rfl
  | succ n ih => rw [steps, ih]; rfl
def secret (seed : List Int) (i : Nat) : List Int := Mc.mac seed [5, (i : Int)]
def ends (seed : List Int) (n : Nat) : List Int := ((List.range n).map fun i => steps (secret seed i) 15).flatten
def pub (seed : List Int) : List Int := Sh.sum ((7 : Int) :: ends seed 67)

/-- One step, in words. -/
def stpW (s : Sh.St) : Sh.St :=
  Fs.mixW Sh.init (Nat.add 134217728 (Nat.shiftRight s.a 8)) (Nat.add (Nat.mul (Nat.mod s.a 256) 16777216) (Nat.shiftRight s.b 8)) (Nat.add (Nat.mul (Nat.mod s.b 256) 16777216) (Nat.shiftRight s.c 8)) (Nat.add (Nat.mul (Nat.mod s.c 256) 16777216) (Nat.shiftRight s.d 8))
    (Nat.add (Nat.mul (Nat.mod s.d 256) 16777216) (Nat.shiftRight s.e 8)) (Nat.add (Nat.mul (Nat.mod s.e 256) 16777216) (Nat.shiftRight s.f 8)) (Nat.add (Nat.mul (Nat.mod s.f 256) 16777216) (Nat.shiftRight s.g 8)) (Nat.add (Nat.mul (Nat.mod s.g 256) 16777216) (Nat.shiftRight s.h 8))
    (Nat.add (Nat.mul (Nat.mod s.h 256) 16777216) 8388608) 0 0 0 0 0 0 264
def stpsW (s : Sh.St) : Nat → Sh.St
  | 0 => s
  | n + 1 => stpW (stpsW s n)

theorem three (a b : Nat) (h : b < 4294967296) : a % 256 * 16777216 + b >>> 24 % 256 * 65536 + b >>> 16 % 256 * 256 + b >>> 8 % 256 = Nat.add (Nat.mul (Nat.mod a 256) 16777216) (Nat.shiftRight b 8) := by
  show _ = a % 256 * 16777216 + b >>> 8
  simp only [Nat.shiftRight_eq_div_pow]
  omega

set_option maxRecDepth 100000 in
theorem step_eq (s : Sh.St) (h : s.Ok) : step (Sh.digest s) = Sh.digest (stpW s) := by
  obtain ⟨h1, h2, h3, h4, h5, h6, h7, h8⟩ := h
  have hd : (Sh.digest s).length = 32 := by simp [Sh.digest]
  have hp : (Sh.padded ((8 : Int) :: Sh.digest s)).length = 64 := by
    rw [Sh.padded, List.length_append, ending_length, List.length_cons, hd]; rfl
  have hb : Sz.Byt (Sh.padded ((8 : Int) :: Sh.digest s)) := Sz.Byt.append (fun x hx => by
    rcases List.mem_cons.1 hx with rfl | hx
    · omega
    · exact Mc.digest_byt s x hx) (ending_byt _)
  have e : step (Sh.digest s) = Sh.digest (Sh.mix Sh.init (Sh.padded ((8 : Int) :: Sh.digest s))) := by
    unfold step Sh.sum
    rw [hp]
    show Sh.digest (Sh.mix (Sh.comp _ 0) ((List.drop (64 * 0) (Sh.padded ((8 : Int) :: Sh.digest s))).take 64)) = _
    rw [Nat.mul_zero, List.drop_zero, List.take_of_length_le (Nat.le_of_eq hp)]
    rfl
  have g0 : (Sh.padded ((8 : Int) :: Sh.digest s)).getD 0 0 = 8 := rfl
  have g1 : ∀ i, i < 32 → (Sh.padded ((8 : Int) :: Sh.digest s)).getD (i + 1) 0 = dby s i := fun i hi => by
    simp only [Sh.padded, List.getD, List.cons_append, List.getElem?_cons_succ]
    rw [List.getElem?_append_left (by omega)]
    simp [Sh.digest, hi, dby]
  have g2 : ∀ j, (Sh.padded ((8 : Int) :: Sh.digest s)).getD (33 + j) 0 = (Sh.ending 33).getD j 0 := fun j => by
    have e33 : ((8 : Int) :: Sh.digest s).length = 33 := by rw [List.length_cons, hd]
    simp only [Sh.padded, List.getD]
    rw [List.getElem?_append_right (by omega), e33, show 33 + j - 33 = j by omega]
  generalize Sh.padded ((8 : Int) :: Sh.digest s) = P at *
  have w0 : Sh.word P 0 = Nat.add 134217728 (Nat.shiftRight s.a 8) := by
    unfold Sh.word
    rw [show 4 * 0 = 0 from rfl, g0, g1 0 (by omega), g1 1 (by omega), g1 2 (by omega)]
    exact three 8 s.a h1
  have w1 : Sh.word P 1 = Nat.add (Nat.mul (Nat.mod s.a 256) 16777216) (Nat.shiftRight s.b 8) := by
    unfold Sh.word
    rw [g1 3 (by omega), g1 4 (by omega), g1 5 (by omega), g1 6 (by omega)]
    exact three s.a s.b h2
  have w2 : Sh.word P 2 = Nat.add (Nat.mul (Nat.mod s.b 256) 16777216) (Nat.shiftRight s.c 8) := by
    unfold Sh.word
    rw [g1 7 (by omega), g1 8 (by omega), g1 9 (by omega), g1 10 (by omega)]
    exact three s.b s.c h3
  have w3 : Sh.word P 3 = Nat.add (Nat.mul (Nat.mod s.c 256) 16777216) (Nat.shiftRight s.d 8) := by
    unfold Sh.word
    rw [g1 11 (by omega), g1 12 (by omega), g1 13 (by omega), g1 14 (by omega)]
    exact three s.c s.d h4
  have w4 : Sh.word P 4 = Nat.add (Nat.mul (Nat.mod s.d 256) 16777216) (Nat.shiftRight s.e 8) := by
    unfold Sh.word
    rw [g1 15 (by omega), g1 16 (by omega), g1 17 (by omega), g1 18 (by omega)]
    exact three s.d s.e h5
  have w5 : Sh.word P 5 = Nat.add (Nat.mul (Nat.mod s.e 256) 16777216) (Nat.shiftRight s.f 8) := by
    unfold Sh.word
    rw [g1 19 (by omega), g1 20 (by omega), g1 21 (by omega), g1 22 (by omega)]
    exact three s.e s.f h6
  have w6 : Sh.word P 6 = Nat.add (Nat.mul (Nat.mod s.f 256) 16777216) (Nat.shiftRight s.g 8) := by
    unfold Sh.word
    rw [g1 23 (by omega), g1 24 (by omega), g1 25 (by omega), g1 26 (by omega)]
    exact three s.f s.g h7
  have w7 : Sh.word P 7 = Nat.add (Nat.mul (Nat.mod s.g 256) 16777216) (Nat.shiftRight s.h 8) := by
    unfold Sh.word
    rw [g1 27 (by omega), g1 28 (by omega), g1 29 (by omega), g1 30 (by omega)]
    exact three s.g s.h h8
  have w8 : Sh.word P 8 = Nat.add (Nat.mul (Nat.mod s.h 256) 16777216) 8388608 := by
    unfold Sh.word
    have d31 : (dby s 31).toNat = s.h % 256 := rfl
    have e0 : ((Sh.ending 33).getD 0 0).toNat = 128 := by decide
    have e1 : ((Sh.ending 33).getD 1 0).toNat = 0 := by decide
    have e2 : ((Sh.ending 33).getD 2 0).toNat = 0 := by decide
    rw [g1 31 (by omega), g2 0, g2 1, g2 2, d31, e0, e1, e2]
    show _ = s.h % 256 * 16777216 + 8388608
    omega
  have wz : ∀ t, 9 ≤ t → t < 16 → Sh.word P t = if t = 15 then 264 else 0 := fun t h9 h16 => by
    unfold Sh.word
    rw [show 4 * t = 33 + (4 * t - 33) by omega, show 33 + (4 * t - 33) + 1 = 33 + (4 * t - 32) by omega, show 33 + (4 * t - 33) + 2 = 33 + (4 * t - 31) by omega, show 33 + (4 * t - 33) + 3 = 33 + (4 * t - 30) by omega, g2, g2, g2, g2]
    have := (by decide : ∀ i : Fin 7, (((Sh.ending 33).getD (4 * (i.1 + 9) - 33) 0).toNat * 16777216 + ((Sh.ending 33).getD (4 * (i.1 + 9) - 32) 0).toNat * 65536 + ((Sh.ending 33).getD (4 * (i.1 + 9) - 31) 0).toNat * 256 + ((Sh.ending 33).getD (4 * (i.1 + 9) - 30) 0).toNat) = if i.1 + 9 = 15 then 264 else 0) ⟨t - 9, by omega⟩
    simpa [show t - 9 + 9 = t by omega] using this
  rw [e, Fs.mixW_eq _ _ Sh.init_ok hb, w0, w1, w2, w3, w4, w5, w6, w7, w8, wz 9 (by omega) (by omega), wz 10 (by omega) (by omega), wz 11 (by omega) (by omega), wz 12 (by omega) (by omega), wz 13 (by omega) (by omega), wz 14 (by omega) (by omega), wz 15 (by omega) (by omega)]
  rfl
theorem stpW_ok (s : Sh.St) : (stpW s).Ok := Sh.add_ok _ _
theorem steps_eq (s : Sh.St) (h : s.Ok) (n : Nat) : steps (Sh.digest s) n = Sh.digest (stpsW s n) ∧ (stpsW s n).Ok := by
  induction n with
  | zero => exact ⟨rfl, h⟩
  | succ n ih =>
    rw [steps, ih.1, step_eq _ ih.2]
    exact ⟨rfl, stpW_ok _⟩
end Go.Proofs.YtphdnbflogobfaaDoor.Ky
