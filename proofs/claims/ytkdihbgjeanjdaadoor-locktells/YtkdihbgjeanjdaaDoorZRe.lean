/- The texts LkRd, LkRe, LkRf, LkRg, LkRh, LkRi, one behind the other. -/
import Derived.Test.YtkdihbgjeanjdaaDoorLkKeys
import Derived.Test.YtkdihbgjeanjdaaDoorZRa
import Derived.Test.YtkdihbgjeanjdaaDoorZRK
import Derived.Deep.QuietTactic
import Derived.BigQuiet
import Derived.Test.YtkdihbgjeanjdaaDoorLkI
import Derived.Deep.RegionHeld2
/- The document's answer on locks: what is at hand (with, then, told), and whether bytes are the same. -/
namespace Go.Proofs.YtkdihbgjeanjdaaDoor
open Go.RowKit
set_option linter.unusedVariables false

theorem ownKeys_none' {w : World} {k : Nat} (base : Nat) (hk : k = w.heap.size) (hb : base ≤ w.heap.size) : OwnKeys (w.alloc (.cells #[] 36)) base (.slice (some ⟨k, 0, none⟩) 0 0) [] := by subst hk; exact OwnKeys.none w base hb
/-- The same memory but for blocks of which Z holds, and more behind it. -/
def SameZ (Z : Nat → Prop) (w W : World) : Prop := w.heap.size ≤ W.heap.size ∧ ∀ b, b < w.heap.size → ¬ Z b → W.heap[b]? = w.heap[b]?
theorem SameZ.refl (Z : Nat → Prop) (w : World) : SameZ Z w w := ⟨Nat.le_refl _, fun _ _ _ => rfl⟩
/-- What is said of memory whatever becomes of blocks of which Z holds. -/
def KeysZ (Z : Nat → Prop) (w : World) (v : Value) (K : List (List Int × Value)) : Prop := ∀ W, SameZ Z w W → HasKeys W v K
def HandZ (Z : Nat → Prop) (w : World) (v : Value) : Lk.Out → Prop
  | .ok s => ∃ (sv : Value) (K : List (List Int × Value)), v = .agg #[sv, .int .i64 0] ∧ KeysZ Z w sv K ∧ stk K = s
  | .err c => c ≠ 0 ∧ v = .agg #[.slice none 0 0, .int .i64 c]
def BytZ (Z : Nat → Prop) (w : World) (v : Value) (x : List Int) : Prop := ∀ W, SameZ Z w W → Has W v x
/-- Behind more memory. -/
theorem SameZ.back {Z Z' : Nat → Prop} {w w2 W : World} (hb : Below w.heap.size w w2) (hZ : ∀ b, b < w.heap.size → Z' b → Z b) (h : SameZ Z' w2 W) : SameZ Z w W :=
  ⟨Nat.le_trans hb.size h.1, fun b hlt hn => by rw [h.2 b (Nat.lt_of_lt_of_le hlt hb.size) (fun e => hn (hZ b hlt e)), hb.block b hlt]⟩
theorem KeysZ.more {Z Z' : Nat → Prop} {w w2 : World} {v : Value} {K : List (List Int × Value)} (h : KeysZ Z w v K) (hb : Below w.heap.size w w2) (hZ : ∀ b, b < w.heap.size → Z' b → Z b) : KeysZ Z' w2 v K := fun W hW => h W (hW.back hb hZ)
theorem BytZ.more {Z Z' : Nat → Prop} {w w2 : World} {v : Value} {x : List Int} (h : BytZ Z w v x) (hb : Below w.heap.size w w2) (hZ : ∀ b, b < w.heap.size → Z' b → Z b) : BytZ Z' w2 v x := fun W hW => h W (hW.back hb hZ)
theorem HandZ.to {Z Z' : Nat → Prop} {w w2 : World} {v : Value} {o : Lk.Out} (h : HandZ Z w v o) (hk : ∀ W, SameZ Z' w2 W → SameZ Z w W) : HandZ Z' w2 v o := by
  cases o with
  | ok s =>
    obtain ⟨sv, K, h1, h2, h3⟩ := h
    exact ⟨sv, K, h1, fun W hW => h2 W (hk W hW), h3⟩
  | err c => exact h
theorem HandZ.more {Z Z' : Nat → Prop} {w w2 : World} {v : Value} {o : Lk.Out} (h : HandZ Z w v o) (hb : Below w.heap.size w w2) (hZ : ∀ b, b < w.heap.size → Z' b → Z b) : HandZ Z' w2 v o := h.to fun W hW => hW.back hb hZ
/-- Behind stores into blocks that are no matter. -/
theorem SameZ.stored {Z Z' : Nat → Prop} {w1 w8 W : World} (hs : w1.heap.size ≤ w8.heap.size) (hblk : ∀ b, b < w1.heap.size → ¬ Z' b → w8.heap[b]? = w1.heap[b]?) (hsub : ∀ b, Z b → Z' b) (h : SameZ Z w8 W) : SameZ Z' w1 W :=
  ⟨Nat.le_trans hs h.1, fun b hlt hn => by rw [h.2 b (Nat.lt_of_lt_of_le hlt hs) (fun e => hn (hsub b e)), hblk b hlt hn]⟩
/-- A struct of two cells, whatever is at hand. -/
theorem HandZ.form {Z : Nat → Prop} {w : World} {v : Value} {o : Lk.Out} (h : HandZ Z w v o) : ∃ a n c e, v = .agg #[.slice a n c, .int .i64 e] ∧ (match o with | .ok s => e = 0 ∧ n = s.length | .err c => e = c ∧ c ≠ 0) := by
  cases o with
  | ok s =>
    obtain ⟨sv, K, h1, h2, h3⟩ := h
    obtain ⟨a, c, e1, _⟩ := (h2 w (SameZ.refl Z w)).form
    exact ⟨a, K.length, c, 0, by rw [h1, e1], rfl, by rw [← h3, stk_length]⟩
  | err c => exact ⟨none, 0, 0, c, h.2, rfl, h.1⟩
/-- A row of one's own, in another world with the same block. -/
theorem own_keys_in {w W : World} {base : Nat} {v : Value} {K : List (List Int × Value)} (h : OwnKeys w base v K) (h0 : 0 < K.length) (hs : w.heap.size ≤ W.heap.size) (hblk : ∀ g, base ≤ g → g < w.heap.size → W.heap[g]? = w.heap[g]?) (hd : ∀ p ∈ K, Has W p.2 p.1 ∧ Sz.Byt p.1) : HasKeys W v K := by
  obtain ⟨g, cap, rfl, h1, h2, h3, h4, hr⟩ := owns_some h h0
  exact ⟨.inr ⟨g, 0, cap, rfl, h0, h3, h4, Nat.lt_of_lt_of_le h2 hs, fun j u hu => by rw [World.cell?_of_block (a := ⟨g, 0 + j, none⟩) (hblk g h1 h2)]; exact hr j u hu⟩, hd⟩

set_option maxRecDepth 100000 in
set_option maxHeartbeats 4000000 in
theorem rwith_z (Z : Nat → Prop) (K : List (List Int × Value)) (sv bv : Value) (x : List Int) (w : World) (hZ : ∀ b, Z b → b < w.heap.size) (hkz : KeysZ Z w sv K) (h30 : K.length ≤ 30) (hxz : BytZ Z w bv x) (hxb : Sz.Byt x) :
    Calls Tryd.prog 61 #[.agg #[sv, .int .i64 0], bv] w fun e w' => ∃ v', e = .returned v' ∧ HandZ Z w' v' (Lk.put x (stk K)) ∧ Below w.heap.size w w' := by
  have hk := hkz w (SameZ.refl Z w)
  have hx := hxz w (SameZ.refl Z w)
  have HKZ := hide hkz
  have HXZ := hide hxz
  have HZ := hide hZ
  clear hkz hxz hZ
  obtain ⟨ka, kc, rfl, _, hKm, _⟩ := hk.form
  obtain ⟨xa, xc, rfl, _, hXm⟩ := hx.shape
  unfold maxLen at hKm hXm
  unfold Lk.put
  rw [stk_length]
  by_cases h3 : K.length = 30
  · rw [if_pos h3]
    have hi : decide ((30 : Int) ≤ (K.length : Int)) = true := decide_eq_true (by omega)
    have HB := hide (below_alloc2 w (.cells #[.slice ka K.length kc, .int .i64 0] 60) (.cells #[.slice none 0 0, .int .i64 0] 60))
    clear hk hx h3
    generalize K.length = kl at *
    generalize x.length = xl at *
    go_enter Tryd.func61, Tryd.ntmps61
    go_wp2
    exact bodyPost_ret (v := .agg #[.slice none 0 0, .int .i64 4]) (by simp [results, Tryd.results61, go_sem]) rfl ⟨_, rfl, ⟨by decide, rfl⟩, below_alloc2 w _ _⟩
  · rw [if_neg h3]
    have hi : decide ((30 : Int) ≤ (K.length : Int)) = false := decide_eq_false (by omega)
    have HK := hide hk
    have HX := hide hx
    have HXB := hide hxb
    have hkl : K.length < 30 := by omega
    clear hk hx hxb h3
    obtain ⟨kl, hkle⟩ : ∃ kl, kl = K.length := ⟨_, rfl⟩
    obtain ⟨xl, hxle⟩ : ∃ xl, xl = x.length := ⟨_, rfl⟩
    rw [← hkle] at HK hi hKm ⊢
    rw [← hxle] at HX hXm ⊢
    have HXL : Hid (∀ W, SameZ Z w W → Has W (.slice xa xl xc) x) := hide (fun W hW => by rw [hxle]; exact HXZ.out W hW)
    have HKLE := hide hkle
    clear hkle hxle
    go_enter Tryd.func61, Tryd.ntmps61
    go_wp2_with (first
      | (at_builtin; refine wpList_append_of (fun v' W' => OwnKeys W' (w.heap.size + 2) v' K ∧ Below w.heap.size w W' ∧ Below (w.heap.size + 2) (((w.alloc (.cells #[.slice ka kl kc, .int .i64 0] 60)).alloc (.cells #[.slice none 0 0, .int .i64 0] 60)).alloc (.cells #[] 36)) W') rfl (.tmp 11) (.tmp 13) rfl (.slice (some ⟨w.heap.size + 1 + 1, 0, none⟩) 0 0) (.slice ka kl kc) rfl rfl (fun ty => run_append_keysG w _ (w.heap.size + 2) _ _ [] K (by omega) (below_alloc3 w _ _ _) (by simp) (ownKeys_none' (w := (w.alloc (.cells #[.slice ka kl kc, .int .i64 0] 60)).alloc (.cells #[.slice none 0 0, .int .i64 0] 60)) (w.heap.size + 2) (by simp) (by simp)) (HK.out.below (below_alloc3 w _ _ _)).src HK.out.formed (by have := HKLE.out; simp; omega) ty) ?_; intro v14 w6 h6)
      | (at_builtin; refine wpList_append_of (fun v' W' => OwnKeys W' (w.heap.size + 2) v' (K ++ [(x, .slice xa xl xc)]) ∧ Below w.heap.size w W' ∧ Below (w.heap.size + 2) (w6.alloc (.cells #[.slice xa xl xc] 36)) W') rfl (.tmp 15) (.tmp 17) rfl v14 (.slice (some ⟨w6.heap.size, 0, none⟩) 1 1) rfl rfl (fun ty => run_append_keysG w _ (w.heap.size + 2) _ _ K [(x, .slice xa xl xc)] (by omega) (h6.2.1.alloc h6.2.1.size _) (by have := h6.2.2.size; simp at this ⊢; omega) (owns_below h6.1 (below_alloc _ _)) (.inr ⟨w6.heap.size, 0, 1, rfl, by simp, is_range (Is.new w6 [.slice xa xl xc] 36)⟩) (fun u hu => by simp only [List.map_cons, List.map_nil, List.mem_cons, List.not_mem_nil, or_false] at hu; subst hu; rfl) (by have := HKLE.out; simp; omega) ty) ?_; intro v18 w7 h7; obtain ⟨va, vc, hv18⟩ := owns_form h7.1; rw [List.length_append] at hv18; subst hv18; have HI0 : Hid (Is (((w.alloc (.cells #[.slice ka kl kc, .int .i64 0] 60)).alloc (.cells #[.slice none 0 0, .int .i64 0] 60)).alloc (.cells #[] 36)) (w.heap.size + 1) [.slice none 0 0, .int .i64 0] 60) := hide ((Is.new' (w := w.alloc (.cells #[.slice ka kl kc, .int .i64 0] 60)) [.slice none 0 0, .int .i64 0] 60 (by simp)).alloc _); have HI7 : Hid (Is w7 (w.heap.size + 1) [.slice none 0 0, .int .i64 0] 60) := hide ((((HI0.out.below h6.2.2 (by omega)).alloc _).below h7.2.2 (by omega))); have hc0 := HI7.out.cell 0; have hc1 := HI7.out.cell 1; have hf7 := HI7.out.frozen; simp only [List.getElem?_cons_zero, List.getElem?_cons_succ] at hc0 hc1))
    have HI8 := hide ((HI7.out.set 0 (.slice va (K.length + 1) vc)).set 1 (.int .i64 0))
    have HB8 : Hid (Below w.heap.size w ((w7.setCell ⟨w.heap.size + 1, 0, none⟩ (.slice va (K.length + 1) vc)).setCell ⟨w.heap.size + 1, 1, none⟩ (.int .i64 0))) := hide ((h7.2.1.setCell (by show _ ≤ w.heap.size + 1; omega) _).setCell (by show _ ≤ w.heap.size + 1; omega) _)
    have hap : (Value.slice va (K.length + 1) vc).ownBlock ≠ some (w.heap.size + 1) := fun e => by
      have h71 := h7.1
      unfold OwnKeys at h71
      have := (World.ownsRow.lt h71 _ (by simpa using e)).1
      omega
    have HO8 : Hid (OwnKeys ((w7.setCell ⟨w.heap.size + 1, 0, none⟩ (.slice va (K.length + 1) vc)).setCell ⟨w.heap.size + 1, 1, none⟩ (.int .i64 0)) (w.heap.size + 2) (.slice va (K.length + 1) vc) (K ++ [(x, .slice xa xl xc)])) := hide (ownsRow_setCell_other (ownsRow_setCell_other h7.1 (a := ⟨w.heap.size + 1, 0, none⟩) hap _) (a := ⟨w.heap.size + 1, 1, none⟩) hap _)
    refine bodyPost_ret (v := .agg #[.slice va (K.length + 1) vc, .int .i64 0]) (results_cell1 Tryd.results61 rfl (HI8.out.loadS Tryd.underlying60 (by kernel_rfl))) rfl ⟨_, rfl, ⟨_, K ++ [(x, .slice xa xl xc)], rfl, fun W hW => own_keys_in HO8.out (by simp) hW.1 (fun g h1 h2 => hW.2 g h2 (fun e => by have := HZ.out g e; omega)) (fun q hq => ?_), stk_snoc _ _ _⟩, HB8.out⟩
    have hsw : SameZ Z w W := hW.back HB8.out (fun b _ hb => hb)
    rcases List.mem_append.1 hq with hq | hq
    · exact (HKZ.out W hsw).2 q hq
    · obtain rfl := List.mem_singleton.1 hq
      exact ⟨HXL.out W hsw, HXB.out⟩
/-- Blocks that are no matter: those of Z, and those from one on to another. -/
def Zup (Z : Nat → Prop) (a b : Nat) : Nat → Prop := fun k => Z k ∨ (a ≤ k ∧ k < b)

set_option maxRecDepth 100000 in
set_option maxHeartbeats 2000000 in
theorem rthen_z (Z : Nat → Prop) (o : Lk.Out) (hv bv : Value) (x : List Int) (w : World) (hZ : ∀ b, Z b → b < w.heap.size) (hh : HandZ Z w hv o) (h30 : ∀ s, o = .ok s → s.length ≤ 30) (hxz : BytZ Z w bv x) (hxb : Sz.Byt x) :
    Calls Tryd.prog 62 #[hv, bv] w fun e w' => ∃ v', e = .returned v' ∧ HandZ Z w' v' (o.bind (Lk.put x)) ∧ Below w.heap.size w w' := by
  obtain ⟨xa, xc, rfl, _, hXm⟩ := (hxz w (SameZ.refl Z w)).shape
  cases o with
  | err c =>
    obtain ⟨hc, rfl⟩ := hh
    have hc2 : (c != 0) = true := by simpa using hc
    have HC := hide hc
    clear hxz hc
    generalize x.length = xl at *
    go_enter Tryd.func62, Tryd.ntmps62
    go_wp2
    exact bodyPost_ret (v := .agg #[.slice none 0 0, .int .i64 c]) (by simp [results, Tryd.results62, go_sem]) rfl ⟨_, rfl, ⟨HC.out, rfl⟩, below_alloc2 w _ _⟩
  | ok s =>
    obtain ⟨sv, K, rfl, hk, rfl⟩ := hh
    obtain ⟨ka, kc, rfl, _, _, _⟩ := (hk w (SameZ.refl Z w)).form
    have hb0 := below_alloc2 w (.cells #[.slice ka K.length kc, .int .i64 0] 60) (.cells #[.slice none 0 0, .int .i64 0] 60)
    have hzz : ∀ b, b < w.heap.size → Zup Z w.heap.size (w.heap.size + 2) b → Z b := fun b hlt h => by rcases h with h | h <;> first | exact h | omega
    have HW := hide (rwith_z (Zup Z w.heap.size (w.heap.size + 2)) K (.slice ka K.length kc) (.slice xa x.length xc) x _ (fun b h => by rcases h with h | h <;> simp <;> first | (have := hZ b h; omega) | omega) (hk.more hb0 hzz) (by have := h30 _ rfl; rw [stk_length] at this; exact this) (hxz.more hb0 hzz) hxb)
    have HB0 := hide hb0
    have HI0 : Hid (Is ((w.alloc (.cells #[.slice ka K.length kc, .int .i64 0] 60)).alloc (.cells #[.slice none 0 0, .int .i64 0] 60)) (w.heap.size + 1) [.slice none 0 0, .int .i64 0] 60) := hide (Is.new' _ 60 (by simp))
    have HZ := hide hZ
    clear hk hxz hb0 hzz hZ
    have e1 : Lk.Out.bind (.ok (stk K)) (Lk.put x) = Lk.put x (stk K) := rfl
    rw [e1]
    generalize Lk.put x (stk K) = r at *
    clear e1 h30
    generalize K.length = kl at *
    generalize x.length = xl at *
    go_enter Tryd.func62, Tryd.ntmps62
    go_wp2_with fail
    refine HW.out.mono ?_
    rintro e w1 ⟨v1, rfl, hh1, hb1⟩
    obtain ⟨fa, fn, fc, fe, hfe, -⟩ := hh1.form
    subst hfe
    have HI1 := hide (HI0.out.below hb1 (by simp))
    have hc0 := HI1.out.cell 0
    have hc1 := HI1.out.cell 1
    have hf1 := HI1.out.frozen
    simp only [List.getElem?_cons_zero, List.getElem?_cons_succ] at hc0 hc1
    have HH1 := hide hh1
    have HB1 := hide (HB0.out.trans (hb1.mono (by simp; omega)))
    clear hh1 hb1
    go_wp2
    have HI8 := hide ((HI1.out.set 0 (.slice fa fn fc)).set 1 (.int .i64 fe))
    refine bodyPost_ret (v := .agg #[.slice fa fn fc, .int .i64 fe]) (results_cell1 Tryd.results62 rfl (HI8.out.loadS Tryd.underlying60 (by kernel_rfl))) rfl ⟨_, rfl, HH1.out.to (fun W hW => hW.stored (by simp [World.setCell]) (fun b hlt hn => ?_) (fun b hb => .inl hb)), (HB1.out.setCell (by show _ ≤ w.heap.size + 1; omega) _).setCell (by show _ ≤ w.heap.size + 1; omega) _⟩
    have hne : b ≠ w.heap.size + 1 := fun e => hn (.inr (by omega))
    rw [Below.heap_setCell _ _ _ _ hne, Below.heap_setCell _ _ _ _ hne]

set_option maxRecDepth 100000 in
set_option maxHeartbeats 2000000 in
theorem rtold_z (Z : Nat → Prop) (K : List (List Int × Value)) (sv : Value) (d : Bool) (w : World) (hZ : ∀ b, Z b → b < w.heap.size) (hk : KeysZ Z w sv K) (h30 : K.length ≤ 30) :
    Calls Tryd.prog 63 #[.agg #[sv, .int .i64 0], .bool d] w fun e w' => ∃ v', e = .returned v' ∧ HandZ Z w' v' (Lk.tell d (stk K)) ∧ Below w.heap.size w w' := by
  obtain ⟨ka, kc, rfl, _, _, _⟩ := (hk w (SameZ.refl Z w)).form
  have HZ := hide hZ
  cases d with
  | true =>
    have hb0 := below_alloc3 w (.cells #[.slice ka K.length kc, .int .i64 0] 60) (.cells #[.slice none 0 0, .int .i64 0] 60) (.cells #[.int .u8 1] 5)
    have hzz : ∀ b, b < w.heap.size → Zup Z w.heap.size (w.heap.size + 2) b → Z b := fun b hlt h => by rcases h with h | h <;> first | exact h | omega
    have HW := hide (rwith_z (Zup Z w.heap.size (w.heap.size + 2)) K (.slice ka K.length kc) (.slice (some ⟨w.heap.size + 1 + 1, 0, none⟩) 1 1) [1] (((w.alloc (.cells #[.slice ka K.length kc, .int .i64 0] 60)).alloc (.cells #[.slice none 0 0, .int .i64 0] 60)).alloc (.cells #[.int .u8 1] 5)) (fun b h => by rcases h with h | h <;> simp <;> first | (have := hZ b h; omega) | omega) (hk.more hb0 hzz) h30 (fun W hW => .inr ⟨w.heap.size + 1 + 1, 0, 1, rfl, by simp, by simp, by unfold maxLen; omega, fun j hj => by
      obtain rfl : j = 0 := by simp at hj; omega
      have hI : Is (((w.alloc (.cells #[.slice ka K.length kc, .int .i64 0] 60)).alloc (.cells #[.slice none 0 0, .int .i64 0] 60)).alloc (.cells #[.int .u8 1] 5)) (w.heap.size + 1 + 1) [.int .u8 1] 5 := Is.new' _ 5 (by simp)
      have hI2 : Is W (w.heap.size + 1 + 1) [.int .u8 1] 5 := by unfold Is; rw [hW.2 _ hI.lt (fun e => by rcases e with e | e <;> first | (have := hZ _ e; omega) | omega)]; exact hI
      rw [hI2.cell]; rfl⟩) (by intro y hy; simp at hy; omega))
    have HB0 := hide hb0
    have HI0 : Hid (Is (((w.alloc (.cells #[.slice ka K.length kc, .int .i64 0] 60)).alloc (.cells #[.slice none 0 0, .int .i64 0] 60)).alloc (.cells #[.int .u8 1] 5)) (w.heap.size + 1) [.slice none 0 0, .int .i64 0] 60) := hide ((Is.new' (w := w.alloc (.cells #[.slice ka K.length kc, .int .i64 0] 60)) _ 60 (by simp)).alloc _)
    clear hk hb0 hzz hZ
    have e1 : Lk.tell true (stk K) = Lk.put [1] (stk K) := rfl
    rw [e1]
    generalize Lk.put [1] (stk K) = r at *
    clear e1 h30
    generalize K.length = kl at *
    go_enter Tryd.func63, Tryd.ntmps63
    go_wp2_with fail
    refine HW.out.mono ?_
    rintro e w1 ⟨v1, rfl, hh1, hb1⟩
    obtain ⟨fa, fn, fc, fe, hfe, -⟩ := hh1.form
    subst hfe
    have HI1 := hide (HI0.out.below hb1 (by simp))
    have hc0 := HI1.out.cell 0
    have hc1 := HI1.out.cell 1
    have hf1 := HI1.out.frozen
    simp only [List.getElem?_cons_zero, List.getElem?_cons_succ] at hc0 hc1
    have HH1 := hide hh1
    have HB1 := hide (HB0.out.trans (hb1.mono (by simp; omega)))
    clear hh1 hb1
    go_wp2
    have HI8 := hide ((HI1.out.set 0 (.slice fa fn fc)).set 1 (.int .i64 fe))
    refine bodyPost_ret (v := .agg #[.slice fa fn fc, .int .i64 fe]) (results_cell1 Tryd.results63 rfl (HI8.out.loadS Tryd.underlying60 (by kernel_rfl))) rfl ⟨_, rfl, HH1.out.to (fun W hW => hW.stored (by simp [World.setCell]) (fun b hlt hn => ?_) (fun b hb => .inl hb)), (HB1.out.setCell (by show _ ≤ w.heap.size + 1; omega) _).setCell (by show _ ≤ w.heap.size + 1; omega) _⟩
    have hne : b ≠ w.heap.size + 1 := fun e => hn (.inr (by omega))
    rw [Below.heap_setCell _ _ _ _ hne, Below.heap_setCell _ _ _ _ hne]
  | false =>
    have hb0 := below_alloc2 w (.cells #[.slice ka K.length kc, .int .i64 0] 60) (.cells #[.slice none 0 0, .int .i64 0] 60)
    have hzz : ∀ b, b < w.heap.size → Zup Z w.heap.size (w.heap.size + 2) b → Z b := fun b hlt h => by rcases h with h | h <;> first | exact h | omega
    have HW := hide (rwith_z (Zup Z w.heap.size (w.heap.size + 2)) K (.slice ka K.length kc) (.slice none 0 0) [] ((w.alloc (.cells #[.slice ka K.length kc, .int .i64 0] 60)).alloc (.cells #[.slice none 0 0, .int .i64 0] 60)) (fun b h => by rcases h with h | h <;> simp <;> first | (have := hZ b h; omega) | omega) (hk.more hb0 hzz) h30 (fun W hW => .inl ⟨none, 0, rfl, rfl, by unfold maxLen; omega, fun _ => rfl⟩) (by intro y hy; simp at hy))
    have HB0 := hide hb0
    have HI0 : Hid (Is ((w.alloc (.cells #[.slice ka K.length kc, .int .i64 0] 60)).alloc (.cells #[.slice none 0 0, .int .i64 0] 60)) (w.heap.size + 1) [.slice none 0 0, .int .i64 0] 60) := hide (Is.new' _ 60 (by simp))
    clear hk hb0 hzz hZ
    have e1 : Lk.tell false (stk K) = Lk.put [] (stk K) := rfl
    rw [e1]
    generalize Lk.put [] (stk K) = r at *
    clear e1 h30
    generalize K.length = kl at *
    go_enter Tryd.func63, Tryd.ntmps63
    go_wp2_with fail
    refine HW.out.mono ?_
    rintro e w1 ⟨v1, rfl, hh1, hb1⟩
    obtain ⟨fa, fn, fc, fe, hfe, -⟩ := hh1.form
    subst hfe
    have HI1 := hide (HI0.out.below hb1 (by simp))
    have hc0 := HI1.out.cell 0
    have hc1 := HI1.out.cell 1
    have hf1 := HI1.out.frozen
    simp only [List.getElem?_cons_zero, List.getElem?_cons_succ] at hc0 hc1
    have HH1 := hide hh1
    have HB1 := hide (HB0.out.trans (hb1.mono (by simp; omega)))
    clear hh1 hb1
    go_wp2
    have HI8 := hide ((HI1.out.set 0 (.slice fa fn fc)).set 1 (.int .i64 fe))
    refine bodyPost_ret (v := .agg #[.slice fa fn fc, .int .i64 fe]) (results_cell1 Tryd.results63 rfl (HI8.out.loadS Tryd.underlying60 (by kernel_rfl))) rfl ⟨_, rfl, HH1.out.to (fun W hW => hW.stored (by simp [World.setCell]) (fun b hlt hn => ?_) (fun b hb => .inl hb)), (HB1.out.setCell (by show _ ≤ w.heap.size + 1; omega) _).setCell (by show _ ≤ w.heap.size + 1; omega) _⟩
    have hne : b ≠ w.heap.size + 1 := fun e => hn (.inr (by omega))
    rw [Below.heap_setCell _ _ _ _ hne, Below.heap_setCell _ _ _ _ hne]
end Go.Proofs.YtkdihbgjeanjdaaDoor

/- The document's answer on locks: whether bytes are the same, and whether a key signed. -/
namespace Go.Proofs.YtkdihbgjeanjdaaDoor
open Go.RowKit
set_option linter.unusedVariables false

theorem rs_quiet (w : World) (n : Nat) : Below w.heap.size w (w.drewN n) := by
  induction n with
  | zero => exact Below.refl _ _
  | succ n ih => exact ih.drew

/-- Two lists are the same: a Bool that the walk does not look into. -/
def rs_same (a b : List Int) : Bool := decide (a = b)

theorem rs_take (a b : List Int) (n : Nat) (hl : a.length = b.length) (h : ∀ j, j < n → a.getD j 0 = b.getD j 0) : a.take n = b.take n := by
  apply List.ext_getElem?
  intro j
  simp only [List.getElem?_take]
  by_cases hj : j < n
  · rw [if_pos hj, if_pos hj]
    have := h j hj
    by_cases ha : j < a.length
    · have hb : j < b.length := by omega
      simp [List.getD, List.getElem?_eq_getElem ha, List.getElem?_eq_getElem hb] at this
      rw [List.getElem?_eq_getElem ha, List.getElem?_eq_getElem hb, this]
    · rw [List.getElem?_eq_none (by omega), List.getElem?_eq_none (by omega)]
  · rw [if_neg hj, if_neg hj]

set_option maxHeartbeats 800000 in
theorem rsame_any (v1 v2 : Value) (l1 l2 : List Int) (w : World) (h1 : Has w v1 l1) (h2 : Has w v2 l2) :
    Calls Tryd.prog 64 #[v1, v2] w fun e w' => e = .returned (.bool (rs_same l1 l2)) ∧ Below w.heap.size w w' := by
  by_cases hl : l1.length = l2.length
  · by_cases h0 : l1.length = 0
    · have e1 : l1 = [] := List.eq_nil_of_length_eq_zero h0
      have e2 : l2 = [] := List.eq_nil_of_length_eq_zero (by omega)
      subst e1; subst e2
      obtain ⟨a1, c1, rfl⟩ : ∃ a c, v1 = .slice a 0 c := by
        rcases h1 with ⟨a, c, rfl, _⟩ | ⟨b, off, cap, _, h, _⟩
        · exact ⟨a, c, rfl⟩
        · simp at h
      obtain ⟨a2, c2, rfl⟩ : ∃ a c, v2 = .slice a 0 c := by
        rcases h2 with ⟨a, c, rfl, _⟩ | ⟨b, off, cap, _, h, _⟩
        · exact ⟨a, c, rfl⟩
        · simp at h
      clear hl h0 h1 h2
      have hs : rs_same [] [] = true := rfl
      rw [hs]
      go_enter Tryd.func64, Tryd.ntmps64
      go_wp2
      refine wp_loop_rounds 1 ?_
      rw [rounds_succ]
      go_wp2
      go_ret
      exact ⟨rfl, Below.refl _ _⟩
    · obtain ⟨b1, o1, c1, rfl, hp1, hc1, hm1, hcell1⟩ : ∃ b off cap, v1 = .slice (some ⟨b, off, none⟩) l1.length cap ∧ 0 < l1.length ∧ l1.length ≤ cap ∧ cap ≤ maxLen ∧ ∀ j, j < l1.length → w.cell? ⟨b, off + j, none⟩ = some (.int .u8 (l1.getD j 0)) := by
        rcases h1 with ⟨a, c, rfl, e, _⟩ | h
        · subst e; simp at h0
        · exact h
      obtain ⟨b2, o2, c2, rfl, hp2, hc2, hm2, hcell2⟩ : ∃ b off cap, v2 = .slice (some ⟨b, off, none⟩) l2.length cap ∧ 0 < l2.length ∧ l2.length ≤ cap ∧ cap ≤ maxLen ∧ ∀ j, j < l2.length → w.cell? ⟨b, off + j, none⟩ = some (.int .u8 (l2.getD j 0)) := by
        rcases h2 with ⟨a, c, rfl, e, _⟩ | h
        · subst e; exact absurd hl h0
        · exact h
      have hlt1 : b1 < w.heap.size := World.block_lt_of_cell? w ⟨b1, o1 + 0, none⟩ (hcell1 0 hp1)
      have hlt2 : b2 < w.heap.size := World.block_lt_of_cell? w ⟨b2, o2 + 0, none⟩ (hcell2 0 hp2)
      unfold maxLen at hm1 hm2
      rw [← hl] at hcell2 hp2 hc2 ⊢
      have HL := hide hl
      clear hl h0 hp2
      generalize hn : l1.length = n at *
      have HN := hide hn
      clear hn
      have hne : ((n : Int) != (n : Int)) = false := by simp
      go_enter Tryd.func64, Tryd.ntmps64
      go_wp2
      go_loopw [5] (fun i wr => ∃ k : Nat, k ≤ n ∧ i = .int .i64 k ∧ (∀ j, j < k → l1.getD j 0 = l2.getD j 0) ∧ Below w.heap.size w wr) (fun i _ => n - (intOf i).toNat)
      case atStart => exact ⟨0, Nat.zero_le _, rfl, by simp, Below.refl _ _⟩
      case round =>
        obtain ⟨k, hk, rfl, heq, hbel⟩ := hrel
        by_cases hlt : k < n
        · have hck1 : wr.cell? ⟨b1, o1 + k, none⟩ = some (.int .u8 (l1.getD k 0)) := by rw [hbel.cell (p := ⟨b1, o1 + k, none⟩) hlt1]; exact hcell1 k hlt
          have hck2 : wr.cell? ⟨b2, o2 + k, none⟩ = some (.int .u8 (l2.getD k 0)) := by rw [hbel.cell (p := ⟨b2, o2 + k, none⟩) hlt2]; exact hcell2 k hlt
          have hki : (k : Int) < (n : Int) := by omega
          have HE := hide heq
          clear heq
          by_cases hx : l1.getD k 0 = l2.getD k 0
          · have hnx : (l1.getD k 0 != l2.getD k 0) = false := by rw [bne_eq_false_iff_eq]; exact hx
            have HX := hide hx
            clear hx
            generalize hg1 : l1.getD k 0 = x1 at *
            generalize hg2 : l2.getD k 0 = x2 at *
            have HG1 := hide hg1
            have HG2 := hide hg2
            clear hg1 hg2
            go_wp2
            go_quiet (fail)
            go_wp2
            go_roundw
            case rel =>
              refine ⟨k + 1, by omega, by go_num, fun j hj => ?_, hbel.trans ((rs_quiet _ _).mono hbel.size)⟩
              by_cases e : j = k
              · subst e; rw [HG1.out, HG2.out, HX.out]
              · exact HE.out j (by omega)
            case measure => simp [intOf]; omega
          · have hnx : (l1.getD k 0 != l2.getD k 0) = true := by rw [bne_iff_ne]; exact hx
            have hsame : rs_same l1 l2 = false := by
              unfold rs_same; rw [decide_eq_false_iff_not]; intro e; exact hx (by rw [e])
            have HS := hide hsame
            clear hx hsame
            generalize hg1 : l1.getD k 0 = x1 at *
            generalize hg2 : l2.getD k 0 = x2 at *
            clear hg1 hg2
            go_wp2
            go_quiet (fail)
            go_wp2
            go_ret
            exact ⟨by rw [HS.out]; rfl, hbel.trans ((rs_quiet _ _).mono hbel.size)⟩
        · have hsame : rs_same l1 l2 = true := by
            unfold rs_same; rw [decide_eq_true_iff]
            have := rs_take l1 l2 k (HN.out.trans HL.out) heq
            rw [List.take_of_length_le (by rw [HN.out]; omega), List.take_of_length_le (by rw [← HL.out]; omega)] at this
            exact this
          have HS := hide hsame
          clear hsame
          go_wp2
          go_ret
          exact ⟨by rw [HS.out]; rfl, hbel⟩
  · have hs : rs_same l1 l2 = false := by
      unfold rs_same; rw [decide_eq_false_iff_not]; intro e; exact hl (by rw [e])
    rw [hs]
    obtain ⟨a1, c1, rfl⟩ : ∃ a c, v1 = .slice a l1.length c := by
      rcases h1 with ⟨a, c, rfl, rfl, _⟩ | ⟨b, off, cap, rfl, _⟩
      · exact ⟨a, c, rfl⟩
      · exact ⟨_, _, rfl⟩
    obtain ⟨a2, c2, rfl⟩ : ∃ a c, v2 = .slice a l2.length c := by
      rcases h2 with ⟨a, c, rfl, rfl, _⟩ | ⟨b, off, cap, rfl, _⟩
      · exact ⟨a, c, rfl⟩
      · exact ⟨_, _, rfl⟩
    have hne : (((l1.length : Nat) : Int) != ((l2.length : Nat) : Int)) = true := by simp; omega
    generalize l1.length = n1 at *
    generalize l2.length = n2 at *
    clear hl hs h1 h2
    go_enter Tryd.func64, Tryd.ntmps64
    go_wp2
    go_ret
    exact ⟨rfl, Below.refl _ _⟩

end Go.Proofs.YtkdihbgjeanjdaaDoor

/- The document's answer on locks: whether a key signed. -/
namespace Go.Proofs.YtkdihbgjeanjdaaDoor
open Go.RowKit
set_option linter.unusedVariables false

theorem rby_bad (kv sv : Value) (k sig m : List Int) (w : World) (hs : Has w sv sig) (hl : sig.length ≠ 2144) :
    Calls Tryd.prog 66 #[kv, sv, .agg (vals m).toArray] w fun e w' => e = .returned (.bool (Lk.signed m sig k)) ∧ Below w.heap.size w w' := by
  have hr : Lk.signed m sig k = false := by unfold Lk.signed; rw [decide_eq_false hl]; rfl
  rw [hr]
  obtain ⟨sa, sc, rfl, _, _⟩ := hs.shape
  have hne : (((sig.length : Nat) : Int) != 2144) = true := by rw [bne_iff_ne]; omega
  have HB0 := hide (Below.alloc (Below.refl w.heap.size w) (Nat.le_refl _) (.cells (vals m).toArray 25))
  generalize sig.length = n at *
  clear hs hr hl
  go_enter Tryd.func66, Tryd.ntmps66
  go_wp2
  go_ret
  exact ⟨rfl, HB0.out⟩

set_option maxRecDepth 100000 in
set_option maxHeartbeats 2000000 in
theorem rby_good (kv sv : Value) (k sig m : List Int) (w : World) (hk : Has w kv k) (hs : Has w sv sig) (hsb : Sz.Byt sig) (hm : m.length = 32) (hmb : Sz.Byt m) (hl : sig.length = 2144) :
    Calls Tryd.prog 66 #[kv, sv, .agg (vals m).toArray] w fun e w' => e = .returned (.bool (Lk.signed m sig k)) ∧ Below w.heap.size w w' := by
  have hr : Lk.signed m sig k = rs_same k (Ky.recov m sig) := by
    unfold Lk.signed rs_same
    rw [decide_eq_true hl, Bool.true_and]
    exact decide_eq_decide.2 ⟨Eq.symm, Eq.symm⟩
  rw [hr]
  have hb0 := Below.alloc (Below.refl w.heap.size w) (Nat.le_refl _) (.cells (vals m).toArray 25)
  obtain ⟨b, off, cap, rfl, h0, h1, hm1, hc⟩ : ∃ b off cap, sv = .slice (some ⟨b, off, none⟩) sig.length cap ∧ 0 < sig.length ∧ sig.length ≤ cap ∧ cap ≤ maxLen ∧ ∀ j, j < sig.length → w.cell? ⟨b, off + j, none⟩ = some (.int .u8 (sig.getD j 0)) := by
    rcases hs with ⟨a, cap, rfl, rfl, hm1, hn⟩ | h
    · cases hl
    · exact h
  have hlt : b < w.heap.size := World.block_lt_of_cell? w _ (hc 0 h0)
  have HK : Hid (∀ W, Below w.heap.size w W → Has W kv k) := hide (fun W hW => hk.below hW)
  have HR := hide (rkeyof_any m sig b off cap (w.alloc (.cells (vals m).toArray 25)) hm hmb hl hsb (by omega) (fun j v hv => by
    have hj : j < sig.length := by have := (List.getElem?_eq_some_iff.1 hv).1; rwa [vals_length] at this
    exact cell_below (by rw [hc j hj, ← hv, vals_get _ _ hj]) hb0) (by simp; omega))
  have hDl := Ky.recov_length m sig
  generalize Ky.recov m sig = D at *
  rw [hl]
  have HI0 : Hid (Is (w.alloc (.cells (vals m).toArray 25)) w.heap.size (vals m) 25) := Is.new w _ _
  have HB0 := hide hb0
  have hzd := zero_dig
  obtain ⟨Z, hZ⟩ : ∃ Z, Z = vals (List.replicate 32 0) := ⟨_, rfl⟩
  rw [← hZ] at hzd
  have hZl : Z.length = 32 := by rw [hZ]; simp [vals]
  have hZp : ¬ Z = [] := by intro h; rw [h] at hZl; cases hZl
  have HZL := hide hZl
  have HDL := hide hDl
  have HML := hide hm
  have hszs : (Tryd.prog.info? 25).map (·.size) = some (vals m).length := by rw [vals_length, hm]; exact size_dig
  obtain ⟨ka, kc, rfl, _, _⟩ := hk.shape
  generalize k.length = kn at *
  clear hk hs hsb hm hmb hl hr hb0 h0 h1 hm1 hc hlt hZ hZl hDl
  go_enter Tryd.func66, Tryd.ntmps66
  go_wp2_with (first
    | (refine wpList_load_arr2 25 (vals m) w.heap.size rfl (.tmp 5) rfl rfl HI0.out Tryd.underlying25 size_dig (by rw [vals_length]; exact HML.out) ?_)
    | (go_at_call 84; refine HR.out.mono ?_; rintro e w1 ⟨rfl, hb1⟩; have hbw1 := HB0.out.trans (hb1.mono HB0.out.size))
    | (refine wpList_store_any2 25 Z (vals D) w1.heap.size rfl (.tmp 7) (.tmp 13) rfl rfl rfl rfl (Is.new w1 _ _) size_dig HZL.out (by rw [vals_length]; exact HDL.out) (vals_one _) ?_; intro w7 hi7 hb7 hk7 hz7; have hb7' := hb7 _ _ (hbw1.alloc hbw1.size _) hbw1.size)
    | (go_at_call 64; refine (rsame_any _ _ k D w7 (HK.out w7 hb7') (has_dig hi7 HDL.out)).mono ?_; rintro e w8 ⟨rfl, hb8⟩))
  go_ret
  exact ⟨rfl, hb7'.trans (hb8.mono hb7'.size)⟩

theorem rby_any (kv sv : Value) (k sig m : List Int) (w : World) (hk : Has w kv k) (hs : Has w sv sig) (hsb : Sz.Byt sig) (hm : m.length = 32) (hmb : Sz.Byt m) :
    Calls Tryd.prog 66 #[kv, sv, .agg (vals m).toArray] w fun e w' => e = .returned (.bool (Lk.signed m sig k)) ∧ Below w.heap.size w w' := by
  by_cases hl : sig.length = 2144
  · exact rby_good kv sv k sig m w hk hs hsb hm hmb hl
  · exact rby_bad kv sv k sig m w hs hl
end Go.Proofs.YtkdihbgjeanjdaaDoor

/- The document's answer on locks: signatures among keys, as lists. -/
namespace Go.Proofs.YtkdihbgjeanjdaaDoor
open Go.RowKit
set_option linter.unusedVariables false

theorem ram_nil (m sig : List Int) (r : List (List Int)) : Lk.among m [] (sig :: r) = false := by
  rw [Lk.among, seek_nil]
  split <;> rfl

theorem ram_hit (m keys sig : List Int) (r : List (List Int)) (h0 : 0 < keys.length) (h : Lk.signed m sig (keys.take 32) = true) :
    Lk.among m keys (sig :: r) = Lk.among m (keys.drop 32) r := by
  unfold Lk.signed at h
  rw [Bool.and_eq_true, decide_eq_true_iff, decide_eq_true_iff] at h
  rw [Lk.among, if_pos h.1]
  obtain ⟨n, hn⟩ : ∃ n, keys.length = n + 1 := ⟨keys.length - 1, by omega⟩
  rw [hn, seek_hit _ _ _ h0 h.2.symm]

theorem ram_miss (m keys sig : List Int) (r : List (List Int)) (h0 : 0 < keys.length) (h : Lk.signed m sig (keys.take 32) = false) :
    Lk.among m keys (sig :: r) = Lk.among m (keys.drop 32) (sig :: r) := by
  by_cases hl : sig.length = 2144
  · unfold Lk.signed at h
    rw [decide_eq_true hl, Bool.true_and, decide_eq_false_iff_not] at h
    rw [Lk.among, Lk.among, if_pos hl, if_pos hl, seek_step _ _ h0 (fun e => h e.symm)]
  · rw [Lk.among, Lk.among, if_neg hl, if_neg hl]

theorem ram_all (kv : Value) (a : Option Addr) (c : Nat) (m : List Int) (w : World) :
    Calls Tryd.prog 67 #[kv, .slice a 0 c, .agg (vals m).toArray] w fun e w' => e = .returned (.bool true) ∧ Below w.heap.size w w' := by
  have HB0 := hide (Below.alloc (Below.refl w.heap.size w) (Nat.le_refl _) (.cells (vals m).toArray 25))
  go_enter Tryd.func67, Tryd.ntmps67
  go_wp2
  go_ret
  exact ⟨rfl, HB0.out⟩

theorem ram_out (a : Option Addr) (c : Nat) (a2 : Option Addr) (n c2 : Nat) (hn : 0 < n) (m : List Int) (w : World) :
    Calls Tryd.prog 67 #[.slice a 0 c, .slice a2 n c2, .agg (vals m).toArray] w fun e w' => e = .returned (.bool false) ∧ Below w.heap.size w w' := by
  have HB0 := hide (Below.alloc (Below.refl w.heap.size w) (Nat.le_refl _) (.cells (vals m).toArray 25))
  have hne : ((n : Int) == 0) = false := by rw [beq_eq_false_iff_ne]; omega
  go_enter Tryd.func67, Tryd.ntmps67
  go_wp2
  go_ret
  exact ⟨rfl, HB0.out⟩
end Go.Proofs.YtkdihbgjeanjdaaDoor

/- The document's answer on locks: what is left of rows and of keys behind the first. -/
namespace Go.Proofs.YtkdihbgjeanjdaaDoor
open Go.RowKit
set_option linter.unusedVariables false

theorem ram_tail {w : World} {b off cap : Nat} {p : List Int × Value} {K : List (List Int × Value)} (h : HasKeys w (.slice (some ⟨b, off, none⟩) (K.length + 1) cap) (p :: K)) :
    HasKeys w (.slice (if cap = 1 then some ⟨b, off, none⟩ else some ⟨b, off + 1, none⟩) K.length (cap - 1)) K ∧ Has w p.2 p.1 ∧ Sz.Byt p.1 ∧ w.cell? ⟨b, off, none⟩ = some p.2 ∧ b < w.heap.size ∧ K.length + 1 ≤ cap ∧ cap ≤ maxLen := by
  obtain ⟨h1, h2⟩ := h
  rcases h1 with ⟨a, c, e, e2, _⟩ | ⟨b', off', cap', e, g0, g1, g2, g3, hc⟩
  · cases e2
  · have e1 : b = b' ∧ off = off' ∧ cap = cap' := by
      simp only [List.length_cons, Value.slice.injEq, Option.some.injEq, Addr.mk.injEq] at e
      exact ⟨e.1.1, e.1.2.1, e.2.2⟩
    obtain ⟨rfl, rfl, rfl⟩ := e1
    have gl : K.length + 1 ≤ cap := by simpa using g1
    have hf := hc 0 p.2 rfl
    refine ⟨⟨?_, fun q hq => h2 q (List.mem_cons_of_mem _ hq)⟩, (h2 p List.mem_cons_self).1, (h2 p List.mem_cons_self).2, hf, g3, gl, g2⟩
    by_cases h0 : K = []
    · subst h0; exact .inl ⟨_, _, rfl, rfl, by omega⟩
    · have : 0 < K.length := List.length_pos_iff.2 h0
      rw [if_neg (by omega)]
      refine .inr ⟨b, off + 1, cap - 1, rfl, this, by omega, by omega, g3, fun j v hv => ?_⟩
      have := hc (j + 1) v (by simpa using hv)
      rw [show off + 1 + j = off + (j + 1) by omega]
      exact this

theorem ram_keys {w : World} {b off cap : Nat} {l : List Int} (h : Has w (.slice (some ⟨b, off, none⟩) l.length cap) l) (h32 : 32 ≤ l.length) :
    Has w (.slice (some ⟨b, off, none⟩) 32 cap) (l.take 32) ∧ Has w (.slice (if cap = 32 then some ⟨b, off, none⟩ else some ⟨b, off + 32, none⟩) (l.length - 32) (cap - 32)) (l.drop 32) ∧ l.length ≤ cap ∧ cap ≤ maxLen := by
  rcases h with ⟨a, c, e, e2, _⟩ | ⟨b', off', cap', e, g0, g1, g2, hc⟩
  · subst e2; simp at h32
  · have e1 : b = b' ∧ off = off' ∧ cap = cap' := by
      simp only [Value.slice.injEq, Option.some.injEq, Addr.mk.injEq] at e
      exact ⟨e.1.1, e.1.2.1, e.2.2⟩
    obtain ⟨rfl, rfl, rfl⟩ := e1
    refine ⟨Has.front hc g1 g2 32 h32, ?_, g1, g2⟩
    have el : (l.drop 32).length = l.length - 32 := List.length_drop
    by_cases h0 : l.length = 32
    · refine .inl ⟨_, cap - 32, by rw [h0], List.drop_eq_nil_of_le (by omega), by omega, fun h => by split at h <;> cases h⟩
    · rw [if_neg (by omega)]
      refine .inr ⟨b, off + 32, cap - 32, by rw [el], by omega, by omega, by omega, fun j hj => ?_⟩
      have := hc (32 + j) (by omega)
      rw [show off + 32 + j = off + (32 + j) by omega, this]
      simp [List.getD, List.getElem?_drop]
end Go.Proofs.YtkdihbgjeanjdaaDoor

/- The document's answer on locks: signatures among keys. -/
namespace Go.Proofs.YtkdihbgjeanjdaaDoor
open Go.RowKit
set_option linter.unusedVariables false
set_option linter.unusedSimpArgs false

theorem ram_keep {w1 W W' : World} {B b off : Nat} {v : Value} (h : Below B w1 W ∧ W.cell? ⟨b, off, none⟩ = some v) (hlt : b < B) (hB : B ≤ w1.heap.size) (hb : Below W.heap.size W W') : Below B w1 W' ∧ W'.cell? ⟨b, off, none⟩ = some v :=
  ⟨h.1.trans (hb.mono (Nat.le_trans hB h.1.size)), by rw [hb.cell (p := ⟨b, off, none⟩) (Nat.lt_of_lt_of_le hlt (Nat.le_trans hB h.1.size))]; exact h.2⟩

set_option maxRecDepth 100000 in
set_option maxHeartbeats 4000000 in
theorem ramong_step (m keys : List Int) (p : List Int × Value) (S : List (List Int × Value)) (kb koff kc b off cap : Nat) (w : World) (hm : m.length = 32) (hmb : Sz.Byt m) (hk : Has w (.slice (some ⟨kb, koff, none⟩) keys.length kc) keys) (h32 : 32 ≤ keys.length) (hS : HasKeys w (.slice (some ⟨b, off, none⟩) (S.length + 1) cap) (p :: S))
    (ih : ∀ (S' : List (List Int × Value)) (kv' sv' : Value) (W : World), Has W kv' (keys.drop 32) → HasKeys W sv' S' → Calls Tryd.prog 67 #[kv', sv', .agg (vals m).toArray] W fun e w' => e = .returned (.bool (Lk.among m (keys.drop 32) (S'.map Prod.fst))) ∧ Below W.heap.size W w') :
    Calls Tryd.prog 67 #[.slice (some ⟨kb, koff, none⟩) keys.length kc, .slice (some ⟨b, off, none⟩) (S.length + 1) cap, .agg (vals m).toArray] w fun e w' => e = .returned (.bool (Lk.among m keys (p.1 :: S.map Prod.fst))) ∧ Below w.heap.size w w' := by
  obtain ⟨hk1, hk2, hk3, hk4⟩ := ram_keys hk h32
  obtain ⟨ht1, ht2, ht3, ht4, ht5, ht6, ht7⟩ := ram_tail hS
  obtain ⟨pa, pc, hpe, _, _⟩ := ht2.shape
  rw [hpe] at ht2 ht4
  have hb0 := below_alloc w (.cells (vals m).toArray 25)
  have HUP : Hid (∀ W, Below (w.heap.size + 1) (w.alloc (.cells (vals m).toArray 25)) W → Below w.heap.size w W) := hide (fun W hW => hb0.trans (hW.mono (by omega)))
  have HBY : Hid (∀ W, Below (w.heap.size + 1) (w.alloc (.cells (vals m).toArray 25)) W → Calls Tryd.prog 66 #[.slice (some ⟨kb, koff, none⟩) 32 kc, .slice pa p.1.length pc, .agg (vals m).toArray] W fun e w' => e = .returned (.bool (Lk.signed m p.1 (keys.take 32))) ∧ Below W.heap.size W w') := hide (fun W hW => rby_any _ _ _ _ m W (hk1.below (HUP.out W hW)) (ht2.below (HUP.out W hW)) ht3 hm hmb)
  obtain ⟨ka, hka⟩ : ∃ a, (if kc = 32 then some (⟨kb, koff, none⟩ : Addr) else some ⟨kb, koff + 32, none⟩) = a := ⟨_, rfl⟩
  obtain ⟨sa, hsa⟩ : ∃ a, (if cap = 1 then some (⟨b, off, none⟩ : Addr) else some ⟨b, off + 1, none⟩) = a := ⟨_, rfl⟩
  rw [hka] at hk2
  rw [hsa] at ht1
  have HI1 : Hid (∀ W, Below (w.heap.size + 1) (w.alloc (.cells (vals m).toArray 25)) W → Calls Tryd.prog 67 #[.slice ka (keys.length - 32) (kc - 32), .slice sa (S.length + 1 - 1) (cap - 1), .agg (vals m).toArray] W fun e w' => e = .returned (.bool (Lk.among m (keys.drop 32) (S.map Prod.fst))) ∧ Below W.heap.size W w') := hide (fun W hW => ih S _ _ W (hk2.below (HUP.out W hW)) (ht1.below (HUP.out W hW)))
  have HI2 : Hid (∀ W, Below (w.heap.size + 1) (w.alloc (.cells (vals m).toArray 25)) W → Calls Tryd.prog 67 #[.slice ka (keys.length - 32) (kc - 32), .slice (some ⟨b, off, none⟩) (S.length + 1) cap, .agg (vals m).toArray] W fun e w' => e = .returned (.bool (Lk.among m (keys.drop 32) (p.1 :: S.map Prod.fst))) ∧ Below W.heap.size W w') := hide (fun W hW => ih (p :: S) _ _ W (hk2.below (HUP.out W hW)) (hS.below (HUP.out W hW)))
  have HAH := hide (ram_hit m keys p.1 (S.map Prod.fst) (by omega))
  have HAM := hide (ram_miss m keys p.1 (S.map Prod.fst) (by omega))
  have hML : (vals m).length = 32 := by rw [vals_length]; exact hm
  have hszM : (Tryd.prog.info? 25).map (·.size) = some (vals m).length := by rw [hML]; exact size_dig
  have HJ : Hid (Is (w.alloc (.cells (vals m).toArray 25)) w.heap.size (vals m) 25) := hide (Is.new w _ _)
  have hcell : (w.alloc (.cells (vals m).toArray 25)).cell? ⟨b, off, none⟩ = some (.slice pa p.1.length pc) := cell_below ht4 hb0
  have hblt : b < w.heap.size + 1 := by omega
  have hsz1 : w.heap.size + 1 ≤ (w.alloc (.cells (vals m).toArray 25)).heap.size := by simp
  have HBL := hide hblt
  have HSZ := hide hsz1
  unfold maxLen at hk4 ht7
  generalize Lk.among m keys (p.1 :: S.map Prod.fst) = A0 at *
  generalize Lk.among m (keys.drop 32) (S.map Prod.fst) = A1 at *
  generalize Lk.among m (keys.drop 32) (p.1 :: S.map Prod.fst) = A2 at *
  generalize hsg : Lk.signed m p.1 (keys.take 32) = sg at *
  generalize vals m = M at *
  generalize keys.length = kl at *
  generalize p.1.length = pl at *
  obtain ⟨sl, hsl⟩ : ∃ n, n = S.length + 1 := ⟨_, rfl⟩
  rw [← hsl] at HI1 HI2 ht6 ⊢
  have hsl1 : 0 < sl := by omega
  have hc1 : ((sl : Int) == 0) = false := by rw [beq_eq_false_iff_ne]; omega
  have hc2 : ((kl : Int) == 0) = false := by rw [beq_eq_false_iff_ne]; omega
  have hx1 : (32 : Int) ≤ (kc : Int) := by omega
  have hx2 : (32 : Int) ≤ (kl : Int) := by omega
  have hx3 : (1 : Int) ≤ (sl : Int) := by omega
  clear hk hS hm hmb hk1 hk2 ht1 ht2 ht3 ht4 ht5 hpe hb0 hML hblt hsz1 hsl ih hsg
  cases sg with
  | true =>
    have HE : Hid (A0 = A1) := hide (HAH.out rfl)
    clear HAH HAM HI2
    go_enter Tryd.func67, Tryd.ntmps67
    go_wp2
    refine wp_region_held_drew (S := fun W : World => Below (w.heap.size + 1) (w.alloc (.cells M.toArray 25)) W ∧ W.cell? ⟨b, off, none⟩ = some (.slice pa pl pc)) (by kernel_rfl) ?_ (fun hHeld0 => ?_)
    · exact ⟨(Below.refl _ _).drew, hcell⟩
    refine wpAnyH_take (i := 0) (v := ?_) rfl (by kernel_rfl) (by kernel_rfl) (by kernel_rfl) (fun _ _ _ h => h) (Or.inl ⟨by rfl, ?_⟩) hHeld0 ?_
    rotate_left
    · (intro w hSw; (try dsimp only at hSw); go_simp <;> (try with_reducible rfl))
    simp only [Act.put, List.getElem_toArray, List.getElem_cons_zero, List.getElem_cons_succ, List.setIfInBounds_toArray, List.set_cons_zero, List.set_cons_succ]
    refine wpAnyH_take (i := 1) (v := ?_) rfl (by kernel_rfl) (by kernel_rfl) (by kernel_rfl) (fun _ _ _ h => h) (Or.inl ⟨by rfl, ?_⟩) hHeld0 ?_
    rotate_left
    · (intro w hSw; (try dsimp only at hSw); go_simp <;> (try with_reducible rfl))
    simp only [Act.put, List.getElem_toArray, List.getElem_cons_zero, List.getElem_cons_succ, List.setIfInBounds_toArray, List.set_cons_zero, List.set_cons_succ]
    refine wpAnyH_take (i := 2) (v := ?_) rfl (by kernel_rfl) (by kernel_rfl) (by kernel_rfl) (fun _ _ _ h => h) (Or.inl ⟨by rfl, ?_⟩) hHeld0 ?_
    rotate_left
    · (intro w hSw; (try dsimp only at hSw); go_simp <;> (try with_reducible rfl))
    simp only [Act.put, List.getElem_toArray, List.getElem_cons_zero, List.getElem_cons_succ, List.setIfInBounds_toArray, List.set_cons_zero, List.set_cons_succ]
    refine wpAnyH_take (i := 3) (v := ?_) rfl (by kernel_rfl) (by kernel_rfl) (by kernel_rfl) (fun _ _ _ h => h) (Or.inl ⟨by rfl, ?_⟩) hHeld0 ?_
    rotate_left
    · (intro w hSw; (try dsimp only at hSw); go_simp <;> (try with_reducible rfl))
    simp only [Act.put, List.getElem_toArray, List.getElem_cons_zero, List.getElem_cons_succ, List.setIfInBounds_toArray, List.set_cons_zero, List.set_cons_succ]
    refine wpAnyH_take (i := 4) (v := ?_) rfl (by kernel_rfl) (by kernel_rfl) (by kernel_rfl) (fun _ _ _ h => h) (Or.inl ⟨by rfl, ?_⟩) hHeld0 ?_
    rotate_left
    · (intro w hSw; (try dsimp only at hSw); go_simp <;> (try with_reducible rfl))
    simp only [Act.put, List.getElem_toArray, List.getElem_cons_zero, List.getElem_cons_succ, List.setIfInBounds_toArray, List.set_cons_zero, List.set_cons_succ]
    refine wpAnyH_take (i := 5) (v := .agg (M).toArray) rfl (by kernel_rfl) (by kernel_rfl) (by kernel_rfl) (fun _ _ _ h => h) (yieldsIf_load_mid (by rfl) _ _ rfl _ _ rfl (M) _ (fun w hSw => range_keep HJ.out.range hSw.1 (Nat.lt_succ_self _)) Tryd.underlying25 rfl hszM) hHeld0 ?_
    simp only [Act.put, List.getElem_toArray, List.getElem_cons_zero, List.getElem_cons_succ, List.setIfInBounds_toArray, List.set_cons_zero, List.set_cons_succ]
    refine wpAnyH_ready (rs := [6]) (by kernel_rfl) (by simp) ?_
    refine AllReadyH.cons rfl (fun K hK => ?_) AllReadyH.nil
    go_simp
    go_wp2_with ((go_at_call 66; refine (HBY.out _ hHeld0.1).mono ?_; rintro e W8 ⟨rfl, hb8⟩))
    refine hK.out _ _ (by exact ram_keep hHeld0 HBL.out HSZ.out hb8) (fun hHeld1 => ?_)
    clear hK K hHeld0
    try simp only [Act.put, List.getElem_toArray, List.getElem_cons_zero, List.getElem_cons_succ, List.setIfInBounds_toArray, List.set_cons_zero, List.set_cons_succ]
    refine wpAnyH_done (by kernel_rfl) ?_ _
    have hHX := hide hHeld1
    clear hHeld1
    go_wp2
    refine wp_region_held_drew (S := fun W : World => Below (w.heap.size + 1) (w.alloc (.cells M.toArray 25)) W ∧ W.cell? ⟨b, off, none⟩ = some (.slice pa pl pc)) (by kernel_rfl) ?_ (fun hHeld0 => ?_)
    · exact ⟨hHX.out.1.drew, hHX.out.2⟩
    refine wpAnyH_take (i := 0) (v := ?_) rfl (by kernel_rfl) (by kernel_rfl) (by kernel_rfl) (fun _ _ _ h => h) (Or.inl ⟨by rfl, ?_⟩) hHeld0 ?_
    rotate_left
    · (intro w hSw; (try dsimp only at hSw); go_simp <;> (try with_reducible rfl))
    simp only [Act.put, List.getElem_toArray, List.getElem_cons_zero, List.getElem_cons_succ, List.setIfInBounds_toArray, List.set_cons_zero, List.set_cons_succ]
    refine wpAnyH_take (i := 1) (v := ?_) rfl (by kernel_rfl) (by kernel_rfl) (by kernel_rfl) (fun _ _ _ h => h) (Or.inl ⟨by rfl, ?_⟩) hHeld0 ?_
    rotate_left
    · (intro w hSw; (try dsimp only at hSw); go_simp <;> (try with_reducible rfl))
    simp only [Act.put, List.getElem_toArray, List.getElem_cons_zero, List.getElem_cons_succ, List.setIfInBounds_toArray, List.set_cons_zero, List.set_cons_succ]
    refine wpAnyH_take (i := 2) (v := ?_) rfl (by kernel_rfl) (by kernel_rfl) (by kernel_rfl) (fun _ _ _ h => h) (Or.inl ⟨by rfl, ?_⟩) hHeld0 ?_
    rotate_left
    · (intro w hSw; (try dsimp only at hSw); go_simp <;> (try with_reducible rfl))
    simp only [Act.put, List.getElem_toArray, List.getElem_cons_zero, List.getElem_cons_succ, List.setIfInBounds_toArray, List.set_cons_zero, List.set_cons_succ]
    refine wpAnyH_take (i := 3) (v := ?_) rfl (by kernel_rfl) (by kernel_rfl) (by kernel_rfl) (fun _ _ _ h => h) (Or.inl ⟨by rfl, ?_⟩) hHeld0 ?_
    rotate_left
    · (intro w hSw; (try dsimp only at hSw); go_simp <;> (try with_reducible rfl))
    simp only [Act.put, List.getElem_toArray, List.getElem_cons_zero, List.getElem_cons_succ, List.setIfInBounds_toArray, List.set_cons_zero, List.set_cons_succ]
    refine wpAnyH_take (i := 4) (v := .agg (M).toArray) rfl (by kernel_rfl) (by kernel_rfl) (by kernel_rfl) (fun _ _ _ h => h) (yieldsIf_load_mid (by rfl) _ _ rfl _ _ rfl (M) _ (fun w hSw => range_keep HJ.out.range hSw.1 (Nat.lt_succ_self _)) Tryd.underlying25 rfl hszM) hHeld0 ?_
    simp only [Act.put, List.getElem_toArray, List.getElem_cons_zero, List.getElem_cons_succ, List.setIfInBounds_toArray, List.set_cons_zero, List.set_cons_succ]
    refine wpAnyH_ready (rs := [5]) (by kernel_rfl) (by simp) ?_
    refine AllReadyH.cons rfl (fun K hK => ?_) AllReadyH.nil
    go_simp
    go_wp2_with ((go_at_call 67; refine (HI1.out _ hHeld0.1).mono ?_; rintro e W9 ⟨rfl, hb9⟩))
    refine hK.out _ _ (by exact ram_keep hHeld0 HBL.out HSZ.out hb9) (fun hHeld1 => ?_)
    clear hK K hHeld0
    try simp only [Act.put, List.getElem_toArray, List.getElem_cons_zero, List.getElem_cons_succ, List.setIfInBounds_toArray, List.set_cons_zero, List.set_cons_succ]
    refine wpAnyH_take (i := 6) (v := ?_) rfl (by kernel_rfl) (by kernel_rfl) (by kernel_rfl) (fun _ _ _ h => h) (Or.inl ⟨by rfl, ?_⟩) hHeld1 ?_
    rotate_left
    · (intro w hSw; (try dsimp only at hSw); go_simp <;> (try with_reducible rfl))
    simp only [Act.put, List.getElem_toArray, List.getElem_cons_zero, List.getElem_cons_succ, List.setIfInBounds_toArray, List.set_cons_zero, List.set_cons_succ]
    refine wpAnyH_done (by kernel_rfl) ?_ _
    have HBX := hide (HUP.out _ hHeld1.1)
    clear hHeld1
    go_wp2
    go_ret
    exact ⟨by rw [HE.out]; rfl, HBX.out⟩
  | false =>
    have HE : Hid (A0 = A2) := hide (HAM.out rfl)
    clear HAH HAM HI1
    go_enter Tryd.func67, Tryd.ntmps67
    go_wp2
    refine wp_region_held_drew (S := fun W : World => Below (w.heap.size + 1) (w.alloc (.cells M.toArray 25)) W ∧ W.cell? ⟨b, off, none⟩ = some (.slice pa pl pc)) (by kernel_rfl) ?_ (fun hHeld0 => ?_)
    · exact ⟨(Below.refl _ _).drew, hcell⟩
    refine wpAnyH_take (i := 0) (v := ?_) rfl (by kernel_rfl) (by kernel_rfl) (by kernel_rfl) (fun _ _ _ h => h) (Or.inl ⟨by rfl, ?_⟩) hHeld0 ?_
    rotate_left
    · (intro w hSw; (try dsimp only at hSw); go_simp <;> (try with_reducible rfl))
    simp only [Act.put, List.getElem_toArray, List.getElem_cons_zero, List.getElem_cons_succ, List.setIfInBounds_toArray, List.set_cons_zero, List.set_cons_succ]
    refine wpAnyH_take (i := 1) (v := ?_) rfl (by kernel_rfl) (by kernel_rfl) (by kernel_rfl) (fun _ _ _ h => h) (Or.inl ⟨by rfl, ?_⟩) hHeld0 ?_
    rotate_left
    · (intro w hSw; (try dsimp only at hSw); go_simp <;> (try with_reducible rfl))
    simp only [Act.put, List.getElem_toArray, List.getElem_cons_zero, List.getElem_cons_succ, List.setIfInBounds_toArray, List.set_cons_zero, List.set_cons_succ]
    refine wpAnyH_take (i := 2) (v := ?_) rfl (by kernel_rfl) (by kernel_rfl) (by kernel_rfl) (fun _ _ _ h => h) (Or.inl ⟨by rfl, ?_⟩) hHeld0 ?_
    rotate_left
    · (intro w hSw; (try dsimp only at hSw); go_simp <;> (try with_reducible rfl))
    simp only [Act.put, List.getElem_toArray, List.getElem_cons_zero, List.getElem_cons_succ, List.setIfInBounds_toArray, List.set_cons_zero, List.set_cons_succ]
    refine wpAnyH_take (i := 3) (v := ?_) rfl (by kernel_rfl) (by kernel_rfl) (by kernel_rfl) (fun _ _ _ h => h) (Or.inl ⟨by rfl, ?_⟩) hHeld0 ?_
    rotate_left
    · (intro w hSw; (try dsimp only at hSw); go_simp <;> (try with_reducible rfl))
    simp only [Act.put, List.getElem_toArray, List.getElem_cons_zero, List.getElem_cons_succ, List.setIfInBounds_toArray, List.set_cons_zero, List.set_cons_succ]
    refine wpAnyH_take (i := 4) (v := ?_) rfl (by kernel_rfl) (by kernel_rfl) (by kernel_rfl) (fun _ _ _ h => h) (Or.inl ⟨by rfl, ?_⟩) hHeld0 ?_
    rotate_left
    · (intro w hSw; (try dsimp only at hSw); go_simp <;> (try with_reducible rfl))
    simp only [Act.put, List.getElem_toArray, List.getElem_cons_zero, List.getElem_cons_succ, List.setIfInBounds_toArray, List.set_cons_zero, List.set_cons_succ]
    refine wpAnyH_take (i := 5) (v := .agg (M).toArray) rfl (by kernel_rfl) (by kernel_rfl) (by kernel_rfl) (fun _ _ _ h => h) (yieldsIf_load_mid (by rfl) _ _ rfl _ _ rfl (M) _ (fun w hSw => range_keep HJ.out.range hSw.1 (Nat.lt_succ_self _)) Tryd.underlying25 rfl hszM) hHeld0 ?_
    simp only [Act.put, List.getElem_toArray, List.getElem_cons_zero, List.getElem_cons_succ, List.setIfInBounds_toArray, List.set_cons_zero, List.set_cons_succ]
    refine wpAnyH_ready (rs := [6]) (by kernel_rfl) (by simp) ?_
    refine AllReadyH.cons rfl (fun K hK => ?_) AllReadyH.nil
    go_simp
    go_wp2_with ((go_at_call 66; refine (HBY.out _ hHeld0.1).mono ?_; rintro e W8 ⟨rfl, hb8⟩))
    refine hK.out _ _ (by exact ram_keep hHeld0 HBL.out HSZ.out hb8) (fun hHeld1 => ?_)
    clear hK K hHeld0
    try simp only [Act.put, List.getElem_toArray, List.getElem_cons_zero, List.getElem_cons_succ, List.setIfInBounds_toArray, List.set_cons_zero, List.set_cons_succ]
    refine wpAnyH_done (by kernel_rfl) ?_ _
    have hHX := hide hHeld1
    clear hHeld1
    go_wp2
    refine wp_region_held_drew (S := fun W : World => Below (w.heap.size + 1) (w.alloc (.cells M.toArray 25)) W ∧ W.cell? ⟨b, off, none⟩ = some (.slice pa pl pc)) (by kernel_rfl) ?_ (fun hHeld0 => ?_)
    · exact ⟨hHX.out.1.drew, hHX.out.2⟩
    refine wpAnyH_take (i := 0) (v := ?_) rfl (by kernel_rfl) (by kernel_rfl) (by kernel_rfl) (fun _ _ _ h => h) (Or.inl ⟨by rfl, ?_⟩) hHeld0 ?_
    rotate_left
    · (intro w hSw; (try dsimp only at hSw); go_simp <;> (try with_reducible rfl))
    simp only [Act.put, List.getElem_toArray, List.getElem_cons_zero, List.getElem_cons_succ, List.setIfInBounds_toArray, List.set_cons_zero, List.set_cons_succ]
    refine wpAnyH_take (i := 1) (v := ?_) rfl (by kernel_rfl) (by kernel_rfl) (by kernel_rfl) (fun _ _ _ h => h) (Or.inl ⟨by rfl, ?_⟩) hHeld0 ?_
    rotate_left
    · (intro w hSw; (try dsimp only at hSw); go_simp <;> (try with_reducible rfl))
    simp only [Act.put, List.getElem_toArray, List.getElem_cons_zero, List.getElem_cons_succ, List.setIfInBounds_toArray, List.set_cons_zero, List.set_cons_succ]
    refine wpAnyH_take (i := 2) (v := ?_) rfl (by kernel_rfl) (by kernel_rfl) (by kernel_rfl) (fun _ _ _ h => h) (Or.inl ⟨by rfl, ?_⟩) hHeld0 ?_
    rotate_left
    · (intro w hSw; (try dsimp only at hSw); go_simp <;> (try with_reducible rfl))
    simp only [Act.put, List.getElem_toArray, List.getElem_cons_zero, List.getElem_cons_succ, List.setIfInBounds_toArray, List.set_cons_zero, List.set_cons_succ]
    refine wpAnyH_take (i := 3) (v := .agg (M).toArray) rfl (by kernel_rfl) (by kernel_rfl) (by kernel_rfl) (fun _ _ _ h => h) (yieldsIf_load_mid (by rfl) _ _ rfl _ _ rfl (M) _ (fun w hSw => range_keep HJ.out.range hSw.1 (Nat.lt_succ_self _)) Tryd.underlying25 rfl hszM) hHeld0 ?_
    simp only [Act.put, List.getElem_toArray, List.getElem_cons_zero, List.getElem_cons_succ, List.setIfInBounds_toArray, List.set_cons_zero, List.set_cons_succ]
    refine wpAnyH_ready (rs := [4]) (by kernel_rfl) (by simp) ?_
    refine AllReadyH.cons rfl (fun K hK => ?_) AllReadyH.nil
    go_simp
    go_wp2_with ((go_at_call 67; refine (HI2.out _ hHeld0.1).mono ?_; rintro e W9 ⟨rfl, hb9⟩))
    refine hK.out _ _ (by exact ram_keep hHeld0 HBL.out HSZ.out hb9) (fun hHeld1 => ?_)
    clear hK K hHeld0
    try simp only [Act.put, List.getElem_toArray, List.getElem_cons_zero, List.getElem_cons_succ, List.setIfInBounds_toArray, List.set_cons_zero, List.set_cons_succ]
    refine wpAnyH_take (i := 5) (v := ?_) rfl (by kernel_rfl) (by kernel_rfl) (by kernel_rfl) (fun _ _ _ h => h) (Or.inl ⟨by rfl, ?_⟩) hHeld1 ?_
    rotate_left
    · (intro w hSw; (try dsimp only at hSw); go_simp <;> (try with_reducible rfl))
    simp only [Act.put, List.getElem_toArray, List.getElem_cons_zero, List.getElem_cons_succ, List.setIfInBounds_toArray, List.set_cons_zero, List.set_cons_succ]
    refine wpAnyH_done (by kernel_rfl) ?_ _
    have HBX := hide (HUP.out _ hHeld1.1)
    clear hHeld1
    go_wp2
    go_ret
    exact ⟨by rw [HE.out]; rfl, HBX.out⟩

theorem ramong_any (m : List Int) (hm : m.length = 32) (hmb : Sz.Byt m) : ∀ (n : Nat) (keys : List Int) (S : List (List Int × Value)) (kv sv : Value) (w : World), keys.length = 32 * n → Has w kv keys → HasKeys w sv S →
    Calls Tryd.prog 67 #[kv, sv, .agg (vals m).toArray] w fun e w' => e = .returned (.bool (Lk.among m keys (S.map Prod.fst))) ∧ Below w.heap.size w w' := by
  intro n
  induction n with
  | zero =>
    intro keys S kv sv w hl hk hS
    have h0 := List.eq_nil_of_length_eq_zero (l := keys) (by omega)
    subst h0
    obtain ⟨ka, kc, rfl, _, _⟩ := hk.shape
    obtain ⟨sa, sc, rfl, _, _, _⟩ := hS.form
    cases S with
    | nil =>
      rw [List.map_nil, show Lk.among m [] [] = true by rw [Lk.among]]
      exact ram_all _ sa sc m w
    | cons p S =>
      rw [List.map_cons, ram_nil]
      exact ram_out ka kc sa (p :: S).length sc (by simp) m w
  | succ n ih =>
    intro keys S kv sv w hl hk hS
    cases S with
    | nil =>
      obtain ⟨sa, sc, rfl, _, _, _⟩ := hS.form
      rw [List.map_nil, show Lk.among m keys [] = true by rw [Lk.among]]
      exact ram_all _ sa sc m w
    | cons p S =>
      obtain ⟨kb, koff, kc, rfl⟩ : ∃ b off c, kv = .slice (some ⟨b, off, none⟩) keys.length c := by
        rcases hk with ⟨a, cap, _, rfl, _⟩ | ⟨b, off, cap, rfl, _⟩
        · simp at hl
        · exact ⟨b, off, cap, rfl⟩
      obtain ⟨b, off, cap, rfl⟩ : ∃ b off c, sv = .slice (some ⟨b, off, none⟩) (S.length + 1) c := by
        rcases hS.1 with ⟨a, cap, _, e, _⟩ | ⟨b, off, cap, rfl, _⟩
        · cases e
        · exact ⟨b, off, cap, rfl⟩
      exact ramong_step m keys p S kb koff kc b off cap w hm hmb hk (by omega) hS (fun S' kv' sv' W h1 h2 => ih (keys.drop 32) S' kv' sv' W (by rw [List.length_drop]; omega) h1 h2)
end Go.Proofs.YtkdihbgjeanjdaaDoor
