/- A lock that is being opened: what is at hand, and how it is put and taken. -/
import Derived.Test.YtkdihbgjeanjdaaDoorLkC
import Derived.OneCell
namespace Go.Proofs.YtkdihbgjeanjdaaDoor
open Go.RowKit
set_option linter.unusedVariables false

/-- What a run breaks off with. -/
def pan (c : Int) : List PanicEntry := [{ v := .iface (if c = 4 then 78 else if c = 8 then 79 else 141) (.agg #[]), recovered := false }]

/-- Bytes that lie in a block of which X holds. -/
def HasX (w : World) (X : Nat → Prop) (v : Value) (l : List Int) : Prop :=
  (∃ a cap, v = .slice a 0 cap ∧ l = [] ∧ cap ≤ maxLen ∧ (a = none → cap = 0)) ∨
  ∃ b off cap, v = .slice (some ⟨b, off, none⟩) l.length cap ∧ 0 < l.length ∧ l.length ≤ cap ∧ cap ≤ maxLen ∧ X b ∧ ∀ j, j < l.length → w.cell? ⟨b, off + j, none⟩ = some (.int .u8 (l.getD j 0))
theorem HasX.has {w : World} {X : Nat → Prop} {v : Value} {l : List Int} (h : HasX w X v l) : Has w v l := by
  rcases h with h | ⟨b, off, cap, h1, h2, h3, h4, _, h5⟩
  · exact .inl h
  · exact .inr ⟨b, off, cap, h1, h2, h3, h4, h5⟩
theorem Has.x {w : World} {X : Nat → Prop} {v : Value} {l : List Int} (h : Has w v l) (hX : ∀ b, b < w.heap.size → X b) : HasX w X v l := by
  rcases h with h | ⟨b, off, cap, h1, h2, h3, h4, h5⟩
  · exact .inl h
  · exact .inr ⟨b, off, cap, h1, h2, h3, h4, hX b (World.block_lt_of_cell? w _ (h5 0 h2)), h5⟩
theorem HasX.move {w w' : World} {X Y : Nat → Prop} {v : Value} {l : List Int} (h : HasX w X v l) (hb : ∀ b, b < w.heap.size → X b → w'.heap[b]? = w.heap[b]? ∧ Y b) : HasX w' Y v l := by
  rcases h with h | ⟨b, off, cap, h1, h2, h3, h4, h5, h6⟩
  · exact .inl h
  · have hlt : b < w.heap.size := World.block_lt_of_cell? w _ (h6 0 h2)
    obtain ⟨e, y⟩ := hb b hlt h5
    exact .inr ⟨b, off, cap, h1, h2, h3, h4, y, fun j hj => by rw [World.cell?_of_block (a := ⟨b, off + j, none⟩) e]; exact h6 j hj⟩

def handOf (w : World) (R : Nat) : Value := (w.cell? ⟨R, 0, none⟩).getD .nilIface
/-- Bytes that lie neither in the run itself nor in the row of what is at hand. -/
def HasH (R : Nat) (w : World) (v : Value) (l : List Int) : Prop := HasX w (fun b => b ≠ R ∧ (handOf w R).ownBlock ≠ some b) v l
def runCells (v : Value) (m : List Int) (h : Int) : List Value := v :: (vals m ++ [.int .i64 h])
/-- Bytes, and not too many. -/
def Sm (l : List Int) : Prop := Sz.Byt l ∧ l.length ≤ 3000
/-- The run: what is at hand, the top one last. -/
structure St (w : World) (R base : Nat) (m : List Int) (h : Int) (K : List (List Int × Value)) : Prop where
  is : Is w R (runCells (handOf w R) m h) 82
  own : w.ownsRow base 36 1 (handOf w R) K.length (K.map Prod.snd)
  apart : (handOf w R).ownBlock ≠ some R
  few : K.length ≤ 30
  mlen : m.length = 32
  mbyt : Sz.Byt m
  lay : base ≤ R
  has : ∀ p ∈ K, HasH R w p.2 p.1 ∧ Sm p.1
def Keep (R : Nat) (w w' : World) : Prop := ∀ v l, HasH R w v l → HasH R w' v l
theorem Keep.refl (R : Nat) (w : World) : Keep R w w := fun _ _ h => h
theorem Keep.trans {R : Nat} {a b c : World} (h : Keep R a b) (k : Keep R b c) : Keep R a c := fun v l x => k v l (h v l x)

theorem handOf_below {w w' : World} {R B : Nat} (hb : Below B w w') (h : R < B) : handOf w' R = handOf w R := by
  unfold handOf; rw [hb.cell (p := ⟨R, 0, none⟩) h]
theorem Keep.below {w w' : World} {R : Nat} (hb : Below w.heap.size w w') (h : R < w.heap.size) : Keep R w w' := fun v l x => by
  unfold HasH at x ⊢
  rw [handOf_below hb h]
  exact x.move fun b hlt hX => ⟨hb.block b hlt, hX⟩
theorem St.below {w w' : World} {R base : Nat} {m : List Int} {h : Int} {K : List (List Int × Value)} (s : St w R base m h K) (hb : Below w.heap.size w w') : St w' R base m h K := by
  have e := handOf_below hb s.is.lt
  exact { is := by rw [e]; exact s.is.below hb s.is.lt, own := by rw [e]; exact owns_below s.own hb, apart := by rw [e]; exact s.apart, few := s.few, mlen := s.mlen, mbyt := s.mbyt, lay := s.lay,
          has := fun p hp => ⟨Keep.below hb s.is.lt _ _ (s.has p hp).1, (s.has p hp).2⟩ }
theorem St.cell {w : World} {R base : Nat} {m : List Int} {h : Int} {K : List (List Int × Value)} (s : St w R base m h K) : w.cell? ⟨R, 0, none⟩ = some (handOf w R) := by
  rw [s.is.cell]; rfl
theorem St.form {w : World} {R base : Nat} {m : List Int} {h : Int} {K : List (List Int × Value)} (s : St w R base m h K) : ∃ a cap, handOf w R = .slice a K.length cap := owns_form s.own

theorem must_true (r : Value) (w : World) : Calls Tryd.prog 60 #[r, .bool true] w fun e w' => e = .returned (.tuple #[]) ∧ w = w' := by
  go_enter Tryd.func60, Tryd.ntmps60
  go_wp2
  first | go_end0 | skip
  exact ⟨rfl, rfl⟩
theorem must_false (r : Value) (w : World) : Calls Tryd.prog 60 #[r, .bool false] w fun e w' => e = .panicked (pan 7) ∧ w = w' := by
  go_enter Tryd.func60, Tryd.ntmps60
  go_wp2
  exact ⟨rfl, rfl, rfl⟩

theorem put_full (R base : Nat) (m : List Int) (h : Int) (K : List (List Int × Value)) (v : Value) (w : World) (s : St w R base m h K) (hk : K.length = 30) :
    Calls Tryd.prog 44 #[.pointer (some ⟨R, 0, none⟩), v] w fun e w' => e = .panicked (pan 4) ∧ w = w' := by
  obtain ⟨a, cap, e⟩ := s.form
  have hc := s.cell
  rw [e, hk] at hc
  clear s e hk
  go_enter Tryd.func44, Tryd.ntmps44
  go_wp2
  exact ⟨rfl, rfl, rfl⟩

theorem elem_row : Elem 23 36 1 := elem_of (.slice none 0 0) 24 Tryd.underlying23 (by kernel_rfl) (by omega) rfl (by omega)

/-- What a store of a new row of what is at hand leaves. -/
theorem hand_set {w w' : World} {R : Nat} {v : Value} {m : List Int} {h : Int} {x : Value} (hi : Is w R (runCells v m h) 82) (hw : w' = w.setCell ⟨R, 0, none⟩ x) : Is w' R (runCells x m h) 82 ∧ handOf w' R = x := by
  subst hw
  have h2 := hi.set 0 x
  refine ⟨h2, ?_⟩
  unfold handOf
  rw [h2.cell]; rfl

set_option maxRecDepth 100000 in
set_option maxHeartbeats 1600000 in
theorem put_ok (R base : Nat) (m : List Int) (h : Int) (K : List (List Int × Value)) (x : List Int) (v : Value) (w : World) (s : St w R base m h K) (hk : K.length < 30) (hx : HasH R w v x) (hxb : Sm x) :
    Calls Tryd.prog 44 #[.pointer (some ⟨R, 0, none⟩), v] w fun e w' => e = .returned (.tuple #[]) ∧ St w' R base m h (K ++ [(x, v)]) ∧ Keep R w w' ∧ Below base w w' := by
  obtain ⟨xa, xc, hxe, _, _⟩ := hx.has.shape
  obtain ⟨a, cap, e⟩ := s.form
  have hc := s.cell
  rw [e] at hc
  have S := hide s
  have HX := hide hx
  have HXB := hide hxb
  have HE := hide e
  have hne : ¬ R = w.heap.size := by have := s.is.lt; omega
  have hk30 : ¬ (K.length : Int) = 30 := by omega
  have HOWN : Hid (w.ownsRow base 36 1 (.slice a K.length cap) K.length (K.map Prod.snd)) := by have := s.own; rwa [e] at this
  have HAP : Hid ((Value.slice a K.length cap).ownBlock ≠ some R) := by have := s.apart; rwa [e] at this
  have HBA : Hid (base ≤ (w.alloc (.cells #[v] 36)).heap.size) := hide (by have h1 := s.lay; have h2 := s.is.lt; simp; omega)
  have HVE := hide hxe
  have hvo : v.oneCell' = true := by rw [hxe]; rfl
  have HVO := hide hvo
  clear s hx hxb e
  generalize x.length = xl at *
  subst hxe
  clear hvo
  go_enter Tryd.func44, Tryd.ntmps44
  go_wp2_with (at_builtin; refine wpList_append_gen _ 23 36 1 rfl _ _ rfl base (.slice a K.length cap) K.length (K.map Prod.snd) rfl w.heap.size 0 1 1 [.slice xa xl xc] rfl (owns_below HOWN.out (below_alloc w _)) elem_row (by omega) rfl (is_range (Is.new w [.slice xa xl xc] 36)) (by simpa using HVO.out) (by omega) HBA.out ?_; intro v5 w5 ho5 hg5 hs5; obtain ⟨va5, vc5, rfl⟩ := owns_form ho5; have hcR := hg5.cell (a := ⟨R, 0, none⟩) (v := .slice a K.length cap) (by rw [World.cell?_alloc_lt _ _ _ (by simpa using S.out.is.lt)]; exact hc) (fun e => HAP.out e.symm); have hfR : w5.frozen? ⟨R, 0, none⟩ = false := by (rw [World.frozen?_of_block (hg5.block R (by have := S.out.is.lt; simp; omega) (fun e => HAP.out e.symm)), World.frozen?_alloc_old _ _ _ hne]; exact S.out.is.frozen 0))
  go_end0
  have hlt := S.out.is.lt
  have hiA : Is (w.alloc (.cells #[.slice xa xl xc] 36)) R (runCells (handOf w R) m h) 82 := S.out.is.alloc _
  have hi5 : Is w5 R (runCells (handOf w R) m h) 82 := by
    unfold Is; rw [hg5.block R (by simp; omega) (fun e => HAP.out e.symm)]; exact hiA
  obtain ⟨hi6, hh6⟩ := hand_set (x := .slice va5 (K.length + 1) vc5) hi5 rfl
  have hold : ∀ b, b < w.heap.size → b ≠ R → (handOf w R).ownBlock ≠ some b → (w5.setCell ⟨R, 0, none⟩ (.slice va5 (K.length + 1) vc5)).heap[b]? = w.heap[b]? := fun b hb h1 h2 => by
    rw [HE.out] at h2
    rw [Below.heap_setCell _ _ _ _ h1, hg5.block b (by simp; omega) (fun e => h2 e.symm), Below.heap_alloc _ _ _ hb]
  have hnew : ∀ b, b < w.heap.size → b ≠ R → (handOf w R).ownBlock ≠ some b → (Value.slice va5 (K.length + 1) vc5).ownBlock ≠ some b := fun b hb h1 h2 e => by
    rw [HE.out] at h2
    rcases hs5 with h | h
    · rw [h] at e; exact h2 e
    · rw [h] at e; injection e with e; simp at e; omega
  have hkeep : Keep R w (w5.setCell ⟨R, 0, none⟩ (.slice va5 (K.length + 1) vc5)) := fun v' l' hv' => by
    unfold HasH at hv' ⊢
    rw [hh6]
    exact hv'.move fun b hb hX => ⟨hold b hb hX.1 hX.2, hX.1, hnew b hb hX.1 hX.2⟩
  have hsz : w.heap.size ≤ w5.heap.size := Nat.le_trans (below_alloc w (.cells #[.slice xa xl xc] 36)).size hg5.size
  refine ⟨rfl, ?_, hkeep, ?_⟩
  · refine { is := by rw [hh6]; exact hi6, own := ?_, apart := ?_, few := by simp; omega, mlen := S.out.mlen, mbyt := S.out.mbyt, lay := S.out.lay, has := ?_ }
    · rw [hh6]
      have hap : (Value.slice va5 (K.length + 1) vc5).ownBlock ≠ some R := fun e => by
        rcases hs5 with h | h
        · rw [h] at e; exact HAP.out e
        · rw [h] at e; injection e with e; simp at e; omega
      have := ownsRow_setCell_other ho5 (a := ⟨R, 0, none⟩) hap (.slice va5 (K.length + 1) vc5)
      simpa using this
    · rw [hh6]
      intro e
      rcases hs5 with h | h
      · rw [h] at e; exact HAP.out e
      · rw [h] at e; injection e with e; simp at e; omega
    · intro p hp
      rcases List.mem_append.1 hp with hp | hp
      · exact ⟨hkeep _ _ (S.out.has p hp).1, (S.out.has p hp).2⟩
      · obtain rfl := List.mem_singleton.1 hp
        exact ⟨hkeep _ _ HX.out, HXB.out⟩
  · have hb5 : Below base w w5 := ((Below.refl base w).alloc (Nat.le_trans S.out.lay (Nat.le_of_lt hlt)) _).grown hg5 HBA.out (fun q hq => (World.ownsRow.lt HOWN.out q hq).1)
    exact hb5.setCell S.out.lay _
end Go.Proofs.YtkdihbgjeanjdaaDoor
