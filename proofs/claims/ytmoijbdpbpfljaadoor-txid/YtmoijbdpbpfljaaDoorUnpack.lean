/- The contracts of bytes.Clone and of size.Unpack. -/
import Derived.Test.YtmoijbdpbpfljaaDoorPack
import Derived.Test.YtmoijbdpbpfljaaDoorReads
import Derived.Lib.SliceRun
namespace Go.Proofs.YtmoijbdpbpfljaaDoor
open Go.RowKit
set_option linter.unusedVariables false

/-- A new empty slice: a block with no cells. -/
theorem Own.empty (w : World) (base : Nat) (hb : base ≤ w.heap.size) : Own (w.alloc (.cells #[] 5)) base (.slice (some ⟨w.heap.size, 0, none⟩) 0 0) [] :=
  ⟨rfl, .inr ⟨w.heap.size, 0, #[], rfl, hb, heap_alloc_new w _, Nat.le_refl _, Nat.zero_le _, rfl, rfl⟩⟩

set_option maxHeartbeats 400000 in
theorem clone_some (a : Addr) (n cap : Nat) (l : List Int) (w : World) (h : Has w (.slice (some a) n cap) l) (hn : l.length ≤ 180000000000000) :
    Calls Tryd.prog 76 #[.slice (some a) n cap] w fun e w' => ∃ v, e = .returned v ∧ Own w' w.heap.size v l ∧ Below w.heap.size w w' := by
  have H1 := hide h
  clear h
  have heq : ∀ w, (binOp .eql 26 (.slice (some a) n cap) (.slice none 0 0)).run Tryd.prog w = .ok (.bool false) w := fun w => Go.Lib.run_eql_slice_nil w _ _ (some a) n cap 0 0 Tryd.underlying26
  have hb : ∀ o, Below w.heap.size w (w.alloc o) := fun o => (Below.refl _ _).alloc (Nat.le_refl _) _
  have HB := hide hb
  clear hb
  go_enter Tryd.func76, Tryd.ntmps76
  go_wp2_with (at_builtin; refine wpList_append_bytes _ rfl _ _ rfl w.heap.size _ [] rfl (Own.empty w w.heap.size (Nat.le_refl _)) _ l rfl (H1.out.below (HB.out _)) (by simpa using hn) (HB.out _).size ?_; intro v2 w2 hown2 hgr2)
  go_ret
  exact ⟨v2, rfl, hown2, (HB.out _).grown hgr2 (HB.out _).size (fun q hq => ((Own.empty w w.heap.size (Nat.le_refl _)).block q hq).1)⟩

theorem rd_err (l : List Int) (p : Int) (h : (Sz.rd l p).2.2 ≠ 0) : (Sz.rd l p).1 = 0 ∧ (Sz.rd l p).2.1 = 0 := (Sz.rd_ok l p).resolve_left h

set_option maxHeartbeats 400000 in
theorem unpack_err (v : Value) (l : List Int) (p : Int) (w : World) (h : Has w v l) (hb : Sz.Byt l) (he : (Sz.rd l p).2.2 ≠ 0) :
    Calls Tryd.prog 73 #[v, .int .i64 p] w fun e w' => e = .returned (.tuple #[.slice none 0 0, .int .i64 0, errV (Sz.rd l p).2.2]) ∧ Below w.heap.size w w' := by
  have hr := read_any v l p w h hb
  have hV : errV (Sz.rd l p).2.2 = .iface 35 (.int .i64 (Sz.rd l p).2.2) := by unfold errV; rw [if_neg he]
  rw [hV] at hr ⊢
  generalize (Sz.rd l p).1 = r1 at *
  generalize (Sz.rd l p).2.1 = r2 at *
  generalize (Sz.rd l p).2.2 = r3 at *
  have HR := hide hr
  clear hr hV he h
  go_enter Tryd.func73, Tryd.ntmps73
  go_wp2_with fail
  refine HR.out.mono ?_
  rintro e w1 ⟨rfl, hbel⟩
  go_wp2
  go_ret3
  exact ⟨rfl, hbel⟩

set_option maxHeartbeats 400000 in
theorem unpack_ok (b off cap : Nat) (l : List Int) (p q : Nat) (n : Nat) (w : World) (h : Has w (.slice (some ⟨b, off, none⟩) l.length cap) l) (hb : Sz.Byt l) (hr : Sz.rd l (p : Int) = ((n : Int), (q : Int), 0))
    (hq : q ≤ l.length) (hm : cap ≤ maxLen) (hcap : l.length ≤ cap) (hbig : l.length ≤ 180000000000000) (hc : ∀ j, j < l.length → w.cell? ⟨b, off + j, none⟩ = some (.int .u8 (l.getD j 0))) (hn : q + n ≤ l.length) :
    Calls Tryd.prog 73 #[.slice (some ⟨b, off, none⟩) l.length cap, .int .i64 p] w fun e w' => ∃ v, e = .returned (.tuple #[v, .int .i64 ((q : Int) + (n : Int)), .nilIface]) ∧ Has w' v ((l.drop q).take n) ∧ Below w.heap.size w w' := by
  have hrd := read_any _ l (p : Int) w h hb
  rw [hr] at hrd
  have HR := hide hrd
  have hel : ((l.drop q).take n).length = n := by rw [List.length_take, List.length_drop]; omega
  have hHas : ∀ w', Below w.heap.size w w' → Has w' (.slice (if cap = q then some ⟨b, off, none⟩ else some ⟨b, off + q, none⟩) n (cap - q)) ((l.drop q).take n) := fun w' hw' => by
    refine Has.below (w := w) ?_ hw'
    by_cases h0 : n = 0
    · subst h0
      exact .inl ⟨_, _, rfl, by simp, by omega, by split <;> (intro h; cases h)⟩
    · rw [if_neg (by omega)]
      refine .inr ⟨b, off + q, cap - q, by rw [hel], by omega, by omega, by omega, fun j hj => ?_⟩
      have := hc (q + j) (by omega)
      rw [show off + q + j = off + (q + j) from by omega, this]
      have e2 : ((l.drop q).take n).getD j 0 = l.getD (q + j) 0 := by
        simp only [List.getD, List.getElem?_take, List.getElem?_drop]
        rw [if_pos (by omega)]
      rw [e2]
  have HH := hide hHas
  have HE := hide hel
  clear hrd hr h hb hc hHas hel
  generalize (l.drop q).take n = r at *
  generalize l.length = len at *
  unfold maxLen at hm
  have h1 : ¬ (len : Int) - (q : Int) < (n : Int) := by omega
  have h2 : (q : Int) + (n : Int) ≤ (len : Int) := by omega
  have h3 : (len : Int) ≤ (cap : Int) := by omega
  by_cases hcq : cap = q
  · subst hcq
    have HC : Hid (∀ w', Below w.heap.size w w' → Has w' (.slice (some ⟨b, off, none⟩) n 0) r) := fun w' hw' => by
      have := HH.out w' hw'
      rw [if_pos rfl, Nat.sub_self] at this
      exact this
    clear HH
    have hlen : r.length ≤ 180000000000000 := by rw [HE.out]; omega
    go_enter Tryd.func73, Tryd.ntmps73
    go_wp2_with fail
    refine HR.out.mono ?_
    rintro e w1 ⟨rfl, hbel⟩
    simp only [errV, if_true]
    go_wp2_with fail
    refine (clone_some _ _ _ r _ (HC.out _ hbel) hlen).mono ?_
    rintro e w2 ⟨v, rfl, hown, hbel2⟩
    go_wp2
    go_ret3
    exact ⟨v, rfl, hown.has, hbel.trans (hbel2.mono hbel.size)⟩
  · have HC : Hid (∀ w', Below w.heap.size w w' → Has w' (.slice (some ⟨b, off + q, none⟩) n (cap - q)) r) := fun w' hw' => by
      have := HH.out w' hw'
      rw [if_neg hcq] at this
      exact this
    clear HH
    have hlen : r.length ≤ 180000000000000 := by rw [HE.out]; omega
    go_enter Tryd.func73, Tryd.ntmps73
    go_wp2_with fail
    refine HR.out.mono ?_
    rintro e w1 ⟨rfl, hbel⟩
    simp only [errV, if_true]
    go_wp2_with fail
    refine (clone_some _ _ _ r _ (HC.out _ hbel) hlen).mono ?_
    rintro e w2 ⟨v, rfl, hown, hbel2⟩
    go_wp2
    go_ret3
    exact ⟨v, rfl, hown.has, hbel.trans (hbel2.mono hbel.size)⟩

set_option maxHeartbeats 400000 in
theorem unpack_few (v : Value) (l : List Int) (p q n : Int) (w : World) (h : Has w v l) (hb : Sz.Byt l) (hr : Sz.rd l p = (n, q, 0)) (hq0 : 0 ≤ q) (hq1 : q ≤ l.length) (hn0 : 0 ≤ n) (hn1 : n ≤ 9223372036854775807) (hn : (l.length : Int) - q < n) :
    Calls Tryd.prog 73 #[v, .int .i64 p] w fun e w' => e = .returned (.tuple #[.slice none 0 0, .int .i64 0, .iface 35 (.int .i64 3)]) ∧ Below w.heap.size w w' := by
  have hrd := read_any v l p w h hb
  rw [hr] at hrd
  have HR := hide hrd
  obtain ⟨a, cap, rfl, hm, hlm⟩ := h.slice
  clear hrd hr h
  unfold maxLen at hlm
  generalize l.length = len at *
  go_enter Tryd.func73, Tryd.ntmps73
  go_wp2_with fail
  refine HR.out.mono ?_
  rintro e w1 ⟨rfl, hbel⟩
  simp only [errV, if_true]
  go_wp2
  go_ret3
  exact ⟨rfl, hbel⟩

/-- The contract in one piece. -/
theorem unpack_any (v : Value) (l : List Int) (p : Int) (w : World) (h : Has w v l) (hb : Sz.Byt l) (hbig : l.length ≤ 180000000000000) :
    Calls Tryd.prog 73 #[v, .int .i64 p] w fun e w' => ∃ v', e = .returned (.tuple #[v', .int .i64 (Sz.unp l p).2.1, errV (Sz.unp l p).2.2]) ∧ Has w' v' (Sz.unp l p).1 ∧ Below w.heap.size w w' := by
  by_cases he : (Sz.rd l p).2.2 = 0
  · obtain ⟨n, q, hr⟩ : ∃ n q, Sz.rd l p = (n, q, 0) := ⟨(Sz.rd l p).1, (Sz.rd l p).2.1, by rw [← he]⟩
    have hp : ¬ p < 0 := fun hp => by rw [Sz.rd_neg l p hp] at he; simp at he
    obtain ⟨k, rfl⟩ := Int.eq_ofNat_of_zero_le (show 0 ≤ p by omega)
    obtain ⟨hn0, hn1, hq, hle, _⟩ := Sz.wr_rd l k n q hb hr
    by_cases hfew : (l.length : Int) - q < n
    · have e : Sz.unp l (k : Int) = ([], 0, 3) := by unfold Sz.unp; rw [hr, if_neg (by simp), if_pos hfew]
      rw [e]
      refine (unpack_few v l k q n w h hb hr (by omega) (by omega) hn0 hn1 hfew).mono ?_
      rintro e w' ⟨rfl, hbel⟩
      exact ⟨_, rfl, .inl ⟨none, 0, rfl, rfl, by unfold maxLen; omega, fun _ => rfl⟩, hbel⟩
    · obtain ⟨n', rfl⟩ := Int.eq_ofNat_of_zero_le hn0
      obtain ⟨q', rfl⟩ := Int.eq_ofNat_of_zero_le (show 0 ≤ q by omega)
      have e : Sz.unp l (k : Int) = ((l.drop q').take n', (q' : Int) + (n' : Int), 0) := by unfold Sz.unp; rw [hr, if_neg (by simp), if_neg hfew]; rfl
      rw [e]
      have hpos := Sz.wr_pos (n' : Int)
      have H := h
      rcases h with ⟨a, cap, rfl, rfl, _⟩ | ⟨b, off, cap, rfl, h0, hcap, hm, hc⟩
      · exact absurd hle (by simp only [List.length_nil]; omega)
      · refine (unpack_ok b off cap l k q' n' w H hb hr (by omega) hm hcap hbig hc (by omega)).mono ?_
        rintro e w' ⟨v, rfl, hv, hbel⟩
        exact ⟨v, rfl, hv, hbel⟩
  · have e : Sz.unp l p = ([], 0, (Sz.rd l p).2.2) := by unfold Sz.unp; rw [if_pos he]
    rw [e]
    refine (unpack_err v l p w h hb he).mono ?_
    rintro e w' ⟨rfl, hbel⟩
    exact ⟨_, rfl, .inl ⟨none, 0, rfl, rfl, by unfold maxLen; omega, fun _ => rfl⟩, hbel⟩
end Go.Proofs.YtmoijbdpbpfljaaDoor
