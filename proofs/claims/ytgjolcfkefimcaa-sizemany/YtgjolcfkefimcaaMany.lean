/- SizeMany: numbers that are written one behind the other are read one behind the other, for every list of numbers. -/
import Derived.Test.YtgjolcfkefimcaaOwn
import Derived.Test.YtgjolcfkefimcaaReads
namespace Go.Proofs.Ytgjolcfkefimcaa
open Go.RowKit
set_option linter.unusedVariables false

/-- A slice value whose elements are the numbers l. -/
def HasI (w : World) (v : Value) (l : List Int) : Prop :=
  (∃ a cap, v = .slice a 0 cap ∧ l = []) ∨
  ∃ b off cap, v = .slice (some ⟨b, off, none⟩) l.length cap ∧ 0 < l.length ∧ l.length ≤ maxLen ∧ ∀ j, j < l.length → w.cell? ⟨b, off + j, none⟩ = some (.int .i64 (l.getD j 0))

theorem HasI.below {w w' : World} {v : Value} {l : List Int} (h : HasI w v l) (hb : Below w.heap.size w w') : HasI w' v l := by
  rcases h with h | ⟨b, off, cap, hv, h0, h2, hc⟩
  · exact .inl h
  · refine .inr ⟨b, off, cap, hv, h0, h2, fun j hj => ?_⟩
    have hlt : b < w.heap.size := World.block_lt_of_cell? w ⟨b, off + j, none⟩ (hc j hj)
    rw [hb.cell (p := ⟨b, off + j, none⟩) hlt]
    exact hc j hj

theorem wr_300 : (Sz.wr 300).length = 3 := by decide

set_option maxHeartbeats 800000 in
theorem many_walk (v : Value) (ns : List Int) (w : World) (h : HasI w v ns) (hr : ∀ n ∈ ns, -9223372036854775808 ≤ n ∧ n ≤ 9223372036854775807) (hbd : 9 * ns.length ≤ 180000000000000) :
    Calls Try.prog 5 #[v] w fun e w' => e = .returned (.bool true) ∧ Below w.heap.size w w' := by
  rcases h with ⟨a, cap, rfl, rfl⟩ | ⟨b, off, cap, rfl, h0, hm, hc⟩
  · have h3 := wr_300
    go_enter Try.func5, Try.ntmps5
    go_wp2_with fail
    refine (write_yes 300 _ (by decide) (by decide)).mono ?_
    rintro e w1 ⟨rfl, hx1, hb1⟩
    rw [h3] at hx1 ⊢
    clear hx1 h3
    go_wp2_with fail
    refine wp_loop_rounds 1 ?_
    rw [rounds_succ]
    go_wp2
    refine wp_loop_rounds 1 ?_
    rw [rounds_succ]
    go_wp2
    go_ret
    exact ⟨rfl, hb1⟩
  · have hlt : b < w.heap.size := World.block_lt_of_cell? w ⟨b, off + 0, none⟩ (hc 0 h0)
    have h3 := wr_300
    go_enter Try.func5, Try.ntmps5
    go_wp2_with fail
    refine (write_yes 300 _ (by decide) (by decide)).mono ?_
    rintro e w1 ⟨rfl, hx1, hb1⟩
    rw [h3] at hx1 ⊢
    go_wp2_with fail
    clear hx1 h3
    unfold maxLen at hm
    go_loopw [5, 6] (fun b' i wr => ∃ k : Nat, k ≤ ns.length ∧ i = .int .i64 k ∧ (∀ n ∈ ns.take k, 0 ≤ n) ∧ Own wr w.heap.size b' (Sz.row (ns.take k)) ∧ Below w.heap.size w wr) (fun _ i _ => ns.length - (intOf i).toNat)
    case atStart => exact ⟨0, Nat.zero_le _, rfl, by simp, by simpa [Sz.row] using Own.nil w1 w.heap.size, hb1⟩
    case round =>
      obtain ⟨k, hk, rfl, hpos, hown, hbel⟩ := hrel
      by_cases hlt2 : k < ns.length
      · have hck : wr.cell? ⟨b, off + k, none⟩ = some (.int .i64 (ns.getD k 0)) := by rw [hbel.cell (p := ⟨b, off + k, none⟩) hlt]; exact hc k hlt2
        have hmem : ns.getD k 0 ∈ ns := by simp [List.getD, List.getElem?_eq_getElem hlt2]
        have hrk := hr _ hmem
        have HT : Hid (ns.take (k + 1) = ns.take k ++ [ns.getD k 0]) := take_snoc ns k hlt2
        have hrow := Sz.row_le (ns.take k)
        rw [List.length_take] at hrow
        have HR : Hid ((Sz.row (ns.take k)).length ≤ 9 * min k ns.length) := hrow
        have HP := hide hpos
        clear hrow hpos
        generalize ns.getD k 0 = n at *
        by_cases hn : n < 0
        · go_wp2_with fail
          refine (write_neg n _ hn).mono ?_
          rintro e w2 ⟨rfl, rfl⟩
          go_wp2
          go_ret
          exact ⟨rfl, hbel⟩
        · go_wp2_with fail
          refine (write_yes n _ (by omega) hrk.2).mono ?_
          rintro e w2 ⟨rfl, hx2, hb2⟩
          have hlen9 := Sz.wr_le9 n
          have hown2 := hown.below hb2
          have hbel2 : Below w.heap.size w w2 := hbel.trans (hb2.mono hbel.size)
          have hbnd : (Sz.row (ns.take k)).length + (Sz.wr n).length ≤ 180000000000000 := by have := HR.out; omega
          have HBN := hide hbnd
          clear hbnd
          go_wp2_with (at_builtin; refine wpList_append_bytes _ rfl _ _ rfl w.heap.size _ _ rfl hown2 _ _ rfl hx2 HBN.out hbel2.size ?_; intro v3 w3 hown3 hgrow3)
          go_roundw
          case rel =>
            refine ⟨k + 1, by omega, by go_num, ?_, ?_, ?_⟩
            · rw [HT.out]; intro q hq
              rcases List.mem_append.1 hq with h5 | h5
              · exact HP.out q h5
              · simp at h5; omega
            · rw [HT.out, Sz.row_snoc]; exact hown3
            · exact hbel2.grown hgrow3 hbel2.size (fun q hq => (hown2.block q hq).1)
          case measure => simp [intOf]; omega
      · obtain rfl : k = ns.length := by omega
        rw [List.take_length] at hpos hown
        have hHas := hown.has
        have hbyt := Sz.row_byt ns hpos
        obtain ⟨a', cap', rfl, hcl, hcm⟩ := hown.form
        have hrl := Sz.row_le ns
        unfold maxLen at hcm
        have HH := hide hHas
        have HB := hide hbyt
        have HP := hide hpos
        clear hHas hbyt hpos hown
        obtain ⟨wA, rfl⟩ : ∃ wA, wA = wr := ⟨_, rfl⟩
        go_wp2
        go_loopw [9, 10] (fun p i w2 => ∃ k : Nat, k ≤ ns.length ∧ i = .int .i64 k ∧ p = .int .i64 ((Sz.row (ns.take k)).length : Nat) ∧ Below wA.heap.size wA w2) (fun _ i _ => ns.length - (intOf i).toNat)
        case atStart => exact ⟨0, Nat.zero_le _, rfl, rfl, Below.refl _ _⟩
        case round =>
          obtain ⟨k, hk, rfl, rfl, hb3⟩ := hrel
          have hbel3 : Below w.heap.size w wr := hbel.trans (hb3.mono hbel.size)
          by_cases hlt2 : k < ns.length
          · have hck : wr.cell? ⟨b, off + k, none⟩ = some (.int .i64 (ns.getD k 0)) := by rw [hbel3.cell (p := ⟨b, off + k, none⟩) hlt]; exact hc k hlt2
            have hmem : ns.getD k 0 ∈ ns := by simp [List.getD, List.getElem?_eq_getElem hlt2]
            have hrk := hr _ hmem
            have hnn := HP.out _ hmem
            have hrd : Sz.rd (Sz.row ns) ((Sz.row (ns.take k)).length : Nat) = (ns.getD k 0, ((Sz.row (ns.take k)).length : Int) + ((Sz.wr (ns.getD k 0)).length : Nat), 0) := by
              have e := Sz.row_split ns k hlt2
              conv => lhs; rw [e]
              exact Sz.rd_wr _ _ _ hnn hrk.2
            have hnx : (Sz.row (ns.take (k + 1))).length = (Sz.row (ns.take k)).length + (Sz.wr (ns.getD k 0)).length := by
              rw [take_snoc ns k hlt2, Sz.row_snoc, List.length_append]
            have hle := Sz.row_le (ns.take k)
            rw [List.length_take] at hle
            have hle2 : (Sz.row (ns.take k)).length ≤ 9 * ns.length := by omega
            have hw9 := Sz.wr_le9 (ns.getD k 0)
            have hwp := Sz.wr_pos (ns.getD k 0)
            have HN := hide hnx
            have hread := read_any _ _ ((Sz.row (ns.take k)).length : Nat) _ (HH.out.below hb3) HB.out
            rw [hrd] at hread
            clear hle hrd hnx hmem
            generalize ns.getD k 0 = n at *
            generalize hL : (Sz.row (ns.take k)).length = L at *
            generalize hM : (Sz.wr n).length = M at *
            clear hL hM
            have HRD := hide hread
            clear hread
            have hne : (n != n) = false := by simp
            go_wp2_with fail
            refine HRD.out.mono ?_
            rintro e w4 ⟨rfl, hb4⟩
            have hbel4 : Below w.heap.size w w4 := hbel3.trans (hb4.mono hbel3.size)
            have hck4 : w4.cell? ⟨b, off + k, none⟩ = some (.int .i64 n) := by
              rw [hb4.cell (p := ⟨b, off + k, none⟩) (Nat.lt_of_lt_of_le hlt hbel3.size)]; exact hck
            simp only [errV, if_true]
            go_wp2
            go_roundw
            case rel => exact ⟨k + 1, by omega, by go_num, by rw [HN.out]; go_num, hb3.trans (hb4.mono hb3.size)⟩
            case measure => simp [intOf]; omega
          · obtain rfl : k = ns.length := by omega
            rw [List.take_length]
            go_wp2
            go_ret
            exact ⟨rfl, hbel3⟩
end Go.Proofs.Ytgjolcfkefimcaa
