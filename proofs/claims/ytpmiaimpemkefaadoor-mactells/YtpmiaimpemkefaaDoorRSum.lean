/- The contract of moneyerref1.Sum: the document's digest of bytes. -/
import Derived.Test.YtpmiaimpemkefaaDoorRBlock
import Derived.Test.YtpmiaimpemkefaaDoorPut
import Derived.Test.YtpmiaimpemkefaaDoorShWrite
namespace Go.Proofs.YtpmiaimpemkefaaDoor
open Go.RowKit
set_option linter.unusedVariables false

set_option maxRecDepth 100000 in
theorem rrounds_any (w : World) : Calls Tryd.prog 23 #[] w fun e w' => e = .returned (.slice (some ⟨w.heap.size, 0, none⟩) 64 64) ∧ Is w' w.heap.size (ivals Sh.ks) 3 ∧ Below w.heap.size w w' := by
  go_enter Tryd.func23, Tryd.ntmps23
  go_wp2
  go_ret
  exact ⟨rfl, Is.new w (ivals Sh.ks) 3, below_alloc w _⟩

theorem low_be8 (n : Nat) : Sz.low 8 (n : Int) = Sh.be8 n := by
  have hp : ∀ j : Nat, Sz.pw j = ((256 ^ j : Nat) : Int) := fun j => by
    induction j with
    | zero => rfl
    | succ j ih => rw [Sz.pw, ih, Nat.pow_succ]; omega
  have hd : ∀ j : Nat, (n : Int) / Sz.pw j % 256 = (((n / 256 ^ j) % 256 : Nat) : Int) := fun j => by rw [hp]; omega
  have hs : ∀ a b : Nat, 2 ^ a = 256 ^ b → n >>> a = n / 256 ^ b := fun a b h => by rw [Nat.shiftRight_eq_div_pow, h]
  rw [Sz.low_cons 7 _ (by omega), Sz.low_cons 6 _ (by omega), Sz.low_cons 5 _ (by omega), Sz.low_cons 4 _ (by omega), Sz.low_cons 3 _ (by omega), Sz.low_cons 2 _ (by omega), Sz.low_cons 1 _ (by omega), Sz.low_cons 0 _ (by omega), hd, hd, hd, hd, hd, hd, hd, hd]
  show _ = [((n >>> 56 % 256 : Nat) : Int), ((n >>> 48 % 256 : Nat) : Int), ((n >>> 40 % 256 : Nat) : Int), ((n >>> 32 % 256 : Nat) : Int), ((n >>> 24 % 256 : Nat) : Int), ((n >>> 16 % 256 : Nat) : Int), ((n >>> 8 % 256 : Nat) : Int), ((n >>> 0 % 256 : Nat) : Int)]
  rw [hs 56 7 (by decide), hs 48 6 (by decide), hs 40 5 (by decide), hs 32 4 (by decide), hs 24 3 (by decide), hs 16 2 (by decide), hs 8 1 (by decide), hs 0 0 (by decide)]
  rfl

theorem pad_test (n k : Nat) (hk : k < Sh.zeros n) : (n + 1 + k) % 64 ≠ 56 := by unfold Sh.zeros at hk; omega
theorem pad_end (n : Nat) : (n + 1 + Sh.zeros n) % 64 = 56 := by unfold Sh.zeros; omega
theorem padded_length (l : List Int) : (Sh.padded l).length = l.length + 9 + Sh.zeros l.length := by rw [Sh.padded, List.length_append, ending_length]; omega
theorem padded_mod (l : List Int) : (Sh.padded l).length % 64 = 0 := by rw [padded_length]; have := pad_end l.length; omega
theorem padded_eq (l : List Int) : Sh.padded l = (l ++ ((128 : Int) :: List.replicate (Sh.zeros l.length) 0)) ++ Sh.be8 (l.length * 8) := by
  unfold Sh.padded Sh.ending
  simp
theorem padded_byt (l : List Int) (h : Sz.Byt l) : Sz.Byt (Sh.padded l) := h.append (ending_byt _)

/-- The first k bytes of a digest, and 0 behind them. -/
def pd32 (s : Sh.St) (k : Nat) : List Int := (List.range 32).map fun i => if i < k then dby s i else 0
theorem pd32_length (s : Sh.St) (k : Nat) : (pd32 s k).length = 32 := by simp [pd32]
theorem pd32_step (s : Sh.St) (k : Nat) : (pd32 s k).set k (dby s k) = pd32 s (k + 1) := by
  apply List.ext_getElem
  · simp [pd32]
  · intro i h1 h2
    simp only [pd32, List.getElem_set, List.getElem_map, List.getElem_range]
    by_cases e : k = i
    · subst e; rw [if_pos rfl, if_pos (by omega)]
    · rw [if_neg e]
      by_cases e2 : i < k
      · rw [if_pos e2, if_pos (by omega)]
      · rw [if_neg e2, if_neg (by omega)]
theorem pd32_all (s : Sh.St) : pd32 s 32 = Sh.digest s := by
  unfold pd32 Sh.digest
  apply List.map_congr_left
  intro i hi
  rw [if_pos (by simpa using hi)]
  rfl
theorem slice_64 (b cap n k : Nat) (w : World) (hk : 64 * k + 64 ≤ n) (hc : n ≤ cap) : (Instr.slice 22 (.slice (some ⟨b, 0, none⟩) n cap) (some (.int .i64 (64 * (k : Int)))) (some (.int .i64 (64 * (k : Int) + 64))) none).run Tryd.prog w = .ok (.slice (some ⟨b, 64 * k, none⟩) 64 (cap - 64 * k)) w := by
  have hu := Tryd.underlying22
  have he : Tryd.prog.elem 22 = 5 := by simp [Program.elem, hu]
  obtain ⟨i, hi, hz, hs, hby⟩ := info_u8
  have hsz : (sizeOf 5).run Tryd.prog w = .ok 1 w := by simp [sizeOf, typeInfo, hi, hs]
  have := run_slice_lh (P := Tryd.prog) w 22 (some ⟨b, 0, none⟩) n cap (by rw [he]; exact hu) .i64 .i64 (64 * (k : Int)) (64 * (k : Int) + 64) (by omega) (by omega) (by omega)
  rw [this, he, hsz]
  have e1 : (64 * (k : Int)).toNat = 64 * k := by omega
  have e2 : (64 * (k : Int) + 64).toNat = 64 * k + 64 := by omega
  simp [sliced, Addr.add_lit, e1, e2, show ¬ cap = 64 * k by omega]

theorem own_at {w : World} {base : Nat} {v : Value} {l : List Int} (h : Own w base v l) (h0 : 0 < l.length) : ∃ b cap, v = .slice (some ⟨b, 0, none⟩) l.length cap ∧ b < w.heap.size ∧ l.length ≤ cap ∧ cap ≤ maxLen ∧ ∀ j, j < l.length → w.cell? ⟨b, j, none⟩ = some (.int .u8 (l.getD j 0)) := by
  rcases h.2 with ⟨rfl, h1⟩ | ⟨g, cap, cur, rfl, hb, hg, hn, hc, hs, ht⟩
  · omega
  · refine ⟨g, cap, rfl, (Array.getElem?_eq_some_iff.1 hg).1, hn, hc, fun j hj => ?_⟩
    have hcell := World.ownsRow.cells h (g := g) rfl j _ (vals_get l j hj)
    rw [Addr.add_lit, Nat.zero_add] at hcell
    exact hcell

set_option maxRecDepth 100000 in
set_option maxHeartbeats 1600000 in
theorem rsum_any (v : Value) (l : List Int) (w : World) (h : Has w v l) (hbt : Sz.Byt l) (hlen : l.length ≤ 149000000000000) :
    Calls Tryd.prog 15 #[v] w fun e w' => e = .returned (.agg (vals (Sh.sum l)).toArray) ∧ Below w.heap.size w w' := by
  obtain ⟨va, vc, rfl⟩ : ∃ a cap, v = .slice a l.length cap := by
    rcases h with ⟨a, c, rfl, rfl, _⟩ | ⟨b, off, cap, rfl, _⟩
    · exact ⟨a, c, rfl⟩
    · exact ⟨_, _, rfl⟩
  have HH := hide h
  have hzl := zeros_lt l.length
  obtain ⟨n, hn⟩ : ∃ n, n = l.length := ⟨_, rfl⟩
  have HD0 := hide (Is.new w (vals (List.replicate 32 0)) 24)
  have hl2 : n ≤ 149000000000000 := by omega
  clear h
  go_enter Tryd.func15, Tryd.ntmps15
  go_wp2_with (first
    | (at_builtin; refine wpList_append_bytes _ rfl _ _ rfl (w.heap.size + 1) _ _ rfl (Own.empty' (k := w.heap.size + 1) (w.heap.size + 1) (by simp) (by simp)) _ _ rfl (HH.out.below (below_alloc2 w _ _)) (by show 0 + l.length ≤ _; omega) (by simp) ?_; intro v1 w1 ho1 hg1; rw [List.nil_append] at ho1)
    | (at_builtin; refine wpList_append_bytes _ rfl _ _ rfl (w.heap.size + 1) _ _ rfl (ho1.below (below_alloc w1 _)) _ _ rfl (Own.byte w1 128) (by show l.length + 1 ≤ _; omega) (by have := hg1.size; simp at this ⊢; omega) ?_; intro v2 w2 ho2 hg2))
  have hbd0 : Below (w.heap.size + 1) (w.alloc (.cells (vals (List.replicate 32 0)).toArray 24)) w1 := ((Below.refl (w.heap.size + 1) (w.alloc (.cells (vals (List.replicate 32 0)).toArray 24))).alloc (by simp) _).grown hg1 (by simp) (fun k hk => by injection hk with hk; rw [← hk]; exact Nat.le_refl _)
  have hbd : Below (w.heap.size + 1) (w.alloc (.cells (vals (List.replicate 32 0)).toArray 24)) w2 := (hbd0.alloc (by have := hbd0.size; simp at this; omega) _).grown hg2 (by have := hbd0.size; simp at this ⊢; omega) (fun k hk => (ho1.block k hk).1)
  have hbw := below_alloc w (.cells (vals (List.replicate 32 0)).toArray 24)
  have hsd : (w.alloc (.cells (vals (List.replicate 32 0)).toArray 24)).heap.size = w.heap.size + 1 := by simp
  have HD := HD0
  generalize w.alloc (.cells (vals (List.replicate 32 0)).toArray 24) = wd at *
  clear hbd0 hg1 hg2 ho1 HD0
  rw [← hsd] at hbd ho2
  go_loopw [3] (fun m wr => ∃ k : Nat, k ≤ Sh.zeros n ∧ Own wr wd.heap.size m (l ++ (128 : Int) :: List.replicate k 0) ∧ Below wd.heap.size wd wr) (fun m _ => n + 100 - lenOf m)
  case atStart => exact ⟨0, by omega, ho2, hbd⟩
  case round =>
    obtain ⟨k, hk, ho3, hb3⟩ := hrel
    clear hbd ho2
    obtain ⟨ma, mc, rfl, hmc1, hmc2⟩ := ho3.form
    have hml : (l ++ (128 : Int) :: List.replicate k 0).length = n + 1 + k := by simp; omega
    have hmi : ((n + 1 + k : Nat) : Int).tmod 64 = (((n + 1 + k) % 64 : Nat) : Int) := by rw [Int.tmod_eq_emod_of_nonneg (by omega)]; rfl
    rw [hml]
    have HO3 := hide ho3
    have hzz : Sh.zeros n < 64 := zeros_lt n
    by_cases hkz : k < Sh.zeros n
    · have hte : ((((n + 1 + k) % 64 : Nat) : Int) != 56) = true := by have := pad_test n k hkz; simp; omega
      obtain ⟨N, hN⟩ : ∃ N, N = n + 1 + k := ⟨_, rfl⟩
      rw [← hN] at hmi hte hml ⊢
      obtain ⟨r, hr⟩ : ∃ r, r = N % 64 := ⟨_, rfl⟩
      rw [← hr] at hmi hte
      have HML := hide hml
      have HN := hide hN
      have hN2 : N < 150000000000000 := by omega
      clear ho3 hml hr hN
      go_wp2_with (at_builtin; refine wpList_append_bytes _ rfl _ _ rfl wd.heap.size _ _ (by rw [← HML.out]; rfl) (HO3.out.below (below_alloc wr _)) _ _ rfl (Own.byte wr 0) (by show _ + 1 ≤ _; rw [HML.out]; omega) (by have := hb3.size; simp; omega) ?_; intro v4 w4 ho4 hg4)
      go_roundw
      case rel =>
        refine ⟨k + 1, by omega, ?_, (hb3.alloc hb3.size _).grown hg4 (by have := hb3.size; simp; omega) (fun q hq => (HO3.out.block q hq).1)⟩
        have e : l ++ (128 : Int) :: List.replicate (k + 1) 0 = (l ++ (128 : Int) :: List.replicate k 0) ++ [0] := by
          rw [List.replicate_succ']; simp
        rw [e]; exact ho4
      case measure =>
        obtain ⟨a4, c4, e4, _, _⟩ := ho4.form
        rw [e4]
        have h1 := HML.out
        have h2 := HN.out
        simp only [lenOf, List.length_append, List.length_cons, List.length_nil] at h1 ⊢
        omega
    · have hkz' : k = Sh.zeros n := by omega
      have hte : ((((n + 1 + k) % 64 : Nat) : Int) != 56) = false := by have := pad_end n; rw [← hkz'] at this; simp; omega
      obtain ⟨N, hN⟩ : ∃ N, N = n + 1 + k := ⟨_, rfl⟩
      rw [← hN] at hmi hte hml ⊢
      obtain ⟨r, hr⟩ : ∃ r, r = N % 64 := ⟨_, rfl⟩
      rw [← hr] at hmi hte
      have hN2 : N < 150000000000000 := by omega
      have HML := hide hml
      obtain ⟨xs, hxs⟩ : ∃ xs, xs = l ++ (128 : Int) :: List.replicate k 0 := ⟨_, rfl⟩
      rw [← hxs] at HO3 HML
      have hpad : Hid (Sh.padded l = xs ++ Sh.be8 (l.length * 8)) := by show _ = _; rw [padded_eq, hxs, hkz', hn]
      have hbe : (Sh.be8 (l.length * 8)).length = 8 := by simp [Sh.be8]
      have hpp : (Sh.padded l).length = N + 8 := by rw [padded_length, ← hn]; omega
      have hpm := padded_mod l
      have hpb := padded_byt l hbt
      have HP := hide (put_any ((l.length : Int) * 8) 8 wr (by omega) (by omega) (by omega) (by omega))
      rw [show ((l.length : Int) * 8) = ((l.length * 8 : Nat) : Int) by omega, low_be8] at HP
      rw [show ((l.length * 8 : Nat) : Int) = (l.length : Int) * 8 by omega] at HP
      have HSM : Hid (Sh.sum l = Sh.digest (Sh.comp (Sh.padded l) ((Sh.padded l).length / 64))) := rfl
      generalize Sh.be8 (l.length * 8) = be at *
      generalize Sh.padded l = PL at *
      have HBE := hide hbe
      have hgo := hb3.size
      obtain ⟨wA, rfl⟩ : ∃ wA, wA = wr := ⟨_, rfl⟩
      clear ho3 hml hr hN hkz' hkz hk hxs hbe
      go_wp2_with (first
        | (go_at_call 22; refine HP.out.mono ?_; rintro e w5 ⟨b5, rfl, hh5, hb5⟩)
        | (go_at_call 23; refine (rrounds_any _).mono ?_; rintro e w7 ⟨rfl, hk7, hb7⟩)
        | (at_builtin; refine wpList_append_bytes _ rfl _ _ rfl wd.heap.size _ _ (by rw [← HML.out]; rfl) (HO3.out.below hb5) _ _ (by rw [← HBE.out]; rfl) hh5 (by rw [HML.out, HBE.out]; omega) (Nat.le_trans hgo hb5.size) ?_; intro v6 w6 ho6 hg6))
      have hb6 : Below wd.heap.size wd w6 := (hb3.trans (hb5.mono hgo)).grown hg6 (Nat.le_trans hgo hb5.size) (fun q hq => ((HO3.out.below hb5).block q hq).1)
      have hb7w : Below w6.heap.size w6 w7 := (below_alloc w6 _).trans (hb7.mono (by simp))
      have hb7d : Below wd.heap.size wd w7 := hb6.trans (hb7w.mono hb6.size)
      have hI7 : Is w7 w6.heap.size (ivals Sh.init.list) 3 := (Is.new w6 (ivals Sh.init.list) 3).below hb7 (by simp)
      have hk7' : Is w7 (w6.heap.size + 1) (ivals Sh.ks) 3 := by simpa using hk7
      rw [← hpad.out] at ho6
      obtain ⟨mb, mcap, rfl, hmb, hmc3, hmc4, hmcell⟩ := own_at ho6 (by omega)
      have hmcell7 : ∀ j, j < PL.length → w7.cell? ⟨mb, j, none⟩ = some (.int .u8 (PL.getD j 0)) := fun j hj => by rw [hb7w.cell (p := ⟨mb, j, none⟩) hmb]; exact hmcell j hj
      have hmb7 : mb < w7.heap.size := Nat.lt_of_lt_of_le hmb hb7w.size
      have hD7 : Is w7 w.heap.size (vals (List.replicate 32 0)) 24 := HD.out.below hb7d (by omega)
      obtain ⟨M, hM⟩ : ∃ M, M = PL.length := ⟨_, rfl⟩
      rw [← hM] at hpp hpm hmc3 hmcell7 HSM ⊢
      have HM7 := hide hmcell7
      have HK7 := hide hk7'
      have HI7 := hide hI7
      have HD7 := hide hD7
      have HB7 := hide hb7d
      have hkb7 := hk7'.lt
      have HPB := hide hpb
      have HMM := hide hM
      have hM2 : M < 160000000000000 := by omega
      clear hpp hb7 hb7w hb7d hI7 hk7 hk7' hmcell hmcell7 ho6 hg6 hh5 hb5 hb6 hb3 HO3 HP hD7 hpb hM hmi hte HD
      unfold maxLen at hmc4
      go_loopw [6, 8] (fun h x wr => ∃ (k hb hcap : Nat), 64 * k ≤ M ∧ x = .int .i64 (64 * (k : Int)) ∧ h = .slice (some ⟨hb, 0, none⟩) 8 hcap ∧ 8 ≤ hcap ∧ hcap ≤ maxLen ∧ (∀ j, j < 8 → wr.cell? ⟨hb, j, none⟩ = some (.int .i64 ((Sh.comp PL k).list.getD j 0 : Nat))) ∧ Below w7.heap.size w7 wr) (fun _ x _ => M - (intOf x).toNat)
      case atStart =>
        refine ⟨0, w6.heap.size, 8, by omega, rfl, rfl, by omega, by unfold maxLen; omega, fun j hj => ?_, Below.refl _ _⟩
        rw [HI7.out.cell, ivals_get _ _ hj]
        rfl
      case round =>
        obtain ⟨q, hb, hcap, hq, rfl, rfl, hc1, hc2, hcells, hbr⟩ := hrel
        clear HI7
        have hbl : hb < wr.heap.size := World.block_lt_of_cell? wr ⟨hb, 0, none⟩ (hcells 0 (by omega))
        by_cases hqm : 64 * q < M
        · have hq2 : 64 * q + 64 ≤ M := by omega
          have hsl := fun w => slice_64 mb mcap M q w hq2 hmc3
          have hblen : ((PL.drop (64 * q)).take 64).length = 64 := by have := HMM.out; rw [List.length_take, List.length_drop]; omega
          have HRB := hide (rblock_any hb (w6.heap.size + 1) mb (64 * q) hcap 64 (mcap - 64 * q) (Sh.comp PL q) ((PL.drop (64 * q)).take 64) wr (Sh.comp_ok _ _) hblen ((HPB.out.drop _).take _) hc1 hc2 (Nat.le_refl _) (by omega) (by unfold maxLen; omega) hcells
            (fun t ht => by rw [hbr.cell (p := ⟨w6.heap.size + 1, t, none⟩) hkb7, HK7.out.cell, ivals_get _ _ (by rw [Sh.ks_len]; exact ht)])
            (fun j hj => by
              rw [hbr.cell (p := ⟨mb, 64 * q + j, none⟩) hmb7, HM7.out (64 * q + j) (by omega)]
              simp only [List.getD, List.getElem?_take, List.getElem?_drop]
              rw [if_pos hj]))
          have hnx : Hid (Sh.comp PL (q + 1) = Sh.mix (Sh.comp PL q) ((PL.drop (64 * q)).take 64)) := rfl
          generalize Sh.mix (Sh.comp PL q) ((PL.drop (64 * q)).take 64) = st' at *
          have hqi : (64 : Int) * (q : Int) < (M : Int) := by omega
          clear hcells hblen
          go_wp2_with (go_at_call 24; refine HRB.out.mono ?_; rintro e w8 ⟨vb, vcap, rfl, hv1, hv2, hv3, hb8⟩)
          go_roundw
          case rel =>
            exact ⟨q + 1, vb, vcap, by omega, by go_num, rfl, hv1, hv2, by rw [hnx.out]; exact hv3, hbr.trans (hb8.mono hbr.size)⟩
          case measure => simp [intOf]; omega
        · have hq' : q = M / 64 := by omega
          have hqn : ¬ (64 : Int) * (q : Int) < (M : Int) := by omega
          rw [hq'] at hcells
          obtain ⟨wB, rfl⟩ : ∃ wB, wB = wr := ⟨_, rfl⟩
          have hstok := Sh.comp_ok PL (M / 64)
          generalize Sh.comp PL (M / 64) = st at *
          have HC := hide hcells
          clear hcells hq' hqm hq HK7 HM7
          go_wp2
          go_loopw [10] (fun x wr => ∃ k : Nat, k ≤ 32 ∧ x = .int .i64 k ∧ Below wB.heap.size wB wr ∧ Is wr wB.heap.size (vals (pd32 st k)) 24) (fun x _ => 32 - (intOf x).toNat)
          case atStart => exact ⟨0, by omega, rfl, below_alloc wB _, Is.new wB (vals (pd32 st 0)) 24⟩
          case round =>
            obtain ⟨k, hk, rfl, hb9, hI9⟩ := hrel
            have HI9 := hide hI9
            by_cases hk32 : k < 32
            · have g0 := hI9.cell k
              rw [vals_get _ _ (by rw [pd32_length]; exact hk32)] at g0
              have f0 := hI9.frozen k
              have g1 : wr.cell? ⟨hb, k / 4, none⟩ = some (.int .i64 (st.list.getD (k / 4) 0 : Nat)) := by rw [hb9.cell (p := ⟨hb, k / 4, none⟩) hbl]; exact HC.out (k / 4) (by omega)
              have HS9 := hide (pd32_step st k)
              have HDB : Hid (dby st k = (((st.list.getD (k / 4) 0) >>> (24 - k % 4 * 8) % 256 : Nat) : Int)) := rfl
              have lx := Sh.getD_lt (Sh.list_lt st hstok) (by omega) (k / 4)
              generalize st.list.getD (k / 4) 0 = x at *
              generalize (pd32 st k).getD k 0 = y at *
              have t0 : (k : Int).tdiv 4 = ((k / 4 : Nat) : Int) := by rw [Int.tdiv_eq_ediv_of_nonneg (by omega)]; omega
              have t1 : (k : Int).tmod 4 = ((k % 4 : Nat) : Int) := by rw [Int.tmod_eq_emod_of_nonneg (by omega)]; omega
              have t2 : (24 : Int) - ((k % 4 : Nat) : Int) * 8 = ((24 - k % 4 * 8 : Nat) : Int) := by omega
              have t3 : k % 4 < 4 := by omega
              have t4 : k / 4 < 8 := by omega
              have t5 : 24 - k % 4 * 8 < 64 := by omega
              generalize 24 - k % 4 * 8 = m at *
              generalize k % 4 = k4 at *
              generalize k / 4 = kq at *
              clear hI9
              go_wp2
              go_roundw
              case rel =>
                have e : (x : Int) / 2 ^ m % 256 = dby st k := by
                  rw [HDB.out, Nat.shiftRight_eq_div_pow, Int.natCast_emod, Int.natCast_ediv, Int.natCast_pow]; rfl
                rw [e]
                refine ⟨k + 1, by omega, by go_num, hb9.setCell (p := ⟨wB.heap.size, k, none⟩) (Nat.le_refl _) _, ?_⟩
                rw [← HS9.out, ← vals_set]
                exact HI9.out.set k _
              case measure => simp [intOf]; omega
            · have hk' : k = 32 := by omega
              have hkn : ¬ (k : Int) < 32 := by omega
              rw [hk', pd32_all] at hI9
              have hdl : (Sh.digest st).length = 32 := by simp [Sh.digest]
              have hI9d : Is wr w.heap.size (vals (List.replicate 32 0)) 24 := (HD7.out.below hbr HD7.out.lt).below hb9 (Nat.lt_of_lt_of_le HD7.out.lt hbr.size)
              generalize Sh.digest st = D at *
              have H9 := hide hI9
              have H9D := hide hI9d
              have HDL := hide hdl
              clear hI9 hI9d hdl HI9 hk' hk32 hk
              go_wp2_with (first
                | (refine wpList_load_arr 24 (vals D) wB.heap.size H9.out Tryd.underlying24 size_dig (by rw [vals_length]; exact HDL.out) rfl (.tmp 9) rfl rfl ?_)
                | (refine wpList_store_any 24 (vals (List.replicate 32 0)) (vals D) w.heap.size H9D.out size_dig (by simp [vals]) (by rw [vals_length]; exact HDL.out) (vals_one _) rfl (.tmp 2) (.tmp 66) rfl rfl rfl rfl ?_; intro wE hiE hbE hkE hzE))
              have hr := hiE.cellsOf Tryd.underlying24 (by rw [vals_length, HDL.out]; exact size_dig)
              refine bodyPost_ret (v := .agg (vals D).toArray) (results_cell1 Tryd.results15 rfl hr) rfl ⟨?_, ?_⟩
              · rw [HSM.out]
              · refine hbE _ _ ?_ (Nat.le_refl _)
                exact hbw.trans ((HB7.out.trans ((hbr.trans (hb9.mono hbr.size)).mono HB7.out.size)).mono (by omega))
end Go.Proofs.YtpmiaimpemkefaaDoor
