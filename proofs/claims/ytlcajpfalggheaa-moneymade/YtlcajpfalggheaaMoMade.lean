/- MoneyMade: what is made till a height, for every height. -/
import Derived.Test.YtlcajpfalggheaaMon
namespace Go.Proofs.Ytlcajpfalggheaa
open Go.RowKit
set_option linter.unusedVariables false

theorem made_goodI (h : Int) (k : Nat) (w : World) (e : h = (k : Nat)) (hh : k ≤ 1073741824) :
    Calls Try.prog 7 #[.int .i64 h] w fun e w' => e = .returned (.tuple #[.int .i64 (Mo.made (k / 1000) : Nat), errV 0]) ∧ w = w' := by
  subst e; exact made_good k w hh
theorem supply_goodI (h : Int) (k : Nat) (w : World) (e : h = (k : Nat)) (hh : k ≤ 1073741824) :
    Calls Try.prog 8 #[.int .i64 h] w fun e w' => e = .returned (.tuple #[.int .i64 (Mo.T (k + 1) : Nat), errV 0]) ∧ w = w' := by
  subst e; exact supply_good k w hh

theorem moneyMade_bad (h : Int) (w : World) (hh : ¬ (0 ≤ h ∧ h ≤ 1073741824)) :
    Calls Try.prog 4 #[.int .i64 h] w fun e w' => e = .returned (.bool true) ∧ w = w' := by
  go_enter Try.func4, Try.ntmps4
  go_wp2_with fail
  refine (made_goodI 0 0 _ rfl (by decide)).mono ?_
  rintro e w1 ⟨rfl, rfl⟩
  rw [show Mo.made (0 / 1000) = 1073741824 from rfl, errV_nil]
  go_wp2_with fail
  refine (made_bad h _ hh).mono ?_
  rintro e w1 ⟨rfl, rfl⟩
  rw [errV_two]
  go_wp2_with fail
  refine (supply_bad h _ hh).mono ?_
  rintro e w1 ⟨rfl, rfl⟩
  rw [errV_two]
  by_cases h1 : h < 0
  · go_wp2
    go_ret
    exact ⟨rfl, rfl⟩
  · have h2 : 1073741824 < h := by omega
    go_wp2
    go_ret
    exact ⟨rfl, rfl⟩

theorem moneyMade_zero (w : World) :
    Calls Try.prog 4 #[.int .i64 0] w fun e w' => e = .returned (.bool true) ∧ w = w' := by
  go_enter Try.func4, Try.ntmps4
  go_wp2_with fail
  refine (made_goodI 0 0 _ rfl (by decide)).mono ?_
  rintro e w1 ⟨rfl, rfl⟩
  rw [show Mo.made (0 / 1000) = 1073741824 from rfl, errV_nil]
  go_wp2_with fail
  refine (made_goodI 0 0 _ rfl (by decide)).mono ?_
  rintro e w1 ⟨rfl, rfl⟩
  rw [show Mo.made (0 / 1000) = 1073741824 from rfl, errV_nil]
  go_wp2_with fail
  refine (supply_goodI 0 0 _ rfl (by decide)).mono ?_
  rintro e w1 ⟨rfl, rfl⟩
  rw [show Mo.T (0 + 1) = 1073741824 from rfl, errV_nil]
  go_wp2
  go_ret
  exact ⟨rfl, rfl⟩

set_option maxRecDepth 20000 in
set_option maxHeartbeats 800000 in
theorem moneyMade_more (H : Int) (k : Nat) (w : World) (hH : H = (k : Int) + 1) (hk : k + 1 ≤ 1073741824) :
    Calls Try.prog 4 #[.int .i64 H] w fun e w' => e = .returned (.bool true) ∧ w = w' := by
  have hT : Mo.T (k + 1 + 1) = Mo.T (k + 1) + Mo.made ((k + 1) / 1000) := rfl
  have hlt := Mo.T_lt (k + 1 + 1)
  have hle : Mo.made ((k + 1) / 1000) ≤ Mo.made (k / 1000) := by
    by_cases e : (k + 1) / 1000 = k / 1000
    · rw [e]; exact Nat.le_refl _
    · have : (k + 1) / 1000 = k / 1000 + 1 := by omega
      rw [this]; exact Mo.made_le _
  have hbd := Mo.made_bd (k / 1000)
  have hfst : k + 1 < 1000 → Mo.made ((k + 1) / 1000) = 1073741824 := by
    intro h; rw [show (k + 1) / 1000 = 0 from by omega]; rfl
  have hnext : 1000 ≤ k + 1 → Mo.made ((k + 1) / 1000) = Mo.made ((k + 1 - 1000) / 1000) / 2 := by
    intro h; rw [show (k + 1) / 1000 = (k + 1 - 1000) / 1000 + 1 from by omega, Mo.made_succ]
  have hb3 := Mo.made_bd ((k + 1 - 1000) / 1000)
  have c0 := made_goodI 0 0 w rfl (by decide)
  have c1 := made_goodI H (k + 1) w (by omega) hk
  have c2 := supply_goodI H (k + 1) w (by omega) hk
  have c3 := made_goodI (H - 1) k w (by omega) (by omega)
  have c4 := supply_goodI (H - 1) k w (by omega) (by omega)
  have c5 := fun (h : 1000 ≤ k + 1) => made_goodI (H - 1000) (k + 1 - 1000) w (by omega) (by omega)
  rw [show Mo.made (0 / 1000) = 1073741824 from rfl] at c0
  rw [hT] at c2 hlt
  clear hT
  generalize Mo.made ((k + 1) / 1000) = m at *
  generalize Mo.made (k / 1000) = n at *
  generalize Mo.made ((k + 1 - 1000) / 1000) = q at *
  generalize Mo.T (k + 1) = t at *
  rw [errV_nil] at c0 c1 c2 c3 c4 c5
  have i0 : (0 : Int) ≤ m := by omega
  have i1 : (0 : Int) ≤ t := by omega
  have i2 : ((t + m : Nat) : Int) = (t : Int) + m := by omega
  have i3 : (t : Int) + m < 2147483648000 := by omega
  have i4 : (m : Int) ≤ n := by omega
  have i5 : k + 1 < 1000 → (m : Int) = 1073741824 := by intro h; rw [hfst h]; rfl
  have i6 : 1000 ≤ k + 1 → (m : Int) = (q : Int) / 2 := by intro h; rw [hnext h]; omega
  have i7 : (0 : Int) ≤ q := by omega
  have i8 : (q : Int) ≤ 1073741824 := by omega
  have i9 : H ≤ 1073741824 := by omega
  have i10 : 1 ≤ H := by omega
  have j10 : (H == 0) = false := by simp; omega
  have i11 : ¬ 1000 ≤ k + 1 → H < 1000 := by omega
  have i12 : 1000 ≤ k + 1 → (1000 : Int) ≤ H := by omega
  generalize hS : ((t + m : Nat) : Int) = S at *
  generalize (m : Int) = M at *
  generalize (n : Int) = N at *
  generalize (q : Int) = Q at *
  generalize (t : Int) = X at *
  have j1 : (S != X + M) = false := by simp; omega
  have j2 : S < 2147483648000 := by omega
  have j3 : M ≤ S := by omega
  have j4 : 0 ≤ S := by omega
  clear hS i2 hlt hle hbd hfst hnext hb3
  have D0 := hide c0
  have D1 := hide c1
  have D2 := hide c2
  have D3 := hide c3
  have D4 := hide c4
  have D5 := hide c5
  clear c0 c1 c2 c3 c4 c5
  by_cases h1 : 1000 ≤ k + 1
  · have j5 : (M == Q / 2) = true := by simpa using i6 h1
    have i13 := i12 h1
    have H1 := hide h1
    clear i5 i6 i11 i12 hk h1 hH
    go_enter Try.func4, Try.ntmps4
    go_wp2_with fail
    refine D0.out.mono ?_
    rintro e w1 ⟨rfl, rfl⟩
    go_wp2_with fail
    refine D1.out.mono ?_
    rintro e w1 ⟨rfl, rfl⟩
    go_wp2_with fail
    refine D2.out.mono ?_
    rintro e w1 ⟨rfl, rfl⟩
    go_wp2_with fail
    refine D3.out.mono ?_
    rintro e w1 ⟨rfl, rfl⟩
    go_wp2_with fail
    refine D4.out.mono ?_
    rintro e w1 ⟨rfl, rfl⟩
    go_wp2_with fail
    refine (D5.out H1.out).mono ?_
    rintro e w1 ⟨rfl, rfl⟩
    go_wp2
    go_ret
    exact ⟨rfl, rfl⟩
  · have j5 : (M == 1073741824) = true := by simpa using i5 (by omega)
    have i13 := i11 h1
    clear i5 i6 i11 i12 D5 hk h1 hH
    go_enter Try.func4, Try.ntmps4
    go_wp2_with fail
    refine D0.out.mono ?_
    rintro e w1 ⟨rfl, rfl⟩
    go_wp2_with fail
    refine D1.out.mono ?_
    rintro e w1 ⟨rfl, rfl⟩
    go_wp2_with fail
    refine D2.out.mono ?_
    rintro e w1 ⟨rfl, rfl⟩
    go_wp2_with fail
    refine D3.out.mono ?_
    rintro e w1 ⟨rfl, rfl⟩
    go_wp2_with fail
    refine D4.out.mono ?_
    rintro e w1 ⟨rfl, rfl⟩
    go_wp2
    go_ret
    exact ⟨rfl, rfl⟩

theorem moneyMade_any (h : Int) (w : World) :
    Calls Try.prog 4 #[.int .i64 h] w fun e w' => e = .returned (.bool true) ∧ w = w' := by
  by_cases hh : 0 ≤ h ∧ h ≤ 1073741824
  · obtain ⟨n, rfl⟩ := Int.eq_ofNat_of_zero_le hh.1
    cases n with
    | zero => exact moneyMade_zero w
    | succ k => exact moneyMade_more _ k w (by omega) (by omega)
  · exact moneyMade_bad h w hh

theorem moneyMade_walk (h : Int) (w : World) :
    Calls Try.prog 4 #[.int .i64 h] w fun e w' => e = .returned (.bool true) ∧ Below w.heap.size w w' :=
  (moneyMade_any h w).mono fun e w' ⟨he, hw⟩ => ⟨he, by subst hw; exact Below.refl _ _⟩
end Go.Proofs.Ytlcajpfalggheaa
