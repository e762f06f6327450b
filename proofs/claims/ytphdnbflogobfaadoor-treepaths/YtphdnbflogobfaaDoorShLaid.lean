/- What the row's list gives a walk: the table of the rounds' words is as the program's text lays it. -/
import Derived.Test.YtphdnbflogobfaaDoorZSh
import Derived.Lib.LaidU8
namespace Go.Proofs.YtphdnbflogobfaaDoor
open Go.RowKit
set_option linter.unusedVariables false

theorem tab_named : Tryd.prog.globalNamed "moneyer/sha.rounds" = some 1 := by kernel_rfl
theorem tab_typed : (Tryd.prog.globals[1]?).map (·.type) = some 96 := by kernel_rfl
theorem tab_cells1 : Tryd.prog.cellsOf 71 = 1 := by kernel_rfl
theorem tab_cells : Tryd.prog.cellsOf 96 = 64 := by kernel_rfl
theorem tab_data : (Rows.laid_moneyer_sha_rounds : DataW Unit) = Lib.tabData .u32 (Sh.ks.map fun x : Nat => (x : Int)) := rfl

theorem tab_of_reads {w : World} (h : Lib.VarReads Tryd.prog w "moneyer/sha.rounds" Rows.laid_moneyer_sha_rounds) : Tab w := by
  obtain ⟨g, t, cs, fuel, p, hg, hty, hvar, hd⟩ := h
  obtain rfl := Option.some.inj (tab_named.symm.trans hg)
  obtain rfl := Option.some.inj (tab_typed.symm.trans hty)
  rw [tab_data] at hd
  have hcs := Lib.cells_of_tab Tryd.underlying96 Tryd.underlying71 tab_cells1 tab_cells hd
  intro i hi
  have hi' : i < Sh.ks.length := by rw [Sh.ks_len]; exact hi
  rw [World.var?_cell hg hvar i, ← Array.getElem?_toList, hcs]
  simp only [List.getElem?_map, List.getElem?_eq_getElem hi', Option.map_some, List.getD, Option.getD_some]
theorem tab_of_laid {w : World} (h : laidMet Tryd.prog [("moneyer/sha.rounds", Rows.laid_moneyer_sha_rounds)] w) : Tab w := tab_of_reads (Lib.laidMet.reads h (.head _))
end Go.Proofs.YtphdnbflogobfaaDoor
