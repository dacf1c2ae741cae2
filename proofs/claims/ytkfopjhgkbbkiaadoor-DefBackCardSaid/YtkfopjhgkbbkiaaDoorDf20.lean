/-
  Part 20 of the texts behind the law: DfLaid.
-/
import Derived.Test.YtkfopjhgkbbkiaaDoorCards
import Derived.Test.YtkfopjhgkbbkiaaDoorDf9
import Derived.MakeChecks
import Derived.ProofKit
import Derived.Stop.LaidErr
import Derived.LaidMore
/-
  What the rows' lists tell of the powers of ten.
-/
namespace Go.Proofs.YtkfopjhgkbbkiaaDoor
open Go.RowKit Go.ChangeShapes Go.WideShapes Go.ChangeAt
theorem ty_pow : (Tryd.prog.globals[3]?).map (·.type) = some 137 := by kernel_rfl
theorem cells_u64 : Tryd.prog.cellsOf 126 = 1 := by kernel_rfl
theorem cells_pow : Tryd.prog.cellsOf 137 = 20 := by kernel_rfl
abbrev Facts (w : World) : Prop := FactsD w
theorem Facts.of_laid {W : World} (h : laidMetH Tryd.prog Rows.defKnownRow.laid W) : Facts W := by
  rw [MakeChecks.laidMetH_plain _ _ _ (by kernel_rfl)] at h
  have h3 := h.tail.tail
  exact Lib.tabIs_of_head gd_tab ty_pow Tryd.underlying137 Tryd.underlying126 cells_u64 cells_pow h3
end Go.Proofs.YtkfopjhgkbbkiaaDoor
