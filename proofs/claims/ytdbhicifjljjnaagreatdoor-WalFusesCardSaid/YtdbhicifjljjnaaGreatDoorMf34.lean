/-
  Part 34 of the texts behind the law: WalLaid.
-/
import Derived.Test.YtdbhicifjljjnaaGreatDoorCards
import Derived.Test.YtdbhicifjljjnaaGreatDoorMf20
import Derived.Stop.LaidErr
import Derived.MakeChecks
import Derived.ProofKit
/-
  What the rows' lists tell of the library's variables.
-/
namespace Go.Proofs.YtdbhicifjljjnaaGreatDoor
open Go.RowKit Go.ChangeShapes Go.WideShapes Go.ChangeAt
theorem ty_bit : (Tryz.prog.globals[5]?).map (·.type) = some 207 := by kernel_rfl
theorem ty_syn : (Tryz.prog.globals[1]?).map (·.type) = some 123 := by kernel_rfl
theorem ty_rng : (Tryz.prog.globals[2]?).map (·.type) = some 123 := by kernel_rfl
theorem cells_u8 : Tryz.prog.cellsOf 5 = 1 := by kernel_rfl
theorem cells_bit : Tryz.prog.cellsOf 207 = 64 := by kernel_rfl
theorem cells_es : Tryz.prog.cellsOf 205 = 1 := by kernel_rfl
theorem cells_str : Tryz.prog.cellsOf 9 = 1 := by kernel_rfl
theorem star : "*" ++ "errors.errorString" = "*errors.errorString" := by decide
theorem row_es (u : TypeId) (h : Tryz.prog.typeName? 3 u = some "*errors.errorString") : u = 203 :=
  typeName_ptr_named (nm := "errors.errorString") (by rw [star]; kernel_rfl) (by kernel_rfl) (by decide) u (by rw [star]; exact h)
theorem Facts.of_laid {W : World} (h : laidMetH Tryz.prog Rows.walSinceRow.laid W) : Facts W := by
  rw [MakeChecks.laidMetH_plain _ _ _ (by kernel_rfl)] at h
  have h2 := h.tail
  have h4 := h2.tail.tail
  have h5 := h4.tail
  obtain ⟨a1, s1, hv1, _, _, _⟩ := laid_sentinel h4 g_rng ty_rng Tryz.underlying123 row_es Tryz.underlying203 Tryz.underlying205 rfl rfl Tryz.underlying9 cells_es cells_str
  obtain ⟨a2, s2, hv2, _, _, _⟩ := laid_sentinel h5 g_syn ty_syn Tryz.underlying123 row_es Tryz.underlying203 Tryz.underlying205 rfl rfl Tryz.underlying9 cells_es cells_str
  exact ⟨Lib.tabIs_of_head g_bit ty_bit Tryz.underlying207 Tryz.underlying5 cells_u8 cells_bit h2, ⟨_, hv2⟩, ⟨_, hv1⟩⟩
end Go.Proofs.YtdbhicifjljjnaaGreatDoor
