/-
  What the rows' lists tell of the library's variables.
-/
import Derived.Test.YtlaomaefhanacaaDoorCards
import Derived.Test.YtlaomaefhanacaaDoorSegFacts
import Derived.Stop.LaidErr
import Derived.MakeChecks
import Derived.ProofKit
namespace Go.Proofs.YtlaomaefhanacaaDoor
open Go.RowKit Go.ChangeShapes Go.WideShapes Go.ChangeAt
theorem ty_bit : (Tryd.prog.globals[5]?).map (·.type) = some 157 := by kernel_rfl
theorem ty_syn : (Tryd.prog.globals[0]?).map (·.type) = some 60 := by kernel_rfl
theorem ty_rng : (Tryd.prog.globals[1]?).map (·.type) = some 60 := by kernel_rfl
theorem cells_u8 : Tryd.prog.cellsOf 5 = 1 := by kernel_rfl
theorem cells_bit : Tryd.prog.cellsOf 157 = 64 := by kernel_rfl
theorem cells_es : Tryd.prog.cellsOf 152 = 1 := by kernel_rfl
theorem cells_str : Tryd.prog.cellsOf 9 = 1 := by kernel_rfl
theorem star : "*" ++ "errors.errorString" = "*errors.errorString" := by decide
theorem row_es (u : TypeId) (h : Tryd.prog.typeName? 3 u = some "*errors.errorString") : u = 150 :=
  typeName_ptr_named (nm := "errors.errorString") (by rw [star]; kernel_rfl) (by kernel_rfl) (by decide) u (by rw [star]; exact h)
theorem Facts.of_laid {W : World} (h : laidMetH Tryd.prog Rows.segKnownRow.laid W) : Facts W := by
  rw [MakeChecks.laidMetH_plain _ _ _ (by kernel_rfl)] at h
  have h2 := h.tail
  have h4 := h2.tail.tail
  have h5 := h4.tail
  obtain ⟨a1, s1, hv1, _, _, _⟩ := laid_sentinel h4 g_rng ty_rng Tryd.underlying60 row_es Tryd.underlying150 Tryd.underlying152 rfl rfl Tryd.underlying9 cells_es cells_str
  obtain ⟨a2, s2, hv2, _, _, _⟩ := laid_sentinel h5 g_syn ty_syn Tryd.underlying60 row_es Tryd.underlying150 Tryd.underlying152 rfl rfl Tryd.underlying9 cells_es cells_str
  exact ⟨Lib.tabIs_of_head g_bit ty_bit Tryd.underlying157 Tryd.underlying5 cells_u8 cells_bit h2, ⟨_, hv2⟩, ⟨_, hv1⟩⟩
end Go.Proofs.YtlaomaefhanacaaDoor
