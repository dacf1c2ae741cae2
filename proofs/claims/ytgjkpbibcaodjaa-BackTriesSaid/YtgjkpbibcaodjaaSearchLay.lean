/-
  The library's generic functions at this translation: the layings that its contracts are applied to.
-/
import Derived.Shelf.SlSorted.Search
import Derived.Ground.SlsoProg
import Derived.Test.YtgjkpbibcaodjaaProg
namespace Go.Proofs
open Go.RowKit Go.Sort Go.Shelf
def Try.search_ren : Go.Shelf.Ren := ⟨fun | 16 => 15 | n => n, fun | 3 => 3 | 35 => 29 | 4 => 4 | 38 => 30 | n => n, fun | n => n⟩
theorem Try.search : Go.Proofs.SlLaysO.n16 Try.prog Try.search_ren := {
  mixed := by kernel_rfl
  f16 := Try.func15.trans (congrArg some (by kernel_rfl))
  t3 := Try.underlying3
  a3 := Try.isAgg3
  z3 := Try.sizeOf3
  v3 := Try.zeroValue3
  t4 := Try.underlying4
  a4 := Try.isAgg4
  z4 := Try.sizeOf4
  v4 := Try.zeroValue4
  t35 := Try.underlying29
  a35 := Try.isAgg29
  z35 := Try.sizeOf29
  v35 := Try.zeroValue29
  t38 := Try.underlying30
  a38 := Try.isAgg30
  z38 := Try.sizeOf30
  v38 := Try.zeroValue30 }

end Go.Proofs
