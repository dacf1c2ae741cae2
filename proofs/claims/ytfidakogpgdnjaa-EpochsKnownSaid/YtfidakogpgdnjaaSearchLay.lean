/-
  The library's generic functions at this translation: the layings that its contracts are applied to.
-/
import Derived.Shelf.SlSorted.Search
import Derived.Ground.SlsoProg
import Derived.Test.YtfidakogpgdnjaaProg
namespace Go.Proofs
open Go.RowKit Go.Sort Go.Shelf
def Try.search_ren : Go.Shelf.Ren := ⟨fun | 16 => 26 | n => n, fun | 3 => 3 | 35 => 55 | 4 => 4 | 38 => 52 | n => n, fun | n => n⟩
theorem Try.search : Go.Proofs.SlLaysO.n16 Try.prog Try.search_ren := {
  mixed := by kernel_rfl
  f16 := Try.func26.trans (congrArg some (by kernel_rfl))
  t3 := Try.underlying3
  a3 := Try.isAgg3
  z3 := Try.sizeOf3
  v3 := Try.zeroValue3
  t4 := Try.underlying4
  a4 := Try.isAgg4
  z4 := Try.sizeOf4
  v4 := Try.zeroValue4
  t35 := Try.underlying55
  a35 := Try.isAgg55
  z35 := Try.sizeOf55
  v35 := Try.zeroValue55
  t38 := Try.underlying52
  a38 := Try.isAgg52
  z38 := Try.sizeOf52
  v38 := Try.zeroValue52 }

end Go.Proofs
