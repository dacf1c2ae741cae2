/-
  Part 9 of the texts behind the law: DfFacts.
-/
import Derived.Test.YtkfopjhgkbbkiaaDoorDf2
import Derived.Lib.LaidTab
import Derived.Lib.ItoaNum
import Derived.WalkSmall
/-
  What the walks of package def ask of the library's variables: the powers of ten.
-/
namespace Go.Proofs.YtkfopjhgkbbkiaaDoor
open Go.RowKit
def FactsD (w : World) : Prop := Lib.TabIs Tryd.prog w "internal/strconv.uint64pow10" .u64 Lib.pow10Tab
theorem gd_tab : Tryd.prog.globalNamed "internal/strconv.uint64pow10" = some 3 := by kernel_rfl
theorem ltd_of_var {P : Program} {w : World} {name : String} {g : Nat} {cs : Array Value} (hg : P.globalNamed name = some g) (h : w.var? P name = some cs) : g < w.heap.size := by
  unfold World.var? at h
  rw [hg, Option.bind_some] at h
  by_cases hlt : g < w.heap.size
  · exact hlt
  · rw [Array.getElem?_eq_none (by omega)] at h; cases h
theorem FactsD.on {w w' : World} (h : FactsD w) (hb : Below w.heap.size w w') : FactsD w' := var?_below hb gd_tab (ltd_of_var gd_tab h) h
end Go.Proofs.YtkfopjhgkbbkiaaDoor
