/-
  Part 12 of the texts behind the law: DfFacts.
-/
import Derived.Test.YtpaolgjgonghlaaDoorRn1
import Derived.Lib.LaidTab
import Derived.Lib.ItoaNum
import Derived.WalkSmall
/-
  What the walks of package def ask of the library's variables: the powers of ten.
-/
namespace Go.Proofs.YtpaolgjgonghlaaDoor
open Go.RowKit
def FactsD (_ : World) : Prop := True
theorem FactsD.on {w w' : World} (_ : FactsD w) (_ : Below w.heap.size w w') : FactsD w' := trivial
end Go.Proofs.YtpaolgjgonghlaaDoor
