/-
  Part 26 of the texts behind the law: RnLaid.
-/
import Derived.Test.YtpaolgjgonghlaaDoorCards
import Derived.Test.YtpaolgjgonghlaaDoorRn12
import Derived.MakeChecks
import Derived.ProofKit
import Derived.Stop.LaidErr
import Derived.LaidMore
/-
  What the rows' lists tell of the powers of ten (if the program reads them at all).
-/
namespace Go.Proofs.YtpaolgjgonghlaaDoor
open Go.RowKit Go.ChangeShapes Go.WideShapes Go.ChangeAt
abbrev Facts (w : World) : Prop := FactsD w
theorem Facts.of_laid {W : World} (_h : laidMetH Tryd.prog Rows.runKnownRow.laid W) : Facts W := trivial
end Go.Proofs.YtpaolgjgonghlaaDoor
