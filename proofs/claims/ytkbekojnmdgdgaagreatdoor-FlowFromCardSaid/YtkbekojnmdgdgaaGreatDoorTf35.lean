/-
  Part 35 of the texts behind the law: TFlEndF.
-/
import Derived.Test.YtkbekojnmdgdgaaGreatDoorTf33
import Derived.Test.YtkbekojnmdgdgaaGreatDoorTf34
/- FlEndF -/
namespace Go.Proofs.YtkbekojnmdgdgaaGreatDoor
open Go.RowKit
theorem from_end (p : At5) (t : Fw.St) (w : World) (h : StIn w p t) (hF : Facts w) :
  Calls Tryz.prog 5 #[sv p t] w fun e w' => e = .returned (.bool true) ∧ Below w.heap.size w w' := (from_walk t p w hF h.mem fun r hr => (h.big r hr).da).mono fun _ _ h => h.plain
end Go.Proofs.YtkbekojnmdgdgaaGreatDoor
