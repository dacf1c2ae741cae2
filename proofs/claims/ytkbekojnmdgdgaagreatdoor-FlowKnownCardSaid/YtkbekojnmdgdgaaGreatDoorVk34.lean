/-
  Part 34 of the texts behind the law: VFlEndK.
-/
import Derived.Test.YtkbekojnmdgdgaaGreatDoorVk32
import Derived.Test.YtkbekojnmdgdgaaGreatDoorVk33
/- FlEndK -/
namespace Go.Proofs.YtkbekojnmdgdgaaGreatDoor
open Go.RowKit
theorem known_end (w : World) (hF : Facts w) : Calls Tryz.prog 3 #[] w fun e w' => e = .returned (.bool true) ∧ Below w.heap.size w w' := (known_walk w hF).mono fun _ _ h => h.plain
end Go.Proofs.YtkbekojnmdgdgaaGreatDoor
