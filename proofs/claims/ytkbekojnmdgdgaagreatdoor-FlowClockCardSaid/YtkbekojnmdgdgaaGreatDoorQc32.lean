/-
  Part 32 of the texts behind the law: QFlEndC.
-/
import Derived.Test.YtkbekojnmdgdgaaGreatDoorQc30
import Derived.Test.YtkbekojnmdgdgaaGreatDoorQc31
import Derived.Test.YtkbekojnmdgdgaaGreatDoorQc1
import Derived.ProofKit
import Derived.OpenShut
import Derived.Deep.Slices
import Derived.ChangeSame
import Derived.Lib.SmallJoins
/- FlEndC -/
namespace Go.Proofs.YtkbekojnmdgdgaaGreatDoor
open Go.RowKit
theorem clock_end (A : Option Addr) (zs : List Int) (cap : Nat) (w : World) (_m : zs.length ≤ 9223372036854775807) (_l : zs.length ≤ cap) (h : Nums w w.heap.size A zs) (hF : Facts w) :
    Calls Tryz.prog 7 #[.slice A zs.length cap] w fun e w' => e = .returned (.bool true) ∧ Below w.heap.size w w' := (clock_walk A cap zs w hF h).mono fun _ _ h => h.plain
end Go.Proofs.YtkbekojnmdgdgaaGreatDoor
