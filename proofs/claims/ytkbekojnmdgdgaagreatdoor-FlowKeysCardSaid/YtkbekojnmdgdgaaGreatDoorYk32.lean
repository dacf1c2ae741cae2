/-
  Part 32 of the texts behind the law: YFlEndC.
-/
import Derived.Test.YtkbekojnmdgdgaaGreatDoorYk30
import Derived.Test.YtkbekojnmdgdgaaGreatDoorYk1
import Derived.Test.YtkbekojnmdgdgaaGreatDoorYk31
/- FlEndC -/
namespace Go.Proofs.YtkbekojnmdgdgaaGreatDoor
open Go.RowKit
theorem keys_end (n : Int) (A : Option Addr) (bs : List Bool) (cap : Nat) (w : World) (_n0 : -9223372036854775808 ≤ n) (_n1 : n ≤ 9223372036854775807) (_m : bs.length ≤ 9223372036854775807) (_l : bs.length ≤ cap) (h : Bls w w.heap.size A bs) (hF : Facts w) :
    Calls Tryz.prog 8 #[.int .i64 n, .slice A bs.length cap] w fun e w' => e = .returned (.bool true) ∧ Below w.heap.size w w' := (keys_walk n A cap bs w hF h).mono fun _ _ h => h.plain
end Go.Proofs.YtkbekojnmdgdgaaGreatDoor
