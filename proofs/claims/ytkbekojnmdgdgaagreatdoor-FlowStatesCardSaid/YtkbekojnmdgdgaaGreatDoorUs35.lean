/-
  Part 35 of the texts behind the law: UFlEndS.
-/
import Derived.Test.YtkbekojnmdgdgaaGreatDoorUs33
import Derived.Test.YtkbekojnmdgdgaaGreatDoorUs34
import Derived.Test.YtkbekojnmdgdgaaGreatDoorUs7
/- FlEndS -/
namespace Go.Proofs.YtkbekojnmdgdgaaGreatDoor
open Go.RowKit
theorem states_end (A : Option Addr) (la : List Ev.E) (ca : Nat) (B : Option Addr) (lb : List Ev.E) (cb : Nat) (w : World) (_m : la.length ≤ 9223372036854775807) (la1 : la.length ≤ ca) (h : EvsR w w.heap.size A la) (_m2 : lb.length ≤ 9223372036854775807) (_l2 : lb.length ≤ cb) (h2 : EvsR w w.heap.size B lb) (hF : Facts w) :
  Calls Tryz.prog 4 #[.slice A la.length ca, .slice B lb.length cb] w fun e w' => e = .returned (.bool true) ∧ Below w.heap.size w w' := (states_walk A ca la B cb lb w hF h la1 h2).mono fun _ _ h => h.plain
end Go.Proofs.YtkbekojnmdgdgaaGreatDoor
