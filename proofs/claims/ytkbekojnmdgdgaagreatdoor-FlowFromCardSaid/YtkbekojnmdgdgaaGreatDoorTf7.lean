/-
  Part 7 of the texts behind the law: TEvBox.
-/
import Derived.Test.YtkbekojnmdgdgaaGreatDoorTf1
import Derived.Deep.QuietTactic
import Derived.BigQuiet
import Derived.Deep.Cut
/- EvBox -/
namespace Go.Proofs.YtkbekojnmdgdgaaGreatDoor
open Go.RowKit
def evc (e : Ev.E) : Array Value := #[.int .i64 e.kind, .int .i64 e.run, .int .i64 e.task, .int .i64 e.try_, .int .i64 e.n, .string e.name, .string e.key, .string e.data]
structure EvIn (e : Ev.E) : Prop where
 kind : is64 e.kind
 run : is64 e.run
 task : is64 e.task
 try_ : is64 e.try_
 n : is64 e.n
 name : e.name.size ≤ 9223372036854775807
 key : e.key.size ≤ 9223372036854775807
 data : e.data.size ≤ 9223372036854775807
end Go.Proofs.YtkbekojnmdgdgaaGreatDoor
