/-
  A cell of an earlier world stands in every later one.
-/
import Derived.Test.YtiapacbbfgihdaaGrAcross
import Derived.Deep.RegionHeld
namespace Go.Proofs.Ytiapacbbfgihdaa
open Go.RowKit
theorem keep_cell {W W' : World} (h : Below W.heap.size W W') {p : Addr} {v : Value} (hc : W.cell? p = some v) : W'.cell? p = some v :=
  (h.cell (World.block_lt_of_cell? W p hc)).trans hc
end Go.Proofs.Ytiapacbbfgihdaa
