/-
  What the laws ask of the program's wheel: the predicate PW and a contract for each call.
-/
import Derived.Test.YtaieoneilljagaaWhRefSet
import Derived.Test.YtaieoneilljagaaWhRefTo
import Derived.Test.YtaieoneilljagaaWhTo
namespace Go.Proofs.Ytaieoneilljagaa
open Go.RowKit
theorem wheelTo_any (g : Nat) (O : Nat → Prop) (s : Wh.S) (now : Int) (w : World) (h : PW w g O s) (hI : Wh.Inv s) (h1 : is64 now) (hn : s.l.length ≤ 999999) :
    Calls Try.prog 12 #[.pointer (some ⟨g, 0, none⟩), .int .i64 now] w fun e w' => ∃ A c, e = .returned (.tuple #[.slice A (Wh.toL s now).length c, .int .i64 (Wh.toE s now)]) ∧ ∃ O2, PW w' g O2 (Wh.toS s now) ∧ Step O O2 w w' ∧ Dues w' (fun b => w.heap.size ≤ b ∧ ¬ O2 b) A (Wh.toL s now) := wheelTo_post g O s now w h hI h1 hn
end Go.Proofs.Ytaieoneilljagaa
