/-
  The laws' walks in the form that the frames take.
-/
import Derived.Test.YtgjkpbibcaodjaaBkKnown
import Derived.Test.YtgjkpbibcaodjaaBkLaws
import Derived.Test.YtgjkpbibcaodjaaBkLaws2
import Derived.Test.YtgjkpbibcaodjaaBkSums
namespace Go.Proofs.Ytgjkpbibcaodjaa
open Go.RowKit
theorem BoolP.plain {w w' : World} {b : Bool} {e : Ending} (h : BoolP w b e w') : e = .returned (.bool b) ∧ Below w.heap.size w w' := ⟨h.1, h.2.out⟩
theorem known_end (w : World) : Calls Try.prog 3 #[] w fun e w' => e = .returned (.bool true) ∧ Below w.heap.size w w' := (known_walk w).mono fun _ _ h => h.plain
theorem says_end (b t q : Int) (b0 : -9223372036854775808 ≤ b) (b1 : b ≤ 9223372036854775807) (t0 : -9223372036854775808 ≤ t) (t1 : t ≤ 9223372036854775807) (q0 : -9223372036854775808 ≤ q) (q1 : q ≤ 9223372036854775807) (w : World) : Calls Try.prog 4 #[.int .i64 b, .int .i64 t, .int .i64 q] w fun e w' => e = .returned (.bool true) ∧ Below w.heap.size w w' :=
  (says_walk b t q ⟨b0, b1⟩ ⟨t0, t1⟩ ⟨q0, q1⟩ w).mono fun _ _ h => h.plain
theorem tries_end (b t q : Int) (b0 : -9223372036854775808 ≤ b) (b1 : b ≤ 9223372036854775807) (t0 : -9223372036854775808 ≤ t) (t1 : t ≤ 9223372036854775807) (q0 : -9223372036854775808 ≤ q) (q1 : q ≤ 9223372036854775807) (w : World) : Calls Try.prog 5 #[.int .i64 b, .int .i64 t, .int .i64 q] w fun e w' => e = .returned (.bool true) ∧ Below w.heap.size w w' :=
  (tries_walk b t q ⟨b0, b1⟩ ⟨t0, t1⟩ ⟨q0, q1⟩ w).mono fun _ _ h => h.plain
theorem sums_end (b n : Int) (b0 : -9223372036854775808 ≤ b) (b1 : b ≤ 9223372036854775807) (n0 : -9223372036854775808 ≤ n) (n1 : n ≤ 9223372036854775807) (w : World) : Calls Try.prog 6 #[.int .i64 b, .int .i64 n] w fun e w' => e = .returned (.bool true) ∧ Below w.heap.size w w' :=
  (sums_walk b n ⟨b0, b1⟩ ⟨n0, n1⟩ w).mono fun _ _ h => h.plain
theorem more_end (a b t q : Int) (a0 : -9223372036854775808 ≤ a) (a1 : a ≤ 9223372036854775807) (b0 : -9223372036854775808 ≤ b) (b1 : b ≤ 9223372036854775807) (t0 : -9223372036854775808 ≤ t) (t1 : t ≤ 9223372036854775807) (q0 : -9223372036854775808 ≤ q) (q1 : q ≤ 9223372036854775807) (w : World) : Calls Try.prog 7 #[.int .i64 a, .int .i64 b, .int .i64 t, .int .i64 q] w fun e w' => e = .returned (.bool true) ∧ Below w.heap.size w w' :=
  (more_walk a b t q ⟨a0, a1⟩ ⟨b0, b1⟩ ⟨t0, t1⟩ ⟨q0, q1⟩ w).mono fun _ _ h => h.plain
end Go.Proofs.Ytgjkpbibcaodjaa
