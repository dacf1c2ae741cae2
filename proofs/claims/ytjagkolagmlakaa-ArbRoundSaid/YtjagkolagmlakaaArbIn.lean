/-
  A state of the register that came in, as the walks take it.
-/
import Derived.Test.YtjagkolagmlakaaFieldsIn
namespace Go.Proofs.Ytjagkolagmlakaa
open Go.ChangeShapes Go.WideShapes Go.ChangeAt Go.RowKit Go.Deep
theorem state_in {H : Type} {enc : TypeId × Value → H} {w : World} {base b0 : Nat} {spare : Nat → Bool} {held : Bool} {r : Reach} {v : Value} {d : DataW H} {p : List MemPlace}
    (hv : Value.okWide Try.prog w r b0 26 v) (h : DataW.Trod enc Try.prog w base spare held 26 v d p) :
    ∃ (a b : Int) (c : Bool) (e : Int), v = .agg #[.int .i64 a, .int .i64 b, .bool c, .int .i64 e] := by
  obtain ⟨va, vb, vc, vd, ya, yb, yc, yd, n, rfl, -, -, ta, tb, tc, td⟩ := Joins.open_agg4 Try.underlying26 (by kernel_rfl) (by kernel_rfl) hv h
  obtain ⟨a, rfl, _, _⟩ := i64_of Try.underlying2 ta
  obtain ⟨b, rfl, _, _⟩ := i64_of Try.underlying3 tb
  obtain ⟨c, rfl⟩ := bool_of Try.underlying4 tc
  obtain ⟨e, rfl, _, _⟩ := i64_of Try.underlying2 td
  exact ⟨a, b, c, e, rfl⟩
end Go.Proofs.Ytjagkolagmlakaa
