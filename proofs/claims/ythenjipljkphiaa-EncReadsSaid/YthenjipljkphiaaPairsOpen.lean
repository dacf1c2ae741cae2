/-
  Slices of structs of two whole numbers that came in, as the walks take them.
-/
import Derived.Test.YthenjipljkphiaaStepsKit
import Derived.ProofKit
import Derived.OpenShut
import Derived.Deep.SlicePairs
namespace Go.Proofs.Ythenjipljkphiaa
open Go.ChangeShapes Go.WideShapes Go.ChangeAt Go.RowKit Go.Deep
theorem i64_wf {n : Int} (h : (Lit.int .i64 n).wf = true) : inI64 n := by
  simpa [inI64, Lit.wf, IntKind.min, IntKind.max, IntKind.bits, IntKind.signed] using h
theorem pairs_of {W : World} {x : Addr} {len m : Nat} {V0 V1 : Nat → Value} (hl : len ≤ m)
    (hc : ∀ i, i < m → W.cell? (x.add (i * 2)) = some (V0 i) ∧ W.cell? (x.add (i * 2 + 1)) = some (V1 i) ∧ (∃ n, V0 i = .int .i64 n ∧ inI64 n) ∧ ∃ n, V1 i = .int .i64 n ∧ inI64 n) :
    Pairs W W.heap.size (some x) ((List.range len).map fun i => (intOf (V0 i), intOf (V1 i))) := by
  have hlen : ((List.range len).map fun i => (intOf (V0 i), intOf (V1 i))).length = len := by simp
  have hg : ∀ i, i < len → ((List.range len).map fun i => (intOf (V0 i), intOf (V1 i))).getD i (0, 0) = (intOf (V0 i), intOf (V1 i)) := fun i hi => by
    rw [List.getD_eq_getElem?_getD]; simp [hi]
  refine ⟨fun i hi => ?_, fun hn => ?_⟩
  · rw [hlen] at hi
    rw [hg i hi]
    obtain ⟨_, _, ⟨a, ea, ha⟩, b, eb, hb⟩ := hc i (by omega)
    rw [ea, eb]
    exact ⟨ha, hb⟩
  · rw [hlen] at hn
    obtain ⟨b, off, spot⟩ := x
    have h0 := (hc 0 (by omega)).1
    have hspot : spot = none := by simpa [Addr.add] using World.cell?_spot h0
    subst hspot
    refine ⟨b, off, rfl, ?_, fun i hi => ?_⟩
    · rw [add_off] at h0
      exact block_lt h0
    · rw [hlen] at hi
      rw [hg i hi]
      obtain ⟨h1, h2, ⟨a, ea, ha⟩, c, ec, hc'⟩ := hc i (by omega)
      rw [add_off] at h1 h2
      rw [← Nat.add_assoc] at h2
      rw [ea] at h1
      rw [ec] at h2
      rw [h1, h2, ea, ec]
      exact ⟨rfl, rfl⟩
end Go.Proofs.Ythenjipljkphiaa
