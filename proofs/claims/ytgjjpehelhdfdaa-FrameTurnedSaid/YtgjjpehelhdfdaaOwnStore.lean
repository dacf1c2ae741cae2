/-
  One byte of a row of the call's own stored.
-/
import Derived.Test.YtgjjpehelhdfdaaBytesKit
namespace Go.Proofs.Ytgjjpehelhdfdaa
open Go.RowKit
theorem OwnB.stored {w : World} {base g cap : Nat} {zs : List Int} (h : OwnB w base (some ⟨g, 0, none⟩) cap zs) (j : Nat) (v : Int) (h0 : 0 ≤ v) (h1 : v ≤ 255) :
    OwnB (w.setCell ⟨g, j, none⟩ (.int .u8 v)) base (some ⟨g, 0, none⟩) cap (zs.set j v) := by
  have hs := h.1.stored j (.int .u8 v)
  refine ⟨?_, fun i hi => ?_⟩
  · rw [List.length_set, List.map_set]
    exact hs.1
  · rw [List.length_set] at hi
    rw [List.getD_eq_getElem?_getD, List.getElem?_set]
    split
    · next e =>
      subst e
      rw [if_pos hi]
      exact ⟨h0, h1⟩
    · rw [← List.getD_eq_getElem?_getD]; exact h.2 i hi
end Go.Proofs.Ytgjjpehelhdfdaa
