/-
  A slice of structs that came in, whatever their fields: each element's cells and their reading; a struct's fields out of its cells.
-/
import Derived.Test.YteppokokabgniaaFieldsIn
namespace Go.Proofs.Yteppokokabgniaa
open Go.ChangeShapes Go.WideShapes Go.ChangeAt Go.RowKit Go.Deep
theorem rows_in {H : Type} {enc : TypeId × Value → H} {P : Program} {w : World} {base : Nat} {spare : Nat → Bool} {held : Bool} {t e : TypeId} {fs : Array Field} {k fuel : Nat} {cs : List Value} {x : DataW H × List MemPlace}
    (ht : P.underlying t = some (.slice e)) (he : P.underlying e = some (.struct fs)) (hC : P.cellsOf e = k) (hk : 0 < k) (h : DataW.trod enc P w base spare held fuel t cs = some x) :
    ∃ (A : Option Addr) (len cap : Nat), cs = [.slice A len cap] ∧ len ≤ cap ∧ cap ≤ 9223372036854775807 ∧
      (0 < len → ∃ b off, A = some ⟨b, off, none⟩ ∧ ∀ i, i < len → ∃ (zs : List Value) (n : Nat) (y : DataW H × List MemPlace), zs.length = k ∧ DataW.trod enc P w base spare held n e zs = some y ∧ ∀ (j : Nat) (hj : j < zs.length), w.cell? ⟨b, off + i * k + j, none⟩ = some zs[j]) := by
  rcases open_slice ht h with ⟨h0, _⟩ | ⟨a, len, cap, m, n, D, Pl, hcs, hb, hl, hm, hmm, _, hi⟩
  · exact ⟨none, 0, 0, h0, Nat.le_refl _, by decide, fun h => by omega⟩
  · have hlm : len ≤ m := by rw [hmm]; split <;> omega
    unfold maxLen at hm
    have key : ∀ i, i < len → ∃ (zs : List Value) (n : Nat) (y : DataW H × List MemPlace), zs.length = k ∧ DataW.trod enc P w base spare held n e zs = some y ∧ ∀ (j : Nat) (hj : j < zs.length), w.cell? (a.add (i * k + j)) = some zs[j] := fun i hil => by
      obtain ⟨zs, h1, h2⟩ := hi i (by omega)
      obtain ⟨_, hlen, hat⟩ := World.cells?_some h1
      obtain ⟨_, _, _, _, hzl, _, _⟩ := DataW.trod_struct he h2
      refine ⟨zs, _, _, by rw [hzl, hC], h2, fun j hj => ?_⟩
      have h4 := hat j (by omega)
      rw [hC, Go.Deep.add_add, List.getElem?_eq_getElem hj] at h4
      exact h4
    refine ⟨some a, len, cap, hcs, hl, hm, fun h0 => ?_⟩
    obtain ⟨b, off, spot⟩ := a
    obtain ⟨zs, _, _, hz, _, hv⟩ := key 0 h0
    have hs : spot = none := by simpa [Addr.add] using World.cell?_spot (hv 0 (by omega))
    subst hs
    refine ⟨b, off, rfl, fun i hil => ?_⟩
    obtain ⟨zs, n, y, h1, h2, h3⟩ := key i hil
    refine ⟨zs, n, y, h1, h2, fun j hj => ?_⟩
    have h4 := h3 j hj
    rw [add_off, ← Nat.add_assoc] at h4
    exact h4
/-- A field's cells, read. -/
theorem field_in {H : Type} {enc : TypeId × Value → H} {P : Program} {w : World} {base : Nat} {spare : Nat → Bool} {held : Bool} {e : TypeId} {fs : Array Field} {n : Nat} {zs : List Value} {y : DataW H × List MemPlace}
    (he : P.underlying e = some (.struct fs)) (h : DataW.trod enc P w base spare held n e zs = some y) (j : Nat) (f : Field) (hj : fs[j]? = some f) {o c : Nat} (ho : f.offset = o) (hc : P.cellsOf f.type = c) :
    ∃ m y', DataW.trod enc P w base spare held m f.type ((zs.drop o).take c) = some y' := by
  obtain ⟨ys, m, _, _, _, hyl, hf⟩ := DataW.trod_struct he h
  have h3 := hf j f hj
  have hjl : j < fs.size := (Array.getElem?_eq_some_iff.1 hj).1
  rw [ho, hc, List.getElem?_eq_getElem (by omega : j < ys.length)] at h3
  exact ⟨m, _, h3⟩
end Go.Proofs.Yteppokokabgniaa
