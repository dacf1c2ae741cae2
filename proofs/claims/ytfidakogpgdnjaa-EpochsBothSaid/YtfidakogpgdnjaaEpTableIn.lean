/-
  A table that came in, as the walks take it: what it holds, from its reading.
-/
import Derived.Test.YtfidakogpgdnjaaEpRow
import Derived.Test.YtfidakogpgdnjaaStructsIn
import Derived.Lib.SmallJoins
namespace Go.Proofs.Ytfidakogpgdnjaa
open Go.ChangeShapes Go.WideShapes Go.ChangeAt Go.RowKit Go.Deep
theorem sts_of_ints {W : World} {x : Addr} {len : Nat} {zs : List Int} (hl : len ≤ zs.length) (hc : ∀ i, i < zs.length → W.cell? (x.add i) = some (.int .u64 (zs.getD i 0))) (hw : ∀ n ∈ zs, (Lit.int .u64 n).wf = true) :
    Sts W W.heap.size (some x) (zs.take len) := by
  have hlen : (zs.take len).length = len := by simp; omega
  have hg : ∀ i, i < len → (zs.take len).getD i 0 = zs.getD i 0 := fun i hi => by
    rw [List.getD_eq_getElem?_getD, List.getD_eq_getElem?_getD, List.getElem?_take_of_lt hi]
  refine ⟨fun i hi => ?_, fun hn => ?_⟩
  · rw [hlen] at hi
    rw [hg i hi, List.getD_eq_getElem?_getD, List.getElem?_eq_getElem (by omega)]
    have h := hw _ (List.getElem_mem (show i < zs.length by omega))
    have h2 : 0 ≤ zs[i] ∧ zs[i] ≤ 18446744073709551615 := by simpa [Lit.wf, IntKind.min, IntKind.max, IntKind.bits, IntKind.signed] using h
    exact ⟨h2.1, by show zs[i] < _; omega⟩
  · rw [hlen] at hn
    obtain ⟨b, off, spot⟩ := x
    have h0 := hc 0 (by omega)
    have hspot : spot = none := by simpa [Addr.add] using World.cell?_spot h0
    subst hspot
    refine ⟨b, off, rfl, ?_, fun i hi => ?_⟩
    · rw [add_off] at h0
      exact block_lt h0
    · rw [hlen] at hi
      rw [hg i hi, ← add_off]
      exact hc i (by omega)
theorem table_in {H : Type} {enc : TypeId × Value → H} {w : World} {base b0 : Nat} {spare : Nat → Bool} {held : Bool} {r : Reach} {v : Value} {d : DataW H} {p : List MemPlace}
    (hv : Value.okWide Try.prog w r b0 25 v) (h : DataW.Trod enc Try.prog w base spare held 25 v d p) :
    ∃ (A : Option Addr) (zs : List Int) (cap : Nat) (e : Int), v = .agg #[.slice A zs.length cap, .int .i64 e] ∧ zs.length ≤ 9223372036854775807 ∧ zs.length ≤ cap ∧ Sts w w.heap.size A zs := by
  obtain ⟨va, vb, ya, yb, n, rfl, -, -, ta, tb⟩ := Joins.open_agg2 Try.underlying25 (by kernel_rfl) (by kernel_rfl) hv h
  obtain ⟨e, rfl, _, _⟩ := i64_of Try.underlying2 tb
  rcases open_ints Try.underlying23 Try.underlying29 (by kernel_rfl) ta with ⟨hcs, _⟩ | ⟨x, l, c, zs, hcs, _, hl, hm, hz, _, hcell, hwz⟩
  · simp at hcs
    exact ⟨none, [], 0, e, by rw [hcs]; rfl, by decide, by decide, Sts.nil_⟩
  · simp at hcs
    unfold maxLen at hm
    have hlz : l ≤ zs.length := by rw [hz]; split <;> omega
    refine ⟨some x, zs.take l, c, e, ?_, by rw [List.length_take]; omega, by rw [List.length_take]; omega, sts_of_ints hlz hcell hwz⟩
    rw [hcs, List.length_take, Nat.min_eq_left hlz]
end Go.Proofs.Ytfidakogpgdnjaa
