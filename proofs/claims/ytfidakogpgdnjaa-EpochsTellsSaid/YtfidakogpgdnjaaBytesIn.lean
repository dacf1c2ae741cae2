/-
  A slice of bytes that came in, as the walks take it: what it holds, from its reading.
-/
import Derived.Test.YtfidakogpgdnjaaBytesKit
import Derived.ProofKit
import Derived.OpenShut
namespace Go.Proofs.Ytfidakogpgdnjaa
open Go.ChangeShapes Go.WideShapes Go.ChangeAt Go.RowKit
theorem bytes_of_ints {W : World} {x : Addr} {len : Nat} {zs : List Int} (hl : len ≤ zs.length) (hc : ∀ i, i < zs.length → W.cell? (x.add i) = some (.int .u8 (zs.getD i 0))) (hw : ∀ n ∈ zs, (Lit.int .u8 n).wf = true) :
    Bytes W W.heap.size (some x) (zs.take len) := by
  have hlen : (zs.take len).length = len := by simp; omega
  have hg : ∀ i, i < len → (zs.take len).getD i 0 = zs.getD i 0 := fun i hi => by
    rw [List.getD_eq_getElem?_getD, List.getD_eq_getElem?_getD, List.getElem?_take_of_lt hi]
  refine ⟨fun i hi => ?_, fun hn => ?_⟩
  · rw [hlen] at hi
    rw [hg i hi, List.getD_eq_getElem?_getD, List.getElem?_eq_getElem (by omega)]
    have h := hw _ (List.getElem_mem (show i < zs.length by omega))
    simpa [Lit.wf, IntKind.min, IntKind.max, IntKind.bits, IntKind.signed] using h
  · rw [hlen] at hn
    obtain ⟨b, off, spot⟩ := x
    have h0 := hc 0 (by omega)
    have hspot : spot = none := by simpa [Addr.add] using World.cell?_spot h0
    subst hspot
    have hadd : ∀ i, Addr.add ⟨b, off, none⟩ i = ⟨b, off + i, none⟩ := fun i => by
      unfold Addr.add
      split
      · next h => subst h; rfl
      · rfl
    refine ⟨b, off, rfl, ?_, fun i hi => ?_⟩
    · rw [hadd] at h0
      exact block_lt h0
    · rw [hlen] at hi
      rw [hg i hi, ← hadd]
      exact hc i (by omega)
end Go.Proofs.Ytfidakogpgdnjaa
