/-
  A slice of ints that came in.
-/
import Derived.Test.YtgeefkfolejbnaaZRows
import Derived.ProofKit
import Derived.OpenShut
import Derived.SliceStrings
namespace Go.Proofs.Ytgeefkfolejbnaa
open Go.ChangeShapes Go.WideShapes Go.ChangeAt Go.RowKit
abbrev Nums (w : World) (B : Nat) (A : Option Addr) (zs : List Int) : Prop := Zs w B A zs
theorem Nums.nil_ {w : World} {B : Nat} {A : Option Addr} : Nums w B A [] := Zs.nil_
theorem getD_take {α : Type} (l : List α) (n i : Nat) (d : α) (h : i < n) : (l.take n).getD i d = l.getD i d := by
  rw [List.getD_eq_getElem?_getD, List.getD_eq_getElem?_getD, List.getElem?_take_of_lt h]
theorem nums_of {W : World} {x : Addr} {len : Nat} {zs : List Int} (hl : len ≤ zs.length) (hc : ∀ i, i < zs.length → W.cell? (x.add i) = some (.int .i64 (zs.getD i 0))) (hw : ∀ n ∈ zs, (Lit.int .i64 n).wf = true) :
    Nums W W.heap.size (some x) (zs.take len) := by
  have hlen : (zs.take len).length = len := by simp; omega
  refine ⟨fun i hi => ?_, fun hn => ?_⟩
  · rw [hlen] at hi
    rw [getD_take _ _ _ _ hi, List.getD_eq_getElem?_getD, List.getElem?_eq_getElem (by omega)]
    have h := hw _ (List.getElem_mem (show i < zs.length by omega))
    unfold inI
    simpa [Lit.wf, IntKind.min, IntKind.max, IntKind.bits, IntKind.signed] using h
  · rw [hlen] at hn
    obtain ⟨b, off, spot⟩ := x
    have h0 := hc 0 (by omega)
    have hspot : spot = none := by simpa [Addr.add] using World.cell?_spot h0
    subst hspot
    refine ⟨b, off, rfl, ?_, fun i hi => ?_⟩
    · rw [add_off] at h0
      exact block_lt h0
    · rw [hlen] at hi
      rw [getD_take _ _ _ _ hi, ← add_off]
      exact hc i (by omega)
end Go.Proofs.Ytgeefkfolejbnaa
