/-
  What the laws ask, in plain words: the lists that the calls answer, node by node.
-/
import Derived.Test.YtgeefkfolejbnaaGrVals
namespace Go.Proofs.Ytgeefkfolejbnaa.Gr
theorem reachI_eq {es : EI} {N : Nat} (h : Good N es) (a : Nat) : reachI N es a = ints (reachV (nat es) N a) := by
  unfold reachI reachV
  rw [if_pos (goodV_iff.2 h), Int.toNat_natCast]
  congr 1
  apply List.filter_congr
  intro b _
  rw [h.fin_isSome, Int.toNat_natCast]
theorem contains_nat {es : EI} {n : Int} (h : Good n es) (a b : Nat) : (nat es).contains (a, b) = es.contains ((a : Int), (b : Int)) := by
  rw [Bool.eq_iff_iff, List.contains_iff_mem, List.contains_iff_mem, h.mem]
theorem behindI_eq {es : EI} {N : Nat} (h : Good N es) (a : Nat) : behindI N es a = ints (behindV (nat es) N a) := by
  unfold behindI behindV
  rw [if_pos (goodV_iff.2 h), Int.toNat_natCast]
  congr 1
  apply List.filter_congr
  intro b _
  rw [contains_nat h]
theorem aheadI_eq {es : EI} {N : Nat} (h : Good N es) (b : Nat) : aheadI N es b = ints (aheadV (nat es) N b) := by
  unfold aheadI aheadV
  rw [if_pos (goodV_iff.2 h), Int.toNat_natCast]
  congr 1
  apply List.filter_congr
  intro a _
  rw [contains_nat h]
theorem ints_at (l : List Nat) (i : Nat) (hi : i < l.length) : ∃ z : Nat, (ints l).getD i 0 = (z : Int) ∧ z ∈ l ∧ l.getD i 0 = z := by
  refine ⟨l.getD i 0, ints_get l i, ?_, rfl⟩
  rw [List.getD_eq_getElem?_getD, List.getElem?_eq_getElem hi]
  exact List.getElem_mem hi
theorem low_nat {es : EI} {N : Nat} (h : Good N es) : Low (nat es) N := by
  have := h.low
  rwa [Int.toNat_natCast] at this
theorem reach_lt {es : E} {n a b : Nat} (h : b ∈ reachV es n a) : b < n := by
  unfold reachV at h
  exact List.mem_range.1 (List.mem_filter.1 h).1
theorem reach_asc (es : E) (n a : Nat) (i : Nat) (hi : i + 1 < (reachV es n a).length) : (reachV es n a).getD i 0 < (reachV es n a).getD (i + 1) 0 := filter_range n _ i hi
theorem ints_contains (l : List Nat) (z : Nat) : (ints l).contains (z : Int) = decide (z ∈ l) := by
  rw [Bool.eq_iff_iff, List.contains_iff_mem, decide_eq_true_eq]
  unfold ints
  rw [List.mem_map]
  constructor
  · rintro ⟨k, hk, e⟩
    have e : (k : Int) = (z : Int) := e
    have : k = z := by omega
    rw [← this]; exact hk
  · intro h
    exact ⟨z, h, rfl⟩
end Go.Proofs.Ytgeefkfolejbnaa.Gr
