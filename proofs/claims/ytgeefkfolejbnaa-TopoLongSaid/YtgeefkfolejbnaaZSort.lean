/-
  slices.Sort on rows of ints of the call's own.
-/
import Derived.Test.YtgeefkfolejbnaaZRows
import Derived.Test.YtgeefkfolejbnaaSortLay
import Derived.Sort.OwnSortedInts
import Derived.Lib.OwnBridge
namespace Go.Proofs.Ytgeefkfolejbnaa
open Go.RowKit Go.Sort Go.Lib
theorem OwnZ.row {w : World} {base : Nat} {a : Addr} {cap : Nat} {zs : List Int} (h : OwnZ w base (some a) cap zs) :
    ∃ g cur, a = ⟨g, 0, none⟩ ∧ base ≤ g ∧ g < w.heap.size ∧ w.heap[g]? = some (.cells cur 3 (0, 0)) ∧ zs.length ≤ cap ∧ cap ≤ maxLen ∧ cur.size = cap * 1 ∧ cur.toList.take zs.length = zs.map (Value.int .i64) := by
  rcases h.1.2 with ⟨e1, _⟩ | ⟨g, c', cur, e1, hb, hg, hn, hm, hs, ht⟩
  · cases e1
  · injection e1 with e1 e2 e3
    injection e1 with e1
    subst e1 e3
    exact ⟨g, cur, rfl, hb, lt_of_block hg, hg, hn, hm, hs, by rw [Nat.mul_one] at ht; exact ht⟩
theorem OwnZ.none_len {w : World} {base cap : Nat} {zs : List Int} (h : OwnZ w base none cap zs) : zs = [] ∧ cap = 0 := by
  rcases h.1.2 with ⟨e1, e2⟩ | ⟨g, c', cur, e1, _⟩
  · injection e1 with _ _ e3
    exact ⟨List.eq_nil_of_length_eq_zero e2, e3⟩
  · cases e1
def sortedZ (zs : List Int) : List Int := zs.mergeSort fun x y => decide (x ≤ y)
theorem sortedZ_len (zs : List Int) : (sortedZ zs).length = zs.length := by unfold sortedZ; rw [List.length_mergeSort]
theorem sortedZ_perm (zs : List Int) : (sortedZ zs).Perm zs := List.mergeSort_perm zs _
theorem sortedZ_pair (zs : List Int) : (sortedZ zs).Pairwise fun x y => x ≤ y := by
  have := List.pairwise_mergeSort (le := fun x y : Int => decide (x ≤ y)) (fun a b c h1 h2 => by simp at *; omega) (fun a b => by simp; omega) zs
  exact this.imp fun h => by simpa using h
def SortZPost (w : World) (base : Nat) (A : Option Addr) (cap : Nat) (zs : List Int) (e : Ending) (w' : World) : Prop :=
  e = .returned (.tuple #[]) ∧ Hid (OwnZ w' base A cap (sortedZ zs)) ∧ Hid (Below base w w')
theorem sortZ_any (A : Option Addr) (cap : Nat) (zs : List Int) (base : Nat) (w : World) (h : OwnZ w base A cap zs) (hbase : base ≤ w.heap.size) (hl : zs.length ≤ 1000000000) :
    Calls Try.prog 45 #[.slice A zs.length cap] w (SortZPost w base A cap zs) := by
  have rng : ∀ i, i < (sortedZ zs).length → inI ((sortedZ zs).getD i 0) := fun i hi => by
    rw [List.getD_eq_getElem?_getD, List.getElem?_eq_getElem hi]
    have hm := (sortedZ_perm zs).mem_iff.1 (List.getElem_mem hi)
    obtain ⟨j, hj, e⟩ := List.getElem_of_mem hm
    have := h.2 j hj
    rw [List.getD_eq_getElem?_getD, List.getElem?_eq_getElem hj] at this
    simp only [Option.getD_some] at this ⊢
    rw [← e]; exact this
  cases A with
  | none =>
    obtain ⟨rfl, rfl⟩ := h.none_len
    refine (AnyM.slices_Sort_int_none Try.sortI none 0 w).mono ?_
    rintro e w' ⟨h1, rfl⟩
    exact ⟨h1, Lib.hid (by unfold sortedZ; simpa using h), Lib.hid (Below.refl _ _)⟩
  | some a =>
    obtain ⟨g, cur, rfl, hb, hg, hblk, hn, hm, hs, ht⟩ := h.row
    refine (AnyM.slices_Sort_int Try.sortI g 0 cap zs w (holds_of_blockI hblk ht) hg (by omega)).mono ?_
    rintro e w' ⟨h1, n, os, rfl⟩
    refine ⟨h1, Lib.hid ⟨?_, rng⟩, Lib.hid ((Below.refl _ _).grown (grownBy_sortedI _) hbase fun k hk => by injection hk with hk; omega)⟩
    have h2 := ownsRow_sortedI (n := n) (os := os) (ss := zs) (ts := sortedZ zs) (sortedZ_len zs) hb hblk hn hm hs
    rw [sortedZ_len]
    exact h2
end Go.Proofs.Ytgeefkfolejbnaa
