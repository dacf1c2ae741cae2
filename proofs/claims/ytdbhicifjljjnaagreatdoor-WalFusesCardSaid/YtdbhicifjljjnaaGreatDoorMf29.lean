/-
  Part 29 of the texts behind the law: SegSort.
-/
import Derived.Test.YtdbhicifjljjnaaGreatDoorMf4
import Derived.Test.YtdbhicifjljjnaaGreatDoorMf28
import Derived.Sort.OwnSortedInts
import Derived.Lib.OwnBridge
/-
  slices.Sort and slices.Compact on rows of int64 numbers of the call's own.
-/
namespace Go.Proofs.YtdbhicifjljjnaaGreatDoor
open Go.RowKit Go.Sort Go.Lib
theorem OwnL.lit {w : World} {base : Nat} {a : Addr} {cap : Nat} {zs : List Int} (h : OwnL w base (some a) cap zs) :
    ∃ g cur, a = ⟨g, 0, none⟩ ∧ base ≤ g ∧ g < w.heap.size ∧ w.heap[g]? = some (.cells cur 2 (0, 0)) ∧ zs.length ≤ cap ∧ cap ≤ maxLen ∧ cur.size = cap * 1 ∧ cur.toList.take zs.length = zs.map (Value.int .i64) := by
  rcases h.2 with ⟨e1, _⟩ | ⟨g, c', cur, e1, hb, hg, hn, hm, hs, ht⟩
  · cases e1
  · injection e1 with e1 e2 e3
    injection e1 with e1
    subst e1 e3
    exact ⟨g, cur, rfl, hb, lt_of_block hg, hg, hn, hm, hs, by rw [Nat.mul_one] at ht; exact ht⟩
theorem OwnL.none_len {w : World} {base cap : Nat} {zs : List Int} (h : OwnL w base none cap zs) : zs = [] ∧ cap = 0 := by
  rcases h.2 with ⟨e1, e2⟩ | ⟨g, c', cur, e1, _⟩
  · injection e1 with _ _ e3
    exact ⟨List.eq_nil_of_length_eq_zero e2, e3⟩
  · cases e1
def sorted (zs : List Int) : List Int := zs.mergeSort fun x y => decide (x ≤ y)
def SortPost (w : World) (base : Nat) (A : Option Addr) (cap : Nat) (zs : List Int) (e : Ending) (w' : World) : Prop :=
  e = .returned (.tuple #[]) ∧ Hid (OwnL w' base A cap (sorted zs)) ∧ Hid (Below base w w')
theorem sorted_len (zs : List Int) : (sorted zs).length = zs.length := by unfold sorted; rw [List.length_mergeSort]
theorem sort_any (A : Option Addr) (cap : Nat) (zs : List Int) (base : Nat) (w : World) (h : OwnL w base A cap zs) (hbase : base ≤ w.heap.size) (hl : zs.length ≤ 1000000000) :
    Calls Tryz.prog 53 #[.slice A zs.length cap] w (SortPost w base A cap zs) := by
  cases A with
  | none =>
    obtain ⟨rfl, rfl⟩ := h.none_len
    refine (AnyM.slices_Sort_int_none Tryz.sortI none 0 w).mono ?_
    rintro e w' ⟨h1, rfl⟩
    exact ⟨h1, Lib.hid (by unfold sorted; simpa using h), Lib.hid (Below.refl _ _)⟩
  | some a =>
    obtain ⟨g, cur, rfl, hb, hg, hblk, hn, hm, hs, ht⟩ := h.lit
    refine (AnyM.slices_Sort_int Tryz.sortI g 0 cap zs w (holds_of_blockI hblk ht) hg (by omega)).mono ?_
    rintro e w' ⟨h1, n, os, rfl⟩
    refine ⟨h1, Lib.hid ?_, Lib.hid ((Below.refl _ _).grown (grownBy_sortedI _) hbase fun k hk => by injection hk with hk; omega)⟩
    have h2 := ownsRow_sortedI (n := n) (os := os) (ss := zs) (ts := sorted zs) (sorted_len zs) hb hblk hn hm hs
    unfold OwnL
    rw [sorted_len]
    exact h2
def CompPost (w : World) (base : Nat) (A : Option Addr) (cap : Nat) (zs : List Int) (e : Ending) (w' : World) : Prop :=
  ∃ ys, Hid (ys = compactUpTo zs.toArray zs.length) ∧ e = .returned (.slice A ys.length cap) ∧ Hid (OwnL w' base A cap ys) ∧ Hid (Below base w w')
theorem comp_nil (w : World) : Calls Tryz.prog 54 #[.slice none 0 0] w fun e w' => e = .returned (.slice none 0 0) ∧ w = w' := by
  go_enter Tryz.func54, Tryz.ntmps54
  go_wp2
  go_ret
  exact ⟨rfl, rfl⟩
theorem comp_any (A : Option Addr) (cap : Nat) (zs : List Int) (base : Nat) (w : World) (h : OwnL w base A cap zs) (hbase : base ≤ w.heap.size) (hl : zs.length ≤ 1000000000) :
    Calls Tryz.prog 54 #[.slice A zs.length cap] w (CompPost w base A cap zs) := by
  cases A with
  | none =>
    obtain ⟨rfl, rfl⟩ := h.none_len
    refine (comp_nil w).mono ?_
    rintro e w' ⟨h1, rfl⟩
    exact ⟨[], Lib.hid rfl, h1, Lib.hid h, Lib.hid (Below.refl _ _)⟩
  | some a =>
    obtain ⟨g, cur, rfl, hb, hg, hblk, hn, hm, hs, ht⟩ := h.lit
    have hsz : zs.toArray.size = zs.length := by simp
    have hle : (compactUpTo zs.toArray zs.length).length ≤ zs.length := by
      unfold compactUpTo
      rw [List.length_map]
      exact Nat.le_trans (List.length_filter_le _ _) (by simp)
    have C := AnyE.slices_Compact Tryz.compI (Value.int .i64) (fun _ => rfl) (EqlAt.intD _ _ .i64) (NeqAt.intD _ _ .i64) 0 Tryz.zeroValue2 g 0 cap zs.toArray w (holds_of_blockI hblk ht) (by rw [hsz]; omega) (by rw [hsz]; exact hn)
    rw [hsz] at C
    refine C.mono ?_
    rintro e w' ⟨h1, q, rfl⟩
    refine ⟨_, Lib.hid rfl, h1, Lib.hid ?_, Lib.hid (below_putRow (Below.refl _ _) hb)⟩
    have h2 := ownsRow_putRow (q := q) (k := (compactUpTo zs.toArray zs.length).length) (ys := compactUpTo zs.toArray zs.length ++ List.replicate (zs.length - (compactUpTo zs.toArray zs.length).length) 0) (zs := zs) (enc := Value.int .i64) h (by rw [List.length_append, List.length_replicate]; omega) hle
    rw [List.take_left] at h2
    exact h2
end Go.Proofs.YtdbhicifjljjnaaGreatDoor
