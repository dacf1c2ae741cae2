/-
  Rows of bools of the call's own: made, stored to, read.
-/
import Derived.Test.YtgeefkfolejbnaaZRows
namespace Go.Proofs.Ytgeefkfolejbnaa
open Go.RowKit
def OwnF (w : World) (base : Nat) (A : Option Addr) (cap : Nat) (bs : List Bool) : Prop :=
  w.ownsRow base 4 1 (.slice A bs.length cap) bs.length (bs.map Value.bool)
theorem OwnF.lt {w : World} {base : Nat} {a : Addr} {cap : Nat} {bs : List Bool} (h : OwnF w base (some a) cap bs) : base ≤ a.block ∧ a.block < w.heap.size :=
  World.ownsRow.lt h a.block (by simp [Value.ownBlock])
theorem OwnF.keep {w w' : World} {base : Nat} {A : Option Addr} {cap : Nat} {bs : List Bool} (h : OwnF w base A cap bs) (hk : ∀ a, A = some a → w'.heap[a.block]? = w.heap[a.block]?) : OwnF w' base A cap bs := by
  refine ⟨h.1, ?_⟩
  rcases h.2 with e | ⟨g, c', cur, e, hb, hg, r⟩
  · exact .inl e
  · injection e with e1 e2 e3
    subst e1 e3
    exact .inr ⟨g, _, cur, rfl, hb, by rw [hk _ rfl]; exact hg, r⟩
theorem OwnF.grew {w w' : World} {base B : Nat} {A : Option Addr} {cap : Nat} {bs : List Bool} (h : OwnF w base A cap bs) (hb : Below B w w') (hB : w.heap.size ≤ B) : OwnF w' base A cap bs :=
  h.keep fun a ha => by
    subst ha
    exact hb.block _ (by have := h.lt.2; omega)
theorem OwnF.under {w w' : World} {base B g cap : Nat} {bs : List Bool} (h : OwnF w base (some ⟨g, 0, none⟩) cap bs) (hb : Below B w w') (hB : g < B) : OwnF w' base (some ⟨g, 0, none⟩) cap bs :=
  h.keep fun a ha => by
    injection ha with ha
    subst ha
    exact hb.block _ hB
theorem OwnF.val {w : World} {base g cap : Nat} {bs : List Bool} (h : OwnF w base (some ⟨g, 0, none⟩) cap bs) {i : Nat} (hi : i < bs.length) : w.cell? ⟨g, i, none⟩ = some (.bool (bs.getD i false)) := by
  rw [World.ownsRow.cellAt h i (by omega), List.getElem?_map, List.getD_eq_getElem?_getD, List.getElem?_eq_getElem hi]
  rfl
theorem OwnF.thaw {w : World} {base g cap : Nat} {bs : List Bool} (h : OwnF w base (some ⟨g, 0, none⟩) cap bs) (i : Nat) : w.frozen? ⟨g, i, none⟩ = false := by
  rcases h.2 with ⟨e, _⟩ | ⟨g', c', cur, e, hb, hg, r⟩
  · cases e
  · injection e with e1 e2 e3
    injection e1 with e1
    injection e1 with e1
    subst e1
    simp [World.frozen?, hg]
theorem OwnF.stored {w : World} {base g cap : Nat} {bs : List Bool} (h : OwnF w base (some ⟨g, 0, none⟩) cap bs) (j : Nat) (v : Bool) :
    OwnF (w.setCell ⟨g, j, none⟩ (.bool v)) base (some ⟨g, 0, none⟩) cap (bs.set j v) := by
  have hs := World.ownsRow.stored h j (.bool v)
  unfold OwnF
  rw [List.length_set, List.map_set]
  exact hs.1
theorem bool_info : (Try.prog.info? 4).map (fun i => (i.zero, i.size, i.bytes)) = some (some (.bool false), 1, 1) := by kernel_rfl
theorem made_F (n : Nat) (hn : n ≤ 1000000) (W : World) : (Instr.makeSlice 53 (.int .i64 (n : Int)) (.int .i64 (n : Int))).run Try.prog W = .ok (.slice (some ⟨W.heap.size, 0, none⟩) n n) (W.alloc (.cells (madeCells #[.bool false] n) 4)) := by
  obtain ⟨i, hi, hz, hs, hy⟩ := info_parts bool_info
  have hr := run_make (P := Try.prog) W 53 4 i _ Try.underlying53 hi hz .i64 .i64 n n (by omega) (Int.le_refl _) (by rw [hy]; omega) (by omega)
  rw [hs, Int.toNat_natCast, Nat.mul_one] at hr
  exact hr
theorem OwnF.made (W : World) (n : Nat) (hn : n ≤ 1000000) : OwnF (W.alloc (.cells (madeCells #[.bool false] n) 4)) W.heap.size (some ⟨W.heap.size, 0, none⟩) n (List.replicate n false) := by
  have e : (madeCells #[Value.bool false] n).toList = (List.replicate n false).map Value.bool := by
    rw [toList_madeCells_one (Value.bool false) n, List.map_replicate]
  have h := World.ownsRow_lit (e := 4) (size := 1) W (madeCells #[.bool false] n) n (Nat.le_refl W.heap.size) (by unfold maxLen; omega) (by rw [← Array.length_toList, e]; simp)
  rw [e] at h
  unfold OwnF
  rw [List.length_replicate]
  exact h
end Go.Proofs.Ytgeefkfolejbnaa
