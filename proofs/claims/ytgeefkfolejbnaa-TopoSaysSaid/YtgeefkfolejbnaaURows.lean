/-
  Rows of uint64 of the call's own: made, stored to, read. Slices of ints cut at their ends.
-/
import Derived.Test.YtgeefkfolejbnaaZCells
namespace Go.Proofs.Ytgeefkfolejbnaa
open Go.RowKit
def uns (zs : List Nat) : List Value := zs.map fun (z : Nat) => Value.int .u64 (z : Int)
def OwnU (w : World) (base : Nat) (A : Option Addr) (cap : Nat) (zs : List Nat) : Prop :=
  w.ownsRow base 31 1 (.slice A zs.length cap) zs.length (uns zs)
theorem OwnU.lt {w : World} {base : Nat} {a : Addr} {cap : Nat} {zs : List Nat} (h : OwnU w base (some a) cap zs) : base ≤ a.block ∧ a.block < w.heap.size :=
  World.ownsRow.lt h a.block (by simp [Value.ownBlock])
theorem OwnU.keep {w w' : World} {base : Nat} {A : Option Addr} {cap : Nat} {zs : List Nat} (h : OwnU w base A cap zs) (hk : ∀ a, A = some a → w'.heap[a.block]? = w.heap[a.block]?) : OwnU w' base A cap zs := by
  refine ⟨h.1, ?_⟩
  rcases h.2 with e | ⟨g, c', cur, e, hb, hg, r⟩
  · exact .inl e
  · injection e with e1 e2 e3
    subst e1 e3
    exact .inr ⟨g, _, cur, rfl, hb, by rw [hk _ rfl]; exact hg, r⟩
theorem OwnU.grew {w w' : World} {base B : Nat} {A : Option Addr} {cap : Nat} {zs : List Nat} (h : OwnU w base A cap zs) (hb : Below B w w') (hB : w.heap.size ≤ B) : OwnU w' base A cap zs :=
  h.keep fun a ha => by
    subst ha
    exact hb.block _ (by have := h.lt.2; omega)
theorem OwnU.val {w : World} {base g cap : Nat} {zs : List Nat} (h : OwnU w base (some ⟨g, 0, none⟩) cap zs) {i : Nat} (hi : i < zs.length) : w.cell? ⟨g, i, none⟩ = some (.int .u64 (zs.getD i 0 : Nat)) := by
  rw [World.ownsRow.cellAt h i (by omega)]
  unfold uns
  rw [List.getElem?_map, List.getD_eq_getElem?_getD, List.getElem?_eq_getElem hi]
  rfl
theorem OwnU.thaw {w : World} {base g cap : Nat} {zs : List Nat} (h : OwnU w base (some ⟨g, 0, none⟩) cap zs) (i : Nat) : w.frozen? ⟨g, i, none⟩ = false := by
  rcases h.2 with ⟨e, _⟩ | ⟨g', c', cur, e, hb, hg, r⟩
  · cases e
  · injection e with e1 e2 e3
    injection e1 with e1
    injection e1 with e1
    subst e1
    simp [World.frozen?, hg]
theorem OwnU.stored {w : World} {base g cap : Nat} {zs : List Nat} (h : OwnU w base (some ⟨g, 0, none⟩) cap zs) (j : Nat) (v : Nat) :
    OwnU (w.setCell ⟨g, j, none⟩ (.int .u64 (v : Int))) base (some ⟨g, 0, none⟩) cap (zs.set j v) := by
  have hs := World.ownsRow.stored h j (.int .u64 (v : Int))
  unfold OwnU uns
  rw [List.length_set, List.map_set]
  exact hs.1
theorem u64_info : (Try.prog.info? 31).map (fun i => (i.zero, i.size, i.bytes)) = some (some (.int .u64 0), 1, 8) := by kernel_rfl
theorem made_U (n : Nat) (hn : n ≤ 1000000) (W : World) : (Instr.makeSlice 57 (.int .i64 (n : Int)) (.int .i64 (n : Int))).run Try.prog W = .ok (.slice (some ⟨W.heap.size, 0, none⟩) n n) (W.alloc (.cells (madeCells #[.int .u64 0] n) 31)) := by
  obtain ⟨i, hi, hz, hs, hy⟩ := info_parts u64_info
  have hr := run_make (P := Try.prog) W 57 31 i _ Try.underlying57 hi hz .i64 .i64 n n (by omega) (Int.le_refl _) (by rw [hy]; omega) (by omega)
  rw [hs, Int.toNat_natCast, Nat.mul_one] at hr
  exact hr
theorem OwnU.made (W : World) (n : Nat) (hn : n ≤ 1000000) : OwnU (W.alloc (.cells (madeCells #[.int .u64 0] n) 31)) W.heap.size (some ⟨W.heap.size, 0, none⟩) n (List.replicate n 0) := by
  have e : (madeCells #[Value.int .u64 0] n).toList = uns (List.replicate n 0) := by
    rw [toList_madeCells_one (Value.int .u64 0) n]
    unfold uns
    rw [List.map_replicate]
    rfl
  have h := World.ownsRow_lit (e := 31) (size := 1) W (madeCells #[.int .u64 0] n) n (Nat.le_refl W.heap.size) (by unfold maxLen; omega) (by rw [← Array.length_toList, e]; simp [uns])
  rw [e] at h
  unfold OwnU
  rw [List.length_replicate]
  exact h
theorem elemZ : Try.prog.elem 28 = 3 := by kernel_rfl
theorem undZ : Try.prog.underlying 28 = some (.slice (Try.prog.elem 28)) := by rw [elemZ]; exact Try.underlying28
theorem sizeZ (W : World) : (sizeOf 3).run Try.prog W = .ok 1 W := by kernel_rfl
theorem slice_toZ (A : Option Addr) (n cap k : Nat) (h : k ≤ cap) (ik : IntKind) (W : World) :
    (Instr.slice 28 (.slice A n cap) none (some (.int ik (k : Int))) none).run Try.prog W = .ok (.slice A k cap) W := by
  rw [run_slice_h (P := Try.prog) (w := W) 28 A n cap undZ ik k (by omega) (by omega), elemZ, sizeZ]
  simp [Result.andThen, sliced]
  intro _
  cases A <;> simp [Addr.add]
end Go.Proofs.Ytgeefkfolejbnaa
