/-
  Part 1 of the texts behind the law: BaseKit, BytesKit, RowsKit, StrRows.
-/
import Derived.Test.YtighnooklcmjaaaDoorProg
import Derived.WalkKit
import Derived.WalkSpells
import Derived.WalkLawsBesides
import Derived.Lib.Hide
import Derived.Lib.SlBytesConst
import Derived.Lib.AppendStr
import Derived.OwnWalk
import Derived.Laws.OwnMore
import Derived.Laws.BytesArg
import Derived.Maps.AppendAt
import Derived.ArgAppend
import Derived.OneCell
import Derived.Lib.SmallJoins
import Derived.RegionTactic
import Derived.ProofKit
import Derived.OpenShut
import Derived.SliceStrings
/-
  What every seat's walks use: answers that agree, addresses, what is kept of the other blocks. No function and no type of the program is named here.
-/
namespace Go.Proofs.YtighnooklcmjaaaDoor
open Go.RowKit

theorem ret_int {k : IntKind} {a b : Int} (h : a = b) : Ending.returned (.int k a) = .returned (.int k b) := by rw [h]
theorem ret_pair {k : IntKind} {a b : Int} {x y : Bool} (h : a = b) (h2 : x = y) : Ending.returned (.tuple #[.int k a, .bool x]) = .returned (.tuple #[.int k b, .bool y]) := by rw [h, h2]
theorem ret_two {k k' : IntKind} {a b c d : Int} (h : a = b) (h2 : c = d) : Ending.returned (.tuple #[.int k a, .int k' c]) = .returned (.tuple #[.int k b, .int k' d]) := by rw [h, h2]
theorem ret_bool {a b : Bool} (h : a = b) : Ending.returned (.bool a) = .returned (.bool b) := by rw [h]
theorem ret_str {a b : ByteArray} (h : a = b) : Ending.returned (.string a) = .returned (.string b) := by rw [h]
theorem add_off (b off j : Nat) : Addr.add ⟨b, off, none⟩ j = ⟨b, off + j, none⟩ := by
  unfold Addr.add
  split
  · next h => subst h; rfl
  · rfl
theorem block_lt {W : World} {b o : Nat} {v : Value} (h : W.cell? ⟨b, o, none⟩ = some v) : b < W.heap.size := by
  rcases Nat.lt_or_ge b W.heap.size with hl | hl
  · exact hl
  · simp [World.cell?, Array.getElem?_eq_none hl] at h

/-! ### What is kept -/
/-- Below block B nothing has changed but block g. -/
structure But (B g : Nat) (w w' : World) : Prop where
  os : w'.os = w.os
  tape : w'.tape = w.tape
  output : w'.output = w.output
  size : w.heap.size ≤ w'.heap.size
  block : ∀ k, k < B → k ≠ g → w'.heap[k]? = w.heap[k]?
theorem But.refl (B g : Nat) (w : World) : But B g w w := ⟨rfl, rfl, rfl, Nat.le_refl _, fun _ _ _ => rfl⟩
theorem But.trans {B g : Nat} {a b c : World} (h : But B g a b) (k : But B g b c) : But B g a c :=
  ⟨k.os.trans h.os, k.tape.trans h.tape, k.output.trans h.output, Nat.le_trans h.size k.size, fun i hi hg => (k.block i hi hg).trans (h.block i hi hg)⟩
theorem But.mono {B B' g : Nat} {w w' : World} (h : But B g w w') (hB : B' ≤ B) : But B' g w w' := ⟨h.os, h.tape, h.output, h.size, fun k hk hg => h.block k (by omega) hg⟩
theorem But.of {B g : Nat} {w w' : World} (h : Below B w w') : But B g w w' := ⟨h.os, h.tape, h.output, h.size, fun k hk _ => h.block k hk⟩
theorem But.below {B B0 g : Nat} {w w' : World} (h : But B g w w') (h1 : B0 ≤ B) (h2 : B0 ≤ g) : Below B0 w w' := ⟨h.os, h.tape, h.output, h.size, fun k hk => h.block k (by omega) (by omega)⟩
theorem But.set (B g o : Nat) (w : World) (v : Value) : But B g w (w.setCell ⟨g, o, none⟩ v) :=
  ⟨rfl, rfl, rfl, by simp [World.setCell], fun k _ hg => Below.heap_setCell _ _ _ _ hg⟩
theorem But.drew {B g : Nat} {a w : World} (h : But B g a w) : But B g a w.drew := ⟨h.os, h.tape, h.output, h.size, h.block⟩
theorem below_n {B : Nat} {a w : World} (h : Below B a w) (n : Nat) : Below B a (w.drewN n) := ⟨h.os, h.tape, h.output, h.size, h.block⟩
theorem But.drewN {B g : Nat} {a w : World} (h : But B g a w) (n : Nat) : But B g a (w.drewN n) := ⟨h.os, h.tape, h.output, h.size, h.block⟩
end Go.Proofs.YtighnooklcmjaaaDoor
/-
  Slices of bytes in memory: what one holds (nil and empty too), cut, turned into a string, owned by the call, grown by append; what is kept of the other blocks. No function of the program is named here.
-/
namespace Go.Proofs.YtighnooklcmjaaaDoor
open Go.RowKit

/-- Below 'base' nothing has changed, and no block of another type than a byte row has. -/
structure Grew (base : Nat) (w w' : World) : Prop where
  below : Below base w w'
  obj : ∀ (g : Nat) (cs : Array Value) (t : TypeId) (fz : Nat × Nat), w.heap[g]? = some (.cells cs t fz) → t ≠ 5 → w'.heap[g]? = some (.cells cs t fz)
theorem Grew.alloc {base : Nat} {a w : World} (h : Grew base a w) (hb : base ≤ w.heap.size) (o : Obj) : Grew base a (w.alloc o) :=
  ⟨h.below.alloc hb o, fun g cs t fz hg ht => by
    have h1 := h.obj g cs t fz hg ht
    rw [Below.heap_alloc _ _ _ (lt_of_block h1)]; exact h1⟩
theorem Grew.refl (base : Nat) (w : World) : Grew base w w := ⟨Below.refl _ _, fun _ _ _ _ h _ => h⟩
theorem Grew.trans {base : Nat} {a b c : World} (h : Grew base a b) (k : Grew base b c) : Grew base a c :=
  ⟨h.below.trans k.below, fun g cs t fz hg ht => k.obj g cs t fz (h.obj g cs t fz hg ht) ht⟩

/-! ### The bytes of a slice -/
/-- The slice at address A whose elements are the numbers zs, each a byte, below block B. -/
def Bytes (w : World) (B : Nat) (A : Option Addr) (zs : List Int) : Prop :=
  (∀ i, i < zs.length → 0 ≤ zs.getD i 0 ∧ zs.getD i 0 ≤ 255) ∧
  (0 < zs.length → ∃ b off, A = some ⟨b, off, none⟩ ∧ b < B ∧ ∀ i, i < zs.length → w.cell? ⟨b, off + i, none⟩ = some (.int .u8 (zs.getD i 0)))
theorem Bytes.at_ {w : World} {B : Nat} {A : Option Addr} {zs : List Int} {k : Nat} (h : Bytes w B A zs) (hk : k < zs.length) :
    ∃ b off z, A = some ⟨b, off, none⟩ ∧ Hid (b < B) ∧ w.cell? ⟨b, off + k, none⟩ = some (.int .u8 z) ∧ Hid (zs.getD k 0 = z) ∧ 0 ≤ z ∧ z ≤ 255 := by
  obtain ⟨b, off, e, hb, hc⟩ := h.2 (by omega)
  exact ⟨b, off, _, e, Lib.hid hb, hc k hk, Lib.hid rfl, (h.1 k hk).1, (h.1 k hk).2⟩
theorem Bytes.nil_ {w : World} {B : Nat} {A : Option Addr} : Bytes w B A [] := ⟨fun i h => by simp at h, fun h => by simp at h⟩
theorem Bytes.keep {w w' : World} {B : Nat} {A : Option Addr} {zs : List Int} (h : Bytes w B A zs) (hk : ∀ b off, b < B → w'.cell? ⟨b, off, none⟩ = w.cell? ⟨b, off, none⟩) : Bytes w' B A zs :=
  ⟨h.1, fun hn => by
    obtain ⟨b, off, e, hb, hc⟩ := h.2 hn
    exact ⟨b, off, e, hb, fun i hi => (hk b _ hb).trans (hc i hi)⟩⟩
theorem Bytes.below {w w' : World} {B : Nat} {A : Option Addr} {zs : List Int} (h : Bytes w B A zs) (hb : Below B w w') : Bytes w' B A zs :=
  h.keep fun b off hl => hb.cell (p := ⟨b, off, none⟩) hl
theorem Bytes.more {w : World} {B B' : Nat} {A : Option Addr} {zs : List Int} (h : Bytes w B A zs) (hB : B ≤ B') : Bytes w B' A zs :=
  ⟨h.1, fun hn => by
    obtain ⟨b, off, e, hb, hc⟩ := h.2 hn
    exact ⟨b, off, e, by omega, hc⟩⟩
theorem Bytes.mem {w : World} {B : Nat} {A : Option Addr} {zs : List Int} (h : Bytes w B A zs) : ∀ z ∈ zs, 0 ≤ z ∧ z ≤ 255 := fun z hz => by
  obtain ⟨i, hi, e⟩ := List.getElem_of_mem hz
  have := h.1 i hi
  rw [List.getD_eq_getElem?_getD, List.getElem?_eq_getElem hi] at this
  rw [← e]; exact this
/-- Bytes are kept where an object of another type is all that has changed. -/
theorem Bytes.but {w w' : World} {B g : Nat} {A : Option Addr} {zs : List Int} {vs : Array Value} {t : TypeId} {fz : Nat × Nat} (h : Bytes w B A zs) (hB : But B g w w') (ho : w.heap[g]? = some (.cells vs t fz))
    (hv : ∀ (i : Nat) (n : Int), vs[i]? ≠ some (.int .u8 n)) : Bytes w' B A zs :=
  ⟨h.1, fun hn => by
    obtain ⟨b, off, e, hb, hc⟩ := h.2 hn
    refine ⟨b, off, e, hb, fun i hi => ?_⟩
    have hne : b ≠ g := by
      rintro rfl
      have h0 := hc i hi
      rw [cell_of_row w b (off + i) vs t fz ho] at h0
      exact hv _ _ h0
    rw [← hc i hi]
    exact World.cell?_of_block (w := w) (hB.block b hb hne)⟩
/-- The row is none of the objects' blocks. -/
theorem Bytes.ne {w : World} {B b off : Nat} {zs : List Int} {g : Nat} {vs : Array Value} {t : TypeId} {fz : Nat × Nat} (h : Bytes w B (some ⟨b, off, none⟩) zs) (hn : 0 < zs.length) (ho : w.heap[g]? = some (.cells vs t fz))
    (hv : ∀ (i : Nat) (n : Int), vs[i]? ≠ some (.int .u8 n)) : b ≠ g := by
  rintro rfl
  obtain ⟨b', off', e, hb, hc⟩ := h.2 hn
  injection e with e
  injection e with e1 e2
  subst e1 e2
  have h0 := hc 0 hn
  rw [cell_of_row w b _ vs t fz ho] at h0
  exact hv _ _ h0
def isByte (z : Int) : Bool := decide (0 ≤ z) && decide (z ≤ 255)
/-- Bytes that the call itself has just laid, out of a literal. -/
theorem Bytes.new (w : World) (zs : List Int) (hz : zs.all isByte = true) (fr : Nat × Nat) (cs : Array Value) (hc : cs = (zs.map (Value.int .u8)).toArray) :
    Bytes (w.alloc (.cells cs 5 fr)) (w.heap.size + 1) (some ⟨w.heap.size, 0, none⟩) zs := by
  subst hc
  refine ⟨fun i hi => ?_, fun _ => ⟨w.heap.size, 0, rfl, by omega, fun i hi => ?_⟩⟩
  · have h := List.all_eq_true.1 hz (zs.getD i 0) (by rw [List.getD_eq_getElem?_getD, List.getElem?_eq_getElem hi]; exact List.getElem_mem hi)
    unfold isByte at h
    simp only [Bool.and_eq_true, decide_eq_true_eq] at h
    exact h
  · rw [Nat.zero_add, World.cell?_alloc_mark]
    simp [hi]
theorem Bytes.new1 (w : World) (z : Int) (h0 : 0 ≤ z) (h1 : z ≤ 255) (fr : Nat × Nat) :
    Bytes (w.alloc (.cells #[.int .u8 z] 5 fr)) (w.heap.size + 1) (some ⟨w.heap.size, 0, none⟩) [z] :=
  Bytes.new w [z] (by simp [isByte, h0, h1]) fr _ rfl
theorem conv_lit (w : World) (C : Array Value) (n c : Nat) : (convert 27 27 (.slice (some ⟨w.heap.size, 0, none⟩) n c)).run Tryd.prog (w.alloc (.cells C 5)) = .ok (.slice (some ⟨w.heap.size, 0, none⟩) n c) (w.alloc (.cells C 5 (C.size, C.size + 1))) :=
  Lib.run_convert_bytes_const w 27 5 C n c Tryd.underlying27 Tryd.underlying5
/-- string(b) -/
theorem conv_str {w : World} {B : Nat} {A : Option Addr} {zs : List Int} (h : Bytes w B A zs) (cap : Nat) : (convert 27 9 (.slice A zs.length cap)).run Tryd.prog w = .ok (.string (strOfNums zs)) w := by
  rcases Nat.eq_zero_or_pos zs.length with h0 | h0
  · obtain rfl := List.eq_nil_of_length_eq_zero h0
    rcases A with _ | ⟨b, off, sp⟩
    · rw [run_convert_bytes_nil w 27 5 Tryd.underlying27 Tryd.underlying5 _ _ 9 Tryd.underlying9]
      rfl
    · rw [run_convert_bytes_string w 27 9 5 _ _ _ Tryd.underlying27 Tryd.underlying5 Tryd.underlying9]
      have hl : (loadCells ⟨b, off, sp⟩ 0).run Tryd.prog w = .ok (([] : List Int).map (Value.int .u8)).toArray w := by
        simp [loadCells, loadCellsFrom]
      exact run_bytesToString w ⟨b, off, sp⟩ 0 cap [] hl
  · obtain ⟨b, off, rfl, hb, hc⟩ := h.2 h0
    exact run_convert_bytes_arg w 27 5 Tryd.underlying27 Tryd.underlying5 b off zs.length cap zs rfl hc 9 Tryd.underlying9

/-! ### A slice cut -/
def tailA (A : Option Addr) (cap k : Nat) : Option Addr := if cap = k then A else A.map (·.add k)
theorem size1 (W : World) : (sizeOf 5).run Tryd.prog W = .ok 1 W := by kernel_rfl
theorem elem30 : Tryd.prog.elem 27 = 5 := by kernel_rfl
theorem und30 : Tryd.prog.underlying 27 = some (.slice (Tryd.prog.elem 27)) := by rw [elem30]; exact Tryd.underlying27
theorem slice_to (A : Option Addr) (n cap k : Nat) (h : k ≤ cap) (ik : IntKind) (W : World) :
    (Instr.slice 27 (.slice A n cap) none (some (.int ik (k : Int))) none).run Tryd.prog W = .ok (.slice A k cap) W := by
  rw [run_slice_h (P := Tryd.prog) (w := W) 27 A n cap und30 ik k (by omega) (by omega), elem30, size1]
  simp [Result.andThen, sliced]
  intro _
  cases A <;> simp [Addr.add]
theorem slice_from (A : Option Addr) (n cap k : Nat) (h : k ≤ n) (ik : IntKind) (W : World) :
    (Instr.slice 27 (.slice A n cap) (some (.int ik (k : Int))) none none).run Tryd.prog W = .ok (.slice (tailA A cap k) (n - k) (cap - k)) W := by
  rw [run_slice_l (P := Tryd.prog) (w := W) 27 A n cap und30 ik k (by omega) (by omega), elem30, size1]
  simp [Result.andThen, sliced, tailA]
theorem slice_mid (A : Option Addr) (n cap l h : Nat) (h1 : l ≤ h) (h2 : h ≤ cap) (ik ik' : IntKind) (W : World) :
    (Instr.slice 27 (.slice A n cap) (some (.int ik (l : Int))) (some (.int ik' (h : Int))) none).run Tryd.prog W = .ok (.slice (tailA A cap l) (h - l) (cap - l)) W := by
  rw [run_slice_lh (P := Tryd.prog) (w := W) 27 A n cap und30 ik ik' l h (by omega) (by omega) (by omega), elem30, size1]
  simp [Result.andThen, sliced, tailA]
theorem Bytes.head {w : World} {B : Nat} {A : Option Addr} {zs : List Int} (h : Bytes w B A zs) (k : Nat) : Bytes w B A (zs.take k) := by
  have hg : ∀ i, i < (zs.take k).length → (zs.take k).getD i 0 = zs.getD i 0 ∧ i < zs.length := fun i hi => by
    simp at hi
    rw [List.getD_eq_getElem?_getD, List.getD_eq_getElem?_getD, List.getElem?_take_of_lt (by omega)]
    exact ⟨rfl, by omega⟩
  refine ⟨fun i hi => by rw [(hg i hi).1]; exact h.1 i (hg i hi).2, fun hn => ?_⟩
  obtain ⟨b, off, e, hb, hc⟩ := h.2 (by simp at hn; omega)
  exact ⟨b, off, e, hb, fun i hi => by rw [(hg i hi).1]; exact hc i (hg i hi).2⟩
theorem Bytes.tail {w : World} {B : Nat} {A : Option Addr} {zs : List Int} (h : Bytes w B A zs) (k cap : Nat) (hc : zs.length ≤ cap) : Bytes w B (tailA A cap k) (zs.drop k) := by
  have hg : ∀ i, i < (zs.drop k).length → (zs.drop k).getD i 0 = zs.getD (k + i) 0 ∧ k + i < zs.length := fun i hi => by
    simp at hi
    rw [List.getD_eq_getElem?_getD, List.getD_eq_getElem?_getD, List.getElem?_drop]
    exact ⟨rfl, by omega⟩
  refine ⟨fun i hi => by rw [(hg i hi).1]; exact h.1 _ (hg i hi).2, fun hn => ?_⟩
  have hk := (hg 0 hn).2
  obtain ⟨b, off, rfl, hb, hcell⟩ := h.2 (by omega)
  refine ⟨b, off + k, ?_, hb, fun i hi => ?_⟩
  · unfold tailA
    rw [if_neg (by omega)]
    show some (Addr.add ⟨b, off, none⟩ k) = _
    rw [add_off]
  · rw [(hg i hi).1, Nat.add_assoc]
    exact hcell _ (hg i hi).2

/-! ### A row of the call's own -/
def OwnB (w : World) (base : Nat) (A : Option Addr) (cap : Nat) (zs : List Int) : Prop :=
  w.ownsRow base 5 1 (.slice A zs.length cap) zs.length (zs.map (Value.int .u8)) ∧ ∀ i, i < zs.length → 0 ≤ zs.getD i 0 ∧ zs.getD i 0 ≤ 255
theorem OwnB.bytes {w : World} {base : Nat} {A : Option Addr} {cap : Nat} {zs : List Int} (h : OwnB w base A cap zs) : Bytes w w.heap.size A zs := by
  refine ⟨h.2, fun hn => ?_⟩
  obtain ⟨g, c, e⟩ := Joins.ownsRow_form h.1 hn
  injection e with e1 e2 e3
  subst e1 e3
  have hlt := h.1.lt g (by simp [Value.ownBlock])
  refine ⟨g, 0, rfl, hlt.2, fun i hi => ?_⟩
  rw [Nat.zero_add, h.1.cellAt i (by omega)]
  simp [hi]
theorem OwnB.cap_ {w : World} {base : Nat} {A : Option Addr} {cap : Nat} {zs : List Int} (h : OwnB w base A cap zs) : zs.length ≤ cap := by
  rcases h.1.2 with ⟨e, e0⟩ | ⟨g, c', cur, e, _, _, hle, _⟩
  · omega
  · injection e with e1 e2 e3; omega
theorem OwnB.start (w : World) (base : Nat) (hb : base ≤ w.heap.size) : OwnB (w.alloc (.cells #[] 5)) base (some ⟨w.heap.size, 0, none⟩) 0 [] :=
  ⟨World.ownsRow_lit w #[] 0 hb (by decide) rfl, fun i hi => by simp at hi⟩
theorem OwnB.start_at (w : World) (n : Nat) (hn : n = w.heap.size) : OwnB (w.alloc (.cells #[] 5)) n (some ⟨n, 0, none⟩) 0 [] := by
  subst hn; exact OwnB.start w _ (Nat.le_refl _)
theorem OwnB.low {w : World} {base b : Nat} {A : Option Addr} {cap : Nat} {zs : List Int} (h : OwnB w base A cap zs) (hb : b ≤ base) : OwnB w b A cap zs := ⟨Joins.ownsRow_le h.1 hb, h.2⟩
theorem OwnB.none_ (w : World) (base : Nat) : OwnB w base none 0 [] := ⟨World.ownsRow_nil w base _ _, fun i hi => by simp at hi⟩
theorem OwnB.shape {w : World} {base : Nat} {A : Option Addr} {cap : Nat} {zs : List Int} (h : OwnB w base A cap zs) (hn : 0 < zs.length) : ∃ g, A = some ⟨g, 0, none⟩ ∧ base ≤ g ∧ g < w.heap.size := by
  obtain ⟨g, c, e⟩ := Joins.ownsRow_form h.1 hn
  injection e with e1 e2 e3
  subst e1 e3
  have hlt := h.1.lt g (by simp [Value.ownBlock])
  exact ⟨g, rfl, hlt.1, hlt.2⟩
theorem OwnB.cell {w : World} {base g cap : Nat} {zs : List Int} (h : OwnB w base (some ⟨g, 0, none⟩) cap zs) {j : Nat} (hj : j < zs.length) :
    w.cell? ⟨g, j, none⟩ = some (.int .u8 (zs.getD j 0)) ∧ w.frozen? ⟨g, j, none⟩ = false := by
  refine ⟨?_, h.1.frozenAt j⟩
  rw [h.1.cellAt j (by omega)]
  simp [hj]
/-- An owned row is kept where its block is. -/
theorem OwnB.keep {w w' : World} {base : Nat} {A : Option Addr} {cap : Nat} {zs : List Int} (h : OwnB w base A cap zs) (hk : ∀ a, A = some a → w'.heap[a.block]? = w.heap[a.block]?) : OwnB w' base A cap zs := by
  refine ⟨⟨h.1.1, ?_⟩, h.2⟩
  rcases h.1.2 with e | ⟨g, c', cur, e, hb, hg, r⟩
  · exact .inl e
  · injection e with e1 e2 e3
    subst e1 e3
    exact .inr ⟨g, _, cur, rfl, hb, by rw [hk _ rfl]; exact hg, r⟩
/-- It is no object's block. -/
theorem OwnB.ne {w : World} {base : Nat} {a : Addr} {cap : Nat} {zs : List Int} (h : OwnB w base (some a) cap zs) {g : Nat} {cs : Array Value} {t : TypeId} {fz : Nat × Nat} (ho : w.heap[g]? = some (.cells cs t fz)) (ht : t ≠ 5) : a.block ≠ g := by
  rintro rfl
  rcases h.1.2 with ⟨e, _⟩ | ⟨g, c', cur, e, hb, hg, r⟩
  · cases e
  · injection e with e1 e2 e3
    injection e1 with e1
    subst e1
    rw [ho] at hg
    injection hg with hg
    injection hg with _ h2 _
    exact ht h2
theorem OwnB.set {w : World} {base : Nat} {A : Option Addr} {cap : Nat} {zs : List Int} (h : OwnB w base A cap zs) {g : Nat} {cs : Array Value} {t : TypeId} {fz : Nat × Nat} (ho : w.heap[g]? = some (.cells cs t fz)) (ht : t ≠ 5) (o : Nat) (v : Value) :
    OwnB (w.setCell ⟨g, o, none⟩ v) base A cap zs :=
  h.keep fun a ha => by subst ha; exact Below.heap_setCell _ _ _ _ (h.ne ho ht)
theorem OwnB.grew {w w' : World} {base B : Nat} {A : Option Addr} {cap : Nat} {zs : List Int} (h : OwnB w base A cap zs) (hb : Below B w w') (hB : w.heap.size ≤ B) : OwnB w' base A cap zs :=
  h.keep fun a ha => by
    subst ha
    exact hb.block _ (by have := (h.1.lt a.block (by simp [Value.ownBlock])).2; omega)
/-- A row of the call's own, or a full one (a literal of bytes): an append of something to it ends in a row of the call's own. -/
def Row (w : World) (base : Nat) (A : Option Addr) (cap : Nat) (xs : List Int) : Prop :=
  OwnB w base A cap xs ∨ (cap = xs.length ∧ 0 < xs.length ∧ Bytes w w.heap.size A xs)
theorem u8_info : (Tryd.prog.info? 5).map (fun i => (i.zero, i.size, i.bytes)) = some (some (.int .u8 0), 1, 1) := by kernel_rfl
theorem nil_src {w : World} {base : Nat} {A : Option Addr} {cap : Nat} {zs : List Int} (h : OwnB w base A cap zs) (c : Nat) (ty : TypeId) :
    (Builtin.append_ #[27, 27] ty #[.slice A zs.length cap, .slice none 0 c]).run Tryd.prog w = .ok (.slice A zs.length cap) w := by
  obtain ⟨i, hi, _, _, _⟩ := info_parts u8_info
  have hfit := h.1.2
  rcases hfit with ⟨e, _⟩ | ⟨g, c', cur, e, _, _, hle, _⟩
  · rw [e]
    simp [Builtin.append_, run_underlying Tryd.underlying27, sizeOf, typeInfo, hi, Builtin.lenOf, Builtin.firstCells]
  · rw [e]
    simp [Builtin.append_, run_underlying Tryd.underlying27, sizeOf, typeInfo, hi, Builtin.lenOf, Builtin.firstCells, hle, storeCells]
theorem rng_app {xs zs : List Int} (hx : ∀ i, i < xs.length → 0 ≤ xs.getD i 0 ∧ xs.getD i 0 ≤ 255) (hz : ∀ i, i < zs.length → 0 ≤ zs.getD i 0 ∧ zs.getD i 0 ≤ 255) :
    ∀ i, i < (xs ++ zs).length → 0 ≤ (xs ++ zs).getD i 0 ∧ (xs ++ zs).getD i 0 ≤ 255 := fun i hi => by
  rw [List.getD_eq_getElem?_getD]
  by_cases h : i < xs.length
  · rw [List.getElem?_append_left h, ← List.getD_eq_getElem?_getD]; exact hx i h
  · rw [List.getElem?_append_right (by omega), ← List.getD_eq_getElem?_getD]
    rw [List.length_append] at hi
    exact hz _ (by omega)
theorem cells_of {w : World} {B : Nat} {ad : Addr} {zs : List Int} (hb : Bytes w B (some ad) zs) : ∀ j u, (zs.map (Value.int .u8))[j]? = some u → w.cell? (ad.add j) = some u := fun j u hu => by
  rw [List.getElem?_map] at hu
  obtain ⟨z, hz1, rfl⟩ := Option.map_eq_some_iff.1 hu
  have hj : j < zs.length := (List.getElem?_eq_some_iff.1 hz1).1
  obtain ⟨b, off, e, _, hc⟩ := hb.2 (by omega)
  injection e with e
  subst e
  rw [add_off, hc j hj, List.getD_eq_getElem?_getD, hz1]
  rfl
theorem form_of {w : World} {base n : Nat} {v : Value} {xs : List Value} (h : w.ownsRow base 5 1 v n xs) : ∃ A cap, v = .slice A n cap := by
  rcases h.2 with ⟨e, e0⟩ | ⟨g, c', _, e, _⟩
  · exact ⟨none, 0, by rw [e0]; exact e⟩
  · exact ⟨_, _, e⟩
theorem grew_of {w w' : World} {base : Nat} {row : Option Nat} (hg : w.grownBy w' row) (hbase : base ≤ w.heap.size) (h1 : ∀ k, row = some k → base ≤ k)
    (h2 : ∀ k, row = some k → ∃ cur, w.heap[k]? = some (.cells cur 5 (0, 0))) : Grew base w w' := by
  refine ⟨(Below.refl _ _).grown hg hbase h1, fun g cs t fz ho ht => ?_⟩
  rw [hg.block g (lt_of_block ho) ?_]
  · exact ho
  · rintro e
    obtain ⟨cur, hc⟩ := h2 g e.symm
    rw [ho] at hc
    injection hc with hc
    injection hc with _ hc _
    exact ht hc
theorem row_block {w : World} {base n : Nat} {v : Value} {xs : List Value} (h : w.ownsRow base 5 1 v n xs) : ∀ k, v.ownBlock = some k → base ≤ k ∧ ∃ cur, w.heap[k]? = some (.cells cur 5 (0, 0)) := fun k hk => by
  refine ⟨(h.lt k hk).1, ?_⟩
  rcases h.2 with ⟨e, _⟩ | ⟨g, c', cur, e, _, hg, _⟩
  · rw [e] at hk; cases hk
  · rw [e] at hk; simp [Value.ownBlock] at hk; subst hk; exact ⟨cur, hg⟩
/-- What an append of bytes onto a row of the call's own leaves: the row with the bytes behind it. -/
theorem run_app {w : World} {base : Nat} {A : Option Addr} {cap : Nat} {xs : List Int} (h : OwnB w base A cap xs) (hbase : base ≤ w.heap.size)
    {B : Nat} {A2 : Option Addr} {zs : List Int} (hb : Bytes w B A2 zs) (c : Nat) (hlen : xs.length + zs.length ≤ 1073741824) (ty : TypeId) :
    ∃ A' cap' w', (Builtin.append_ #[27, 27] ty #[.slice A xs.length cap, .slice A2 zs.length c]).run Tryd.prog w = .ok (.slice A' (xs ++ zs).length cap') w' ∧
      OwnB w' base A' cap' (xs ++ zs) ∧ Grew base w w' := by
  have rng := rng_app h.2 hb.1
  obtain ⟨i, hi, hz, hs, hy⟩ := info_parts u8_info
  rcases A2 with _ | ad
  · have h0 : zs = [] := by
      rcases Nat.eq_zero_or_pos zs.length with h0 | h0
      · exact List.eq_nil_of_length_eq_zero h0
      · obtain ⟨_, _, e, _⟩ := hb.2 h0; cases e
    subst h0
    refine ⟨A, cap, w, ?_, ?_, Grew.refl _ _⟩
    · rw [List.append_nil]; exact nil_src h c ty
    · rw [List.append_nil]; exact h
  · obtain ⟨v', w', hrun, hown, hg, _, hblk⟩ := run_append_own_at (P := Tryd.prog) (w := w) base 27 ty 5 i _ 1 1 Tryd.underlying27 hi hz hs hy rfl (by decide)
      _ xs.length _ h.1 ad zs.length c (zs.map (Value.int .u8)) (by simp) (cells_of hb) (fun u hu => by simp at hu; obtain ⟨z, _, rfl⟩ := hu; rfl) (by unfold maxLen; omega) (by omega) hbase
    obtain ⟨A', cap', rfl⟩ := form_of hown
    rw [← List.length_append] at hrun hown
    refine ⟨A', cap', w', hrun, ⟨?_, rng⟩, grew_of hg hbase (fun k hk => (row_block h.1 k hk).1) (fun k hk => (row_block h.1 k hk).2)⟩
    rw [List.map_append]
    exact hown
theorem run_appR {w : World} {base : Nat} {A : Option Addr} {cap : Nat} {xs : List Int} (h : Row w base A cap xs) (hbase : base ≤ w.heap.size)
    {B : Nat} {A2 : Option Addr} {zs : List Int} (hb : Bytes w B A2 zs) (hn : 0 < zs.length) (c : Nat) (hlen : xs.length + zs.length ≤ 1073741824) (ty : TypeId) :
    ∃ A' cap' w', (Builtin.append_ #[27, 27] ty #[.slice A xs.length cap, .slice A2 zs.length c]).run Tryd.prog w = .ok (.slice A' (xs ++ zs).length cap') w' ∧
      OwnB w' base A' cap' (xs ++ zs) ∧ Grew base w w' := by
  rcases h with h | ⟨hc, hp, hx⟩
  · exact run_app h hbase hb c hlen ty
  · obtain ⟨i, hi, hz, hs, hy⟩ := info_parts u8_info
    obtain ⟨b1, off1, rfl, _, _⟩ := hx.2 hp
    obtain ⟨b2, off2, rfl, _, _⟩ := hb.2 hn
    obtain ⟨v', w', hrun, hown, hg⟩ := run_append_arg_grows (P := Tryd.prog) w 27 ty 5 i _ 1 1 Tryd.underlying27 hi hz hs hy rfl (by decide)
      _ xs.length cap (xs.map (Value.int .u8)) (by simp) (cells_of hx) _ zs.length c (zs.map (Value.int .u8)) (by simp) (cells_of hb)
      (by omega) (by unfold maxLen; omega) (by omega)
    obtain ⟨A', cap', rfl⟩ := form_of hown
    rw [← List.length_append] at hrun hown
    refine ⟨A', cap', w', hrun, ⟨?_, rng_app hx.1 hb.1⟩, grew_of hg hbase (fun k hk => by cases hk) (fun k hk => by cases hk)⟩
    rw [List.map_append]
    exact Joins.ownsRow_le hown hbase
def strB_ (s : ByteArray) : List Int := s.data.toList.map fun c => (c.toNat : Int)
theorem strB_cells (s : ByteArray) : Lib.strCells s = (strB_ s).map (Value.int .u8) := by
  unfold Lib.strCells strB_; rw [List.map_map]; rfl
theorem strB_size (s : ByteArray) : (strB_ s).length = s.size := by unfold strB_; rw [List.length_map, Array.length_toList]; rfl
theorem strB_rng (s : ByteArray) : ∀ i, i < (strB_ s).length → 0 ≤ (strB_ s).getD i 0 ∧ (strB_ s).getD i 0 ≤ 255 := fun i hi => by
  have hm : (strB_ s).getD i 0 ∈ strB_ s := by rw [List.getD_eq_getElem?_getD, List.getElem?_eq_getElem hi]; exact List.getElem_mem hi
  generalize (strB_ s).getD i 0 = z at hm
  simp only [strB_, List.mem_map] at hm
  obtain ⟨c, _, rfl⟩ := hm
  have := c.toNat_lt
  omega
theorem run_app_str {w : World} {base : Nat} {A : Option Addr} {cap : Nat} {xs : List Int} (h : OwnB w base A cap xs) (hbase : base ≤ w.heap.size)
    (s : ByteArray) (hlen : xs.length + s.size ≤ 1073741824) (ty : TypeId) :
    ∃ A' cap' w', (Builtin.append_ #[27, 9] ty #[.slice A xs.length cap, .string s]).run Tryd.prog w = .ok (.slice A' (xs ++ strB_ s).length cap') w' ∧
      OwnB w' base A' cap' (xs ++ strB_ s) ∧ Grew base w w' := by
  obtain ⟨i, hi, hz, hs, hy⟩ := info_parts u8_info
  obtain ⟨v', w', hrun, hown, hg, _⟩ := Lib.run_append_own_string (P := Tryd.prog) w base 27 9 ty 5 i Tryd.underlying27 Tryd.underlying9 hi hz hs hy
    _ xs.length _ h.1 s (by unfold maxLen; omega) (by omega) hbase
  obtain ⟨A', cap', rfl⟩ := form_of hown
  have e : xs.length + s.size = (xs ++ strB_ s).length := by rw [List.length_append, strB_size]
  rw [e] at hrun hown
  refine ⟨A', cap', w', hrun, ⟨?_, rng_app h.2 (strB_rng s)⟩, grew_of hg hbase (fun k hk => (row_block h.1 k hk).1) (fun k hk => (row_block h.1 k hk).2)⟩
  rw [List.map_append, ← strB_cells]
  exact hown

/-! The same at the operation, for a walk. -/
theorem wp_app {w : World} {ops : Array Oper} {rest : List Oper} {o : Oper} {a : Act} {Q : Exit → Act → World → Prop} (hgd : o.guard = none) (s x : Operand)
    (ho : o.op = .call { callee := .builtin .append, args := #[s, x], argTypes := #[27, 27] })
    {base : Nat} {A : Option Addr} {n cap : Nat} {xs : List Int} (hs : a.eval s = .slice A n cap) (hn : n = xs.length) (h : OwnB w base A cap xs) (hbase : base ≤ w.heap.size)
    {B : Nat} {A2 : Option Addr} {m c : Nat} {zs : List Int} (hx : a.eval x = .slice A2 m c) (hm : m = zs.length) (hb : Bytes w B A2 zs) (hlen : xs.length + zs.length ≤ 1073741824)
    (K : ∀ A' cap' w', OwnB w' base A' cap' (xs ++ zs) → Grew base w w' → wpList Tryd.prog ops Q rest (a.put o.dst (.slice A' (xs ++ zs).length cap')) w') :
    wpList Tryd.prog ops Q (o :: rest) a w := by
  subst hn hm
  obtain ⟨A', cap', w', hrun, h1, h2⟩ := run_app h hbase hb c hlen o.type
  refine wpList_plain hgd fun K' hK => ?_
  unfold Oper.wp
  simp [execOp, ho, resolve, invoke, builtin, hs, hx, hrun, Result.andThen]
  have hk := K A' cap' w' h1 h2
  rw [List.length_append] at hk
  exact hK _ _ hk
theorem wp_appR {w : World} {ops : Array Oper} {rest : List Oper} {o : Oper} {a : Act} {Q : Exit → Act → World → Prop} (hgd : o.guard = none) (s x : Operand)
    (ho : o.op = .call { callee := .builtin .append, args := #[s, x], argTypes := #[27, 27] })
    {base : Nat} {A : Option Addr} {n cap : Nat} {xs : List Int} (hs : a.eval s = .slice A n cap) (hn : n = xs.length) (h : Row w base A cap xs) (hbase : base ≤ w.heap.size)
    {B : Nat} {A2 : Option Addr} {m c : Nat} {zs : List Int} (hx : a.eval x = .slice A2 m c) (hm : m = zs.length) (hb : Bytes w B A2 zs) (hp : 0 < zs.length) (hlen : xs.length + zs.length ≤ 1073741824)
    (K : ∀ A' cap' w', OwnB w' base A' cap' (xs ++ zs) → Grew base w w' → wpList Tryd.prog ops Q rest (a.put o.dst (.slice A' (xs ++ zs).length cap')) w') :
    wpList Tryd.prog ops Q (o :: rest) a w := by
  subst hn hm
  obtain ⟨A', cap', w', hrun, h1, h2⟩ := run_appR h hbase hb hp c hlen o.type
  refine wpList_plain hgd fun K' hK => ?_
  unfold Oper.wp
  simp [execOp, ho, resolve, invoke, builtin, hs, hx, hrun, Result.andThen]
  have hk := K A' cap' w' h1 h2
  rw [List.length_append] at hk
  exact hK _ _ hk
theorem wp_app_str {w : World} {ops : Array Oper} {rest : List Oper} {o : Oper} {a : Act} {Q : Exit → Act → World → Prop} (hgd : o.guard = none) (s x : Operand)
    (ho : o.op = .call { callee := .builtin .append, args := #[s, x], argTypes := #[27, 9] })
    {base : Nat} {A : Option Addr} {n cap : Nat} {xs : List Int} (hs : a.eval s = .slice A n cap) (hn : n = xs.length) (h : OwnB w base A cap xs) (hbase : base ≤ w.heap.size)
    {t : ByteArray} (hx : a.eval x = .string t) (hlen : xs.length + t.size ≤ 1073741824)
    (K : ∀ A' cap' w', OwnB w' base A' cap' (xs ++ strB_ t) → Grew base w w' → wpList Tryd.prog ops Q rest (a.put o.dst (.slice A' (xs ++ strB_ t).length cap')) w') :
    wpList Tryd.prog ops Q (o :: rest) a w := by
  subst hn
  obtain ⟨A', cap', w', hrun, h1, h2⟩ := run_app_str h hbase t hlen o.type
  refine wpList_plain hgd fun K' hK => ?_
  unfold Oper.wp
  simp [execOp, ho, resolve, invoke, builtin, hs, hx, hrun, Result.andThen]
  have hk := K A' cap' w' h1 h2
  rw [List.length_append] at hk
  exact hK _ _ hk
end Go.Proofs.YtighnooklcmjaaaDoor
/-
  Slices of strings and of signed numbers that came in, as the walks take them.
-/
namespace Go.Proofs.YtighnooklcmjaaaDoor
open Go.ChangeShapes Go.WideShapes Go.ChangeAt Go.RowKit
/-- The slice at address A whose elements are the strings ss, below block B. -/
def Strs (w : World) (B : Nat) (A : Option Addr) (ss : List ByteArray) : Prop :=
  (∀ i, i < ss.length → (ss.getD i ByteArray.empty).size ≤ 9223372036854775807) ∧
  (0 < ss.length → ∃ b off, A = some ⟨b, off, none⟩ ∧ b < B ∧ ∀ i, i < ss.length → w.cell? ⟨b, off + i, none⟩ = some (.string (ss.getD i ByteArray.empty)))
theorem Strs.at_ {w : World} {B : Nat} {A : Option Addr} {ss : List ByteArray} {k : Nat} (h : Strs w B A ss) (hk : k < ss.length) :
    ∃ b off s, A = some ⟨b, off, none⟩ ∧ Hid (b < B) ∧ w.cell? ⟨b, off + k, none⟩ = some (.string s) ∧ Hid (ss.getD k ByteArray.empty = s) ∧ s.size ≤ 9223372036854775807 := by
  obtain ⟨b, off, e, hb, hc⟩ := h.2 (by omega)
  exact ⟨b, off, _, e, Lib.hid hb, hc k hk, Lib.hid rfl, h.1 k hk⟩
theorem Strs.nil_ {w : World} {B : Nat} {A : Option Addr} : Strs w B A [] := ⟨fun i h => by simp at h, fun h => by simp at h⟩
theorem Strs.below {w w' : World} {B : Nat} {A : Option Addr} {ss : List ByteArray} (h : Strs w B A ss) (hb : Below B w w') : Strs w' B A ss :=
  ⟨h.1, fun hn => by
    obtain ⟨b, off, e, hl, hc⟩ := h.2 hn
    exact ⟨b, off, e, hl, fun i hi => (hb.cell (p := ⟨b, _, none⟩) hl).trans (hc i hi)⟩⟩
/-- The slice at address A whose elements are the signed numbers zs, below block B. -/
def Nums (w : World) (B : Nat) (A : Option Addr) (zs : List Int) : Prop :=
  (∀ i, i < zs.length → -9223372036854775808 ≤ zs.getD i 0 ∧ zs.getD i 0 ≤ 9223372036854775807) ∧
  (0 < zs.length → ∃ b off, A = some ⟨b, off, none⟩ ∧ b < B ∧ ∀ i, i < zs.length → w.cell? ⟨b, off + i, none⟩ = some (.int .i64 (zs.getD i 0)))
theorem Nums.at_ {w : World} {B : Nat} {A : Option Addr} {zs : List Int} {k : Nat} (h : Nums w B A zs) (hk : k < zs.length) :
    ∃ b off z, A = some ⟨b, off, none⟩ ∧ Hid (b < B) ∧ w.cell? ⟨b, off + k, none⟩ = some (.int .i64 z) ∧ Hid (zs.getD k 0 = z) ∧ -9223372036854775808 ≤ z ∧ z ≤ 9223372036854775807 := by
  obtain ⟨b, off, e, hb, hc⟩ := h.2 (by omega)
  exact ⟨b, off, _, e, Lib.hid hb, hc k hk, Lib.hid rfl, (h.1 k hk).1, (h.1 k hk).2⟩
theorem Nums.nil_ {w : World} {B : Nat} {A : Option Addr} : Nums w B A [] := ⟨fun i h => by simp at h, fun h => by simp at h⟩
theorem Nums.below {w w' : World} {B : Nat} {A : Option Addr} {zs : List Int} (h : Nums w B A zs) (hb : Below B w w') : Nums w' B A zs :=
  ⟨h.1, fun hn => by
    obtain ⟨b, off, e, hl, hc⟩ := h.2 hn
    exact ⟨b, off, e, hl, fun i hi => (hb.cell (p := ⟨b, _, none⟩) hl).trans (hc i hi)⟩⟩
theorem getD_take {α : Type} (l : List α) (n i : Nat) (d : α) (h : i < n) : (l.take n).getD i d = l.getD i d := by
  rw [List.getD_eq_getElem?_getD, List.getD_eq_getElem?_getD, List.getElem?_take_of_lt h]
theorem strs_of {W : World} {x : Addr} {len : Nat} {ss : List ByteArray} (hl : len ≤ ss.length) (hc : ∀ i, i < ss.length → W.cell? (x.add i) = some (.string (ss.getD i ByteArray.empty))) (hs : ∀ s ∈ ss, s.size ≤ maxLen) :
    Strs W W.heap.size (some x) (ss.take len) := by
  have hlen : (ss.take len).length = len := by simp; omega
  refine ⟨fun i hi => ?_, fun hn => ?_⟩
  · rw [hlen] at hi
    rw [getD_take _ _ _ _ hi, List.getD_eq_getElem?_getD, List.getElem?_eq_getElem (by omega)]
    have h := hs _ (List.getElem_mem (show i < ss.length by omega))
    unfold maxLen at h
    exact h
  · rw [hlen] at hn
    obtain ⟨b, off, spot⟩ := x
    have h0 := hc 0 (by omega)
    have hspot : spot = none := by simpa [Addr.add] using World.cell?_spot h0
    subst hspot
    refine ⟨b, off, rfl, ?_, fun i hi => ?_⟩
    · rw [add_off] at h0
      exact block_lt h0
    · rw [hlen] at hi
      rw [getD_take _ _ _ _ hi, ← add_off]
      exact hc i (by omega)
theorem nums_of {W : World} {x : Addr} {len : Nat} {zs : List Int} (hl : len ≤ zs.length) (hc : ∀ i, i < zs.length → W.cell? (x.add i) = some (.int .i64 (zs.getD i 0))) (hw : ∀ n ∈ zs, (Lit.int .i64 n).wf = true) :
    Nums W W.heap.size (some x) (zs.take len) := by
  have hlen : (zs.take len).length = len := by simp; omega
  refine ⟨fun i hi => ?_, fun hn => ?_⟩
  · rw [hlen] at hi
    rw [getD_take _ _ _ _ hi, List.getD_eq_getElem?_getD, List.getElem?_eq_getElem (by omega)]
    have h := hw _ (List.getElem_mem (show i < zs.length by omega))
    simpa [Lit.wf, IntKind.min, IntKind.max, IntKind.bits, IntKind.signed] using h
  · rw [hlen] at hn
    obtain ⟨b, off, spot⟩ := x
    have h0 := hc 0 (by omega)
    have hspot : spot = none := by simpa [Addr.add] using World.cell?_spot h0
    subst hspot
    refine ⟨b, off, rfl, ?_, fun i hi => ?_⟩
    · rw [add_off] at h0
      exact block_lt h0
    · rw [hlen] at hi
      rw [getD_take _ _ _ _ hi, ← add_off]
      exact hc i (by omega)
end Go.Proofs.YtighnooklcmjaaaDoor
/-
  Rows of strings of the call's own, grown by append.
-/
namespace Go.Proofs.YtighnooklcmjaaaDoor
open Go.RowKit

def OwnT (w : World) (base : Nat) (A : Option Addr) (cap : Nat) (ss : List ByteArray) : Prop := w.ownsRow base 9 1 (.slice A ss.length cap) ss.length (ss.map Value.string)
theorem txt_info : (Tryd.prog.info? 9).map (fun i => (i.zero, i.size, i.bytes)) = some (some (.string ⟨#[]⟩), 1, 16) := by kernel_rfl
theorem form_ofT {w : World} {base n : Nat} {v : Value} {xs : List Value} (h : w.ownsRow base 9 1 v n xs) : ∃ A cap, v = .slice A n cap := by
  rcases h.2 with ⟨e, e0⟩ | ⟨g, c', _, e, _⟩
  · exact ⟨none, 0, by rw [e0]; exact e⟩
  · exact ⟨_, _, e⟩
theorem run_appT {w : World} {base : Nat} {A : Option Addr} {cap : Nat} {ss : List ByteArray} {x : ByteArray} (h : OwnT w base A cap ss) (hbase : base ≤ w.heap.size) {b2 : Nat} (hx : w.cell? ⟨b2, 0, none⟩ = some (.string x)) (c : Nat) (hlen : ss.length ≤ 1000000000) (ty : TypeId) :
    ∃ A' cap' w', (Builtin.append_ #[55, 55] ty #[.slice A ss.length cap, .slice (some ⟨b2, 0, none⟩) 1 c]).run Tryd.prog w = .ok (.slice A' (ss ++ [x]).length cap') w' ∧
      OwnT w' base A' cap' (ss ++ [x]) ∧ w.grownBy w' (Value.slice A ss.length cap).ownBlock := by
  obtain ⟨i, hi, hz0, hs, hyb⟩ := info_parts txt_info
  obtain ⟨v', w', hrun, hown, hg, _, _⟩ := run_append_own_at (P := Tryd.prog) (w := w) base 55 ty 9 i _ 1 16 Tryd.underlying55 hi hz0 hs hyb rfl (by decide)
    _ ss.length _ h ⟨b2, 0, none⟩ 1 c [.string x] rfl (fun j u hu => by
      rw [add_off, Nat.zero_add]
      match j, hu with
      | 0, hu => simp at hu; rw [← hu]; exact hx
      | j + 1, hu => simp at hu) (fun u hu => by simp at hu; subst hu; rfl) (by unfold maxLen; omega) (by omega) hbase
  obtain ⟨A', cap', rfl⟩ := form_ofT hown
  have e : ss.length + 1 = (ss ++ [x]).length := by simp
  rw [e] at hrun hown
  refine ⟨A', cap', w', hrun, ?_, hg⟩
  unfold OwnT
  rw [List.map_append]
  exact hown
theorem wp_appT {w : World} {ops : Array Oper} {rest : List Oper} {o : Oper} {a : Act} {Q : Exit → Act → World → Prop} (hgd : o.guard = none) (s t : Operand)
    (ho : o.op = .call { callee := .builtin .append, args := #[s, t], argTypes := #[55, 55] })
    {base : Nat} {A : Option Addr} {n cap : Nat} {ss : List ByteArray} {x : ByteArray} (hs : a.eval s = .slice A n cap) (hn : n = ss.length) (h : OwnT w base A cap ss) (hbase : base ≤ w.heap.size)
    {b2 c : Nat} (ht : a.eval t = .slice (some ⟨b2, 0, none⟩) 1 c) (hx : w.cell? ⟨b2, 0, none⟩ = some (.string x)) (hlen : ss.length ≤ 1000000000)
    (K : ∀ A' cap' w', OwnT w' base A' cap' (ss ++ [x]) → w.grownBy w' (Value.slice A ss.length cap).ownBlock → wpList Tryd.prog ops Q rest (a.put o.dst (.slice A' (ss ++ [x]).length cap')) w') :
    wpList Tryd.prog ops Q (o :: rest) a w := by
  subst hn
  obtain ⟨A', cap', w', hrun, h1, h2⟩ := run_appT h hbase hx c hlen o.type
  refine wpList_plain hgd fun K' hK => ?_
  unfold Oper.wp
  simp [execOp, ho, resolve, invoke, builtin, hs, ht, hrun, Result.andThen]
  have hk := K A' cap' w' h1 h2
  rw [List.length_append, List.length_singleton] at hk
  exact hK _ _ hk
theorem OwnT.none_ (w : World) (base : Nat) : OwnT w base none 0 [] := World.ownsRow_nil w base _ _
theorem OwnT.keep {w w' : World} {base : Nat} {A : Option Addr} {cap : Nat} {ss : List ByteArray} (h : OwnT w base A cap ss) (hb : Below w.heap.size w w') : OwnT w' base A cap ss := by
  refine ⟨h.1, ?_⟩
  rcases h.2 with e | ⟨g, c', cur, e, hb2, hg, r⟩
  · exact .inl e
  · exact .inr ⟨g, _, cur, e, hb2, (hb.block g (lt_of_block hg)).trans hg, r⟩
theorem grownT_below {w w' : World} {base : Nat} {A : Option Addr} {cap n : Nat} {ss : List ByteArray} (h : OwnT w base A cap ss) (hbase : base ≤ w.heap.size) (hg : w.grownBy w' (Value.slice A n cap).ownBlock) : Below base w w' :=
  (Below.refl _ _).grown hg hbase fun k hk => by
    cases A with
    | none => cases hk
    | some a => simp [Value.ownBlock] at hk; subst hk; exact (World.ownsRow.lt h a.block (by simp [Value.ownBlock])).1
theorem OwnT.strs {w : World} {base : Nat} {A : Option Addr} {cap : Nat} {ss : List ByteArray} (h : OwnT w base A cap ss) (hs : ∀ s ∈ ss, s.size ≤ 9223372036854775807) : Strs w w.heap.size A ss := by
  refine ⟨fun i hi => ?_, fun hp => ?_⟩
  · rw [List.getD_eq_getElem?_getD, List.getElem?_eq_getElem hi]; exact hs _ (List.getElem_mem hi)
  · obtain ⟨g, c, e⟩ := Joins.ownsRow_form h hp
    injection e with e1 e2 e3
    subst e1 e3
    refine ⟨g, 0, rfl, (World.ownsRow.lt h g (by simp [Value.ownBlock])).2, fun i hi => ?_⟩
    have hc := World.ownsRow.cellAt h i (by omega)
    rw [Nat.zero_add, hc, List.getElem?_map, List.getElem?_eq_getElem hi, List.getD_eq_getElem?_getD, List.getElem?_eq_getElem hi]
    rfl
theorem OwnT.start (w : World) (base : Nat) (hb : base ≤ w.heap.size) : OwnT (w.alloc (.cells #[] 9)) base (some ⟨w.heap.size, 0, none⟩) 0 [] := World.ownsRow_lit w #[] 0 hb (by decide) rfl
set_option maxRecDepth 20000 in
theorem nil_srcT {w : World} {base : Nat} {A : Option Addr} {cap : Nat} {ss : List ByteArray} (h : OwnT w base A cap ss) (c : Nat) (ty : TypeId) :
    (Builtin.append_ #[55, 55] ty #[.slice A ss.length cap, .slice none 0 c]).run Tryd.prog w = .ok (.slice A ss.length cap) w := by
  obtain ⟨i, hi, _, _, _⟩ := info_parts txt_info
  have hfit := h.2
  rcases hfit with ⟨e, _⟩ | ⟨g, c', cur, e, _, _, hle, _⟩
  · rw [e]
    simp [Builtin.append_, run_underlying Tryd.underlying55, sizeOf, typeInfo, hi, Builtin.lenOf, Builtin.firstCells]
  · rw [e]
    simp [Builtin.append_, run_underlying Tryd.underlying55, sizeOf, typeInfo, hi, Builtin.lenOf, Builtin.firstCells, hle, storeCells]
set_option maxRecDepth 20000 in
theorem run_appTs {w : World} {base : Nat} {A : Option Addr} {cap : Nat} {ss ts : List ByteArray} (h : OwnT w base A cap ss) (hbase : base ≤ w.heap.size) {B : Nat} {A2 : Option Addr} (hx : Strs w B A2 ts) (c : Nat) (hlen : ss.length + ts.length ≤ 1000000000) (ty : TypeId) :
    ∃ A' cap' w', (Builtin.append_ #[55, 55] ty #[.slice A ss.length cap, .slice A2 ts.length c]).run Tryd.prog w = .ok (.slice A' (ss ++ ts).length cap') w' ∧
      OwnT w' base A' cap' (ss ++ ts) ∧ w.grownBy w' (Value.slice A ss.length cap).ownBlock := by
  obtain ⟨i, hi, hz0, hs, hyb⟩ := info_parts txt_info
  rcases A2 with _ | ad
  · have h0 : ts = [] := by
      rcases Nat.eq_zero_or_pos ts.length with h0 | h0
      · exact List.eq_nil_of_length_eq_zero h0
      · obtain ⟨_, _, e, _⟩ := hx.2 h0; cases e
    subst h0
    refine ⟨A, cap, w, ?_, ?_, ⟨rfl, rfl, rfl, Nat.le_refl _, fun _ _ _ => rfl⟩⟩
    · rw [List.append_nil]; exact nil_srcT h c ty
    · rw [List.append_nil]; exact h
  · have hnews : ∀ j u, (ts.map Value.string)[j]? = some u → w.cell? (ad.add j) = some u := fun j u hu => by
      rw [List.getElem?_map] at hu
      obtain ⟨z, hz1, rfl⟩ := Option.map_eq_some_iff.1 hu
      have hj : j < ts.length := (List.getElem?_eq_some_iff.1 hz1).1
      obtain ⟨b, off, e, _, hc⟩ := hx.2 (by omega)
      injection e with e
      subst e
      rw [add_off, hc j hj, List.getD_eq_getElem?_getD, hz1]
      rfl
    obtain ⟨v', w', hrun, hown, hg, _, _⟩ := run_append_own_at (P := Tryd.prog) (w := w) base 55 ty 9 i _ 1 16 Tryd.underlying55 hi hz0 hs hyb rfl (by decide)
      _ ss.length _ h ad ts.length c (ts.map Value.string) (by simp) hnews (fun u hu => by simp at hu; obtain ⟨z, _, rfl⟩ := hu; rfl) (by unfold maxLen; omega) (by omega) hbase
    obtain ⟨A', cap', rfl⟩ := form_ofT hown
    rw [← List.length_append] at hrun hown
    refine ⟨A', cap', w', hrun, ?_, hg⟩
    unfold OwnT
    rw [List.map_append]
    exact hown
set_option maxRecDepth 20000 in
theorem wp_appTs {w : World} {ops : Array Oper} {rest : List Oper} {o : Oper} {a : Act} {Q : Exit → Act → World → Prop} (hgd : o.guard = none) (s t : Operand)
    (ho : o.op = .call { callee := .builtin .append, args := #[s, t], argTypes := #[55, 55] })
    {base : Nat} {A : Option Addr} {n cap : Nat} {ss : List ByteArray} (hs : a.eval s = .slice A n cap) (hn : n = ss.length) (h : OwnT w base A cap ss) (hbase : base ≤ w.heap.size)
    {B : Nat} {A2 : Option Addr} {m c : Nat} {ts : List ByteArray} (ht : a.eval t = .slice A2 m c) (hm : m = ts.length) (hx : Strs w B A2 ts) (hlen : ss.length + ts.length ≤ 1000000000)
    (K : ∀ A' cap' w', OwnT w' base A' cap' (ss ++ ts) → w.grownBy w' (Value.slice A ss.length cap).ownBlock → wpList Tryd.prog ops Q rest (a.put o.dst (.slice A' (ss ++ ts).length cap')) w') :
    wpList Tryd.prog ops Q (o :: rest) a w := by
  subst hn hm
  obtain ⟨A', cap', w', hrun, h1, h2⟩ := run_appTs h hbase hx c hlen o.type
  refine wpList_plain hgd fun K' hK => ?_
  unfold Oper.wp
  simp [execOp, ho, resolve, invoke, builtin, hs, ht, hrun, Result.andThen]
  have hk := K A' cap' w' h1 h2
  rw [List.length_append] at hk
  exact hK _ _ hk
end Go.Proofs.YtighnooklcmjaaaDoor
