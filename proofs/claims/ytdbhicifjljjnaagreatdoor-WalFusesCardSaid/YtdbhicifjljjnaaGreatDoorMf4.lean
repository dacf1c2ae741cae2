/-
  Part 4 of the texts behind the law: BytesKit, FrSum, FrWalks, PairRows, StampKit, RowsKit, I64Rows, BytesIn, StructsIn.
-/
import Derived.Test.YtdbhicifjljjnaaGreatDoorProg
import Derived.WalkKit
import Derived.WalkSpells
import Derived.WalkLawsBesides
import Derived.Lib.Hide
import Derived.Lib.SlBytesConst
import Derived.Lib.AppendStr
import Derived.OwnWalk
import Derived.Laws.OwnMore
import Derived.Laws.BytesArg
import Derived.Maps.AppendAt
import Derived.ArgAppend
import Derived.OneCell
import Derived.Lib.SmallJoins
import Derived.RegionTactic
import Derived.Test.YtdbhicifjljjnaaGreatDoorMf1
import Derived.Test.YtdbhicifjljjnaaGreatDoorMf2
import Derived.Lib.SliceRun
import Derived.Test.YtdbhicifjljjnaaGreatDoorMf3
import Derived.ProofKit
import Derived.OpenShut
import Derived.SliceStrings
import Derived.Deep.Slices
import Derived.ChangeSame
/-
  Slices of bytes in memory: what one holds (nil and empty too), cut, turned into a string, owned by the call, grown by append; what is kept of the other blocks. No function of the program is named here.
-/
namespace Go.Proofs.YtdbhicifjljjnaaGreatDoor
open Go.RowKit

theorem ret_int {k : IntKind} {a b : Int} (h : a = b) : Ending.returned (.int k a) = .returned (.int k b) := by rw [h]
theorem ret_pair {k : IntKind} {a b : Int} {x y : Bool} (h : a = b) (h2 : x = y) : Ending.returned (.tuple #[.int k a, .bool x]) = .returned (.tuple #[.int k b, .bool y]) := by rw [h, h2]
theorem ret_two {k k' : IntKind} {a b c d : Int} (h : a = b) (h2 : c = d) : Ending.returned (.tuple #[.int k a, .int k' c]) = .returned (.tuple #[.int k b, .int k' d]) := by rw [h, h2]
theorem ret_bool {a b : Bool} (h : a = b) : Ending.returned (.bool a) = .returned (.bool b) := by rw [h]
theorem ret_str {a b : ByteArray} (h : a = b) : Ending.returned (.string a) = .returned (.string b) := by rw [h]
theorem add_off (b off j : Nat) : Addr.add ⟨b, off, none⟩ j = ⟨b, off + j, none⟩ := by
  unfold Addr.add
  split
  · next h => subst h; rfl
  · rfl
theorem block_lt {W : World} {b o : Nat} {v : Value} (h : W.cell? ⟨b, o, none⟩ = some v) : b < W.heap.size := by
  rcases Nat.lt_or_ge b W.heap.size with hl | hl
  · exact hl
  · simp [World.cell?, Array.getElem?_eq_none hl] at h

/-! ### What is kept -/
/-- Below block B nothing has changed but block g. -/
structure But (B g : Nat) (w w' : World) : Prop where
  os : w'.os = w.os
  tape : w'.tape = w.tape
  output : w'.output = w.output
  size : w.heap.size ≤ w'.heap.size
  block : ∀ k, k < B → k ≠ g → w'.heap[k]? = w.heap[k]?
theorem But.refl (B g : Nat) (w : World) : But B g w w := ⟨rfl, rfl, rfl, Nat.le_refl _, fun _ _ _ => rfl⟩
theorem But.trans {B g : Nat} {a b c : World} (h : But B g a b) (k : But B g b c) : But B g a c :=
  ⟨k.os.trans h.os, k.tape.trans h.tape, k.output.trans h.output, Nat.le_trans h.size k.size, fun i hi hg => (k.block i hi hg).trans (h.block i hi hg)⟩
theorem But.mono {B B' g : Nat} {w w' : World} (h : But B g w w') (hB : B' ≤ B) : But B' g w w' := ⟨h.os, h.tape, h.output, h.size, fun k hk hg => h.block k (by omega) hg⟩
theorem But.of {B g : Nat} {w w' : World} (h : Below B w w') : But B g w w' := ⟨h.os, h.tape, h.output, h.size, fun k hk _ => h.block k hk⟩
theorem But.below {B B0 g : Nat} {w w' : World} (h : But B g w w') (h1 : B0 ≤ B) (h2 : B0 ≤ g) : Below B0 w w' := ⟨h.os, h.tape, h.output, h.size, fun k hk => h.block k (by omega) (by omega)⟩
theorem But.set (B g o : Nat) (w : World) (v : Value) : But B g w (w.setCell ⟨g, o, none⟩ v) :=
  ⟨rfl, rfl, rfl, by simp [World.setCell], fun k _ hg => Below.heap_setCell _ _ _ _ hg⟩
theorem But.drew {B g : Nat} {a w : World} (h : But B g a w) : But B g a w.drew := ⟨h.os, h.tape, h.output, h.size, h.block⟩
theorem below_n {B : Nat} {a w : World} (h : Below B a w) (n : Nat) : Below B a (w.drewN n) := ⟨h.os, h.tape, h.output, h.size, h.block⟩
theorem But.drewN {B g : Nat} {a w : World} (h : But B g a w) (n : Nat) : But B g a (w.drewN n) := ⟨h.os, h.tape, h.output, h.size, h.block⟩
/-- Below 'base' nothing has changed, and no block of another type than a byte row has. -/
structure Grew (base : Nat) (w w' : World) : Prop where
  below : Below base w w'
  obj : ∀ (g : Nat) (cs : Array Value) (t : TypeId) (fz : Nat × Nat), w.heap[g]? = some (.cells cs t fz) → t ≠ 5 → w'.heap[g]? = some (.cells cs t fz)
theorem Grew.alloc {base : Nat} {a w : World} (h : Grew base a w) (hb : base ≤ w.heap.size) (o : Obj) : Grew base a (w.alloc o) :=
  ⟨h.below.alloc hb o, fun g cs t fz hg ht => by
    have h1 := h.obj g cs t fz hg ht
    rw [Below.heap_alloc _ _ _ (lt_of_block h1)]; exact h1⟩
theorem Grew.refl (base : Nat) (w : World) : Grew base w w := ⟨Below.refl _ _, fun _ _ _ _ h _ => h⟩
theorem Grew.trans {base : Nat} {a b c : World} (h : Grew base a b) (k : Grew base b c) : Grew base a c :=
  ⟨h.below.trans k.below, fun g cs t fz hg ht => k.obj g cs t fz (h.obj g cs t fz hg ht) ht⟩

/-! ### The bytes of a slice -/
/-- The slice at address A whose elements are the numbers zs, each a byte, below block B. -/
def Bytes (w : World) (B : Nat) (A : Option Addr) (zs : List Int) : Prop :=
  (∀ i, i < zs.length → 0 ≤ zs.getD i 0 ∧ zs.getD i 0 ≤ 255) ∧
  (0 < zs.length → ∃ b off, A = some ⟨b, off, none⟩ ∧ b < B ∧ ∀ i, i < zs.length → w.cell? ⟨b, off + i, none⟩ = some (.int .u8 (zs.getD i 0)))
theorem Bytes.at_ {w : World} {B : Nat} {A : Option Addr} {zs : List Int} {k : Nat} (h : Bytes w B A zs) (hk : k < zs.length) :
    ∃ b off z, A = some ⟨b, off, none⟩ ∧ Hid (b < B) ∧ w.cell? ⟨b, off + k, none⟩ = some (.int .u8 z) ∧ Hid (zs.getD k 0 = z) ∧ 0 ≤ z ∧ z ≤ 255 := by
  obtain ⟨b, off, e, hb, hc⟩ := h.2 (by omega)
  exact ⟨b, off, _, e, Lib.hid hb, hc k hk, Lib.hid rfl, (h.1 k hk).1, (h.1 k hk).2⟩
theorem Bytes.nil_ {w : World} {B : Nat} {A : Option Addr} : Bytes w B A [] := ⟨fun i h => by simp at h, fun h => by simp at h⟩
theorem Bytes.keep {w w' : World} {B : Nat} {A : Option Addr} {zs : List Int} (h : Bytes w B A zs) (hk : ∀ b off, b < B → w'.cell? ⟨b, off, none⟩ = w.cell? ⟨b, off, none⟩) : Bytes w' B A zs :=
  ⟨h.1, fun hn => by
    obtain ⟨b, off, e, hb, hc⟩ := h.2 hn
    exact ⟨b, off, e, hb, fun i hi => (hk b _ hb).trans (hc i hi)⟩⟩
theorem Bytes.below {w w' : World} {B : Nat} {A : Option Addr} {zs : List Int} (h : Bytes w B A zs) (hb : Below B w w') : Bytes w' B A zs :=
  h.keep fun b off hl => hb.cell (p := ⟨b, off, none⟩) hl
theorem Bytes.more {w : World} {B B' : Nat} {A : Option Addr} {zs : List Int} (h : Bytes w B A zs) (hB : B ≤ B') : Bytes w B' A zs :=
  ⟨h.1, fun hn => by
    obtain ⟨b, off, e, hb, hc⟩ := h.2 hn
    exact ⟨b, off, e, by omega, hc⟩⟩
theorem Bytes.mem {w : World} {B : Nat} {A : Option Addr} {zs : List Int} (h : Bytes w B A zs) : ∀ z ∈ zs, 0 ≤ z ∧ z ≤ 255 := fun z hz => by
  obtain ⟨i, hi, e⟩ := List.getElem_of_mem hz
  have := h.1 i hi
  rw [List.getD_eq_getElem?_getD, List.getElem?_eq_getElem hi] at this
  rw [← e]; exact this
/-- Bytes are kept where an object of another type is all that has changed. -/
theorem Bytes.but {w w' : World} {B g : Nat} {A : Option Addr} {zs : List Int} {vs : Array Value} {t : TypeId} {fz : Nat × Nat} (h : Bytes w B A zs) (hB : But B g w w') (ho : w.heap[g]? = some (.cells vs t fz))
    (hv : ∀ (i : Nat) (n : Int), vs[i]? ≠ some (.int .u8 n)) : Bytes w' B A zs :=
  ⟨h.1, fun hn => by
    obtain ⟨b, off, e, hb, hc⟩ := h.2 hn
    refine ⟨b, off, e, hb, fun i hi => ?_⟩
    have hne : b ≠ g := by
      rintro rfl
      have h0 := hc i hi
      rw [cell_of_row w b (off + i) vs t fz ho] at h0
      exact hv _ _ h0
    rw [← hc i hi]
    exact World.cell?_of_block (w := w) (hB.block b hb hne)⟩
/-- The row is none of the objects' blocks. -/
theorem Bytes.ne {w : World} {B b off : Nat} {zs : List Int} {g : Nat} {vs : Array Value} {t : TypeId} {fz : Nat × Nat} (h : Bytes w B (some ⟨b, off, none⟩) zs) (hn : 0 < zs.length) (ho : w.heap[g]? = some (.cells vs t fz))
    (hv : ∀ (i : Nat) (n : Int), vs[i]? ≠ some (.int .u8 n)) : b ≠ g := by
  rintro rfl
  obtain ⟨b', off', e, hb, hc⟩ := h.2 hn
  injection e with e
  injection e with e1 e2
  subst e1 e2
  have h0 := hc 0 hn
  rw [cell_of_row w b _ vs t fz ho] at h0
  exact hv _ _ h0
def isByte (z : Int) : Bool := decide (0 ≤ z) && decide (z ≤ 255)
/-- Bytes that the call itself has just laid, out of a literal. -/
theorem Bytes.new (w : World) (zs : List Int) (hz : zs.all isByte = true) (fr : Nat × Nat) (cs : Array Value) (hc : cs = (zs.map (Value.int .u8)).toArray) :
    Bytes (w.alloc (.cells cs 5 fr)) (w.heap.size + 1) (some ⟨w.heap.size, 0, none⟩) zs := by
  subst hc
  refine ⟨fun i hi => ?_, fun _ => ⟨w.heap.size, 0, rfl, by omega, fun i hi => ?_⟩⟩
  · have h := List.all_eq_true.1 hz (zs.getD i 0) (by rw [List.getD_eq_getElem?_getD, List.getElem?_eq_getElem hi]; exact List.getElem_mem hi)
    unfold isByte at h
    simp only [Bool.and_eq_true, decide_eq_true_eq] at h
    exact h
  · rw [Nat.zero_add, World.cell?_alloc_mark]
    simp [hi]
theorem Bytes.new1 (w : World) (z : Int) (h0 : 0 ≤ z) (h1 : z ≤ 255) (fr : Nat × Nat) :
    Bytes (w.alloc (.cells #[.int .u8 z] 5 fr)) (w.heap.size + 1) (some ⟨w.heap.size, 0, none⟩) [z] :=
  Bytes.new w [z] (by simp [isByte, h0, h1]) fr _ rfl
theorem conv_lit (w : World) (C : Array Value) (n c : Nat) : (convert 31 31 (.slice (some ⟨w.heap.size, 0, none⟩) n c)).run Tryz.prog (w.alloc (.cells C 5)) = .ok (.slice (some ⟨w.heap.size, 0, none⟩) n c) (w.alloc (.cells C 5 (C.size, C.size + 1))) :=
  Lib.run_convert_bytes_const w 31 5 C n c Tryz.underlying31 Tryz.underlying5
/-- string(b) -/
theorem conv_str {w : World} {B : Nat} {A : Option Addr} {zs : List Int} (h : Bytes w B A zs) (cap : Nat) : (convert 31 9 (.slice A zs.length cap)).run Tryz.prog w = .ok (.string (strOfNums zs)) w := by
  rcases Nat.eq_zero_or_pos zs.length with h0 | h0
  · obtain rfl := List.eq_nil_of_length_eq_zero h0
    rcases A with _ | ⟨b, off, sp⟩
    · rw [run_convert_bytes_nil w 31 5 Tryz.underlying31 Tryz.underlying5 _ _ 9 Tryz.underlying9]
      rfl
    · rw [run_convert_bytes_string w 31 9 5 _ _ _ Tryz.underlying31 Tryz.underlying5 Tryz.underlying9]
      have hl : (loadCells ⟨b, off, sp⟩ 0).run Tryz.prog w = .ok (([] : List Int).map (Value.int .u8)).toArray w := by
        simp [loadCells, loadCellsFrom]
      exact run_bytesToString w ⟨b, off, sp⟩ 0 cap [] hl
  · obtain ⟨b, off, rfl, hb, hc⟩ := h.2 h0
    exact run_convert_bytes_arg w 31 5 Tryz.underlying31 Tryz.underlying5 b off zs.length cap zs rfl hc 9 Tryz.underlying9

/-! ### A slice cut -/
def tailA (A : Option Addr) (cap k : Nat) : Option Addr := if cap = k then A else A.map (·.add k)
theorem size1 (W : World) : (sizeOf 5).run Tryz.prog W = .ok 1 W := by kernel_rfl
theorem elem30 : Tryz.prog.elem 31 = 5 := by kernel_rfl
theorem und30 : Tryz.prog.underlying 31 = some (.slice (Tryz.prog.elem 31)) := by rw [elem30]; exact Tryz.underlying31
theorem slice_to (A : Option Addr) (n cap k : Nat) (h : k ≤ cap) (ik : IntKind) (W : World) :
    (Instr.slice 31 (.slice A n cap) none (some (.int ik (k : Int))) none).run Tryz.prog W = .ok (.slice A k cap) W := by
  rw [run_slice_h (P := Tryz.prog) (w := W) 31 A n cap und30 ik k (by omega) (by omega), elem30, size1]
  simp [Result.andThen, sliced]
  intro _
  cases A <;> simp [Addr.add]
theorem slice_from (A : Option Addr) (n cap k : Nat) (h : k ≤ n) (ik : IntKind) (W : World) :
    (Instr.slice 31 (.slice A n cap) (some (.int ik (k : Int))) none none).run Tryz.prog W = .ok (.slice (tailA A cap k) (n - k) (cap - k)) W := by
  rw [run_slice_l (P := Tryz.prog) (w := W) 31 A n cap und30 ik k (by omega) (by omega), elem30, size1]
  simp [Result.andThen, sliced, tailA]
theorem slice_mid (A : Option Addr) (n cap l h : Nat) (h1 : l ≤ h) (h2 : h ≤ cap) (ik ik' : IntKind) (W : World) :
    (Instr.slice 31 (.slice A n cap) (some (.int ik (l : Int))) (some (.int ik' (h : Int))) none).run Tryz.prog W = .ok (.slice (tailA A cap l) (h - l) (cap - l)) W := by
  rw [run_slice_lh (P := Tryz.prog) (w := W) 31 A n cap und30 ik ik' l h (by omega) (by omega) (by omega), elem30, size1]
  simp [Result.andThen, sliced, tailA]
theorem Bytes.head {w : World} {B : Nat} {A : Option Addr} {zs : List Int} (h : Bytes w B A zs) (k : Nat) : Bytes w B A (zs.take k) := by
  have hg : ∀ i, i < (zs.take k).length → (zs.take k).getD i 0 = zs.getD i 0 ∧ i < zs.length := fun i hi => by
    simp at hi
    rw [List.getD_eq_getElem?_getD, List.getD_eq_getElem?_getD, List.getElem?_take_of_lt (by omega)]
    exact ⟨rfl, by omega⟩
  refine ⟨fun i hi => by rw [(hg i hi).1]; exact h.1 i (hg i hi).2, fun hn => ?_⟩
  obtain ⟨b, off, e, hb, hc⟩ := h.2 (by simp at hn; omega)
  exact ⟨b, off, e, hb, fun i hi => by rw [(hg i hi).1]; exact hc i (hg i hi).2⟩
theorem Bytes.tail {w : World} {B : Nat} {A : Option Addr} {zs : List Int} (h : Bytes w B A zs) (k cap : Nat) (hc : zs.length ≤ cap) : Bytes w B (tailA A cap k) (zs.drop k) := by
  have hg : ∀ i, i < (zs.drop k).length → (zs.drop k).getD i 0 = zs.getD (k + i) 0 ∧ k + i < zs.length := fun i hi => by
    simp at hi
    rw [List.getD_eq_getElem?_getD, List.getD_eq_getElem?_getD, List.getElem?_drop]
    exact ⟨rfl, by omega⟩
  refine ⟨fun i hi => by rw [(hg i hi).1]; exact h.1 _ (hg i hi).2, fun hn => ?_⟩
  have hk := (hg 0 hn).2
  obtain ⟨b, off, rfl, hb, hcell⟩ := h.2 (by omega)
  refine ⟨b, off + k, ?_, hb, fun i hi => ?_⟩
  · unfold tailA
    rw [if_neg (by omega)]
    show some (Addr.add ⟨b, off, none⟩ k) = _
    rw [add_off]
  · rw [(hg i hi).1, Nat.add_assoc]
    exact hcell _ (hg i hi).2

/-! ### A row of the call's own -/
def OwnB (w : World) (base : Nat) (A : Option Addr) (cap : Nat) (zs : List Int) : Prop :=
  w.ownsRow base 5 1 (.slice A zs.length cap) zs.length (zs.map (Value.int .u8)) ∧ ∀ i, i < zs.length → 0 ≤ zs.getD i 0 ∧ zs.getD i 0 ≤ 255
theorem OwnB.bytes {w : World} {base : Nat} {A : Option Addr} {cap : Nat} {zs : List Int} (h : OwnB w base A cap zs) : Bytes w w.heap.size A zs := by
  refine ⟨h.2, fun hn => ?_⟩
  obtain ⟨g, c, e⟩ := Joins.ownsRow_form h.1 hn
  injection e with e1 e2 e3
  subst e1 e3
  have hlt := h.1.lt g (by simp [Value.ownBlock])
  refine ⟨g, 0, rfl, hlt.2, fun i hi => ?_⟩
  rw [Nat.zero_add, h.1.cellAt i (by omega)]
  simp [hi]
theorem OwnB.cap_ {w : World} {base : Nat} {A : Option Addr} {cap : Nat} {zs : List Int} (h : OwnB w base A cap zs) : zs.length ≤ cap := by
  rcases h.1.2 with ⟨e, e0⟩ | ⟨g, c', cur, e, _, _, hle, _⟩
  · omega
  · injection e with e1 e2 e3; omega
theorem OwnB.start (w : World) (base : Nat) (hb : base ≤ w.heap.size) : OwnB (w.alloc (.cells #[] 5)) base (some ⟨w.heap.size, 0, none⟩) 0 [] :=
  ⟨World.ownsRow_lit w #[] 0 hb (by decide) rfl, fun i hi => by simp at hi⟩
theorem OwnB.start_at (w : World) (n : Nat) (hn : n = w.heap.size) : OwnB (w.alloc (.cells #[] 5)) n (some ⟨n, 0, none⟩) 0 [] := by
  subst hn; exact OwnB.start w _ (Nat.le_refl _)
theorem OwnB.low {w : World} {base b : Nat} {A : Option Addr} {cap : Nat} {zs : List Int} (h : OwnB w base A cap zs) (hb : b ≤ base) : OwnB w b A cap zs := ⟨Joins.ownsRow_le h.1 hb, h.2⟩
theorem OwnB.none_ (w : World) (base : Nat) : OwnB w base none 0 [] := ⟨World.ownsRow_nil w base _ _, fun i hi => by simp at hi⟩
theorem OwnB.shape {w : World} {base : Nat} {A : Option Addr} {cap : Nat} {zs : List Int} (h : OwnB w base A cap zs) (hn : 0 < zs.length) : ∃ g, A = some ⟨g, 0, none⟩ ∧ base ≤ g ∧ g < w.heap.size := by
  obtain ⟨g, c, e⟩ := Joins.ownsRow_form h.1 hn
  injection e with e1 e2 e3
  subst e1 e3
  have hlt := h.1.lt g (by simp [Value.ownBlock])
  exact ⟨g, rfl, hlt.1, hlt.2⟩
theorem OwnB.cell {w : World} {base g cap : Nat} {zs : List Int} (h : OwnB w base (some ⟨g, 0, none⟩) cap zs) {j : Nat} (hj : j < zs.length) :
    w.cell? ⟨g, j, none⟩ = some (.int .u8 (zs.getD j 0)) ∧ w.frozen? ⟨g, j, none⟩ = false := by
  refine ⟨?_, h.1.frozenAt j⟩
  rw [h.1.cellAt j (by omega)]
  simp [hj]
/-- An owned row is kept where its block is. -/
theorem OwnB.keep {w w' : World} {base : Nat} {A : Option Addr} {cap : Nat} {zs : List Int} (h : OwnB w base A cap zs) (hk : ∀ a, A = some a → w'.heap[a.block]? = w.heap[a.block]?) : OwnB w' base A cap zs := by
  refine ⟨⟨h.1.1, ?_⟩, h.2⟩
  rcases h.1.2 with e | ⟨g, c', cur, e, hb, hg, r⟩
  · exact .inl e
  · injection e with e1 e2 e3
    subst e1 e3
    exact .inr ⟨g, _, cur, rfl, hb, by rw [hk _ rfl]; exact hg, r⟩
/-- It is no object's block. -/
theorem OwnB.ne {w : World} {base : Nat} {a : Addr} {cap : Nat} {zs : List Int} (h : OwnB w base (some a) cap zs) {g : Nat} {cs : Array Value} {t : TypeId} {fz : Nat × Nat} (ho : w.heap[g]? = some (.cells cs t fz)) (ht : t ≠ 5) : a.block ≠ g := by
  rintro rfl
  rcases h.1.2 with ⟨e, _⟩ | ⟨g, c', cur, e, hb, hg, r⟩
  · cases e
  · injection e with e1 e2 e3
    injection e1 with e1
    subst e1
    rw [ho] at hg
    injection hg with hg
    injection hg with _ h2 _
    exact ht h2
theorem OwnB.set {w : World} {base : Nat} {A : Option Addr} {cap : Nat} {zs : List Int} (h : OwnB w base A cap zs) {g : Nat} {cs : Array Value} {t : TypeId} {fz : Nat × Nat} (ho : w.heap[g]? = some (.cells cs t fz)) (ht : t ≠ 5) (o : Nat) (v : Value) :
    OwnB (w.setCell ⟨g, o, none⟩ v) base A cap zs :=
  h.keep fun a ha => by subst ha; exact Below.heap_setCell _ _ _ _ (h.ne ho ht)
theorem OwnB.grew {w w' : World} {base B : Nat} {A : Option Addr} {cap : Nat} {zs : List Int} (h : OwnB w base A cap zs) (hb : Below B w w') (hB : w.heap.size ≤ B) : OwnB w' base A cap zs :=
  h.keep fun a ha => by
    subst ha
    exact hb.block _ (by have := (h.1.lt a.block (by simp [Value.ownBlock])).2; omega)
/-- A row of the call's own, or a full one (a literal of bytes): an append of something to it ends in a row of the call's own. -/
def Row (w : World) (base : Nat) (A : Option Addr) (cap : Nat) (xs : List Int) : Prop :=
  OwnB w base A cap xs ∨ (cap = xs.length ∧ 0 < xs.length ∧ Bytes w w.heap.size A xs)
theorem u8_info : (Tryz.prog.info? 5).map (fun i => (i.zero, i.size, i.bytes)) = some (some (.int .u8 0), 1, 1) := by kernel_rfl
theorem nil_src {w : World} {base : Nat} {A : Option Addr} {cap : Nat} {zs : List Int} (h : OwnB w base A cap zs) (c : Nat) (ty : TypeId) :
    (Builtin.append_ #[31, 31] ty #[.slice A zs.length cap, .slice none 0 c]).run Tryz.prog w = .ok (.slice A zs.length cap) w := by
  obtain ⟨i, hi, _, _, _⟩ := info_parts u8_info
  have hfit := h.1.2
  rcases hfit with ⟨e, _⟩ | ⟨g, c', cur, e, _, _, hle, _⟩
  · rw [e]
    simp [Builtin.append_, run_underlying Tryz.underlying31, sizeOf, typeInfo, hi, Builtin.lenOf, Builtin.firstCells]
  · rw [e]
    simp [Builtin.append_, run_underlying Tryz.underlying31, sizeOf, typeInfo, hi, Builtin.lenOf, Builtin.firstCells, hle, storeCells]
theorem rng_app {xs zs : List Int} (hx : ∀ i, i < xs.length → 0 ≤ xs.getD i 0 ∧ xs.getD i 0 ≤ 255) (hz : ∀ i, i < zs.length → 0 ≤ zs.getD i 0 ∧ zs.getD i 0 ≤ 255) :
    ∀ i, i < (xs ++ zs).length → 0 ≤ (xs ++ zs).getD i 0 ∧ (xs ++ zs).getD i 0 ≤ 255 := fun i hi => by
  rw [List.getD_eq_getElem?_getD]
  by_cases h : i < xs.length
  · rw [List.getElem?_append_left h, ← List.getD_eq_getElem?_getD]; exact hx i h
  · rw [List.getElem?_append_right (by omega), ← List.getD_eq_getElem?_getD]
    rw [List.length_append] at hi
    exact hz _ (by omega)
theorem cells_of {w : World} {B : Nat} {ad : Addr} {zs : List Int} (hb : Bytes w B (some ad) zs) : ∀ j u, (zs.map (Value.int .u8))[j]? = some u → w.cell? (ad.add j) = some u := fun j u hu => by
  rw [List.getElem?_map] at hu
  obtain ⟨z, hz1, rfl⟩ := Option.map_eq_some_iff.1 hu
  have hj : j < zs.length := (List.getElem?_eq_some_iff.1 hz1).1
  obtain ⟨b, off, e, _, hc⟩ := hb.2 (by omega)
  injection e with e
  subst e
  rw [add_off, hc j hj, List.getD_eq_getElem?_getD, hz1]
  rfl
theorem form_of {w : World} {base n : Nat} {v : Value} {xs : List Value} (h : w.ownsRow base 5 1 v n xs) : ∃ A cap, v = .slice A n cap := by
  rcases h.2 with ⟨e, e0⟩ | ⟨g, c', _, e, _⟩
  · exact ⟨none, 0, by rw [e0]; exact e⟩
  · exact ⟨_, _, e⟩
theorem grew_of {w w' : World} {base : Nat} {row : Option Nat} (hg : w.grownBy w' row) (hbase : base ≤ w.heap.size) (h1 : ∀ k, row = some k → base ≤ k)
    (h2 : ∀ k, row = some k → ∃ cur, w.heap[k]? = some (.cells cur 5 (0, 0))) : Grew base w w' := by
  refine ⟨(Below.refl _ _).grown hg hbase h1, fun g cs t fz ho ht => ?_⟩
  rw [hg.block g (lt_of_block ho) ?_]
  · exact ho
  · rintro e
    obtain ⟨cur, hc⟩ := h2 g e.symm
    rw [ho] at hc
    injection hc with hc
    injection hc with _ hc _
    exact ht hc
theorem row_block {w : World} {base n : Nat} {v : Value} {xs : List Value} (h : w.ownsRow base 5 1 v n xs) : ∀ k, v.ownBlock = some k → base ≤ k ∧ ∃ cur, w.heap[k]? = some (.cells cur 5 (0, 0)) := fun k hk => by
  refine ⟨(h.lt k hk).1, ?_⟩
  rcases h.2 with ⟨e, _⟩ | ⟨g, c', cur, e, _, hg, _⟩
  · rw [e] at hk; cases hk
  · rw [e] at hk; simp [Value.ownBlock] at hk; subst hk; exact ⟨cur, hg⟩
/-- What an append of bytes onto a row of the call's own leaves: the row with the bytes behind it. -/
theorem run_app {w : World} {base : Nat} {A : Option Addr} {cap : Nat} {xs : List Int} (h : OwnB w base A cap xs) (hbase : base ≤ w.heap.size)
    {B : Nat} {A2 : Option Addr} {zs : List Int} (hb : Bytes w B A2 zs) (c : Nat) (hlen : xs.length + zs.length ≤ 1073741824) (ty : TypeId) :
    ∃ A' cap' w', (Builtin.append_ #[31, 31] ty #[.slice A xs.length cap, .slice A2 zs.length c]).run Tryz.prog w = .ok (.slice A' (xs ++ zs).length cap') w' ∧
      OwnB w' base A' cap' (xs ++ zs) ∧ Grew base w w' := by
  have rng := rng_app h.2 hb.1
  obtain ⟨i, hi, hz, hs, hy⟩ := info_parts u8_info
  rcases A2 with _ | ad
  · have h0 : zs = [] := by
      rcases Nat.eq_zero_or_pos zs.length with h0 | h0
      · exact List.eq_nil_of_length_eq_zero h0
      · obtain ⟨_, _, e, _⟩ := hb.2 h0; cases e
    subst h0
    refine ⟨A, cap, w, ?_, ?_, Grew.refl _ _⟩
    · rw [List.append_nil]; exact nil_src h c ty
    · rw [List.append_nil]; exact h
  · obtain ⟨v', w', hrun, hown, hg, _, hblk⟩ := run_append_own_at (P := Tryz.prog) (w := w) base 31 ty 5 i _ 1 1 Tryz.underlying31 hi hz hs hy rfl (by decide)
      _ xs.length _ h.1 ad zs.length c (zs.map (Value.int .u8)) (by simp) (cells_of hb) (fun u hu => by simp at hu; obtain ⟨z, _, rfl⟩ := hu; rfl) (by unfold maxLen; omega) (by omega) hbase
    obtain ⟨A', cap', rfl⟩ := form_of hown
    rw [← List.length_append] at hrun hown
    refine ⟨A', cap', w', hrun, ⟨?_, rng⟩, grew_of hg hbase (fun k hk => (row_block h.1 k hk).1) (fun k hk => (row_block h.1 k hk).2)⟩
    rw [List.map_append]
    exact hown
theorem run_appR {w : World} {base : Nat} {A : Option Addr} {cap : Nat} {xs : List Int} (h : Row w base A cap xs) (hbase : base ≤ w.heap.size)
    {B : Nat} {A2 : Option Addr} {zs : List Int} (hb : Bytes w B A2 zs) (hn : 0 < zs.length) (c : Nat) (hlen : xs.length + zs.length ≤ 1073741824) (ty : TypeId) :
    ∃ A' cap' w', (Builtin.append_ #[31, 31] ty #[.slice A xs.length cap, .slice A2 zs.length c]).run Tryz.prog w = .ok (.slice A' (xs ++ zs).length cap') w' ∧
      OwnB w' base A' cap' (xs ++ zs) ∧ Grew base w w' := by
  rcases h with h | ⟨hc, hp, hx⟩
  · exact run_app h hbase hb c hlen ty
  · obtain ⟨i, hi, hz, hs, hy⟩ := info_parts u8_info
    obtain ⟨b1, off1, rfl, _, _⟩ := hx.2 hp
    obtain ⟨b2, off2, rfl, _, _⟩ := hb.2 hn
    obtain ⟨v', w', hrun, hown, hg⟩ := run_append_arg_grows (P := Tryz.prog) w 31 ty 5 i _ 1 1 Tryz.underlying31 hi hz hs hy rfl (by decide)
      _ xs.length cap (xs.map (Value.int .u8)) (by simp) (cells_of hx) _ zs.length c (zs.map (Value.int .u8)) (by simp) (cells_of hb)
      (by omega) (by unfold maxLen; omega) (by omega)
    obtain ⟨A', cap', rfl⟩ := form_of hown
    rw [← List.length_append] at hrun hown
    refine ⟨A', cap', w', hrun, ⟨?_, rng_app hx.1 hb.1⟩, grew_of hg hbase (fun k hk => by cases hk) (fun k hk => by cases hk)⟩
    rw [List.map_append]
    exact Joins.ownsRow_le hown hbase
def strB_ (s : ByteArray) : List Int := s.data.toList.map fun c => (c.toNat : Int)
theorem strB_cells (s : ByteArray) : Lib.strCells s = (strB_ s).map (Value.int .u8) := by
  unfold Lib.strCells strB_; rw [List.map_map]; rfl
theorem strB_size (s : ByteArray) : (strB_ s).length = s.size := by unfold strB_; rw [List.length_map, Array.length_toList]; rfl
theorem strB_rng (s : ByteArray) : ∀ i, i < (strB_ s).length → 0 ≤ (strB_ s).getD i 0 ∧ (strB_ s).getD i 0 ≤ 255 := fun i hi => by
  have hm : (strB_ s).getD i 0 ∈ strB_ s := by rw [List.getD_eq_getElem?_getD, List.getElem?_eq_getElem hi]; exact List.getElem_mem hi
  generalize (strB_ s).getD i 0 = z at hm
  simp only [strB_, List.mem_map] at hm
  obtain ⟨c, _, rfl⟩ := hm
  have := c.toNat_lt
  omega
theorem run_app_str {w : World} {base : Nat} {A : Option Addr} {cap : Nat} {xs : List Int} (h : OwnB w base A cap xs) (hbase : base ≤ w.heap.size)
    (s : ByteArray) (hlen : xs.length + s.size ≤ 1073741824) (ty : TypeId) :
    ∃ A' cap' w', (Builtin.append_ #[31, 9] ty #[.slice A xs.length cap, .string s]).run Tryz.prog w = .ok (.slice A' (xs ++ strB_ s).length cap') w' ∧
      OwnB w' base A' cap' (xs ++ strB_ s) ∧ Grew base w w' := by
  obtain ⟨i, hi, hz, hs, hy⟩ := info_parts u8_info
  obtain ⟨v', w', hrun, hown, hg, _⟩ := Lib.run_append_own_string (P := Tryz.prog) w base 31 9 ty 5 i Tryz.underlying31 Tryz.underlying9 hi hz hs hy
    _ xs.length _ h.1 s (by unfold maxLen; omega) (by omega) hbase
  obtain ⟨A', cap', rfl⟩ := form_of hown
  have e : xs.length + s.size = (xs ++ strB_ s).length := by rw [List.length_append, strB_size]
  rw [e] at hrun hown
  refine ⟨A', cap', w', hrun, ⟨?_, rng_app h.2 (strB_rng s)⟩, grew_of hg hbase (fun k hk => (row_block h.1 k hk).1) (fun k hk => (row_block h.1 k hk).2)⟩
  rw [List.map_append, ← strB_cells]
  exact hown

/-! The same at the operation, for a walk. -/
theorem wp_app {w : World} {ops : Array Oper} {rest : List Oper} {o : Oper} {a : Act} {Q : Exit → Act → World → Prop} (hgd : o.guard = none) (s x : Operand)
    (ho : o.op = .call { callee := .builtin .append, args := #[s, x], argTypes := #[31, 31] })
    {base : Nat} {A : Option Addr} {n cap : Nat} {xs : List Int} (hs : a.eval s = .slice A n cap) (hn : n = xs.length) (h : OwnB w base A cap xs) (hbase : base ≤ w.heap.size)
    {B : Nat} {A2 : Option Addr} {m c : Nat} {zs : List Int} (hx : a.eval x = .slice A2 m c) (hm : m = zs.length) (hb : Bytes w B A2 zs) (hlen : xs.length + zs.length ≤ 1073741824)
    (K : ∀ A' cap' w', OwnB w' base A' cap' (xs ++ zs) → Grew base w w' → wpList Tryz.prog ops Q rest (a.put o.dst (.slice A' (xs ++ zs).length cap')) w') :
    wpList Tryz.prog ops Q (o :: rest) a w := by
  subst hn hm
  obtain ⟨A', cap', w', hrun, h1, h2⟩ := run_app h hbase hb c hlen o.type
  refine wpList_plain hgd fun K' hK => ?_
  unfold Oper.wp
  simp [execOp, ho, resolve, invoke, builtin, hs, hx, hrun, Result.andThen]
  have hk := K A' cap' w' h1 h2
  rw [List.length_append] at hk
  exact hK _ _ hk
theorem wp_appR {w : World} {ops : Array Oper} {rest : List Oper} {o : Oper} {a : Act} {Q : Exit → Act → World → Prop} (hgd : o.guard = none) (s x : Operand)
    (ho : o.op = .call { callee := .builtin .append, args := #[s, x], argTypes := #[31, 31] })
    {base : Nat} {A : Option Addr} {n cap : Nat} {xs : List Int} (hs : a.eval s = .slice A n cap) (hn : n = xs.length) (h : Row w base A cap xs) (hbase : base ≤ w.heap.size)
    {B : Nat} {A2 : Option Addr} {m c : Nat} {zs : List Int} (hx : a.eval x = .slice A2 m c) (hm : m = zs.length) (hb : Bytes w B A2 zs) (hp : 0 < zs.length) (hlen : xs.length + zs.length ≤ 1073741824)
    (K : ∀ A' cap' w', OwnB w' base A' cap' (xs ++ zs) → Grew base w w' → wpList Tryz.prog ops Q rest (a.put o.dst (.slice A' (xs ++ zs).length cap')) w') :
    wpList Tryz.prog ops Q (o :: rest) a w := by
  subst hn hm
  obtain ⟨A', cap', w', hrun, h1, h2⟩ := run_appR h hbase hb hp c hlen o.type
  refine wpList_plain hgd fun K' hK => ?_
  unfold Oper.wp
  simp [execOp, ho, resolve, invoke, builtin, hs, hx, hrun, Result.andThen]
  have hk := K A' cap' w' h1 h2
  rw [List.length_append] at hk
  exact hK _ _ hk
theorem wp_app_str {w : World} {ops : Array Oper} {rest : List Oper} {o : Oper} {a : Act} {Q : Exit → Act → World → Prop} (hgd : o.guard = none) (s x : Operand)
    (ho : o.op = .call { callee := .builtin .append, args := #[s, x], argTypes := #[31, 9] })
    {base : Nat} {A : Option Addr} {n cap : Nat} {xs : List Int} (hs : a.eval s = .slice A n cap) (hn : n = xs.length) (h : OwnB w base A cap xs) (hbase : base ≤ w.heap.size)
    {t : ByteArray} (hx : a.eval x = .string t) (hlen : xs.length + t.size ≤ 1073741824)
    (K : ∀ A' cap' w', OwnB w' base A' cap' (xs ++ strB_ t) → Grew base w w' → wpList Tryz.prog ops Q rest (a.put o.dst (.slice A' (xs ++ strB_ t).length cap')) w') :
    wpList Tryz.prog ops Q (o :: rest) a w := by
  subst hn
  obtain ⟨A', cap', w', hrun, h1, h2⟩ := run_app_str h hbase t hlen o.type
  refine wpList_plain hgd fun K' hK => ?_
  unfold Oper.wp
  simp [execOp, ho, resolve, invoke, builtin, hs, hx, hrun, Result.andThen]
  have hk := K A' cap' w' h1 h2
  rw [List.length_append] at hk
  exact hK _ _ hk
end Go.Proofs.YtdbhicifjljjnaaGreatDoor
/-
  Package sum's On, Of and Good at every argument, for the seats of the layers above it: the same plain numbers as in chapter 2.
-/
namespace Go.Proofs.YtdbhicifjljjnaaGreatDoor
open Go.RowKit

set_option maxHeartbeats 400000 in
theorem good_any (s : Int) (h0 : 0 ≤ s) (h1 : s < 4294967296) (w : World) :
    Calls Tryz.prog 71 #[.int .u32 s] w fun e w' => e = .returned (.bool (Su.okS s)) ∧ w = w' := by
  by_cases h : s / 65536 < 65521
  · go_enter Tryz.func71, Tryz.ntmps71
    go_wp2
    go_ret
    exact ⟨ret_bool (by simp [Su.okS, h]), rfl⟩
  · have h' : 65521 ≤ s / 65536 := by omega
    go_enter Tryz.func71, Tryz.ntmps71
    go_wp2
    go_ret
    exact ⟨ret_bool (by simp [Su.okS]; omega), rfl⟩

/-! ### extend: the loop over the bytes -/
/-- Where the loop stands in front of byte k: the two numbers. -/
def At (a0 c0 : Int) (zs : List Int) (k : Nat) (a c : Int) : Prop := Su.run a0 c0 (zs.take k) = (a, c) ∧ 0 ≤ a ∧ a < 65521 ∧ 0 ≤ c ∧ c < 65521
theorem At.next {a0 c0 : Int} {zs : List Int} {k : Nat} {a c z : Int} (h : At a0 c0 zs k a c) (hk : k < zs.length) (hz : zs.getD k 0 = z) :
    At a0 c0 zs (k + 1) ((a + z) % 65521) ((c + (a + z) % 65521) % 65521) := by
  refine ⟨?_, by omega, by omega, by omega, by omega⟩
  have e : zs.take (k + 1) = zs.take k ++ [z] := by
    rw [List.take_succ_eq_append_getElem hk]
    rw [List.getD_eq_getElem?_getD, List.getElem?_eq_getElem hk] at hz
    simp at hz
    rw [hz]
  rw [e, Su.run_app, h.1]
  rfl
theorem At.start {a0 c0 : Int} {zs : List Int} (h0 : 0 ≤ a0) (h1 : a0 < 65521) (h2 : 0 ≤ c0) (h3 : c0 < 65521) : At a0 c0 zs 0 a0 c0 := ⟨rfl, h0, h1, h2, h3⟩
theorem At.end_ {s : Int} {zs : List Int} {a c : Int} (h : At (s % 65536) (s / 65536) zs zs.length a c) : c * 65536 + a = Su.ext s zs := by
  unfold Su.ext
  rw [← List.take_length (l := zs), h.1]
  rfl
set_option maxHeartbeats 400000 in
theorem extend_any (s : Int) (h0 : 0 ≤ s) (h1 : s < 4294967296) (hs : Su.okS s = true) (B : Nat) (A : Option Addr) (zs : List Int) (cap : Nat) (hl : zs.length ≤ 9223372036854775807) (w : World) (hb : Bytes w B A zs) :
    Calls Tryz.prog 72 #[.int .u32 s, .slice A zs.length cap] w fun e w' => e = .returned (.int .u32 (Su.ext s zs)) ∧ w = w' := by
  have hs' := (Su.okS_iff s).1 hs
  have S0 := At.start (zs := zs) (a0 := s % 65536) (c0 := s / 65536) (by omega) hs'.2 (by omega) hs'.1
  have E0 := fun a c => At.end_ (s := s) (zs := zs) (a := a) (c := c)
  have S := Lib.hid S0
  have E := Lib.hid E0
  have H := Lib.hid hb
  clear hb hs hs' S0 E0
  go_enter Tryz.func72, Tryz.ntmps72
  go_wp2
  go_loop [5, 6, 15] (fun a c i => ∃ (k : Nat) (x y : Int), k ≤ zs.length ∧ At (s % 65536) (s / 65536) zs k x y ∧ i = .int .i64 k ∧ a = .int .u32 x ∧ c = .int .u32 y) (fun _ _ i => zs.length - (intOf i).toNat)
  case atStart => exact ⟨0, _, _, Nat.zero_le _, S.out, rfl, rfl, rfl⟩
  case round =>
    obtain ⟨k, x, y, hk, hat, rfl, rfl, rfl⟩ := hrel
    obtain ⟨x0, x1, y0, y1⟩ := hat.2
    have HA := Lib.hid hat
    clear hat
    by_cases hlt : k < zs.length
    · obtain ⟨b, off, z, rfl, hbb, hc, hz, z0, z1⟩ := H.out.at_ hlt
      go_wp2
      go_round
      case rel => exact ⟨k + 1, _, _, by omega, HA.out.next hlt hz.out, by go_num, rfl, rfl⟩
      case measure => simp [intOf]; omega
    · go_wp2
      go_ret
      have hkk : k = zs.length := by omega
      subst hkk
      exact ⟨ret_int (E.out _ _ HA.out), rfl⟩
/-! ### On, Of -/
set_option maxHeartbeats 400000 in
theorem sumOn_any (s : Int) (h0 : 0 ≤ s) (h1 : s < 4294967296) (B : Nat) (A : Option Addr) (zs : List Int) (cap : Nat) (hl : zs.length ≤ 9223372036854775807) (w : World) (hb : Bytes w B A zs) :
    Calls Tryz.prog 55 #[.int .u32 s, .slice A zs.length cap] w fun e w' => e = .returned (.tuple #[.int .u32 (Su.onV s zs), .bool (Su.okS s)]) ∧ w = w' := by
  have G := Lib.hid (fun w => good_any s h0 h1 w)
  by_cases hs : Su.okS s = true
  · have X := Lib.hid (extend_any s h0 h1 hs B A zs cap hl w hb)
    have hv : Su.onV s zs = Su.ext s zs := by unfold Su.onV; rw [if_pos hs]
    rw [hv, hs]
    rw [hs] at G
    clear hv hs hb
    generalize Su.ext s zs = v at *
    go_enter Tryz.func55, Tryz.ntmps55
    go_wp2_with fail
    refine (G.out _).mono ?_; rintro e w' ⟨rfl, rfl⟩
    go_wp2_with fail
    refine X.out.mono ?_; rintro e w' ⟨rfl, rfl⟩
    go_wp2
    go_ret2
    exact ⟨rfl, rfl⟩
  · have hs' : Su.okS s = false := by simpa using hs
    have hv : Su.onV s zs = 0 := by unfold Su.onV; rw [if_neg hs]
    rw [hv, hs']
    rw [hs'] at G
    clear hv hs hs' hb
    go_enter Tryz.func55, Tryz.ntmps55
    go_wp2_with fail
    refine (G.out _).mono ?_; rintro e w' ⟨rfl, rfl⟩
    go_wp2
    go_ret2
    exact ⟨rfl, rfl⟩
set_option maxHeartbeats 400000 in
theorem of_any (B : Nat) (A : Option Addr) (zs : List Int) (cap : Nat) (hl : zs.length ≤ 9223372036854775807) (w : World) (hb : Bytes w B A zs) :
    Calls Tryz.prog 56 #[.slice A zs.length cap] w fun e w' => e = .returned (.int .u32 (Su.ofV zs)) ∧ w = w' := by
  have X := Lib.hid (extend_any 1 (by decide) (by decide) (by decide) B A zs cap hl w hb)
  have hv : Su.ext 1 zs = Su.ofV zs := rfl
  rw [hv] at X
  clear hv hb
  generalize Su.ofV zs = v at *
  go_enter Tryz.func56, Tryz.ntmps56
  go_wp2_with fail
  refine X.out.mono ?_; rintro e w' ⟨rfl, rfl⟩
  go_wp2
  go_ret
  exact ⟨rfl, rfl⟩

end Go.Proofs.YtdbhicifjljjnaaGreatDoor
/-
  The small functions of package frame at every argument in range: a number's bytes read and appended, the checksum of a head and a payload, a record's size.
-/
namespace Go.Proofs.YtdbhicifjljjnaaGreatDoor
open Go.RowKit

theorem Bytes.byte {w : World} {B : Nat} {A : Option Addr} {zs : List Int} (h : Bytes w B A zs) : Fr.Byte zs := h.mem
theorem take_snoc (zs : List Int) (k : Nat) (z : Int) (hk : k < zs.length) (hz : zs.getD k 0 = z) : zs.take (k + 1) = zs.take k ++ [z] := by
  rw [List.take_succ_eq_append_getElem hk]
  rw [List.getD_eq_getElem?_getD, List.getElem?_eq_getElem hk] at hz
  simp at hz
  rw [hz]
theorem drop_cons (zs : List Int) (k : Nat) (z : Int) (hk : k < zs.length) (hz : zs.getD k 0 = z) : zs.drop k = z :: zs.drop (k + 1) := by
  rw [List.drop_eq_getElem_cons hk]
  rw [List.getD_eq_getElem?_getD, List.getElem?_eq_getElem hk] at hz
  simp at hz
  rw [hz]

theorem below_on {A B w : World} (h1 : Below A.heap.size A B) (h2 : Below B.heap.size B w) : Below A.heap.size A w := h1.trans (h2.mono h1.size)
/-- A call that changes nothing, inside a region that draws, in a world that holds what the call reads. -/
theorem stillB {P : Program} {f : FuncId} {args : Array Value} {w W : World} {n : Nat} {v : Value} (hb : Below w.heap.size w W) (h : ∀ W, Below w.heap.size w W → Calls P f args W fun e w' => e = .returned v ∧ W = w') :
    Calls P f args (W.drewN n) fun e w' => e = .returned v ∧ ∃ m, w' = W.drewN m :=
  (h _ (below_n hb n)).mono fun _ _ ⟨he, hm⟩ => ⟨he, n, hm.symm⟩

/-! ### number -/
def NumAt (zs : List Int) (k : Nat) (acc : Int) : Prop := acc = Fr.valB (zs.take k) ∧ 0 ≤ acc ∧ acc < 256 ^ k
theorem NumAt.next {zs : List Int} {k : Nat} {acc z : Int} (h : NumAt zs k acc) (hb : Fr.Byte zs) (hk : k < zs.length) (hz : zs.getD k 0 = z) : NumAt zs (k + 1) (acc + z * 256 ^ k) := by
  have e : acc + z * 256 ^ k = Fr.valB (zs.take (k + 1)) := by
    rw [take_snoc zs k z hk hz, Fr.valB_snoc, ← h.1, List.length_take, Nat.min_eq_left (by omega)]
  have hl := Fr.valB_lt (hb.take (k + 1))
  rw [List.length_take, Nat.min_eq_left (by omega)] at hl
  exact ⟨e, by rw [e]; exact Fr.valB_nonneg (hb.take _), by rw [e]; exact hl⟩
theorem NumAt.end_ {zs : List Int} {k : Nat} {acc : Int} (h : NumAt zs k acc) (hk : ¬ k < zs.length) : acc = Fr.valB zs := by
  rw [h.1, List.take_of_length_le (by omega)]
set_option maxHeartbeats 400000 in
theorem number_any (B : Nat) (A : Option Addr) (zs : List Int) (cap : Nat) (hl : zs.length ≤ 8) (w : World) (hb : Bytes w B A zs) :
    Calls Tryz.prog 116 #[.slice A zs.length cap] w fun e w' => e = .returned (.int .u64 (Fr.valB zs)) ∧ w = w' := by
  have H := Lib.hid hb
  clear hb
  have S := Lib.hid (show NumAt zs 0 0 from ⟨rfl, by decide, by decide⟩)
  go_enter Tryz.func116, Tryz.ntmps116
  go_wp2
  go_loop [3, 8] (fun v i => ∃ (k : Nat) (acc : Int), k ≤ zs.length ∧ NumAt zs k acc ∧ i = .int .i64 k ∧ v = .int .u64 acc) (fun _ i => zs.length - (intOf i).toNat)
  case atStart => exact ⟨0, 0, Nat.zero_le _, S.out, rfl, rfl⟩
  case round =>
    obtain ⟨k, acc, hk, hat, rfl, rfl⟩ := hrel
    have HA := Lib.hid hat
    clear hat
    by_cases hlt : k < zs.length
    · obtain ⟨b, off, z, rfl, hbb, hc, hz, z0, z1⟩ := H.out.at_ hlt
      have EV := Lib.hid (Fr.or_byte k acc z (by omega) HA.out.2.1 HA.out.2.2 z0 z1)
      have k8 : (k : Int) ≤ 7 := by omega
      go_wp2
      go_round
      case rel => exact ⟨k + 1, _, by omega, HA.out.next H.out.byte hlt hz.out, by go_num, by rw [EV.out]⟩
      case measure => simp [intOf]; omega
    · go_wp2
      go_ret
      exact ⟨ret_int (HA.out.end_ hlt), rfl⟩

/-! ### What an append to a row of the call's own leaves -/
def AppPost (w : World) (base : Nat) (ys : List Int) (e : Ending) (w' : World) : Prop :=
  ∃ zs A cap, Hid (zs = ys) ∧ e = .returned (.slice A zs.length cap) ∧ OwnB w' base A cap zs ∧ Grew base w w'
theorem AppPost.mk_ {w w' : World} {base : Nat} {ys : List Int} {A : Option Addr} {cap n : Nat} (hn : n = ys.length) (h : OwnB w' base A cap ys) (g : Grew base w w') : AppPost w base ys (.returned (.slice A n cap)) w' := by
  subst hn; exact ⟨ys, A, cap, Lib.hid rfl, rfl, h, g⟩
set_option maxHeartbeats 1000000 in
theorem appnum_any (base : Nat) (A : Option Addr) (cap : Nat) (xs : List Int) (v : Int) (n : Nat) (v0 : 0 ≤ v) (v1 : v < 18446744073709551616) (hn : n ≤ 8) (hx : xs.length ≤ 1000000000) (w : World) (hbase : base ≤ w.heap.size) (h : OwnB w base A cap xs) :
    Calls Tryz.prog 39 #[.slice A xs.length cap, .int .u64 v, .int .i64 n] w (AppPost w base (xs ++ Fr.lowB v n)) := by
  have H := Lib.hid h
  have HB := Lib.hid hbase
  have HX := Lib.hid hx
  have hn' : (n : Int) ≤ 8 := by omega
  clear h hbase hx
  go_enter Tryz.func39, Tryz.ntmps39
  go_wp2
  go_loopw [0, 1, 8] (fun bv vv iv wr => ∃ (k : Nat) (ys : List Int) (u : Int) (A' : Option Addr) (cap' : Nat), k ≤ n ∧ 0 ≤ u ∧ u < 18446744073709551616 ∧ iv = .int .i64 k ∧ vv = .int .u64 u ∧ bv = .slice A' ys.length cap' ∧ ys.length = xs.length + k ∧ ys ++ Fr.lowB u (n - k) = xs ++ Fr.lowB v n ∧ OwnB wr base A' cap' ys ∧ Grew base w wr) (fun _ _ iv _ => n - (intOf iv).toNat)
  case atStart => exact ⟨0, xs, v, A, cap, Nat.zero_le _, v0, v1, rfl, rfl, rfl, rfl, rfl, H.out, Grew.refl _ _⟩
  case round =>
    obtain ⟨k, ys, u, A', cap', hk, u0, u1, rfl, rfl, rfl, hl, heq, ho, hg⟩ := hrel
    have HL := Lib.hid hl
    have HE := Lib.hid heq
    have HO := Lib.hid ho
    have HG := Lib.hid hg
    have hs : base ≤ wr.heap.size := Nat.le_trans HB.out hg.below.size
    clear hl heq ho hg
    by_cases hlt : k < n
    · have EL : Hid (Fr.lowB u (n - k) = u % 256 :: Fr.lowB (u / 256) (n - (k + 1))) := by
        have e : n - k = (n - (k + 1)) + 1 := by omega
        show _ = _
        rw [e, Fr.lowB]
      have hlt' : (k : Int) < (n : Int) := by omega
      go_wp2_with (at_builtin; refine wp_app rfl (.tmp 10) (.tmp 13) rfl rfl rfl (HO.out.grew ((Below.refl _ _).alloc (Nat.le_refl _) _) (Nat.le_refl _)) (by simp; omega) rfl rfl (Bytes.new1 wr _ (by omega) (by omega) _) (by have := HL.out; have := HX.out; simp; omega) ?_; intro A2 cap2 w2 o2 d2; have O2 := Lib.hid o2; have D2 := Lib.hid d2; clear o2 d2)
      go_roundw
      case rel =>
        refine ⟨k + 1, _, u / 256, A2, cap2, by omega, by omega, by omega, by go_num, rfl, by simp, ?_, ?_, O2.out, HG.out.trans (((Grew.refl _ _).alloc hs _).trans D2.out)⟩
        · rw [List.length_append, HL.out]; simp; omega
        · rw [← HE.out, EL.out, List.append_assoc]; rfl
      case measure => simp [intOf]; omega
    · have hkn : k = n := by omega
      subst hkn
      have E : Hid (ys = xs ++ Fr.lowB v k) := by
        have := HE.out
        rw [Nat.sub_self, Fr.lowB, List.append_nil] at this
        exact this
      go_wp2
      go_ret
      rw [← E.out]
      exact AppPost.mk_ rfl HO.out HG.out

/-! ### check, Size, Clone -/
set_option maxHeartbeats 400000 in
theorem frCheck_any (B B2 : Nat) (A A2 : Option Addr) (f p : List Int) (cap cap2 : Nat) (h1 : f.length ≤ 9223372036854775807) (h2 : p.length ≤ 9223372036854775807) (w : World) (hb : Bytes w B A f) (hp : Bytes w B2 A2 p) :
    Calls Tryz.prog 40 #[.slice A f.length cap, .slice A2 p.length cap2] w fun e w' => e = .returned (.int .u64 (Fr.ckV f p)) ∧ w = w' := by
  have F := Lib.hid (of_any B A f cap h1 w hb)
  have hr := Su.ofV_range f
  have G0 := sumOn_any (Su.ofV f) hr.1 hr.2 B2 A2 p cap2 h2 w hp
  rw [Su.ofV_ok, Su.on_of] at G0
  have hc := Fr.ckV_range f p
  have e : Su.ofV (f ++ p) = Fr.ckV f p := rfl
  rw [e] at G0
  have G := Lib.hid G0
  clear G0 hb hp e hr
  generalize Su.ofV f = s at *
  generalize Fr.ckV f p = c at *
  go_enter Tryz.func40, Tryz.ntmps40
  go_wp2_with fail
  refine F.out.mono ?_; rintro e w' ⟨rfl, rfl⟩
  go_wp2_with fail
  refine G.out.mono ?_; rintro e w' ⟨rfl, rfl⟩
  go_wp2
  go_ret
  exact ⟨rfl, rfl⟩
set_option maxHeartbeats 400000 in
theorem size_any (x : Value) (A : Option Addr) (n cap : Nat) (hn : n ≤ 9000000000000000000) (w : World) :
    Calls Tryz.prog 38 #[.agg #[x, .slice A n cap]] w fun e w' => e = .returned (.int .i64 (16 + (n : Int))) ∧ Grew w.heap.size w w' := by
  have hn' : (n : Int) ≤ 9000000000000000000 := by omega
  go_enter Tryz.func38, Tryz.ntmps38
  go_wp2
  go_ret
  exact ⟨rfl, (Grew.refl _ _).alloc (Nat.le_refl _) _⟩
set_option maxHeartbeats 400000 in
theorem clone_any (b off : Nat) (p : List Int) (cap : Nat) (hl : p.length ≤ 1000000000) (w : World) (hp : Bytes w w.heap.size (some ⟨b, off, none⟩) p) :
    Calls Tryz.prog 42 #[.slice (some ⟨b, off, none⟩) p.length cap] w (AppPost w w.heap.size p) := by
  have H := Lib.hid hp
  have HL := Lib.hid hl
  have hnil : (binOp .eql 31 (.slice (some ⟨b, off, none⟩) p.length cap) (.slice none 0 0)).run Tryz.prog w = .ok (.bool false) w := Lib.run_eql_slice_nil w 31 5 _ _ _ _ _ Tryz.underlying31
  clear hp hl
  go_enter Tryz.func42, Tryz.ntmps42
  go_wp2_with (at_builtin; refine wp_app rfl (.tmp 5) (.tmp 6) rfl rfl rfl (OwnB.start w w.heap.size (Nat.le_refl _)) (by simp) rfl rfl (H.out.below ((Below.refl _ _).alloc (Nat.le_refl _) _)) (by have := HL.out; simp; omega) ?_; intro A2 cap2 w2 o2 d2; rw [List.nil_append] at o2; have O2 := Lib.hid o2; have D2 := Lib.hid d2; clear o2 d2)
  go_ret
  exact AppPost.mk_ (by simp) O2.out (((Grew.refl _ _).alloc (Nat.le_refl _) _).trans D2.out)
end Go.Proofs.YtdbhicifjljjnaaGreatDoor
/-
  Rows of the call's own whose elements are structs of two cells: appended to, kept, read. The element's type is open; no function of the program is named here.
-/
namespace Go.Proofs.YtdbhicifjljjnaaGreatDoor
open Go.RowKit

def flat2 (vs : List (Value × Value)) : List Value := vs.flatMap fun p => [p.1, p.2]
theorem flat2_len (vs : List (Value × Value)) : (flat2 vs).length = vs.length * 2 := by
  induction vs with
  | nil => rfl
  | cons p r ih =>
    have e : flat2 (p :: r) = p.1 :: p.2 :: flat2 r := rfl
    rw [e, List.length_cons, List.length_cons, List.length_cons, ih]; omega
theorem flat2_app (vs us : List (Value × Value)) : flat2 (vs ++ us) = flat2 vs ++ flat2 us := by unfold flat2; rw [List.flatMap_append]
theorem flat2_get (vs : List (Value × Value)) (d : Value × Value) (i : Nat) (h : i < vs.length) : (flat2 vs)[i * 2]? = some (vs.getD i d).1 ∧ (flat2 vs)[i * 2 + 1]? = some (vs.getD i d).2 := by
  induction vs generalizing i with
  | nil => simp at h
  | cons p r ih =>
    have e : flat2 (p :: r) = p.1 :: p.2 :: flat2 r := rfl
    rw [e]
    cases i with
    | zero => exact ⟨rfl, rfl⟩
    | succ i =>
      have := ih i (by simpa using h)
      rw [show (i + 1) * 2 = i * 2 + 1 + 1 by omega]
      simp only [List.getElem?_cons_succ, List.getD_cons_succ]
      exact this
/-- The row of pairs at address A is the call's own. -/
def OwnP (w : World) (base : Nat) (T : TypeId) (A : Option Addr) (cap : Nat) (vs : List (Value × Value)) : Prop :=
  w.ownsRow base T 2 (.slice A vs.length cap) vs.length (flat2 vs)
theorem OwnP.none_ (w : World) (base : Nat) (T : TypeId) : OwnP w base T none 0 [] := World.ownsRow_nil w base _ _
theorem OwnP.keep {w w' : World} {base : Nat} {T : TypeId} {A : Option Addr} {cap : Nat} {vs : List (Value × Value)} (h : OwnP w base T A cap vs) (hk : ∀ a, A = some a → w'.heap[a.block]? = w.heap[a.block]?) : OwnP w' base T A cap vs := by
  refine ⟨h.1, ?_⟩
  rcases h.2 with e | ⟨g, c', cur, e, hb, hg, r⟩
  · exact .inl e
  · injection e with e1 e2 e3
    subst e1 e3
    exact .inr ⟨g, _, cur, rfl, hb, by rw [hk _ rfl]; exact hg, r⟩
theorem OwnP.lt {w : World} {base : Nat} {T : TypeId} {a : Addr} {cap : Nat} {vs : List (Value × Value)} (h : OwnP w base T (some a) cap vs) : base ≤ a.block ∧ a.block < w.heap.size :=
  World.ownsRow.lt h a.block (by simp [Value.ownBlock])
theorem OwnP.grew {w w' : World} {base B : Nat} {T : TypeId} {A : Option Addr} {cap : Nat} {vs : List (Value × Value)} (h : OwnP w base T A cap vs) (hb : Below B w w') (hB : w.heap.size ≤ B) : OwnP w' base T A cap vs :=
  h.keep fun a ha => by
    subst ha
    exact hb.block _ (by have := h.lt.2; omega)
theorem OwnP.shape {w : World} {base : Nat} {T : TypeId} {A : Option Addr} {cap : Nat} {vs : List (Value × Value)} (h : OwnP w base T A cap vs) (hn : 0 < vs.length) : ∃ g, A = some ⟨g, 0, none⟩ ∧ base ≤ g ∧ g < w.heap.size := by
  obtain ⟨g, c, e⟩ := Joins.ownsRow_form h hn
  injection e with e1 e2 e3
  subst e1 e3
  have hlt := OwnP.lt h
  exact ⟨g, rfl, hlt.1, hlt.2⟩
theorem OwnP.cell {w : World} {base g cap : Nat} {T : TypeId} {vs : List (Value × Value)} (h : OwnP w base T (some ⟨g, 0, none⟩) cap vs) (d : Value × Value) {i : Nat} (hi : i < vs.length) :
    w.cell? ⟨g, i * 2, none⟩ = some (vs.getD i d).1 ∧ w.cell? ⟨g, i * 2 + 1, none⟩ = some (vs.getD i d).2 := by
  obtain ⟨h1, h2⟩ := flat2_get vs d i hi
  rw [← h1, ← h2]
  exact ⟨World.ownsRow.cellAt h (i * 2) (by omega), World.ownsRow.cellAt h (i * 2 + 1) (by omega)⟩
/-- A row of bytes is no row of pairs. -/
theorem OwnP.apart {w : World} {base b2 : Nat} {T : TypeId} {a a2 : Addr} {cap cap2 : Nat} {vs : List (Value × Value)} {zs : List Int} (h : OwnP w base T (some a) cap vs) (k : OwnB w b2 (some a2) cap2 zs) (hT : T ≠ 5) : a2.block ≠ a.block := by
  intro e
  rcases h.2 with ⟨e1, _⟩ | ⟨g, c', cur, e1, _, hg, _⟩
  · cases e1
  · injection e1 with e1 _ _
    injection e1 with e1
    subst e1
    exact k.ne (g := g) hg hT e
theorem form_of2 {w : World} {base n : Nat} {T : TypeId} {v : Value} {xs : List Value} (h : w.ownsRow base T 2 v n xs) : ∃ A cap, v = .slice A n cap := by
  rcases h.2 with ⟨e, e0⟩ | ⟨g, c', _, e, _⟩
  · exact ⟨none, 0, by rw [e0]; exact e⟩
  · exact ⟨_, _, e⟩
/-- What an append of one pair leaves: the row with the pair behind it, all other blocks as they were. -/
theorem run_appP2 {w : World} {base : Nat} {T ST : TypeId} {A : Option Addr} {cap : Nat} {vs : List (Value × Value)} {z x y : Value} {by_ : Nat} (hST : Tryz.prog.underlying ST = some (.slice T))
    (hI : (Tryz.prog.info? T).map (fun i => (i.zero, i.size, i.bytes)) = some (some z, 2, by_)) (hz : z.cells.size = 2) (hby : by_ ≤ 64)
    (h : OwnP w base T A cap vs) (hbase : base ≤ w.heap.size) {b2 : Nat} (hx : w.cell? ⟨b2, 0, none⟩ = some x) (hy : w.cell? ⟨b2, 1, none⟩ = some y) (hx1 : x.oneCell' = true) (hy1 : y.oneCell' = true) (c : Nat)
    (hlen : vs.length ≤ 1000000000) (ty : TypeId) :
    ∃ A' cap' w', (Builtin.append_ #[ST, ST] ty #[.slice A vs.length cap, .slice (some ⟨b2, 0, none⟩) 1 c]).run Tryz.prog w = .ok (.slice A' (vs ++ [(x, y)]).length cap') w' ∧
      OwnP w' base T A' cap' (vs ++ [(x, y)]) ∧ w.grownBy w' (Value.slice A vs.length cap).ownBlock := by
  obtain ⟨i, hi, hz0, hs, hyb⟩ := info_parts hI
  obtain ⟨v', w', hrun, hown, hg, _, _⟩ := run_append_own_at (P := Tryz.prog) (w := w) base ST ty T i z 2 by_ hST hi hz0 hs hyb hz (by decide)
    _ vs.length _ h ⟨b2, 0, none⟩ 1 c [x, y] rfl (fun j u hu => by
      rw [add_off, Nat.zero_add]
      match j, hu with
      | 0, hu => simp at hu; rw [← hu]; exact hx
      | 1, hu => simp at hu; rw [← hu]; exact hy
      | j + 2, hu => simp at hu) (fun u hu => by
      simp at hu
      rcases hu with rfl | rfl
      · exact hx1
      · exact hy1) (by unfold maxLen; omega) (by
      have h1 : (vs.length + 1) * by_ ≤ 1000000001 * 64 := Nat.mul_le_mul (by omega) hby
      omega) hbase
  obtain ⟨A', cap', rfl⟩ := form_of2 hown
  have e : vs.length + 1 = (vs ++ [(x, y)]).length := by simp
  rw [e] at hrun hown
  refine ⟨A', cap', w', hrun, ?_, hg⟩
  unfold OwnP
  rw [flat2_app]
  exact hown
theorem wp_appP2 {w : World} {ops : Array Oper} {rest : List Oper} {o : Oper} {a : Act} {Q : Exit → Act → World → Prop} (hgd : o.guard = none) (s t : Operand) {T ST : TypeId}
    (ho : o.op = .call { callee := .builtin .append, args := #[s, t], argTypes := #[ST, ST] })
    {base : Nat} {A : Option Addr} {n cap : Nat} {vs : List (Value × Value)} {z x y : Value} {by_ : Nat} (hST : Tryz.prog.underlying ST = some (.slice T))
    (hI : (Tryz.prog.info? T).map (fun i => (i.zero, i.size, i.bytes)) = some (some z, 2, by_)) (hz : z.cells.size = 2) (hby : by_ ≤ 64)
    (hs : a.eval s = .slice A n cap) (hn : n = vs.length) (h : OwnP w base T A cap vs) (hbase : base ≤ w.heap.size)
    {b2 c : Nat} (ht : a.eval t = .slice (some ⟨b2, 0, none⟩) 1 c) (hx : w.cell? ⟨b2, 0, none⟩ = some x) (hy : w.cell? ⟨b2, 1, none⟩ = some y) (hx1 : x.oneCell' = true) (hy1 : y.oneCell' = true)
    (hlen : vs.length ≤ 1000000000)
    (K : ∀ A' cap' w', OwnP w' base T A' cap' (vs ++ [(x, y)]) → w.grownBy w' (Value.slice A vs.length cap).ownBlock → wpList Tryz.prog ops Q rest (a.put o.dst (.slice A' (vs ++ [(x, y)]).length cap')) w') :
    wpList Tryz.prog ops Q (o :: rest) a w := by
  subst hn
  obtain ⟨A', cap', w', hrun, h1, h2⟩ := run_appP2 hST hI hz hby h hbase hx hy hx1 hy1 c hlen o.type
  refine wpList_plain hgd fun K' hK => ?_
  unfold Oper.wp
  simp [execOp, ho, resolve, invoke, builtin, hs, ht, hrun, Result.andThen]
  have hk := K A' cap' w' h1 h2
  rw [List.length_append, List.length_singleton] at hk
  exact hK _ _ hk
theorem grown_below {w w' : World} {base : Nat} {T : TypeId} {A : Option Addr} {cap n : Nat} {vs : List (Value × Value)} (h : OwnP w base T A cap vs) (hbase : base ≤ w.heap.size) (hg : w.grownBy w' (Value.slice A n cap).ownBlock) : Below base w w' :=
  (Below.refl _ _).grown hg hbase fun k hk => by
    cases A with
    | none => cases hk
    | some a => simp [Value.ownBlock] at hk; subst hk; exact h.lt.1
/-- A row of bytes is kept by an append to a row of pairs. -/
theorem OwnB.grown {w w' : World} {base b2 : Nat} {T : TypeId} {A A2 : Option Addr} {cap cap2 n : Nat} {vs : List (Value × Value)} {zs : List Int} (k : OwnB w b2 A2 cap2 zs) (h : OwnP w base T A cap vs) (hT : T ≠ 5) (hg : w.grownBy w' (Value.slice A n cap).ownBlock) : OwnB w' b2 A2 cap2 zs :=
  k.keep fun a ha => by
    subst ha
    refine hg.block _ (k.1.lt a.block (by simp [Value.ownBlock])).2 ?_
    cases A with
    | none => simp [Value.ownBlock]
    | some a1 => simp [Value.ownBlock]; exact h.apart k hT
end Go.Proofs.YtdbhicifjljjnaaGreatDoor
/-
  A stamp's epoch and offset, and a stamp packed: package stamp's contracts for the layers above it.
-/
namespace Go.Proofs.YtdbhicifjljjnaaGreatDoor
open Go.RowKit
set_option maxHeartbeats 400000 in
theorem epoch_any (s : Int) (h0 : 0 ≤ s) (h1 : s < 18446744073709551616) (w : World) :
    Calls Tryz.prog 21 #[.int .u64 s] w fun e w' => e = .returned (.int .i64 (Pl.epochV s)) ∧ w = w' := by
  go_enter Tryz.func21, Tryz.ntmps21
  go_wp2
  go_ret
  exact ⟨rfl, rfl⟩
set_option maxHeartbeats 400000 in
theorem stOff_any (s : Int) (h0 : 0 ≤ s) (h1 : s < 18446744073709551616) (w : World) :
    Calls Tryz.prog 27 #[.int .u64 s] w fun e w' => e = .returned (.int .i64 (Pl.offV s)) ∧ w = w' := by
  go_enter Tryz.func27, Tryz.ntmps27
  go_wp2
  go_ret
  refine ⟨ret_int ?_, rfl⟩
  rw [Pl.and_mask s h0 h1]
  exact IntWalk.wrap64_in _ (by omega)
set_option maxHeartbeats 400000 in
theorem pack_any (e o : Int) (w : World) :
    Calls Tryz.prog 24 #[.int .i64 e, .int .i64 o] w fun e' w' => e' = .returned (.tuple #[.int .u64 (Pl.packV e o), .bool (Pl.packOk e o)]) ∧ w = w' := by
  by_cases h : 0 ≤ e ∧ e ≤ 1048575 ∧ 0 ≤ o ∧ o ≤ 17592186044415
  · have hp : Pl.packOk e o = true := by simp [Pl.packOk, h]
    have hv : Pl.packV e o = e * 17592186044416 + o := by simp [Pl.packV, hp]
    rw [hp, hv]
    clear hp hv
    obtain ⟨h0, h1, h2, h3⟩ := h
    go_enter Tryz.func24, Tryz.ntmps24
    go_wp2
    go_ret2
    exact ⟨ret_pair (Pl.or_pack e o h0 h1 h2 h3) rfl, rfl⟩
  · have hp : Pl.packOk e o = false := by simp [Pl.packOk]; omega
    have hv : Pl.packV e o = 0 := by simp [Pl.packV, hp]
    rw [hp, hv]
    clear hp hv
    have hc : e < 0 ∨ (0 ≤ e ∧ 1048575 < e) ∨ ((0 ≤ e ∧ e ≤ 1048575) ∧ o < 0) ∨ ((0 ≤ e ∧ e ≤ 1048575) ∧ 0 ≤ o ∧ 17592186044415 < o) := by omega
    clear h
    rcases hc with h | ⟨h, h2⟩ | ⟨⟨h, h2⟩, h3⟩ | ⟨⟨h, h2⟩, h3, h4⟩
    all_goals
      go_enter Tryz.func24, Tryz.ntmps24
      go_wp2
      go_ret2
      exact ⟨rfl, rfl⟩
end Go.Proofs.YtdbhicifjljjnaaGreatDoor
/-
  Slices of strings and of signed numbers that came in, as the walks take them.
-/
namespace Go.Proofs.YtdbhicifjljjnaaGreatDoor
open Go.ChangeShapes Go.WideShapes Go.ChangeAt Go.RowKit
/-- The slice at address A whose elements are the strings ss, below block B. -/
def Strs (w : World) (B : Nat) (A : Option Addr) (ss : List ByteArray) : Prop :=
  (∀ i, i < ss.length → (ss.getD i ByteArray.empty).size ≤ 9223372036854775807) ∧
  (0 < ss.length → ∃ b off, A = some ⟨b, off, none⟩ ∧ b < B ∧ ∀ i, i < ss.length → w.cell? ⟨b, off + i, none⟩ = some (.string (ss.getD i ByteArray.empty)))
theorem Strs.at_ {w : World} {B : Nat} {A : Option Addr} {ss : List ByteArray} {k : Nat} (h : Strs w B A ss) (hk : k < ss.length) :
    ∃ b off s, A = some ⟨b, off, none⟩ ∧ Hid (b < B) ∧ w.cell? ⟨b, off + k, none⟩ = some (.string s) ∧ Hid (ss.getD k ByteArray.empty = s) ∧ s.size ≤ 9223372036854775807 := by
  obtain ⟨b, off, e, hb, hc⟩ := h.2 (by omega)
  exact ⟨b, off, _, e, Lib.hid hb, hc k hk, Lib.hid rfl, h.1 k hk⟩
theorem Strs.nil_ {w : World} {B : Nat} {A : Option Addr} : Strs w B A [] := ⟨fun i h => by simp at h, fun h => by simp at h⟩
theorem Strs.below {w w' : World} {B : Nat} {A : Option Addr} {ss : List ByteArray} (h : Strs w B A ss) (hb : Below B w w') : Strs w' B A ss :=
  ⟨h.1, fun hn => by
    obtain ⟨b, off, e, hl, hc⟩ := h.2 hn
    exact ⟨b, off, e, hl, fun i hi => (hb.cell (p := ⟨b, _, none⟩) hl).trans (hc i hi)⟩⟩
/-- The slice at address A whose elements are the signed numbers zs, below block B. -/
def Nums (w : World) (B : Nat) (A : Option Addr) (zs : List Int) : Prop :=
  (∀ i, i < zs.length → -9223372036854775808 ≤ zs.getD i 0 ∧ zs.getD i 0 ≤ 9223372036854775807) ∧
  (0 < zs.length → ∃ b off, A = some ⟨b, off, none⟩ ∧ b < B ∧ ∀ i, i < zs.length → w.cell? ⟨b, off + i, none⟩ = some (.int .i64 (zs.getD i 0)))
theorem Nums.at_ {w : World} {B : Nat} {A : Option Addr} {zs : List Int} {k : Nat} (h : Nums w B A zs) (hk : k < zs.length) :
    ∃ b off z, A = some ⟨b, off, none⟩ ∧ Hid (b < B) ∧ w.cell? ⟨b, off + k, none⟩ = some (.int .i64 z) ∧ Hid (zs.getD k 0 = z) ∧ -9223372036854775808 ≤ z ∧ z ≤ 9223372036854775807 := by
  obtain ⟨b, off, e, hb, hc⟩ := h.2 (by omega)
  exact ⟨b, off, _, e, Lib.hid hb, hc k hk, Lib.hid rfl, (h.1 k hk).1, (h.1 k hk).2⟩
theorem Nums.nil_ {w : World} {B : Nat} {A : Option Addr} : Nums w B A [] := ⟨fun i h => by simp at h, fun h => by simp at h⟩
theorem Nums.below {w w' : World} {B : Nat} {A : Option Addr} {zs : List Int} (h : Nums w B A zs) (hb : Below B w w') : Nums w' B A zs :=
  ⟨h.1, fun hn => by
    obtain ⟨b, off, e, hl, hc⟩ := h.2 hn
    exact ⟨b, off, e, hl, fun i hi => (hb.cell (p := ⟨b, _, none⟩) hl).trans (hc i hi)⟩⟩
theorem getD_take {α : Type} (l : List α) (n i : Nat) (d : α) (h : i < n) : (l.take n).getD i d = l.getD i d := by
  rw [List.getD_eq_getElem?_getD, List.getD_eq_getElem?_getD, List.getElem?_take_of_lt h]
theorem strs_of {W : World} {x : Addr} {len : Nat} {ss : List ByteArray} (hl : len ≤ ss.length) (hc : ∀ i, i < ss.length → W.cell? (x.add i) = some (.string (ss.getD i ByteArray.empty))) (hs : ∀ s ∈ ss, s.size ≤ maxLen) :
    Strs W W.heap.size (some x) (ss.take len) := by
  have hlen : (ss.take len).length = len := by simp; omega
  refine ⟨fun i hi => ?_, fun hn => ?_⟩
  · rw [hlen] at hi
    rw [getD_take _ _ _ _ hi, List.getD_eq_getElem?_getD, List.getElem?_eq_getElem (by omega)]
    have h := hs _ (List.getElem_mem (show i < ss.length by omega))
    unfold maxLen at h
    exact h
  · rw [hlen] at hn
    obtain ⟨b, off, spot⟩ := x
    have h0 := hc 0 (by omega)
    have hspot : spot = none := by simpa [Addr.add] using World.cell?_spot h0
    subst hspot
    refine ⟨b, off, rfl, ?_, fun i hi => ?_⟩
    · rw [add_off] at h0
      exact block_lt h0
    · rw [hlen] at hi
      rw [getD_take _ _ _ _ hi, ← add_off]
      exact hc i (by omega)
theorem nums_of {W : World} {x : Addr} {len : Nat} {zs : List Int} (hl : len ≤ zs.length) (hc : ∀ i, i < zs.length → W.cell? (x.add i) = some (.int .i64 (zs.getD i 0))) (hw : ∀ n ∈ zs, (Lit.int .i64 n).wf = true) :
    Nums W W.heap.size (some x) (zs.take len) := by
  have hlen : (zs.take len).length = len := by simp; omega
  refine ⟨fun i hi => ?_, fun hn => ?_⟩
  · rw [hlen] at hi
    rw [getD_take _ _ _ _ hi, List.getD_eq_getElem?_getD, List.getElem?_eq_getElem (by omega)]
    have h := hw _ (List.getElem_mem (show i < zs.length by omega))
    simpa [Lit.wf, IntKind.min, IntKind.max, IntKind.bits, IntKind.signed] using h
  · rw [hlen] at hn
    obtain ⟨b, off, spot⟩ := x
    have h0 := hc 0 (by omega)
    have hspot : spot = none := by simpa [Addr.add] using World.cell?_spot h0
    subst hspot
    refine ⟨b, off, rfl, ?_, fun i hi => ?_⟩
    · rw [add_off] at h0
      exact block_lt h0
    · rw [hlen] at hi
      rw [getD_take _ _ _ _ hi, ← add_off]
      exact hc i (by omega)
end Go.Proofs.YtdbhicifjljjnaaGreatDoor
/-
  Rows of int64 numbers of the call's own.
-/
namespace Go.Proofs.YtdbhicifjljjnaaGreatDoor
open Go.RowKit
def OwnL (w : World) (base : Nat) (A : Option Addr) (cap : Nat) (zs : List Int) : Prop :=
  w.ownsRow base 2 1 (.slice A zs.length cap) zs.length (zs.map (Value.int .i64))
theorem OwnL.none_ (w : World) (base : Nat) : OwnL w base none 0 [] := World.ownsRow_nil w base _ _
theorem OwnL.lt {w : World} {base : Nat} {a : Addr} {cap : Nat} {zs : List Int} (h : OwnL w base (some a) cap zs) : base ≤ a.block ∧ a.block < w.heap.size :=
  World.ownsRow.lt h a.block (by simp [Value.ownBlock])
theorem OwnL.keep {w w' : World} {base : Nat} {A : Option Addr} {cap : Nat} {zs : List Int} (h : OwnL w base A cap zs) (hk : ∀ a, A = some a → w'.heap[a.block]? = w.heap[a.block]?) : OwnL w' base A cap zs := by
  refine ⟨h.1, ?_⟩
  rcases h.2 with e | ⟨g, c', cur, e, hb, hg, r⟩
  · exact .inl e
  · injection e with e1 e2 e3
    subst e1 e3
    exact .inr ⟨g, _, cur, rfl, hb, by rw [hk _ rfl]; exact hg, r⟩
theorem OwnL.grew {w w' : World} {base B : Nat} {A : Option Addr} {cap : Nat} {zs : List Int} (h : OwnL w base A cap zs) (hb : Below B w w') (hB : w.heap.size ≤ B) : OwnL w' base A cap zs :=
  h.keep fun a ha => by
    subst ha
    exact hb.block _ (by have := h.lt.2; omega)
theorem OwnL.cell {w : World} {base : Nat} {A : Option Addr} {cap : Nat} {zs : List Int} (h : OwnL w base A cap zs) {i : Nat} (hi : i < zs.length) :
    ∃ g, A = some ⟨g, 0, none⟩ ∧ Hid (g < w.heap.size) ∧ w.cell? ⟨g, i, none⟩ = some (.int .i64 (zs.getD i 0)) := by
  obtain ⟨g, c, e⟩ := Joins.ownsRow_form h (by omega)
  injection e with e1 e2 e3
  subst e1 e3
  refine ⟨g, rfl, Lib.hid (OwnL.lt h).2, ?_⟩
  rw [World.ownsRow.cellAt h i (by omega), List.getElem?_map, List.getD_eq_getElem?_getD, List.getElem?_eq_getElem hi]
  rfl
/-- A row of bytes is no row of numbers. -/
theorem OwnL.apart {w : World} {base b2 : Nat} {a a2 : Addr} {cap cap2 : Nat} {ns zs : List Int} (h : OwnL w base (some a) cap ns) (k : OwnB w b2 (some a2) cap2 zs) : a2.block ≠ a.block := by
  intro e
  rcases h.2 with ⟨e1, _⟩ | ⟨g, c', cur, e1, _, hg, _⟩
  · cases e1
  · injection e1 with e1 _ _
    injection e1 with e1
    subst e1
    exact k.ne (g := g) hg (by decide) e
theorem OwnB.grownL {w w' : World} {base b2 : Nat} {A A2 : Option Addr} {cap cap2 n : Nat} {ns zs : List Int} (k : OwnB w b2 A2 cap2 zs) (h : OwnL w base A cap ns) (hg : w.grownBy w' (Value.slice A n cap).ownBlock) : OwnB w' b2 A2 cap2 zs :=
  k.keep fun a ha => by
    subst ha
    refine hg.block _ (k.1.lt a.block (by simp [Value.ownBlock])).2 ?_
    cases A with
    | none => simp [Value.ownBlock]
    | some a1 => simp [Value.ownBlock]; exact h.apart k
theorem grownL_below {w w' : World} {base : Nat} {A : Option Addr} {cap n : Nat} {zs : List Int} (h : OwnL w base A cap zs) (hbase : base ≤ w.heap.size) (hg : w.grownBy w' (Value.slice A n cap).ownBlock) : Below base w w' :=
  (Below.refl _ _).grown hg hbase fun k hk => by
    cases A with
    | none => cases hk
    | some a => simp [Value.ownBlock] at hk; subst hk; exact h.lt.1
theorem int64_info : (Tryz.prog.info? 2).map (fun i => (i.zero, i.size, i.bytes)) = some (some (.int .i64 0), 1, 8) := by kernel_rfl
theorem form_ofL {w : World} {base n : Nat} {v : Value} {xs : List Value} (h : w.ownsRow base 2 1 v n xs) : ∃ A cap, v = .slice A n cap := by
  rcases h.2 with ⟨e, e0⟩ | ⟨g, c', _, e, _⟩
  · exact ⟨none, 0, by rw [e0]; exact e⟩
  · exact ⟨_, _, e⟩
theorem run_appL {w : World} {base : Nat} {A : Option Addr} {cap : Nat} {zs : List Int} {x : Int} (h : OwnL w base A cap zs) (hbase : base ≤ w.heap.size) {b2 : Nat} (hx : w.cell? ⟨b2, 0, none⟩ = some (.int .i64 x)) (c : Nat) (hlen : zs.length ≤ 1000000000) (ty : TypeId) :
    ∃ A' cap' w', (Builtin.append_ #[83, 83] ty #[.slice A zs.length cap, .slice (some ⟨b2, 0, none⟩) 1 c]).run Tryz.prog w = .ok (.slice A' (zs ++ [x]).length cap') w' ∧
      OwnL w' base A' cap' (zs ++ [x]) ∧ w.grownBy w' (Value.slice A zs.length cap).ownBlock := by
  obtain ⟨i, hi, hz0, hs, hyb⟩ := info_parts int64_info
  obtain ⟨v', w', hrun, hown, hg, _, _⟩ := run_append_own_at (P := Tryz.prog) (w := w) base 83 ty 2 i _ 1 8 Tryz.underlying83 hi hz0 hs hyb rfl (by decide)
    _ zs.length _ h ⟨b2, 0, none⟩ 1 c [.int .i64 x] rfl (fun j u hu => by
      rw [add_off, Nat.zero_add]
      match j, hu with
      | 0, hu => simp at hu; rw [← hu]; exact hx
      | j + 1, hu => simp at hu) (fun u hu => by simp at hu; subst hu; rfl) (by unfold maxLen; omega) (by omega) hbase
  obtain ⟨A', cap', rfl⟩ := form_ofL hown
  have e : zs.length + 1 = (zs ++ [x]).length := by simp
  rw [e] at hrun hown
  refine ⟨A', cap', w', hrun, ?_, hg⟩
  unfold OwnL
  rw [List.map_append]
  exact hown
theorem wp_appL {w : World} {ops : Array Oper} {rest : List Oper} {o : Oper} {a : Act} {Q : Exit → Act → World → Prop} (hgd : o.guard = none) (s t : Operand)
    (ho : o.op = .call { callee := .builtin .append, args := #[s, t], argTypes := #[83, 83] })
    {base : Nat} {A : Option Addr} {n cap : Nat} {zs : List Int} {x : Int} (hs : a.eval s = .slice A n cap) (hn : n = zs.length) (h : OwnL w base A cap zs) (hbase : base ≤ w.heap.size)
    {b2 c : Nat} (ht : a.eval t = .slice (some ⟨b2, 0, none⟩) 1 c) (hx : w.cell? ⟨b2, 0, none⟩ = some (.int .i64 x)) (hlen : zs.length ≤ 1000000000)
    (K : ∀ A' cap' w', OwnL w' base A' cap' (zs ++ [x]) → w.grownBy w' (Value.slice A zs.length cap).ownBlock → wpList Tryz.prog ops Q rest (a.put o.dst (.slice A' (zs ++ [x]).length cap')) w') :
    wpList Tryz.prog ops Q (o :: rest) a w := by
  subst hn
  obtain ⟨A', cap', w', hrun, h1, h2⟩ := run_appL h hbase hx c hlen o.type
  refine wpList_plain hgd fun K' hK => ?_
  unfold Oper.wp
  simp [execOp, ho, resolve, invoke, builtin, hs, ht, hrun, Result.andThen]
  have hk := K A' cap' w' h1 h2
  rw [List.length_append, List.length_singleton] at hk
  exact hK _ _ hk

end Go.Proofs.YtdbhicifjljjnaaGreatDoor
/-
  A slice of bytes that came in, as the walks take it: what it holds, from its reading.
-/
namespace Go.Proofs.YtdbhicifjljjnaaGreatDoor
open Go.ChangeShapes Go.WideShapes Go.ChangeAt Go.RowKit
theorem bytes_of_ints {W : World} {x : Addr} {len : Nat} {zs : List Int} (hl : len ≤ zs.length) (hc : ∀ i, i < zs.length → W.cell? (x.add i) = some (.int .u8 (zs.getD i 0))) (hw : ∀ n ∈ zs, (Lit.int .u8 n).wf = true) :
    Bytes W W.heap.size (some x) (zs.take len) := by
  have hlen : (zs.take len).length = len := by simp; omega
  have hg : ∀ i, i < len → (zs.take len).getD i 0 = zs.getD i 0 := fun i hi => by
    rw [List.getD_eq_getElem?_getD, List.getD_eq_getElem?_getD, List.getElem?_take_of_lt hi]
  refine ⟨fun i hi => ?_, fun hn => ?_⟩
  · rw [hlen] at hi
    rw [hg i hi, List.getD_eq_getElem?_getD, List.getElem?_eq_getElem (by omega)]
    have h := hw _ (List.getElem_mem (show i < zs.length by omega))
    simpa [Lit.wf, IntKind.min, IntKind.max, IntKind.bits, IntKind.signed] using h
  · rw [hlen] at hn
    obtain ⟨b, off, spot⟩ := x
    have h0 := hc 0 (by omega)
    have hspot : spot = none := by simpa [Addr.add] using World.cell?_spot h0
    subst hspot
    have hadd : ∀ i, Addr.add ⟨b, off, none⟩ i = ⟨b, off + i, none⟩ := fun i => by
      unfold Addr.add
      split
      · next h => subst h; rfl
      · rfl
    refine ⟨b, off, rfl, ?_, fun i hi => ?_⟩
    · rw [hadd] at h0
      exact block_lt h0
    · rw [hlen] at hi
      rw [hg i hi, ← hadd]
      exact hc i (by omega)
end Go.Proofs.YtdbhicifjljjnaaGreatDoor
/-
  Slices of structs of one-cell fields that came in: each field's cell and its reading.
-/
namespace Go.Proofs.YtdbhicifjljjnaaGreatDoor
open Go.ChangeShapes Go.WideShapes Go.ChangeAt Go.RowKit Go.Deep
theorem list_of {α : Type} (d : α) (R : Nat → α → Prop) : ∀ n : Nat, (∀ i, i < n → ∃ x, R i x) → ∃ xs : List α, xs.length = n ∧ ∀ i, i < n → R i (xs.getD i d)
  | 0, _ => ⟨[], rfl, fun i hi => by omega⟩
  | n + 1, h => by
    obtain ⟨xs, hl, hx⟩ := list_of d R n fun i hi => h i (by omega)
    obtain ⟨x, hn⟩ := h n (by omega)
    refine ⟨xs ++ [x], by simp [hl], fun i hi => ?_⟩
    rw [List.getD_eq_getElem?_getD]
    by_cases hi2 : i < n
    · rw [List.getElem?_append_left (by omega), ← List.getD_eq_getElem?_getD]; exact hx i hi2
    · have : i = n := by omega
      subst this
      rw [List.getElem?_append_right (by omega), hl]
      simpa using hn
theorem structs_in {H : Type} {enc : TypeId × Value → H} {P : Program} {w : World} {base : Nat} {spare : Nat → Bool} {held : Bool} {t e : TypeId} {fs : Array Field} {fuel : Nat} {cs : List Value} {x : DataW H × List MemPlace}
    (ht : P.underlying t = some (.slice e)) (he : P.underlying e = some (.struct fs)) (h1 : 0 < fs.size) (hC : P.cellsOf e = fs.size) (hone : ∀ (j : Nat) (f : Field), fs[j]? = some f → f.offset = j ∧ P.cellsOf f.type = 1)
    (h : DataW.trod enc P w base spare held fuel t cs = some x) :
    ∃ (A : Option Addr) (len cap : Nat), cs = [.slice A len cap] ∧ len ≤ cap ∧ cap ≤ 9223372036854775807 ∧
      (0 < len → ∃ b off, A = some ⟨b, off, none⟩ ∧ ∀ i, i < len → ∀ (j : Nat) (f : Field), fs[j]? = some f → ∃ v y n, w.cell? ⟨b, off + (i * fs.size + j), none⟩ = some v ∧ DataW.trod enc P w base spare held n f.type [v] = some y) := by
  rcases open_slice ht h with ⟨h0, _⟩ | ⟨a, len, cap, m, n, D, Pl, hcs, hb, hl, hm, hmm, _, hi⟩
  · exact ⟨none, 0, 0, h0, Nat.le_refl _, by decide, fun h => by omega⟩
  · have hlm : len ≤ m := by rw [hmm]; split <;> omega
    unfold maxLen at hm
    have key : ∀ i, i < len → ∀ (j : Nat) (f : Field), fs[j]? = some f → ∃ v y n, w.cell? (a.add (i * fs.size + j)) = some v ∧ DataW.trod enc P w base spare held n f.type [v] = some y := fun i hil j f hj => by
      obtain ⟨cs', h1, h2⟩ := hi i (by omega)
      obtain ⟨_, hlen, hat⟩ := World.cells?_some h1
      obtain ⟨ys, k, _, _, _, hyl, hf⟩ := DataW.trod_struct he h2
      obtain ⟨o1, o2⟩ := hone j f hj
      have hjl : j < fs.size := (Array.getElem?_eq_some_iff.1 hj).1
      have h3 := hf j f hj
      have hjc : j < cs'.length := by omega
      rw [o1, o2, List.drop_eq_getElem_cons hjc, List.getElem?_eq_getElem (by omega : j < ys.length)] at h3
      refine ⟨cs'[j], _, k, ?_, h3⟩
      have h4 := hat j (by omega)
      rw [hC, Go.Deep.add_add, List.getElem?_eq_getElem hjc] at h4
      exact h4
    refine ⟨some a, len, cap, hcs, hl, hm, fun h0 => ?_⟩
    obtain ⟨b, off, spot⟩ := a
    obtain ⟨f, hf⟩ : ∃ f, fs[0]? = some f := ⟨fs[0]'h1, Array.getElem?_eq_getElem h1⟩
    obtain ⟨v, _, _, hv, _⟩ := key 0 h0 0 f hf
    have hs : spot = none := by simpa [Addr.add] using World.cell?_spot hv
    subst hs
    refine ⟨b, off, rfl, fun i hil j f hj => ?_⟩
    obtain ⟨v, y, k, h1, h2⟩ := key i hil j f hj
    rw [add_off] at h1
    exact ⟨v, y, k, h1, h2⟩
theorem i64_of {H : Type} {enc : TypeId × Value → H} {P : Program} {w : World} {base : Nat} {spare : Nat → Bool} {held : Bool} {t : TypeId} {n : Nat} {v : Value} {y : DataW H × List MemPlace} (ht : P.underlying t = some (.int .i64)) (h : DataW.trod enc P w base spare held n t [v] = some y) :
    ∃ k, v = .int .i64 k ∧ -9223372036854775808 ≤ k ∧ k ≤ 9223372036854775807 := by
  obtain ⟨k, e, _, hw⟩ := DataW.trod_int ht h
  have hw' : -9223372036854775808 ≤ k ∧ k ≤ 9223372036854775807 := by simpa [Lit.wf, IntKind.min, IntKind.max, IntKind.bits, IntKind.signed] using hw
  exact ⟨k, by simpa using e, hw'⟩
theorem str_of {H : Type} {enc : TypeId × Value → H} {P : Program} {w : World} {base : Nat} {spare : Nat → Bool} {held : Bool} {t : TypeId} {n : Nat} {v : Value} {y : DataW H × List MemPlace} (ht : P.underlying t = some .string) (h : DataW.trod enc P w base spare held n t [v] = some y) :
    ∃ s : ByteArray, v = .string s ∧ s.size ≤ 9223372036854775807 := by
  obtain ⟨s, e, _, hw⟩ := DataW.trod_string ht h
  unfold maxLen at hw
  exact ⟨s, by simpa using e, hw⟩
theorem bytes_of_in {H : Type} {enc : TypeId × Value → H} {P : Program} {w : World} {base : Nat} {spare : Nat → Bool} {held : Bool} {t e : TypeId} {n : Nat} {v : Value} {y : DataW H × List MemPlace} (ht : P.underlying t = some (.slice e)) (he : P.underlying e = some (.int .u8)) (hc : P.cellsOf e = 1)
    (h : DataW.trod enc P w base spare held n t [v] = some y) : ∃ A zs cap, v = .slice A zs.length cap ∧ Bytes w w.heap.size A zs ∧ zs.length ≤ cap ∧ cap ≤ 9223372036854775807 := by
  rcases open_ints ht he hc h with ⟨hcs, _⟩ | ⟨x, l, c, zs, hcs, _, hl, hm, hz, _, hcell, hwz⟩
  · simp at hcs
    exact ⟨none, [], 0, hcs, Bytes.nil_, by simp, by decide⟩
  · simp at hcs
    unfold maxLen at hm
    have hlz : l ≤ zs.length := by rw [hz]; split <;> omega
    refine ⟨some x, zs.take l, c, ?_, bytes_of_ints hlz hcell hwz, by rw [List.length_take]; omega, hm⟩
    rw [hcs, List.length_take, Nat.min_eq_left hlz]
end Go.Proofs.YtdbhicifjljjnaaGreatDoor
