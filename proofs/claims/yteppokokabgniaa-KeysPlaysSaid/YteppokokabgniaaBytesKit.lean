/-
  Slices of bytes in memory: what one holds (nil and empty too), cut, turned into a string, owned by the call, grown by append; what is kept of the other blocks. No function of the program is named here.
-/
import Derived.Test.YteppokokabgniaaBaseKit
import Derived.WalkKit
import Derived.WalkSpells
import Derived.WalkLawsBesides
import Derived.Lib.Hide
import Derived.Lib.SlBytesConst
import Derived.Lib.AppendStr
import Derived.OwnWalk
import Derived.Laws.OwnMore
import Derived.Laws.BytesArg
import Derived.Maps.AppendAt
import Derived.ArgAppend
import Derived.OneCell
import Derived.Lib.SmallJoins
import Derived.RegionTactic
namespace Go.Proofs.Yteppokokabgniaa
open Go.RowKit

/-- Below 'base' nothing has changed, and no block of another type than a byte row has. -/
structure Grew (base : Nat) (w w' : World) : Prop where
  below : Below base w w'
  obj : ∀ (g : Nat) (cs : Array Value) (t : TypeId) (fz : Nat × Nat), w.heap[g]? = some (.cells cs t fz) → t ≠ 5 → w'.heap[g]? = some (.cells cs t fz)
theorem Grew.alloc {base : Nat} {a w : World} (h : Grew base a w) (hb : base ≤ w.heap.size) (o : Obj) : Grew base a (w.alloc o) :=
  ⟨h.below.alloc hb o, fun g cs t fz hg ht => by
    have h1 := h.obj g cs t fz hg ht
    rw [Below.heap_alloc _ _ _ (lt_of_block h1)]; exact h1⟩
theorem Grew.refl (base : Nat) (w : World) : Grew base w w := ⟨Below.refl _ _, fun _ _ _ _ h _ => h⟩
theorem Grew.trans {base : Nat} {a b c : World} (h : Grew base a b) (k : Grew base b c) : Grew base a c :=
  ⟨h.below.trans k.below, fun g cs t fz hg ht => k.obj g cs t fz (h.obj g cs t fz hg ht) ht⟩

/-! ### The bytes of a slice -/
/-- The slice at address A whose elements are the numbers zs, each a byte, below block B. -/
def Bytes (w : World) (B : Nat) (A : Option Addr) (zs : List Int) : Prop :=
  (∀ i, i < zs.length → 0 ≤ zs.getD i 0 ∧ zs.getD i 0 ≤ 255) ∧
  (0 < zs.length → ∃ b off, A = some ⟨b, off, none⟩ ∧ b < B ∧ ∀ i, i < zs.length → w.cell? ⟨b, off + i, none⟩ = some (.int .u8 (zs.getD i 0)))
theorem Bytes.at_ {w : World} {B : Nat} {A : Option Addr} {zs : List Int} {k : Nat} (h : Bytes w B A zs) (hk : k < zs.length) :
    ∃ b off z, A = some ⟨b, off, none⟩ ∧ Hid (b < B) ∧ w.cell? ⟨b, off + k, none⟩ = some (.int .u8 z) ∧ Hid (zs.getD k 0 = z) ∧ 0 ≤ z ∧ z ≤ 255 := by
  obtain ⟨b, off, e, hb, hc⟩ := h.2 (by omega)
  exact ⟨b, off, _, e, Lib.hid hb, hc k hk, Lib.hid rfl, (h.1 k hk).1, (h.1 k hk).2⟩
theorem Bytes.nil_ {w : World} {B : Nat} {A : Option Addr} : Bytes w B A [] := ⟨fun i h => by simp at h, fun h => by simp at h⟩
theorem Bytes.keep {w w' : World} {B : Nat} {A : Option Addr} {zs : List Int} (h : Bytes w B A zs) (hk : ∀ b off, b < B → w'.cell? ⟨b, off, none⟩ = w.cell? ⟨b, off, none⟩) : Bytes w' B A zs :=
  ⟨h.1, fun hn => by
    obtain ⟨b, off, e, hb, hc⟩ := h.2 hn
    exact ⟨b, off, e, hb, fun i hi => (hk b _ hb).trans (hc i hi)⟩⟩
theorem Bytes.below {w w' : World} {B : Nat} {A : Option Addr} {zs : List Int} (h : Bytes w B A zs) (hb : Below B w w') : Bytes w' B A zs :=
  h.keep fun b off hl => hb.cell (p := ⟨b, off, none⟩) hl
theorem Bytes.more {w : World} {B B' : Nat} {A : Option Addr} {zs : List Int} (h : Bytes w B A zs) (hB : B ≤ B') : Bytes w B' A zs :=
  ⟨h.1, fun hn => by
    obtain ⟨b, off, e, hb, hc⟩ := h.2 hn
    exact ⟨b, off, e, by omega, hc⟩⟩
theorem Bytes.mem {w : World} {B : Nat} {A : Option Addr} {zs : List Int} (h : Bytes w B A zs) : ∀ z ∈ zs, 0 ≤ z ∧ z ≤ 255 := fun z hz => by
  obtain ⟨i, hi, e⟩ := List.getElem_of_mem hz
  have := h.1 i hi
  rw [List.getD_eq_getElem?_getD, List.getElem?_eq_getElem hi] at this
  rw [← e]; exact this
/-- Bytes are kept where an object of another type is all that has changed. -/
theorem Bytes.but {w w' : World} {B g : Nat} {A : Option Addr} {zs : List Int} {vs : Array Value} {t : TypeId} {fz : Nat × Nat} (h : Bytes w B A zs) (hB : But B g w w') (ho : w.heap[g]? = some (.cells vs t fz))
    (hv : ∀ (i : Nat) (n : Int), vs[i]? ≠ some (.int .u8 n)) : Bytes w' B A zs :=
  ⟨h.1, fun hn => by
    obtain ⟨b, off, e, hb, hc⟩ := h.2 hn
    refine ⟨b, off, e, hb, fun i hi => ?_⟩
    have hne : b ≠ g := by
      rintro rfl
      have h0 := hc i hi
      rw [cell_of_row w b (off + i) vs t fz ho] at h0
      exact hv _ _ h0
    rw [← hc i hi]
    exact World.cell?_of_block (w := w) (hB.block b hb hne)⟩
/-- The row is none of the objects' blocks. -/
theorem Bytes.ne {w : World} {B b off : Nat} {zs : List Int} {g : Nat} {vs : Array Value} {t : TypeId} {fz : Nat × Nat} (h : Bytes w B (some ⟨b, off, none⟩) zs) (hn : 0 < zs.length) (ho : w.heap[g]? = some (.cells vs t fz))
    (hv : ∀ (i : Nat) (n : Int), vs[i]? ≠ some (.int .u8 n)) : b ≠ g := by
  rintro rfl
  obtain ⟨b', off', e, hb, hc⟩ := h.2 hn
  injection e with e
  injection e with e1 e2
  subst e1 e2
  have h0 := hc 0 hn
  rw [cell_of_row w b _ vs t fz ho] at h0
  exact hv _ _ h0
def isByte (z : Int) : Bool := decide (0 ≤ z) && decide (z ≤ 255)
/-- Bytes that the call itself has just laid, out of a literal. -/
theorem Bytes.new (w : World) (zs : List Int) (hz : zs.all isByte = true) (fr : Nat × Nat) (cs : Array Value) (hc : cs = (zs.map (Value.int .u8)).toArray) :
    Bytes (w.alloc (.cells cs 5 fr)) (w.heap.size + 1) (some ⟨w.heap.size, 0, none⟩) zs := by
  subst hc
  refine ⟨fun i hi => ?_, fun _ => ⟨w.heap.size, 0, rfl, by omega, fun i hi => ?_⟩⟩
  · have h := List.all_eq_true.1 hz (zs.getD i 0) (by rw [List.getD_eq_getElem?_getD, List.getElem?_eq_getElem hi]; exact List.getElem_mem hi)
    unfold isByte at h
    simp only [Bool.and_eq_true, decide_eq_true_eq] at h
    exact h
  · rw [Nat.zero_add, World.cell?_alloc_mark]
    simp [hi]
theorem Bytes.new1 (w : World) (z : Int) (h0 : 0 ≤ z) (h1 : z ≤ 255) (fr : Nat × Nat) :
    Bytes (w.alloc (.cells #[.int .u8 z] 5 fr)) (w.heap.size + 1) (some ⟨w.heap.size, 0, none⟩) [z] :=
  Bytes.new w [z] (by simp [isByte, h0, h1]) fr _ rfl
theorem conv_lit (w : World) (C : Array Value) (n c : Nat) : (convert 32 32 (.slice (some ⟨w.heap.size, 0, none⟩) n c)).run Try.prog (w.alloc (.cells C 5)) = .ok (.slice (some ⟨w.heap.size, 0, none⟩) n c) (w.alloc (.cells C 5 (C.size, C.size + 1))) :=
  Lib.run_convert_bytes_const w 32 5 C n c Try.underlying32 Try.underlying5
/-- string(b) -/
theorem conv_str {w : World} {B : Nat} {A : Option Addr} {zs : List Int} (h : Bytes w B A zs) (cap : Nat) : (convert 32 9 (.slice A zs.length cap)).run Try.prog w = .ok (.string (strOfNums zs)) w := by
  rcases Nat.eq_zero_or_pos zs.length with h0 | h0
  · obtain rfl := List.eq_nil_of_length_eq_zero h0
    rcases A with _ | ⟨b, off, sp⟩
    · rw [run_convert_bytes_nil w 32 5 Try.underlying32 Try.underlying5 _ _ 9 Try.underlying9]
      rfl
    · rw [run_convert_bytes_string w 32 9 5 _ _ _ Try.underlying32 Try.underlying5 Try.underlying9]
      have hl : (loadCells ⟨b, off, sp⟩ 0).run Try.prog w = .ok (([] : List Int).map (Value.int .u8)).toArray w := by
        simp [loadCells, loadCellsFrom]
      exact run_bytesToString w ⟨b, off, sp⟩ 0 cap [] hl
  · obtain ⟨b, off, rfl, hb, hc⟩ := h.2 h0
    exact run_convert_bytes_arg w 32 5 Try.underlying32 Try.underlying5 b off zs.length cap zs rfl hc 9 Try.underlying9

/-! ### A slice cut -/
def tailA (A : Option Addr) (cap k : Nat) : Option Addr := if cap = k then A else A.map (·.add k)
theorem size1 (W : World) : (sizeOf 5).run Try.prog W = .ok 1 W := by kernel_rfl
theorem elem30 : Try.prog.elem 32 = 5 := by kernel_rfl
theorem und30 : Try.prog.underlying 32 = some (.slice (Try.prog.elem 32)) := by rw [elem30]; exact Try.underlying32
theorem slice_to (A : Option Addr) (n cap k : Nat) (h : k ≤ cap) (ik : IntKind) (W : World) :
    (Instr.slice 32 (.slice A n cap) none (some (.int ik (k : Int))) none).run Try.prog W = .ok (.slice A k cap) W := by
  rw [run_slice_h (P := Try.prog) (w := W) 32 A n cap und30 ik k (by omega) (by omega), elem30, size1]
  simp [Result.andThen, sliced]
  intro _
  cases A <;> simp [Addr.add]
theorem slice_from (A : Option Addr) (n cap k : Nat) (h : k ≤ n) (ik : IntKind) (W : World) :
    (Instr.slice 32 (.slice A n cap) (some (.int ik (k : Int))) none none).run Try.prog W = .ok (.slice (tailA A cap k) (n - k) (cap - k)) W := by
  rw [run_slice_l (P := Try.prog) (w := W) 32 A n cap und30 ik k (by omega) (by omega), elem30, size1]
  simp [Result.andThen, sliced, tailA]
theorem slice_mid (A : Option Addr) (n cap l h : Nat) (h1 : l ≤ h) (h2 : h ≤ cap) (ik ik' : IntKind) (W : World) :
    (Instr.slice 32 (.slice A n cap) (some (.int ik (l : Int))) (some (.int ik' (h : Int))) none).run Try.prog W = .ok (.slice (tailA A cap l) (h - l) (cap - l)) W := by
  rw [run_slice_lh (P := Try.prog) (w := W) 32 A n cap und30 ik ik' l h (by omega) (by omega) (by omega), elem30, size1]
  simp [Result.andThen, sliced, tailA]
theorem Bytes.head {w : World} {B : Nat} {A : Option Addr} {zs : List Int} (h : Bytes w B A zs) (k : Nat) : Bytes w B A (zs.take k) := by
  have hg : ∀ i, i < (zs.take k).length → (zs.take k).getD i 0 = zs.getD i 0 ∧ i < zs.length := fun i hi => by
    simp at hi
    rw [List.getD_eq_getElem?_getD, List.getD_eq_getElem?_getD, List.getElem?_take_of_lt (by omega)]
    exact ⟨rfl, by omega⟩
  refine ⟨fun i hi => by rw [(hg i hi).1]; exact h.1 i (hg i hi).2, fun hn => ?_⟩
  obtain ⟨b, off, e, hb, hc⟩ := h.2 (by simp at hn; omega)
  exact ⟨b, off, e, hb, fun i hi => by rw [(hg i hi).1]; exact hc i (hg i hi).2⟩
theorem Bytes.tail {w : World} {B : Nat} {A : Option Addr} {zs : List Int} (h : Bytes w B A zs) (k cap : Nat) (hc : zs.length ≤ cap) : Bytes w B (tailA A cap k) (zs.drop k) := by
  have hg : ∀ i, i < (zs.drop k).length → (zs.drop k).getD i 0 = zs.getD (k + i) 0 ∧ k + i < zs.length := fun i hi => by
    simp at hi
    rw [List.getD_eq_getElem?_getD, List.getD_eq_getElem?_getD, List.getElem?_drop]
    exact ⟨rfl, by omega⟩
  refine ⟨fun i hi => by rw [(hg i hi).1]; exact h.1 _ (hg i hi).2, fun hn => ?_⟩
  have hk := (hg 0 hn).2
  obtain ⟨b, off, rfl, hb, hcell⟩ := h.2 (by omega)
  refine ⟨b, off + k, ?_, hb, fun i hi => ?_⟩
  · unfold tailA
    rw [if_neg (by omega)]
    show some (Addr.add ⟨b, off, none⟩ k) = _
    rw [add_off]
  · rw [(hg i hi).1, Nat.add_assoc]
    exact hcell _ (hg i hi).2

/-! ### A row of the call's own -/
def OwnB (w : World) (base : Nat) (A : Option Addr) (cap : Nat) (zs : List Int) : Prop :=
  w.ownsRow base 5 1 (.slice A zs.length cap) zs.length (zs.map (Value.int .u8)) ∧ ∀ i, i < zs.length → 0 ≤ zs.getD i 0 ∧ zs.getD i 0 ≤ 255
theorem OwnB.bytes {w : World} {base : Nat} {A : Option Addr} {cap : Nat} {zs : List Int} (h : OwnB w base A cap zs) : Bytes w w.heap.size A zs := by
  refine ⟨h.2, fun hn => ?_⟩
  obtain ⟨g, c, e⟩ := Joins.ownsRow_form h.1 hn
  injection e with e1 e2 e3
  subst e1 e3
  have hlt := h.1.lt g (by simp [Value.ownBlock])
  refine ⟨g, 0, rfl, hlt.2, fun i hi => ?_⟩
  rw [Nat.zero_add, h.1.cellAt i (by omega)]
  simp [hi]
theorem OwnB.cap_ {w : World} {base : Nat} {A : Option Addr} {cap : Nat} {zs : List Int} (h : OwnB w base A cap zs) : zs.length ≤ cap := by
  rcases h.1.2 with ⟨e, e0⟩ | ⟨g, c', cur, e, _, _, hle, _⟩
  · omega
  · injection e with e1 e2 e3; omega
theorem OwnB.start (w : World) (base : Nat) (hb : base ≤ w.heap.size) : OwnB (w.alloc (.cells #[] 5)) base (some ⟨w.heap.size, 0, none⟩) 0 [] :=
  ⟨World.ownsRow_lit w #[] 0 hb (by decide) rfl, fun i hi => by simp at hi⟩
theorem OwnB.start_at (w : World) (n : Nat) (hn : n = w.heap.size) : OwnB (w.alloc (.cells #[] 5)) n (some ⟨n, 0, none⟩) 0 [] := by
  subst hn; exact OwnB.start w _ (Nat.le_refl _)
theorem OwnB.low {w : World} {base b : Nat} {A : Option Addr} {cap : Nat} {zs : List Int} (h : OwnB w base A cap zs) (hb : b ≤ base) : OwnB w b A cap zs := ⟨Joins.ownsRow_le h.1 hb, h.2⟩
theorem OwnB.none_ (w : World) (base : Nat) : OwnB w base none 0 [] := ⟨World.ownsRow_nil w base _ _, fun i hi => by simp at hi⟩
theorem OwnB.shape {w : World} {base : Nat} {A : Option Addr} {cap : Nat} {zs : List Int} (h : OwnB w base A cap zs) (hn : 0 < zs.length) : ∃ g, A = some ⟨g, 0, none⟩ ∧ base ≤ g ∧ g < w.heap.size := by
  obtain ⟨g, c, e⟩ := Joins.ownsRow_form h.1 hn
  injection e with e1 e2 e3
  subst e1 e3
  have hlt := h.1.lt g (by simp [Value.ownBlock])
  exact ⟨g, rfl, hlt.1, hlt.2⟩
theorem OwnB.cell {w : World} {base g cap : Nat} {zs : List Int} (h : OwnB w base (some ⟨g, 0, none⟩) cap zs) {j : Nat} (hj : j < zs.length) :
    w.cell? ⟨g, j, none⟩ = some (.int .u8 (zs.getD j 0)) ∧ w.frozen? ⟨g, j, none⟩ = false := by
  refine ⟨?_, h.1.frozenAt j⟩
  rw [h.1.cellAt j (by omega)]
  simp [hj]
/-- An owned row is kept where its block is. -/
theorem OwnB.keep {w w' : World} {base : Nat} {A : Option Addr} {cap : Nat} {zs : List Int} (h : OwnB w base A cap zs) (hk : ∀ a, A = some a → w'.heap[a.block]? = w.heap[a.block]?) : OwnB w' base A cap zs := by
  refine ⟨⟨h.1.1, ?_⟩, h.2⟩
  rcases h.1.2 with e | ⟨g, c', cur, e, hb, hg, r⟩
  · exact .inl e
  · injection e with e1 e2 e3
    subst e1 e3
    exact .inr ⟨g, _, cur, rfl, hb, by rw [hk _ rfl]; exact hg, r⟩
/-- It is no object's block. -/
theorem OwnB.ne {w : World} {base : Nat} {a : Addr} {cap : Nat} {zs : List Int} (h : OwnB w base (some a) cap zs) {g : Nat} {cs : Array Value} {t : TypeId} {fz : Nat × Nat} (ho : w.heap[g]? = some (.cells cs t fz)) (ht : t ≠ 5) : a.block ≠ g := by
  rintro rfl
  rcases h.1.2 with ⟨e, _⟩ | ⟨g, c', cur, e, hb, hg, r⟩
  · cases e
  · injection e with e1 e2 e3
    injection e1 with e1
    subst e1
    rw [ho] at hg
    injection hg with hg
    injection hg with _ h2 _
    exact ht h2
theorem OwnB.set {w : World} {base : Nat} {A : Option Addr} {cap : Nat} {zs : List Int} (h : OwnB w base A cap zs) {g : Nat} {cs : Array Value} {t : TypeId} {fz : Nat × Nat} (ho : w.heap[g]? = some (.cells cs t fz)) (ht : t ≠ 5) (o : Nat) (v : Value) :
    OwnB (w.setCell ⟨g, o, none⟩ v) base A cap zs :=
  h.keep fun a ha => by subst ha; exact Below.heap_setCell _ _ _ _ (h.ne ho ht)
theorem OwnB.grew {w w' : World} {base B : Nat} {A : Option Addr} {cap : Nat} {zs : List Int} (h : OwnB w base A cap zs) (hb : Below B w w') (hB : w.heap.size ≤ B) : OwnB w' base A cap zs :=
  h.keep fun a ha => by
    subst ha
    exact hb.block _ (by have := (h.1.lt a.block (by simp [Value.ownBlock])).2; omega)
/-- A row of the call's own, or a full one (a literal of bytes): an append of something to it ends in a row of the call's own. -/
def Row (w : World) (base : Nat) (A : Option Addr) (cap : Nat) (xs : List Int) : Prop :=
  OwnB w base A cap xs ∨ (cap = xs.length ∧ 0 < xs.length ∧ Bytes w w.heap.size A xs)
theorem u8_info : (Try.prog.info? 5).map (fun i => (i.zero, i.size, i.bytes)) = some (some (.int .u8 0), 1, 1) := by kernel_rfl
theorem nil_src {w : World} {base : Nat} {A : Option Addr} {cap : Nat} {zs : List Int} (h : OwnB w base A cap zs) (c : Nat) (ty : TypeId) :
    (Builtin.append_ #[32, 32] ty #[.slice A zs.length cap, .slice none 0 c]).run Try.prog w = .ok (.slice A zs.length cap) w := by
  obtain ⟨i, hi, _, _, _⟩ := info_parts u8_info
  have hfit := h.1.2
  rcases hfit with ⟨e, _⟩ | ⟨g, c', cur, e, _, _, hle, _⟩
  · rw [e]
    simp [Builtin.append_, run_underlying Try.underlying32, sizeOf, typeInfo, hi, Builtin.lenOf, Builtin.firstCells]
  · rw [e]
    simp [Builtin.append_, run_underlying Try.underlying32, sizeOf, typeInfo, hi, Builtin.lenOf, Builtin.firstCells, hle, storeCells]
theorem rng_app {xs zs : List Int} (hx : ∀ i, i < xs.length → 0 ≤ xs.getD i 0 ∧ xs.getD i 0 ≤ 255) (hz : ∀ i, i < zs.length → 0 ≤ zs.getD i 0 ∧ zs.getD i 0 ≤ 255) :
    ∀ i, i < (xs ++ zs).length → 0 ≤ (xs ++ zs).getD i 0 ∧ (xs ++ zs).getD i 0 ≤ 255 := fun i hi => by
  rw [List.getD_eq_getElem?_getD]
  by_cases h : i < xs.length
  · rw [List.getElem?_append_left h, ← List.getD_eq_getElem?_getD]; exact hx i h
  · rw [List.getElem?_append_right (by omega), ← List.getD_eq_getElem?_getD]
    rw [List.length_append] at hi
    exact hz _ (by omega)
theorem cells_of {w : World} {B : Nat} {ad : Addr} {zs : List Int} (hb : Bytes w B (some ad) zs) : ∀ j u, (zs.map (Value.int .u8))[j]? = some u → w.cell? (ad.add j) = some u := fun j u hu => by
  rw [List.getElem?_map] at hu
  obtain ⟨z, hz1, rfl⟩ := Option.map_eq_some_iff.1 hu
  have hj : j < zs.length := (List.getElem?_eq_some_iff.1 hz1).1
  obtain ⟨b, off, e, _, hc⟩ := hb.2 (by omega)
  injection e with e
  subst e
  rw [add_off, hc j hj, List.getD_eq_getElem?_getD, hz1]
  rfl
theorem form_of {w : World} {base n : Nat} {v : Value} {xs : List Value} (h : w.ownsRow base 5 1 v n xs) : ∃ A cap, v = .slice A n cap := by
  rcases h.2 with ⟨e, e0⟩ | ⟨g, c', _, e, _⟩
  · exact ⟨none, 0, by rw [e0]; exact e⟩
  · exact ⟨_, _, e⟩
theorem grew_of {w w' : World} {base : Nat} {row : Option Nat} (hg : w.grownBy w' row) (hbase : base ≤ w.heap.size) (h1 : ∀ k, row = some k → base ≤ k)
    (h2 : ∀ k, row = some k → ∃ cur, w.heap[k]? = some (.cells cur 5 (0, 0))) : Grew base w w' := by
  refine ⟨(Below.refl _ _).grown hg hbase h1, fun g cs t fz ho ht => ?_⟩
  rw [hg.block g (lt_of_block ho) ?_]
  · exact ho
  · rintro e
    obtain ⟨cur, hc⟩ := h2 g e.symm
    rw [ho] at hc
    injection hc with hc
    injection hc with _ hc _
    exact ht hc
theorem row_block {w : World} {base n : Nat} {v : Value} {xs : List Value} (h : w.ownsRow base 5 1 v n xs) : ∀ k, v.ownBlock = some k → base ≤ k ∧ ∃ cur, w.heap[k]? = some (.cells cur 5 (0, 0)) := fun k hk => by
  refine ⟨(h.lt k hk).1, ?_⟩
  rcases h.2 with ⟨e, _⟩ | ⟨g, c', cur, e, _, hg, _⟩
  · rw [e] at hk; cases hk
  · rw [e] at hk; simp [Value.ownBlock] at hk; subst hk; exact ⟨cur, hg⟩
/-- What an append of bytes onto a row of the call's own leaves: the row with the bytes behind it. -/
theorem run_app {w : World} {base : Nat} {A : Option Addr} {cap : Nat} {xs : List Int} (h : OwnB w base A cap xs) (hbase : base ≤ w.heap.size)
    {B : Nat} {A2 : Option Addr} {zs : List Int} (hb : Bytes w B A2 zs) (c : Nat) (hlen : xs.length + zs.length ≤ 1073741824) (ty : TypeId) :
    ∃ A' cap' w', (Builtin.append_ #[32, 32] ty #[.slice A xs.length cap, .slice A2 zs.length c]).run Try.prog w = .ok (.slice A' (xs ++ zs).length cap') w' ∧
      OwnB w' base A' cap' (xs ++ zs) ∧ Grew base w w' := by
  have rng := rng_app h.2 hb.1
  obtain ⟨i, hi, hz, hs, hy⟩ := info_parts u8_info
  rcases A2 with _ | ad
  · have h0 : zs = [] := by
      rcases Nat.eq_zero_or_pos zs.length with h0 | h0
      · exact List.eq_nil_of_length_eq_zero h0
      · obtain ⟨_, _, e, _⟩ := hb.2 h0; cases e
    subst h0
    refine ⟨A, cap, w, ?_, ?_, Grew.refl _ _⟩
    · rw [List.append_nil]; exact nil_src h c ty
    · rw [List.append_nil]; exact h
  · obtain ⟨v', w', hrun, hown, hg, _, hblk⟩ := run_append_own_at (P := Try.prog) (w := w) base 32 ty 5 i _ 1 1 Try.underlying32 hi hz hs hy rfl (by decide)
      _ xs.length _ h.1 ad zs.length c (zs.map (Value.int .u8)) (by simp) (cells_of hb) (fun u hu => by simp at hu; obtain ⟨z, _, rfl⟩ := hu; rfl) (by unfold maxLen; omega) (by omega) hbase
    obtain ⟨A', cap', rfl⟩ := form_of hown
    rw [← List.length_append] at hrun hown
    refine ⟨A', cap', w', hrun, ⟨?_, rng⟩, grew_of hg hbase (fun k hk => (row_block h.1 k hk).1) (fun k hk => (row_block h.1 k hk).2)⟩
    rw [List.map_append]
    exact hown
theorem run_appR {w : World} {base : Nat} {A : Option Addr} {cap : Nat} {xs : List Int} (h : Row w base A cap xs) (hbase : base ≤ w.heap.size)
    {B : Nat} {A2 : Option Addr} {zs : List Int} (hb : Bytes w B A2 zs) (hn : 0 < zs.length) (c : Nat) (hlen : xs.length + zs.length ≤ 1073741824) (ty : TypeId) :
    ∃ A' cap' w', (Builtin.append_ #[32, 32] ty #[.slice A xs.length cap, .slice A2 zs.length c]).run Try.prog w = .ok (.slice A' (xs ++ zs).length cap') w' ∧
      OwnB w' base A' cap' (xs ++ zs) ∧ Grew base w w' := by
  rcases h with h | ⟨hc, hp, hx⟩
  · exact run_app h hbase hb c hlen ty
  · obtain ⟨i, hi, hz, hs, hy⟩ := info_parts u8_info
    obtain ⟨b1, off1, rfl, _, _⟩ := hx.2 hp
    obtain ⟨b2, off2, rfl, _, _⟩ := hb.2 hn
    obtain ⟨v', w', hrun, hown, hg⟩ := run_append_arg_grows (P := Try.prog) w 32 ty 5 i _ 1 1 Try.underlying32 hi hz hs hy rfl (by decide)
      _ xs.length cap (xs.map (Value.int .u8)) (by simp) (cells_of hx) _ zs.length c (zs.map (Value.int .u8)) (by simp) (cells_of hb)
      (by omega) (by unfold maxLen; omega) (by omega)
    obtain ⟨A', cap', rfl⟩ := form_of hown
    rw [← List.length_append] at hrun hown
    refine ⟨A', cap', w', hrun, ⟨?_, rng_app hx.1 hb.1⟩, grew_of hg hbase (fun k hk => by cases hk) (fun k hk => by cases hk)⟩
    rw [List.map_append]
    exact Joins.ownsRow_le hown hbase
def strB_ (s : ByteArray) : List Int := s.data.toList.map fun c => (c.toNat : Int)
theorem strB_cells (s : ByteArray) : Lib.strCells s = (strB_ s).map (Value.int .u8) := by
  unfold Lib.strCells strB_; rw [List.map_map]; rfl
theorem strB_size (s : ByteArray) : (strB_ s).length = s.size := by unfold strB_; rw [List.length_map, Array.length_toList]; rfl
theorem strB_rng (s : ByteArray) : ∀ i, i < (strB_ s).length → 0 ≤ (strB_ s).getD i 0 ∧ (strB_ s).getD i 0 ≤ 255 := fun i hi => by
  have hm : (strB_ s).getD i 0 ∈ strB_ s := by rw [List.getD_eq_getElem?_getD, List.getElem?_eq_getElem hi]; exact List.getElem_mem hi
  generalize (strB_ s).getD i 0 = z at hm
  simp only [strB_, List.mem_map] at hm
  obtain ⟨c, _, rfl⟩ := hm
  have := c.toNat_lt
  omega
theorem run_app_str {w : World} {base : Nat} {A : Option Addr} {cap : Nat} {xs : List Int} (h : OwnB w base A cap xs) (hbase : base ≤ w.heap.size)
    (s : ByteArray) (hlen : xs.length + s.size ≤ 1073741824) (ty : TypeId) :
    ∃ A' cap' w', (Builtin.append_ #[32, 9] ty #[.slice A xs.length cap, .string s]).run Try.prog w = .ok (.slice A' (xs ++ strB_ s).length cap') w' ∧
      OwnB w' base A' cap' (xs ++ strB_ s) ∧ Grew base w w' := by
  obtain ⟨i, hi, hz, hs, hy⟩ := info_parts u8_info
  obtain ⟨v', w', hrun, hown, hg, _⟩ := Lib.run_append_own_string (P := Try.prog) w base 32 9 ty 5 i Try.underlying32 Try.underlying9 hi hz hs hy
    _ xs.length _ h.1 s (by unfold maxLen; omega) (by omega) hbase
  obtain ⟨A', cap', rfl⟩ := form_of hown
  have e : xs.length + s.size = (xs ++ strB_ s).length := by rw [List.length_append, strB_size]
  rw [e] at hrun hown
  refine ⟨A', cap', w', hrun, ⟨?_, rng_app h.2 (strB_rng s)⟩, grew_of hg hbase (fun k hk => (row_block h.1 k hk).1) (fun k hk => (row_block h.1 k hk).2)⟩
  rw [List.map_append, ← strB_cells]
  exact hown

/-! The same at the operation, for a walk. -/
theorem wp_app {w : World} {ops : Array Oper} {rest : List Oper} {o : Oper} {a : Act} {Q : Exit → Act → World → Prop} (hgd : o.guard = none) (s x : Operand)
    (ho : o.op = .call { callee := .builtin .append, args := #[s, x], argTypes := #[32, 32] })
    {base : Nat} {A : Option Addr} {n cap : Nat} {xs : List Int} (hs : a.eval s = .slice A n cap) (hn : n = xs.length) (h : OwnB w base A cap xs) (hbase : base ≤ w.heap.size)
    {B : Nat} {A2 : Option Addr} {m c : Nat} {zs : List Int} (hx : a.eval x = .slice A2 m c) (hm : m = zs.length) (hb : Bytes w B A2 zs) (hlen : xs.length + zs.length ≤ 1073741824)
    (K : ∀ A' cap' w', OwnB w' base A' cap' (xs ++ zs) → Grew base w w' → wpList Try.prog ops Q rest (a.put o.dst (.slice A' (xs ++ zs).length cap')) w') :
    wpList Try.prog ops Q (o :: rest) a w := by
  subst hn hm
  obtain ⟨A', cap', w', hrun, h1, h2⟩ := run_app h hbase hb c hlen o.type
  refine wpList_plain hgd fun K' hK => ?_
  unfold Oper.wp
  simp [execOp, ho, resolve, invoke, builtin, hs, hx, hrun, Result.andThen]
  have hk := K A' cap' w' h1 h2
  rw [List.length_append] at hk
  exact hK _ _ hk
theorem wp_appR {w : World} {ops : Array Oper} {rest : List Oper} {o : Oper} {a : Act} {Q : Exit → Act → World → Prop} (hgd : o.guard = none) (s x : Operand)
    (ho : o.op = .call { callee := .builtin .append, args := #[s, x], argTypes := #[32, 32] })
    {base : Nat} {A : Option Addr} {n cap : Nat} {xs : List Int} (hs : a.eval s = .slice A n cap) (hn : n = xs.length) (h : Row w base A cap xs) (hbase : base ≤ w.heap.size)
    {B : Nat} {A2 : Option Addr} {m c : Nat} {zs : List Int} (hx : a.eval x = .slice A2 m c) (hm : m = zs.length) (hb : Bytes w B A2 zs) (hp : 0 < zs.length) (hlen : xs.length + zs.length ≤ 1073741824)
    (K : ∀ A' cap' w', OwnB w' base A' cap' (xs ++ zs) → Grew base w w' → wpList Try.prog ops Q rest (a.put o.dst (.slice A' (xs ++ zs).length cap')) w') :
    wpList Try.prog ops Q (o :: rest) a w := by
  subst hn hm
  obtain ⟨A', cap', w', hrun, h1, h2⟩ := run_appR h hbase hb hp c hlen o.type
  refine wpList_plain hgd fun K' hK => ?_
  unfold Oper.wp
  simp [execOp, ho, resolve, invoke, builtin, hs, hx, hrun, Result.andThen]
  have hk := K A' cap' w' h1 h2
  rw [List.length_append] at hk
  exact hK _ _ hk
theorem wp_app_str {w : World} {ops : Array Oper} {rest : List Oper} {o : Oper} {a : Act} {Q : Exit → Act → World → Prop} (hgd : o.guard = none) (s x : Operand)
    (ho : o.op = .call { callee := .builtin .append, args := #[s, x], argTypes := #[32, 9] })
    {base : Nat} {A : Option Addr} {n cap : Nat} {xs : List Int} (hs : a.eval s = .slice A n cap) (hn : n = xs.length) (h : OwnB w base A cap xs) (hbase : base ≤ w.heap.size)
    {t : ByteArray} (hx : a.eval x = .string t) (hlen : xs.length + t.size ≤ 1073741824)
    (K : ∀ A' cap' w', OwnB w' base A' cap' (xs ++ strB_ t) → Grew base w w' → wpList Try.prog ops Q rest (a.put o.dst (.slice A' (xs ++ strB_ t).length cap')) w') :
    wpList Try.prog ops Q (o :: rest) a w := by
  subst hn
  obtain ⟨A', cap', w', hrun, h1, h2⟩ := run_app_str h hbase t hlen o.type
  refine wpList_plain hgd fun K' hK => ?_
  unfold Oper.wp
  simp [execOp, ho, resolve, invoke, builtin, hs, hx, hrun, Result.andThen]
  have hk := K A' cap' w' h1 h2
  rw [List.length_append] at hk
  exact hK _ _ hk
end Go.Proofs.Yteppokokabgniaa
