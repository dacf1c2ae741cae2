/-
  Part 1 of the texts behind the law: BaseKit, FieldsIn, RowsIn, ZRows, KRows, TextPlain, GrPlain.
-/
import Derived.Test.YtpaolgjgonghlaaDoorProg
import Derived.WalkKit
import Derived.WalkSpells
import Derived.WalkLawsBesides
import Derived.Lib.Hide
import Derived.Lib.SlBytesConst
import Derived.Lib.AppendStr
import Derived.OwnWalk
import Derived.Laws.OwnMore
import Derived.Laws.BytesArg
import Derived.Maps.AppendAt
import Derived.ArgAppend
import Derived.OneCell
import Derived.Lib.SmallJoins
import Derived.RegionTactic
import Derived.ProofKit
import Derived.OpenShut
import Derived.Deep.Slices
import Derived.ChangeSame
import Derived.Laws.MakeOwn
/-
  What every seat's walks use: answers that agree, addresses, what is kept of the other blocks. No function and no type of the program is named here.
-/
namespace Go.Proofs.YtpaolgjgonghlaaDoor
open Go.RowKit

theorem ret_int {k : IntKind} {a b : Int} (h : a = b) : Ending.returned (.int k a) = .returned (.int k b) := by rw [h]
theorem ret_pair {k : IntKind} {a b : Int} {x y : Bool} (h : a = b) (h2 : x = y) : Ending.returned (.tuple #[.int k a, .bool x]) = .returned (.tuple #[.int k b, .bool y]) := by rw [h, h2]
theorem ret_two {k k' : IntKind} {a b c d : Int} (h : a = b) (h2 : c = d) : Ending.returned (.tuple #[.int k a, .int k' c]) = .returned (.tuple #[.int k b, .int k' d]) := by rw [h, h2]
theorem ret_bool {a b : Bool} (h : a = b) : Ending.returned (.bool a) = .returned (.bool b) := by rw [h]
theorem ret_str {a b : ByteArray} (h : a = b) : Ending.returned (.string a) = .returned (.string b) := by rw [h]
theorem add_off (b off j : Nat) : Addr.add ⟨b, off, none⟩ j = ⟨b, off + j, none⟩ := by
  unfold Addr.add
  split
  · next h => subst h; rfl
  · rfl
theorem block_lt {W : World} {b o : Nat} {v : Value} (h : W.cell? ⟨b, o, none⟩ = some v) : b < W.heap.size := by
  rcases Nat.lt_or_ge b W.heap.size with hl | hl
  · exact hl
  · simp [World.cell?, Array.getElem?_eq_none hl] at h

/-! ### What is kept -/
/-- Below block B nothing has changed but block g. -/
structure But (B g : Nat) (w w' : World) : Prop where
  os : w'.os = w.os
  tape : w'.tape = w.tape
  output : w'.output = w.output
  size : w.heap.size ≤ w'.heap.size
  block : ∀ k, k < B → k ≠ g → w'.heap[k]? = w.heap[k]?
theorem But.refl (B g : Nat) (w : World) : But B g w w := ⟨rfl, rfl, rfl, Nat.le_refl _, fun _ _ _ => rfl⟩
theorem But.trans {B g : Nat} {a b c : World} (h : But B g a b) (k : But B g b c) : But B g a c :=
  ⟨k.os.trans h.os, k.tape.trans h.tape, k.output.trans h.output, Nat.le_trans h.size k.size, fun i hi hg => (k.block i hi hg).trans (h.block i hi hg)⟩
theorem But.mono {B B' g : Nat} {w w' : World} (h : But B g w w') (hB : B' ≤ B) : But B' g w w' := ⟨h.os, h.tape, h.output, h.size, fun k hk hg => h.block k (by omega) hg⟩
theorem But.of {B g : Nat} {w w' : World} (h : Below B w w') : But B g w w' := ⟨h.os, h.tape, h.output, h.size, fun k hk _ => h.block k hk⟩
theorem But.below {B B0 g : Nat} {w w' : World} (h : But B g w w') (h1 : B0 ≤ B) (h2 : B0 ≤ g) : Below B0 w w' := ⟨h.os, h.tape, h.output, h.size, fun k hk => h.block k (by omega) (by omega)⟩
theorem But.set (B g o : Nat) (w : World) (v : Value) : But B g w (w.setCell ⟨g, o, none⟩ v) :=
  ⟨rfl, rfl, rfl, by simp [World.setCell], fun k _ hg => Below.heap_setCell _ _ _ _ hg⟩
theorem But.drew {B g : Nat} {a w : World} (h : But B g a w) : But B g a w.drew := ⟨h.os, h.tape, h.output, h.size, h.block⟩
theorem below_n {B : Nat} {a w : World} (h : Below B a w) (n : Nat) : Below B a (w.drewN n) := ⟨h.os, h.tape, h.output, h.size, h.block⟩
theorem But.drewN {B g : Nat} {a w : World} (h : But B g a w) (n : Nat) : But B g a (w.drewN n) := ⟨h.os, h.tape, h.output, h.size, h.block⟩
/-- A number of 64 bits. -/
def is64 (z : Int) : Prop := -9223372036854775808 ≤ z ∧ z ≤ 9223372036854775807
/-- The boolean b handed back, and nothing of before has changed. -/
def BoolP (w : World) (b : Bool) (e : Ending) (w' : World) : Prop := e = .returned (.bool b) ∧ Hid (Below w.heap.size w w')
theorem BoolP.plain {w w' : World} {b : Bool} {e : Ending} (h : BoolP w b e w') : e = .returned (.bool b) ∧ Below w.heap.size w w' := ⟨h.1, h.2.out⟩
end Go.Proofs.YtpaolgjgonghlaaDoor
/-
  Structs of one-cell fields that came in, alone or in a slice: each field's cell and its reading.
-/
namespace Go.Proofs.YtpaolgjgonghlaaDoor
open Go.ChangeShapes Go.WideShapes Go.ChangeAt Go.RowKit Go.Deep
theorem list_of {α : Type} (d : α) (R : Nat → α → Prop) : ∀ n : Nat, (∀ i, i < n → ∃ x, R i x) → ∃ xs : List α, xs.length = n ∧ ∀ i, i < n → R i (xs.getD i d)
  | 0, _ => ⟨[], rfl, fun i hi => by omega⟩
  | n + 1, h => by
    obtain ⟨xs, hl, hx⟩ := list_of d R n fun i hi => h i (by omega)
    obtain ⟨x, hn⟩ := h n (by omega)
    refine ⟨xs ++ [x], by simp [hl], fun i hi => ?_⟩
    rw [List.getD_eq_getElem?_getD]
    by_cases hi2 : i < n
    · rw [List.getElem?_append_left (by omega), ← List.getD_eq_getElem?_getD]; exact hx i hi2
    · have : i = n := by omega
      subst this
      rw [List.getElem?_append_right (by omega), hl]
      simpa using hn
theorem structs_in {H : Type} {enc : TypeId × Value → H} {P : Program} {w : World} {base : Nat} {spare : Nat → Bool} {held : Bool} {t e : TypeId} {fs : Array Field} {fuel : Nat} {cs : List Value} {x : DataW H × List MemPlace}
    (ht : P.underlying t = some (.slice e)) (he : P.underlying e = some (.struct fs)) (h1 : 0 < fs.size) (hC : P.cellsOf e = fs.size) (hone : ∀ (j : Nat) (f : Field), fs[j]? = some f → f.offset = j ∧ P.cellsOf f.type = 1)
    (h : DataW.trod enc P w base spare held fuel t cs = some x) :
    ∃ (A : Option Addr) (len cap : Nat), cs = [.slice A len cap] ∧ len ≤ cap ∧ cap ≤ 9223372036854775807 ∧
      (0 < len → ∃ b off, A = some ⟨b, off, none⟩ ∧ ∀ i, i < len → ∀ (j : Nat) (f : Field), fs[j]? = some f → ∃ v y n, w.cell? ⟨b, off + (i * fs.size + j), none⟩ = some v ∧ DataW.trod enc P w base spare held n f.type [v] = some y) := by
  rcases open_slice ht h with ⟨h0, _⟩ | ⟨a, len, cap, m, n, D, Pl, hcs, hb, hl, hm, hmm, _, hi⟩
  · exact ⟨none, 0, 0, h0, Nat.le_refl _, by decide, fun h => by omega⟩
  · have hlm : len ≤ m := by rw [hmm]; split <;> omega
    unfold maxLen at hm
    have key : ∀ i, i < len → ∀ (j : Nat) (f : Field), fs[j]? = some f → ∃ v y n, w.cell? (a.add (i * fs.size + j)) = some v ∧ DataW.trod enc P w base spare held n f.type [v] = some y := fun i hil j f hj => by
      obtain ⟨cs', h1, h2⟩ := hi i (by omega)
      obtain ⟨_, hlen, hat⟩ := World.cells?_some h1
      obtain ⟨ys, k, _, _, _, hyl, hf⟩ := DataW.trod_struct he h2
      obtain ⟨o1, o2⟩ := hone j f hj
      have hjl : j < fs.size := (Array.getElem?_eq_some_iff.1 hj).1
      have h3 := hf j f hj
      have hjc : j < cs'.length := by omega
      rw [o1, o2, List.drop_eq_getElem_cons hjc, List.getElem?_eq_getElem (by omega : j < ys.length)] at h3
      refine ⟨cs'[j], _, k, ?_, h3⟩
      have h4 := hat j (by omega)
      rw [hC, Go.Deep.add_add, List.getElem?_eq_getElem hjc] at h4
      exact h4
    refine ⟨some a, len, cap, hcs, hl, hm, fun h0 => ?_⟩
    obtain ⟨b, off, spot⟩ := a
    obtain ⟨f, hf⟩ : ∃ f, fs[0]? = some f := ⟨fs[0]'h1, Array.getElem?_eq_getElem h1⟩
    obtain ⟨v, _, _, hv, _⟩ := key 0 h0 0 f hf
    have hs : spot = none := by simpa [Addr.add] using World.cell?_spot hv
    subst hs
    refine ⟨b, off, rfl, fun i hil j f hj => ?_⟩
    obtain ⟨v, y, k, h1, h2⟩ := key i hil j f hj
    rw [add_off] at h1
    exact ⟨v, y, k, h1, h2⟩
theorem i64_of {H : Type} {enc : TypeId × Value → H} {P : Program} {w : World} {base : Nat} {spare : Nat → Bool} {held : Bool} {t : TypeId} {n : Nat} {v : Value} {y : DataW H × List MemPlace} (ht : P.underlying t = some (.int .i64)) (h : DataW.trod enc P w base spare held n t [v] = some y) :
    ∃ k, v = .int .i64 k ∧ -9223372036854775808 ≤ k ∧ k ≤ 9223372036854775807 := by
  obtain ⟨k, e, _, hw⟩ := DataW.trod_int ht h
  have hw' : -9223372036854775808 ≤ k ∧ k ≤ 9223372036854775807 := by simpa [Lit.wf, IntKind.min, IntKind.max, IntKind.bits, IntKind.signed] using hw
  exact ⟨k, by simpa using e, hw'⟩
theorem str_of {H : Type} {enc : TypeId × Value → H} {P : Program} {w : World} {base : Nat} {spare : Nat → Bool} {held : Bool} {t : TypeId} {n : Nat} {v : Value} {y : DataW H × List MemPlace} (ht : P.underlying t = some .string) (h : DataW.trod enc P w base spare held n t [v] = some y) :
    ∃ s : ByteArray, v = .string s ∧ s.size ≤ 9223372036854775807 := by
  obtain ⟨s, e, _, hw⟩ := DataW.trod_string ht h
  unfold maxLen at hw
  exact ⟨s, by simpa using e, hw⟩
theorem bool_of {H : Type} {enc : TypeId × Value → H} {P : Program} {w : World} {base : Nat} {spare : Nat → Bool} {held : Bool} {t : TypeId} {n : Nat} {v : Value} {y : DataW H × List MemPlace} (ht : P.underlying t = some .bool) (h : DataW.trod enc P w base spare held n t [v] = some y) :
    ∃ b : Bool, v = .bool b := by
  obtain ⟨b, e, _⟩ := DataW.trod_bool ht h
  exact ⟨b, by simpa using e⟩
end Go.Proofs.YtpaolgjgonghlaaDoor
/-
  A slice of structs that came in, whatever their fields: each element's cells and their reading; a struct's fields out of its cells.
-/
namespace Go.Proofs.YtpaolgjgonghlaaDoor
open Go.ChangeShapes Go.WideShapes Go.ChangeAt Go.RowKit Go.Deep
theorem rows_in {H : Type} {enc : TypeId × Value → H} {P : Program} {w : World} {base : Nat} {spare : Nat → Bool} {held : Bool} {t e : TypeId} {fs : Array Field} {k fuel : Nat} {cs : List Value} {x : DataW H × List MemPlace}
    (ht : P.underlying t = some (.slice e)) (he : P.underlying e = some (.struct fs)) (hC : P.cellsOf e = k) (hk : 0 < k) (h : DataW.trod enc P w base spare held fuel t cs = some x) :
    ∃ (A : Option Addr) (len cap : Nat), cs = [.slice A len cap] ∧ len ≤ cap ∧ cap ≤ 9223372036854775807 ∧
      (0 < len → ∃ b off, A = some ⟨b, off, none⟩ ∧ ∀ i, i < len → ∃ (zs : List Value) (n : Nat) (y : DataW H × List MemPlace), zs.length = k ∧ DataW.trod enc P w base spare held n e zs = some y ∧ ∀ (j : Nat) (hj : j < zs.length), w.cell? ⟨b, off + i * k + j, none⟩ = some zs[j]) := by
  rcases open_slice ht h with ⟨h0, _⟩ | ⟨a, len, cap, m, n, D, Pl, hcs, hb, hl, hm, hmm, _, hi⟩
  · exact ⟨none, 0, 0, h0, Nat.le_refl _, by decide, fun h => by omega⟩
  · have hlm : len ≤ m := by rw [hmm]; split <;> omega
    unfold maxLen at hm
    have key : ∀ i, i < len → ∃ (zs : List Value) (n : Nat) (y : DataW H × List MemPlace), zs.length = k ∧ DataW.trod enc P w base spare held n e zs = some y ∧ ∀ (j : Nat) (hj : j < zs.length), w.cell? (a.add (i * k + j)) = some zs[j] := fun i hil => by
      obtain ⟨zs, h1, h2⟩ := hi i (by omega)
      obtain ⟨_, hlen, hat⟩ := World.cells?_some h1
      obtain ⟨_, _, _, _, hzl, _, _⟩ := DataW.trod_struct he h2
      refine ⟨zs, _, _, by rw [hzl, hC], h2, fun j hj => ?_⟩
      have h4 := hat j (by omega)
      rw [hC, Go.Deep.add_add, List.getElem?_eq_getElem hj] at h4
      exact h4
    refine ⟨some a, len, cap, hcs, hl, hm, fun h0 => ?_⟩
    obtain ⟨b, off, spot⟩ := a
    obtain ⟨zs, _, _, hz, _, hv⟩ := key 0 h0
    have hs : spot = none := by simpa [Addr.add] using World.cell?_spot (hv 0 (by omega))
    subst hs
    refine ⟨b, off, rfl, fun i hil => ?_⟩
    obtain ⟨zs, n, y, h1, h2, h3⟩ := key i hil
    refine ⟨zs, n, y, h1, h2, fun j hj => ?_⟩
    have h4 := h3 j hj
    rw [add_off, ← Nat.add_assoc] at h4
    exact h4
/-- A field's cells, read. -/
theorem field_in {H : Type} {enc : TypeId × Value → H} {P : Program} {w : World} {base : Nat} {spare : Nat → Bool} {held : Bool} {e : TypeId} {fs : Array Field} {n : Nat} {zs : List Value} {y : DataW H × List MemPlace}
    (he : P.underlying e = some (.struct fs)) (h : DataW.trod enc P w base spare held n e zs = some y) (j : Nat) (f : Field) (hj : fs[j]? = some f) {o c : Nat} (ho : f.offset = o) (hc : P.cellsOf f.type = c) :
    ∃ m y', DataW.trod enc P w base spare held m f.type ((zs.drop o).take c) = some y' := by
  obtain ⟨ys, m, _, _, _, hyl, hf⟩ := DataW.trod_struct he h
  have h3 := hf j f hj
  have hjl : j < fs.size := (Array.getElem?_eq_some_iff.1 hj).1
  rw [ho, hc, List.getElem?_eq_getElem (by omega : j < ys.length)] at h3
  exact ⟨m, _, h3⟩
end Go.Proofs.YtpaolgjgonghlaaDoor
/-
  Slices of ints: one that came in, and rows of the call's own, appended to, stored to, read.
-/
namespace Go.Proofs.YtpaolgjgonghlaaDoor
open Go.RowKit

/-- A signed number of 64 bits. -/
def inI (z : Int) : Prop := -9223372036854775808 ≤ z ∧ z ≤ 9223372036854775807
/-- The slice at address A whose elements are the numbers zs, below block B. -/
def Zs (w : World) (B : Nat) (A : Option Addr) (zs : List Int) : Prop :=
  (∀ i, i < zs.length → inI (zs.getD i 0)) ∧
  (0 < zs.length → ∃ b off, A = some ⟨b, off, none⟩ ∧ b < B ∧ ∀ i, i < zs.length → w.cell? ⟨b, off + i, none⟩ = some (.int .i64 (zs.getD i 0)))
theorem Zs.at_ {w : World} {B : Nat} {A : Option Addr} {zs : List Int} {k : Nat} (h : Zs w B A zs) (hk : k < zs.length) :
    ∃ b off z, A = some ⟨b, off, none⟩ ∧ Hid (b < B) ∧ w.cell? ⟨b, off + k, none⟩ = some (.int .i64 z) ∧ Hid (zs.getD k 0 = z) ∧ -9223372036854775808 ≤ z ∧ z ≤ 9223372036854775807 := by
  obtain ⟨b, off, e, hb, hc⟩ := h.2 (by omega)
  exact ⟨b, off, _, e, Lib.hid hb, hc k hk, Lib.hid rfl, (h.1 k hk).1, (h.1 k hk).2⟩
theorem Zs.nil_ {w : World} {B : Nat} {A : Option Addr} : Zs w B A [] := ⟨fun i h => by simp at h, fun h => by simp at h⟩
theorem Zs.below {w w' : World} {B : Nat} {A : Option Addr} {zs : List Int} (h : Zs w B A zs) (hb : Below B w w') : Zs w' B A zs :=
  ⟨h.1, fun hn => by
    obtain ⟨b, off, e, hl, hc⟩ := h.2 hn
    exact ⟨b, off, e, hl, fun i hi => (hb.cell (p := ⟨b, _, none⟩) hl).trans (hc i hi)⟩⟩
theorem Zs.more {w : World} {B B' : Nat} {A : Option Addr} {zs : List Int} (h : Zs w B A zs) (hB : B ≤ B') : Zs w B' A zs :=
  ⟨h.1, fun hn => by
    obtain ⟨b, off, e, hb, hc⟩ := h.2 hn
    exact ⟨b, off, e, by omega, hc⟩⟩
theorem Zs.on {w w' : World} {A : Option Addr} {zs : List Int} (h : Zs w w.heap.size A zs) (hb : Below w.heap.size w w') : Zs w' w'.heap.size A zs := (h.below hb).more hb.size

def OwnZ (w : World) (base : Nat) (A : Option Addr) (cap : Nat) (zs : List Int) : Prop :=
  w.ownsRow base 3 1 (.slice A zs.length cap) zs.length (zs.map (Value.int .i64)) ∧ ∀ i, i < zs.length → inI (zs.getD i 0)
theorem OwnZ.none_ (w : World) (base : Nat) : OwnZ w base none 0 [] := ⟨World.ownsRow_nil w base _ _, fun i h => by simp at h⟩
theorem OwnZ.lt {w : World} {base : Nat} {a : Addr} {cap : Nat} {zs : List Int} (h : OwnZ w base (some a) cap zs) : base ≤ a.block ∧ a.block < w.heap.size :=
  World.ownsRow.lt h.1 a.block (by simp [Value.ownBlock])
theorem OwnZ.keep {w w' : World} {base : Nat} {A : Option Addr} {cap : Nat} {zs : List Int} (h : OwnZ w base A cap zs) (hk : ∀ a, A = some a → w'.heap[a.block]? = w.heap[a.block]?) : OwnZ w' base A cap zs := by
  refine ⟨⟨h.1.1, ?_⟩, h.2⟩
  rcases h.1.2 with e | ⟨g, c', cur, e, hb, hg, r⟩
  · exact .inl e
  · injection e with e1 e2 e3
    subst e1 e3
    exact .inr ⟨g, _, cur, rfl, hb, by rw [hk _ rfl]; exact hg, r⟩
theorem OwnZ.low {w : World} {base b : Nat} {A : Option Addr} {cap : Nat} {zs : List Int} (h : OwnZ w base A cap zs) (hb : b ≤ base) : OwnZ w b A cap zs := ⟨Joins.ownsRow_le h.1 hb, h.2⟩
theorem OwnZ.grew {w w' : World} {base B : Nat} {A : Option Addr} {cap : Nat} {zs : List Int} (h : OwnZ w base A cap zs) (hb : Below B w w') (hB : w.heap.size ≤ B) : OwnZ w' base A cap zs :=
  h.keep fun a ha => by
    subst ha
    exact hb.block _ (by have := h.lt.2; omega)
theorem OwnZ.zs {w : World} {base : Nat} {A : Option Addr} {cap : Nat} {zs : List Int} (h : OwnZ w base A cap zs) : Zs w w.heap.size A zs := by
  refine ⟨h.2, fun hn => ?_⟩
  obtain ⟨g, c, e⟩ := Joins.ownsRow_form h.1 hn
  injection e with e1 e2 e3
  subst e1 e3
  have hlt := OwnZ.lt h
  refine ⟨g, 0, rfl, hlt.2, fun i hi => ?_⟩
  rw [Nat.zero_add, World.ownsRow.cellAt h.1 i (by omega), List.getElem?_map, List.getD_eq_getElem?_getD, List.getElem?_eq_getElem hi]
  rfl
theorem OwnZ.shape {w : World} {base : Nat} {A : Option Addr} {cap : Nat} {zs : List Int} (h : OwnZ w base A cap zs) (hn : 0 < zs.length) : ∃ g, A = some ⟨g, 0, none⟩ ∧ base ≤ g ∧ g < w.heap.size := by
  obtain ⟨g, c, e⟩ := Joins.ownsRow_form h.1 hn
  injection e with e1 e2 e3
  subst e1 e3
  have hlt := OwnZ.lt h
  exact ⟨g, rfl, hlt.1, hlt.2⟩
theorem OwnZ.cap_ {w : World} {base : Nat} {A : Option Addr} {cap : Nat} {zs : List Int} (h : OwnZ w base A cap zs) : zs.length ≤ cap := by
  rcases h.1.2 with ⟨e, e0⟩ | ⟨g, c', cur, e, _, _, hle, _⟩
  · omega
  · injection e with e1 e2 e3; omega
/-- A block of another type is no row of numbers. -/
theorem OwnZ.ne {w : World} {base : Nat} {a : Addr} {cap : Nat} {zs : List Int} (h : OwnZ w base (some a) cap zs) {g : Nat} {cs : Array Value} {t : TypeId} {fz : Nat × Nat} (ho : w.heap[g]? = some (.cells cs t fz)) (ht : t ≠ 3) : a.block ≠ g := by
  rintro rfl
  rcases h.1.2 with ⟨e, _⟩ | ⟨g, c', cur, e, hb, hg, r⟩
  · cases e
  · injection e with e1 e2 e3
    injection e1 with e1
    subst e1
    rw [ho] at hg
    injection hg with hg
    injection hg with _ h2 _
    exact ht h2
theorem int_info : (Tryd.prog.info? 3).map (fun i => (i.zero, i.size, i.bytes)) = some (some (.int .i64 0), 1, 8) := by kernel_rfl
theorem form_ofZ {w : World} {base n : Nat} {v : Value} {xs : List Value} (h : w.ownsRow base 3 1 v n xs) : ∃ A cap, v = .slice A n cap := by
  rcases h.2 with ⟨e, e0⟩ | ⟨g, c', _, e, _⟩
  · exact ⟨none, 0, by rw [e0]; exact e⟩
  · exact ⟨_, _, e⟩
theorem grownZ_below {w w' : World} {base : Nat} {A : Option Addr} {cap n : Nat} {zs : List Int} (h : OwnZ w base A cap zs) (hbase : base ≤ w.heap.size) (hg : w.grownBy w' (Value.slice A n cap).ownBlock) : Below base w w' :=
  (Below.refl _ _).grown hg hbase fun k hk => by
    cases A with
    | none => cases hk
    | some a => simp [Value.ownBlock] at hk; subst hk; exact h.lt.1
theorem rng_appZ {xs zs : List Int} (hx : ∀ i, i < xs.length → inI (xs.getD i 0)) (hz : ∀ i, i < zs.length → inI (zs.getD i 0)) : ∀ i, i < (xs ++ zs).length → inI ((xs ++ zs).getD i 0) := fun i hi => by
  rw [List.getD_eq_getElem?_getD]
  by_cases h : i < xs.length
  · rw [List.getElem?_append_left h, ← List.getD_eq_getElem?_getD]; exact hx i h
  · rw [List.getElem?_append_right (by omega), ← List.getD_eq_getElem?_getD]
    rw [List.length_append] at hi
    exact hz _ (by omega)
theorem run_appZ {w : World} {base : Nat} {A : Option Addr} {cap : Nat} {zs : List Int} {x : Int} (h : OwnZ w base A cap zs) (hbase : base ≤ w.heap.size) {b2 : Nat} (hx : w.cell? ⟨b2, 0, none⟩ = some (.int .i64 x)) (hxi : inI x) (c : Nat) (hlen : zs.length ≤ 1000000000) (ty : TypeId) :
    ∃ A' cap' w', (Builtin.append_ #[46, 46] ty #[.slice A zs.length cap, .slice (some ⟨b2, 0, none⟩) 1 c]).run Tryd.prog w = .ok (.slice A' (zs ++ [x]).length cap') w' ∧
      OwnZ w' base A' cap' (zs ++ [x]) ∧ w.grownBy w' (Value.slice A zs.length cap).ownBlock := by
  obtain ⟨i, hi, hz0, hs, hyb⟩ := info_parts int_info
  obtain ⟨v', w', hrun, hown, hg, _, _⟩ := run_append_own_at (P := Tryd.prog) (w := w) base 46 ty 3 i _ 1 8 Tryd.underlying46 hi hz0 hs hyb rfl (by decide)
    _ zs.length _ h.1 ⟨b2, 0, none⟩ 1 c [.int .i64 x] rfl (fun j u hu => by
      rw [add_off, Nat.zero_add]
      match j, hu with
      | 0, hu => simp at hu; rw [← hu]; exact hx
      | j + 1, hu => simp at hu) (fun u hu => by simp at hu; subst hu; rfl) (by unfold maxLen; omega) (by omega) hbase
  obtain ⟨A', cap', rfl⟩ := form_ofZ hown
  have e : zs.length + 1 = (zs ++ [x]).length := by simp
  rw [e] at hrun hown
  refine ⟨A', cap', w', hrun, ⟨?_, rng_appZ h.2 fun i hi => ?_⟩, hg⟩
  · rw [List.map_append]
    exact hown
  · obtain rfl : i = 0 := by simpa using hi
    exact hxi
theorem wp_appZ {w : World} {ops : Array Oper} {rest : List Oper} {o : Oper} {a : Act} {Q : Exit → Act → World → Prop} (hgd : o.guard = none) (s t : Operand)
    (ho : o.op = .call { callee := .builtin .append, args := #[s, t], argTypes := #[46, 46] })
    {base : Nat} {A : Option Addr} {n cap : Nat} {zs : List Int} {x : Int} (hs : a.eval s = .slice A n cap) (hn : n = zs.length) (h : OwnZ w base A cap zs) (hbase : base ≤ w.heap.size)
    {b2 c : Nat} (ht : a.eval t = .slice (some ⟨b2, 0, none⟩) 1 c) (hx : w.cell? ⟨b2, 0, none⟩ = some (.int .i64 x)) (hxi : inI x) (hlen : zs.length ≤ 1000000000)
    (K : ∀ A' cap' w', OwnZ w' base A' cap' (zs ++ [x]) → w.grownBy w' (Value.slice A zs.length cap).ownBlock → wpList Tryd.prog ops Q rest (a.put o.dst (.slice A' (zs ++ [x]).length cap')) w') :
    wpList Tryd.prog ops Q (o :: rest) a w := by
  subst hn
  obtain ⟨A', cap', w', hrun, h1, h2⟩ := run_appZ h hbase hx hxi c hlen o.type
  refine wpList_plain hgd fun K' hK => ?_
  unfold Oper.wp
  simp [execOp, ho, resolve, invoke, builtin, hs, ht, hrun, Result.andThen]
  have hk := K A' cap' w' h1 h2
  rw [List.length_append, List.length_singleton] at hk
  exact hK _ _ hk
/-- A literal row, full. -/
theorem OwnZ.lit {w : World} (zs : List Int) (hz : ∀ z ∈ zs, inI z) (hv : zs.length ≤ 1000000000) (cs : Array Value) (hc : cs.toList = zs.map (Value.int .i64)) : OwnZ (w.alloc (.cells cs 3)) w.heap.size (some ⟨w.heap.size, 0, none⟩) zs.length zs := by
  refine ⟨?_, fun i hi => by rw [List.getD_eq_getElem?_getD, List.getElem?_eq_getElem hi]; exact hz _ (List.getElem_mem hi)⟩
  have := World.ownsRow_lit (e := 3) (size := 1) w cs zs.length (Nat.le_refl w.heap.size) (by unfold maxLen; omega) (by rw [← Array.length_toList, hc]; simp)
  rw [hc] at this
  exact this
theorem Zs.lit {w : World} (zs : List Int) (hz : ∀ z ∈ zs, inI z) (cs : Array Value) (fr : Nat × Nat) (hc : cs.toList = zs.map (Value.int .i64)) : Zs (w.alloc (.cells cs 3 fr)) (w.alloc (.cells cs 3 fr)).heap.size (some ⟨w.heap.size, 0, none⟩) zs := by
  refine ⟨fun i hi => by rw [List.getD_eq_getElem?_getD, List.getElem?_eq_getElem hi]; exact hz _ (List.getElem_mem hi), fun _ => ⟨w.heap.size, 0, rfl, by simp, fun i hi => ?_⟩⟩
  simp only [World.cell?, heap_alloc_new, Nat.zero_add]
  rw [← Array.getElem?_toList, hc, List.getElem?_map, List.getElem?_eq_getElem hi, List.getD_eq_getElem?_getD, List.getElem?_eq_getElem hi]
  simp
/-- One number stored. -/
theorem OwnZ.stored {w : World} {base g cap : Nat} {zs : List Int} (h : OwnZ w base (some ⟨g, 0, none⟩) cap zs) (j : Nat) (v : Int) (hv : inI v) :
    OwnZ (w.setCell ⟨g, j, none⟩ (.int .i64 v)) base (some ⟨g, 0, none⟩) cap (zs.set j v) := by
  have hs := h.1.stored j (.int .i64 v)
  refine ⟨?_, fun i hi => ?_⟩
  · rw [List.length_set, List.map_set]
    exact hs.1
  · rw [List.length_set] at hi
    rw [List.getD_eq_getElem?_getD, List.getElem?_set]
    split
    · next e =>
      subst e
      rw [if_pos hi]
      exact hv
    · rw [← List.getD_eq_getElem?_getD]; exact h.2 i hi
/-- A new row of noughts. -/
theorem made_Z (n : Nat) (hn : n ≤ 1000000) (W : World) : (Instr.makeSlice 46 (.int .i64 (n : Int)) (.int .i64 (n : Int))).run Tryd.prog W = .ok (.slice (some ⟨W.heap.size, 0, none⟩) n n) (W.alloc (.cells (madeCells #[.int .i64 0] n) 3)) := by
  obtain ⟨i, hi, hz, hs, hy⟩ := info_parts int_info
  have hr := run_make (P := Tryd.prog) W 46 3 i _ Tryd.underlying46 hi hz .i64 .i64 n n (by omega) (Int.le_refl _) (by rw [hy]; omega) (by omega)
  rw [hs, Int.toNat_natCast, Nat.mul_one] at hr
  exact hr
theorem OwnZ.made (W : World) (n : Nat) (hn : n ≤ 1000000) : OwnZ (W.alloc (.cells (madeCells #[.int .i64 0] n) 3)) W.heap.size (some ⟨W.heap.size, 0, none⟩) n (List.replicate n 0) := by
  have e : (madeCells #[Value.int .i64 0] n).toList = (List.replicate n (0 : Int)).map (Value.int .i64) := by
    rw [toList_madeCells_one (Value.int .i64 0) n, List.map_replicate]
  have := OwnZ.lit (w := W) (List.replicate n 0) (fun z hz => by rw [(List.mem_replicate.1 hz).2]; exact ⟨by decide, by decide⟩) (by simp; omega) _ e
  rw [List.length_replicate] at this
  exact this
end Go.Proofs.YtpaolgjgonghlaaDoor
/-
  Rows of the call's own whose elements are structs of k cells: appended to, kept, read. The element's type is open; no function of the program is named here.
-/
namespace Go.Proofs.YtpaolgjgonghlaaDoor
open Go.RowKit

/-- Every element has k cells, each a value of one cell. -/
def Wide (k : Nat) (vs : List (List Value)) : Prop := ∀ v ∈ vs, v.length = k ∧ ∀ u ∈ v, u.oneCell' = true
theorem Wide.nil (k : Nat) : Wide k [] := fun v hv => by simp at hv
theorem Wide.app {k : Nat} {vs us : List (List Value)} (h : Wide k vs) (h2 : Wide k us) : Wide k (vs ++ us) := fun v hv => by
  rcases List.mem_append.1 hv with h1 | h1
  · exact h v h1
  · exact h2 v h1
theorem Wide.len {k : Nat} {vs : List (List Value)} (h : Wide k vs) : vs.flatten.length = vs.length * k := by
  induction vs with
  | nil => simp
  | cons v r ih =>
    rw [List.flatten_cons, List.length_append, ih fun x hx => h x (List.mem_cons_of_mem _ hx), (h v (List.mem_cons_self ..)).1, List.length_cons, Nat.add_mul, Nat.one_mul, Nat.add_comm]
theorem Wide.get {k : Nat} {vs : List (List Value)} (h : Wide k vs) (i j : Nat) (hi : i < vs.length) (hj : j < k) : vs.flatten[i * k + j]? = (vs.getD i [])[j]? := by
  induction vs generalizing i with
  | nil => simp at hi
  | cons v r ih =>
    have hv := (h v (List.mem_cons_self ..)).1
    rw [List.flatten_cons]
    cases i with
    | zero =>
      rw [Nat.zero_mul, Nat.zero_add, List.getElem?_append_left (by omega)]
      rfl
    | succ i =>
      rw [List.getElem?_append_right (by rw [hv, Nat.add_mul]; omega), hv, show (i + 1) * k + j - k = i * k + j by rw [Nat.add_mul]; omega,
        ih (fun x hx => h x (List.mem_cons_of_mem _ hx)) i (by simpa using hi)]
      rfl
theorem Wide.mem {k : Nat} {vs : List (List Value)} (h : Wide k vs) : ∀ u ∈ vs.flatten, u.oneCell' = true := fun u hu => by
  obtain ⟨v, hv, hu2⟩ := List.mem_flatten.1 hu
  exact (h v hv).2 u hu2
/-- The row of structs of k cells at address A is the call's own. -/
def OwnK (w : World) (base : Nat) (T : TypeId) (k : Nat) (A : Option Addr) (cap : Nat) (vs : List (List Value)) : Prop :=
  w.ownsRow base T k (.slice A vs.length cap) vs.length vs.flatten ∧ Wide k vs
theorem OwnK.none_ (w : World) (base : Nat) (T : TypeId) (k : Nat) : OwnK w base T k none 0 [] := ⟨World.ownsRow_nil w base _ _, Wide.nil k⟩
theorem OwnK.keep {w w' : World} {base : Nat} {T : TypeId} {k : Nat} {A : Option Addr} {cap : Nat} {vs : List (List Value)} (h : OwnK w base T k A cap vs) (hk : ∀ a, A = some a → w'.heap[a.block]? = w.heap[a.block]?) : OwnK w' base T k A cap vs := by
  refine ⟨⟨h.1.1, ?_⟩, h.2⟩
  rcases h.1.2 with e | ⟨g, c', cur, e, hb, hg, r⟩
  · exact .inl e
  · injection e with e1 e2 e3
    subst e1 e3
    exact .inr ⟨g, _, cur, rfl, hb, by rw [hk _ rfl]; exact hg, r⟩
theorem OwnK.low {w : World} {base b : Nat} {T : TypeId} {k : Nat} {A : Option Addr} {cap : Nat} {vs : List (List Value)} (h : OwnK w base T k A cap vs) (hb : b ≤ base) : OwnK w b T k A cap vs := ⟨Joins.ownsRow_le h.1 hb, h.2⟩
theorem OwnK.lt {w : World} {base : Nat} {T : TypeId} {k : Nat} {a : Addr} {cap : Nat} {vs : List (List Value)} (h : OwnK w base T k (some a) cap vs) : base ≤ a.block ∧ a.block < w.heap.size :=
  World.ownsRow.lt h.1 a.block (by simp [Value.ownBlock])
theorem OwnK.grew {w w' : World} {base B : Nat} {T : TypeId} {k : Nat} {A : Option Addr} {cap : Nat} {vs : List (List Value)} (h : OwnK w base T k A cap vs) (hb : Below B w w') (hB : w.heap.size ≤ B) : OwnK w' base T k A cap vs :=
  h.keep fun a ha => by
    subst ha
    exact hb.block _ (by have := h.lt.2; omega)
theorem OwnK.shape {w : World} {base : Nat} {T : TypeId} {k : Nat} {A : Option Addr} {cap : Nat} {vs : List (List Value)} (h : OwnK w base T k A cap vs) (hn : 0 < vs.length) : ∃ g, A = some ⟨g, 0, none⟩ ∧ base ≤ g ∧ g < w.heap.size := by
  obtain ⟨g, c, e⟩ := Joins.ownsRow_form h.1 hn
  injection e with e1 e2 e3
  subst e1 e3
  have hlt := OwnK.lt h
  exact ⟨g, rfl, hlt.1, hlt.2⟩
theorem OwnK.cap_ {w : World} {base : Nat} {T : TypeId} {k : Nat} {A : Option Addr} {cap : Nat} {vs : List (List Value)} (h : OwnK w base T k A cap vs) : vs.length ≤ cap := by
  rcases h.1.2 with ⟨e, e0⟩ | ⟨g, c', cur, e, _, _, hle, _⟩
  · omega
  · injection e with e1 e2 e3
    omega
/-- The cell j of element i. -/
theorem OwnK.cell {w : World} {base g cap : Nat} {T : TypeId} {k : Nat} {vs : List (List Value)} (h : OwnK w base T k (some ⟨g, 0, none⟩) cap vs) {i j : Nat} (hi : i < vs.length) (hj : j < k) {u : Value} (hu : (vs.getD i [])[j]? = some u) :
    w.cell? ⟨g, i * k + j, none⟩ = some u := by
  rw [← hu, ← h.2.get i j hi hj]
  exact World.ownsRow.cellAt h.1 (i * k + j) (by
    have h1 : (i + 1) * k ≤ vs.length * k := Nat.mul_le_mul_right k hi
    rw [Nat.add_mul, Nat.one_mul] at h1
    omega)
theorem form_ofK {w : World} {base n k : Nat} {T : TypeId} {v : Value} {xs : List Value} (h : w.ownsRow base T k v n xs) : ∃ A cap, v = .slice A n cap := by
  rcases h.2 with ⟨e, e0⟩ | ⟨g, c', _, e, _⟩
  · exact ⟨none, 0, by rw [e0]; exact e⟩
  · exact ⟨_, _, e⟩
/-- What an append of further structs leaves: the row with them behind it, all other blocks as they were; where the row lies then. -/
theorem run_appK {w : World} {base : Nat} {T ST : TypeId} {k : Nat} {A : Option Addr} {cap : Nat} {vs us : List (List Value)} {z : Value} {by_ : Nat} (hST : Tryd.prog.underlying ST = some (.slice T))
    (hI : (Tryd.prog.info? T).map (fun i => (i.zero, i.size, i.bytes)) = some (some z, k, by_)) (hz : z.cells.size = k) (hk : 0 < k) (hby : by_ ≤ 128)
    (h : OwnK w base T k A cap vs) (hbase : base ≤ w.heap.size) {b2 o2 : Nat} (hw : Wide k us) (hx : ∀ j u, us.flatten[j]? = some u → w.cell? ⟨b2, o2 + j, none⟩ = some u) (c : Nat)
    (hlen : vs.length + us.length ≤ 1000000000) (ty : TypeId) :
    ∃ A' cap' w', (Builtin.append_ #[ST, ST] ty #[.slice A vs.length cap, .slice (some ⟨b2, o2, none⟩) us.length c]).run Tryd.prog w = .ok (.slice A' (vs ++ us).length cap') w' ∧
      OwnK w' base T k A' cap' (vs ++ us) ∧ w.grownBy w' (Value.slice A vs.length cap).ownBlock ∧ ∀ a, A' = some a → (∃ a0, A = some a0 ∧ a.block = a0.block) ∨ a.block = w.heap.size := by
  obtain ⟨i, hi, hz0, hs, hyb⟩ := info_parts hI
  obtain ⟨v', w', hrun, hown, hg, _, hwh⟩ := run_append_own_at (P := Tryd.prog) (w := w) base ST ty T i z k by_ hST hi hz0 hs hyb hz hk
    _ vs.length _ h.1 ⟨b2, o2, none⟩ us.length c us.flatten hw.len (fun j u hu => by
      rw [add_off]
      exact hx j u hu) hw.mem (by unfold maxLen; omega) (by
      have h1 : (vs.length + us.length) * by_ ≤ 1000000000 * 128 := Nat.mul_le_mul hlen hby
      omega) hbase
  obtain ⟨A', cap', rfl⟩ := form_ofK hown
  rw [← List.length_append] at hrun hown
  refine ⟨A', cap', w', hrun, ⟨?_, h.2.app hw⟩, hg, fun a ha => ?_⟩
  · rw [List.flatten_append]
    exact hown
  · subst ha
    rcases hwh with h1 | h1
    · cases A with
      | none => simp [Value.ownBlock] at h1
      | some a0 => simp [Value.ownBlock] at h1; exact .inl ⟨a0, rfl, h1⟩
    · simp [Value.ownBlock] at h1; exact .inr h1
theorem wp_appK {w : World} {ops : Array Oper} {rest : List Oper} {o : Oper} {a : Act} {Q : Exit → Act → World → Prop} (hgd : o.guard = none) (s t : Operand) {T ST : TypeId}
    (ho : o.op = .call { callee := .builtin .append, args := #[s, t], argTypes := #[ST, ST] })
    {base k : Nat} {A : Option Addr} {n cap : Nat} {vs us : List (List Value)} {z : Value} {by_ : Nat} (hST : Tryd.prog.underlying ST = some (.slice T))
    (hI : (Tryd.prog.info? T).map (fun i => (i.zero, i.size, i.bytes)) = some (some z, k, by_)) (hz : z.cells.size = k) (hk : 0 < k) (hby : by_ ≤ 128)
    (hs : a.eval s = .slice A n cap) (hn : n = vs.length) (h : OwnK w base T k A cap vs) (hbase : base ≤ w.heap.size)
    {b2 o2 m c : Nat} (ht : a.eval t = .slice (some ⟨b2, o2, none⟩) m c) (hm : m = us.length) (hw : Wide k us) (hx : ∀ j u, us.flatten[j]? = some u → w.cell? ⟨b2, o2 + j, none⟩ = some u)
    (hlen : vs.length + us.length ≤ 1000000000)
    (K : ∀ A' cap' w', OwnK w' base T k A' cap' (vs ++ us) → w.grownBy w' (Value.slice A vs.length cap).ownBlock → (∀ a, A' = some a → (∃ a0, A = some a0 ∧ a.block = a0.block) ∨ a.block = w.heap.size) → wpList Tryd.prog ops Q rest (a.put o.dst (.slice A' (vs ++ us).length cap')) w') :
    wpList Tryd.prog ops Q (o :: rest) a w := by
  subst hn hm
  obtain ⟨A', cap', w', hrun, h1, h2, h3⟩ := run_appK hST hI hz hk hby h hbase hw hx c hlen o.type
  refine wpList_plain hgd fun K' hK => ?_
  unfold Oper.wp
  simp [execOp, ho, resolve, invoke, builtin, hs, ht, hrun, Result.andThen]
  have hk := K A' cap' w' h1 h2 h3
  rw [List.length_append] at hk
  exact hK _ _ hk
/-- A literal row, full. -/
theorem OwnK.lit {w : World} {T : TypeId} {k : Nat} (vs : List (List Value)) (hw : Wide k vs) (hv : vs.length ≤ 1000000000) (cs : Array Value) (hc : cs.toList = vs.flatten) : OwnK (w.alloc (.cells cs T)) w.heap.size T k (some ⟨w.heap.size, 0, none⟩) vs.length vs := by
  have hl := hw.len
  have hcs : cs = vs.flatten.toArray := by rw [← hc]
  refine ⟨?_, hw⟩
  have := World.ownsRow_lit (e := T) (size := k) w cs vs.length (Nat.le_refl w.heap.size) (by unfold maxLen; omega) (by rw [← Array.length_toList, hc, hl])
  rw [hc] at this
  exact this
end Go.Proofs.YtpaolgjgonghlaaDoor
/-
  Texts in plain words: split at a byte, joined by a byte; lists of answers of which each must be there.
-/
namespace Go.Proofs.YtpaolgjgonghlaaDoor.Tx
abbrev T := List UInt8
/-- The pieces between the bytes c: at least one. -/
def split (c : UInt8) : T → List T
  | [] => [[]]
  | x :: r => if x = c then [] :: split c r else (x :: (split c r).headD []) :: (split c r).tail
def join (c : UInt8) : List T → T
  | [] => []
  | p :: r => if r.isEmpty then p else p ++ c :: join c r
theorem split_ne (c : UInt8) (t : T) : split c t ≠ [] := by
  cases t with
  | nil => simp [split]
  | cons x r => unfold split; split <;> simp
theorem split_head (c : UInt8) (t : T) : (split c t).headD [] :: (split c t).tail = split c t := by
  cases h : split c t with
  | nil => exact absurd h (split_ne c t)
  | cons p r => rfl
theorem join_one (c : UInt8) (p : T) : join c [p] = p := rfl
theorem join_more (c : UInt8) (p : T) {r : List T} (h : r ≠ []) : join c (p :: r) = p ++ c :: join c r := by
  cases r with
  | nil => exact absurd rfl h
  | cons q r => rfl
theorem join_head (c x : UInt8) (p : T) (r : List T) : join c ((x :: p) :: r) = x :: join c (p :: r) := by
  cases r with
  | nil => rfl
  | cons q r => rfl
theorem join_split (c : UInt8) : ∀ t : T, join c (split c t) = t
  | [] => rfl
  | x :: r => by
    have ih := join_split c r
    unfold split
    by_cases h : x = c
    · rw [if_pos h, join_more c [] (split_ne c r), ih, h]; rfl
    · rw [if_neg h, join_head, split_head, ih]
theorem split_free (c : UInt8) : ∀ (t : T) (p : T), p ∈ split c t → c ∉ p
  | [], p, h => by simp [split] at h; subst h; simp
  | x :: r, p, h => by
    have ih := split_free c r
    unfold split at h
    by_cases hx : x = c
    · rw [if_pos hx] at h
      rcases List.mem_cons.1 h with rfl | h
      · simp
      · exact ih p h
    · rw [if_neg hx] at h
      rcases List.mem_cons.1 h with rfl | h
      · intro hc
        rcases List.mem_cons.1 hc with e | hc
        · exact hx e.symm
        · exact ih ((split c r).headD []) (by rw [← split_head c r]; simp) hc
      · exact ih p (by rw [← split_head c r]; exact List.mem_cons_of_mem _ h)
theorem split_one {c : UInt8} : ∀ {t : T}, c ∉ t → split c t = [t]
  | [], _ => rfl
  | x :: r, h => by
    unfold split
    rw [if_neg (fun e => h (by simp [e])), split_one (fun hc => h (List.mem_cons_of_mem _ hc))]
    rfl
theorem split_app {c : UInt8} : ∀ {p : T} (t : T), c ∉ p → split c (p ++ c :: t) = p :: split c t
  | [], t, _ => by
    show split c (c :: t) = _
    unfold split
    rw [if_pos rfl]
    cases t <;> rfl
  | x :: r, t, h => by
    show split c (x :: (r ++ c :: t)) = _
    rw [split, if_neg (fun e => h (by simp [e])), split_app t (fun hc => h (List.mem_cons_of_mem _ hc))]
    rfl
theorem split_join {c : UInt8} : ∀ {l : List T}, l ≠ [] → (∀ p ∈ l, c ∉ p) → split c (join c l) = l
  | [], h, _ => absurd rfl h
  | [p], _, h => split_one (h p (by simp))
  | p :: q :: r, _, h => by
    rw [join_more c p (by simp), split_app _ (h p (by simp)), split_join (l := q :: r) (by simp) fun x hx => h x (List.mem_cons_of_mem _ hx)]
theorem join_free {c d : UInt8} (hcd : d ≠ c) : ∀ {l : List T}, (∀ p ∈ l, d ∉ p) → d ∉ join c l
  | [], _ => by simp [join]
  | [p], h => h p (by simp)
  | p :: q :: r, h => by
    rw [join_more c p (by simp)]
    intro hm
    rcases List.mem_append.1 hm with hm | hm
    · exact h p (by simp) hm
    · rcases List.mem_cons.1 hm with e | hm
      · exact hcd e
      · exact join_free hcd (fun x hx => h x (List.mem_cons_of_mem _ hx)) hm
/-! ### Lengths -/
def jl : List T → Nat
  | [] => 0
  | p :: r => p.length + 1 + jl r
theorem join_len (c : UInt8) : ∀ l : List T, (join c l).length = jl l - 1
  | [] => rfl
  | [p] => by simp [join, jl]
  | p :: q :: r => by
    rw [join_more c p (by simp), List.length_append, List.length_cons, join_len c (q :: r)]
    simp only [jl]
    omega
theorem jl_sub {a b : List T} (h : a.Sublist b) : jl a ≤ jl b := by
  induction h with
  | slnil => exact Nat.le_refl _
  | cons _ _ ih => simp only [jl]; omega
  | cons_cons _ _ ih => simp only [jl]; omega
theorem join_sub (c : UInt8) {a b : List T} (h : a.Sublist b) : (join c a).length ≤ (join c b).length := by
  rw [join_len, join_len]
  have := jl_sub h
  omega
/-! ### Lists of answers -/
def mapO {α β : Type} (f : α → Option β) : List α → Option (List β)
  | [] => some []
  | a :: r => match f a, mapO f r with
    | some b, some bs => some (b :: bs)
    | _, _ => none
theorem mapO_iff {α β : Type} {f : α → Option β} : ∀ {l : List α} {bs : List β}, mapO f l = some bs ↔ l.map f = bs.map some
  | [], bs => by cases bs <;> simp [mapO]
  | a :: r, bs => by
    unfold mapO
    cases hf : f a with
    | none => cases bs <;> simp [hf]
    | some b =>
      cases hm : mapO f r with
      | none =>
        cases bs with
        | nil => simp
        | cons c cs =>
          simp only [List.map_cons, hf, List.cons.injEq, Option.some.injEq, reduceCtorEq, false_iff, not_and]
          intro _ h
          have := mapO_iff.2 h
          rw [hm] at this; cases this
      | some rs =>
        cases bs with
        | nil => simp
        | cons c cs =>
          simp only [List.map_cons, hf, List.cons.injEq, Option.some.injEq]
          rw [← mapO_iff, hm, Option.some.injEq]
theorem mapO_none {α β : Type} {f : α → Option β} : ∀ {l : List α}, mapO f l = none ↔ ∃ a, a ∈ l ∧ f a = none
  | [] => by simp [mapO]
  | a :: r => by
    unfold mapO
    cases hf : f a with
    | none => simp [hf]
    | some b =>
      have ih := mapO_none (f := f) (l := r)
      cases hm : mapO f r with
      | none =>
        obtain ⟨c, h1, h2⟩ := ih.1 hm
        simp only [true_iff]
        exact ⟨c, List.mem_cons_of_mem _ h1, h2⟩
      | some rs =>
        simp only [reduceCtorEq, false_iff]
        rintro ⟨c, h1, h2⟩
        rcases List.mem_cons.1 h1 with rfl | h1
        · rw [hf] at h2; cases h2
        · have := ih.2 ⟨c, h1, h2⟩
          rw [hm] at this; cases this
theorem mapO_len {α β : Type} {f : α → Option β} {l : List α} {bs : List β} (h : mapO f l = some bs) : bs.length = l.length := by
  have := congrArg List.length (mapO_iff.1 h)
  simpa using this.symm
theorem mapO_get {α β : Type} {f : α → Option β} {l : List α} {bs : List β} (h : mapO f l = some bs) {i : Nat} (hi : i < l.length) (hb : i < bs.length) : f l[i] = some bs[i] := by
  have h1 := mapO_iff.1 h
  have h2 : (l.map f)[i]'(by simpa using hi) = (bs.map some)[i]'(by simpa using hb) := by simp only [h1]
  simpa using h2
theorem mapO_snoc {α β : Type} {f : α → Option β} {a : α} {b : β} {l : List α} {bs : List β} (h : mapO f l = some bs) (ha : f a = some b) : mapO f (l ++ [a]) = some (bs ++ [b]) := by
  rw [mapO_iff] at h ⊢
  rw [List.map_append, List.map_append, h]
  simp [ha]
end Go.Proofs.YtpaolgjgonghlaaDoor.Tx
/-
  Graphs in plain words: ways of k edges, distances and the reference's reckoning of them, the first one of the shortest cycles, the transitive reduction, what is told of a graph.
-/
namespace Go.Proofs.YtpaolgjgonghlaaDoor.Gr
abbrev E := List (Nat × Nat)
/-- There is a way of k edges from a to b. -/
def rk (es : E) : Nat → Nat → Nat → Bool
  | 0, a, b => a == b
  | k + 1, a, b => es.any fun e => e.2 == b && rk es k a e.1
theorem rk_snoc {es : E} {k a x b : Nat} (h : rk es k a x = true) (he : (x, b) ∈ es) : rk es (k + 1) a b = true := by
  unfold rk
  rw [List.any_eq_true]
  exact ⟨(x, b), he, by simp [h]⟩
theorem rk_last {es : E} {k a b : Nat} (h : rk es (k + 1) a b = true) : ∃ x, (x, b) ∈ es ∧ rk es k a x = true := by
  unfold rk at h
  rw [List.any_eq_true] at h
  obtain ⟨⟨x, y⟩, he, h2⟩ := h
  simp only [Bool.and_eq_true, beq_iff_eq] at h2
  obtain ⟨rfl, h3⟩ := h2
  exact ⟨x, he, h3⟩
theorem rk_app {es : E} {j a b : Nat} (h : rk es j a b = true) : ∀ {k c : Nat}, rk es k b c = true → rk es (j + k) a c = true
  | 0, c, h2 => by
    have : b = c := by simpa [rk] using h2
    subst this; exact h
  | k + 1, c, h2 => by
    obtain ⟨x, hx, h3⟩ := rk_last h2
    exact rk_snoc (rk_app h h3) hx
theorem rk_one {es : E} {a b : Nat} : rk es 1 a b = true ↔ (a, b) ∈ es := by
  constructor
  · intro h
    obtain ⟨x, hx, h2⟩ := rk_last h
    have : a = x := by simpa [rk] using h2
    rw [this]; exact hx
  · intro h
    exact rk_snoc (k := 0) (x := a) (by simp [rk]) h
theorem rk_cons {es : E} {k a c b : Nat} (he : (a, c) ∈ es) (h : rk es k c b = true) : rk es (k + 1) a b = true := by
  rw [Nat.add_comm]
  exact rk_app (rk_one.2 he) h
theorem rk_split {es : E} {a : Nat} : ∀ {j k b : Nat}, rk es (j + k) a b = true → ∃ x, rk es j a x = true ∧ rk es k x b = true
  | j, 0, b, h => ⟨b, h, by simp [rk]⟩
  | j, k + 1, b, h => by
    obtain ⟨x, hx, h2⟩ := rk_last (k := j + k) h
    obtain ⟨y, h3, h4⟩ := rk_split h2
    exact ⟨y, h3, rk_snoc h4 hx⟩
theorem rk_head {es : E} {k a b : Nat} (h : rk es (k + 1) a b = true) : ∃ c, (a, c) ∈ es ∧ rk es k c b = true := by
  rw [Nat.add_comm] at h
  obtain ⟨c, h1, h2⟩ := rk_split h
  exact ⟨c, rk_one.1 h1, h2⟩
/-- Every edge connects nodes below n. -/
def Low (es : E) (n : Nat) : Prop := ∀ e ∈ es, e.1 < n ∧ e.2 < n
theorem rk_low {es : E} {n k a b : Nat} (hl : Low es n) (h : rk es (k + 1) a b = true) : a < n ∧ b < n := by
  obtain ⟨x, hx, _⟩ := rk_last h
  obtain ⟨c, hc, _⟩ := rk_head h
  exact ⟨(hl _ hc).1, (hl _ hx).2⟩
theorem nodup_low : ∀ (n : Nat) (l : List Nat), (∀ x ∈ l, x < n) → l.Nodup → l.length ≤ n
  | 0, l, h, _ => by
    cases l with
    | nil => simp
    | cons x r => have := h x (by simp); omega
  | n + 1, l, h, hd => by
    have h1 : ∀ x ∈ l.erase n, x < n := fun x hx => by
      have h2 := h x (List.mem_of_mem_erase hx)
      have h3 := (List.Nodup.mem_erase_iff hd).1 hx
      omega
    have h2 := nodup_low n (l.erase n) h1 (hd.erase n)
    rw [List.length_erase] at h2
    split at h2 <;> omega
/-- The nodes of a way, from the one behind a on. -/
theorem rk_nodes {es : E} {n a : Nat} (hl : Low es n) : ∀ {k b : Nat}, rk es k a b = true → ∃ l : List Nat, l.length = k ∧ (∀ x ∈ l, x < n) ∧ (∀ i, i < k → rk es (i + 1) a (l.getD i 0) = true ∧ rk es (k - (i + 1)) (l.getD i 0) b = true) ∧ ∀ i j, i ≤ j → j < k → rk es (j - i) (l.getD i 0) (l.getD j 0) = true
  | 0, b, _ => ⟨[], rfl, fun x hx => by simp at hx, fun i hi => by omega, fun i j _ hj => by omega⟩
  | k + 1, b, h => by
    obtain ⟨x, hx, h2⟩ := rk_last h
    obtain ⟨l, h3, h4, h5, h7⟩ := rk_nodes hl h2
    have old : ∀ i, i < k → (l ++ [b]).getD i 0 = l.getD i 0 := fun i hi => by
      rw [List.getD_eq_getElem?_getD, List.getElem?_append_left (by omega), ← List.getD_eq_getElem?_getD]
    have new : (l ++ [b]).getD k 0 = b := by
      rw [List.getD_eq_getElem?_getD, List.getElem?_append_right (by omega), h3, Nat.sub_self]; rfl
    have key : ∀ i, i < k → rk es (k + 1 - (i + 1)) (l.getD i 0) b = true := fun i hi => by
      rw [show k + 1 - (i + 1) = (k - (i + 1)) + 1 by omega]
      exact rk_snoc (h5 i hi).2 hx
    refine ⟨l ++ [b], by simp [h3], fun y hy => ?_, fun i hi => ?_, fun i j hij hj => ?_⟩
    · rcases List.mem_append.1 hy with h6 | h6
      · exact h4 y h6
      · simp at h6; subst h6; exact (hl _ hx).2
    · by_cases h6 : i < k
      · rw [old i h6]
        exact ⟨(h5 i h6).1, key i h6⟩
      · have e : i = k := by omega
        subst e
        rw [new]
        exact ⟨h, by simp [rk]⟩
    · by_cases h6 : j < k
      · rw [old i (by omega), old j h6]
        exact h7 i j hij h6
      · have e : j = k := by omega
        subst e
        rw [new]
        by_cases h8 : i = j
        · subst h8; rw [new, Nat.sub_self]; simp [rk]
        · rw [old i (by omega)]
          have := key i (by omega)
          rwa [show j + 1 - (i + 1) = j - i by omega] at this
theorem not_nodup {l : List Nat} (h : ¬ l.Nodup) : ∃ i j, i < j ∧ j < l.length ∧ l.getD i 0 = l.getD j 0 := by
  induction l with
  | nil => simp at h
  | cons x r ih =>
    rw [List.nodup_cons] at h
    by_cases hx : x ∈ r
    · obtain ⟨j, hj, e⟩ := List.getElem_of_mem hx
      refine ⟨0, j + 1, by omega, by simp; omega, ?_⟩
      simp [List.getElem?_eq_getElem hj, e]
    · have h2 : ¬ r.Nodup := fun h3 => h ⟨hx, h3⟩
      obtain ⟨i, j, h3, h4, h5⟩ := ih h2
      refine ⟨i + 1, j + 1, by omega, by simp; omega, ?_⟩
      simpa using h5
/-- A way of more than n edges can be cut short. -/
theorem rk_short {es : E} {n a : Nat} (hl : Low es n) : ∀ (k b : Nat), 1 ≤ k → rk es k a b = true → ∃ k', 1 ≤ k' ∧ k' ≤ n ∧ k' ≤ k ∧ rk es k' a b = true := by
  intro k
  induction k using Nat.strongRecOn with
  | _ k ih =>
    intro b h1 h
    by_cases hk : k ≤ n
    · exact ⟨k, h1, hk, Nat.le_refl _, h⟩
    · obtain ⟨l, h2, h3, h4, _⟩ := rk_nodes hl h
      have h5 : ¬ l.Nodup := fun hd => by have := nodup_low n l h3 hd; omega
      obtain ⟨i, j, h6, h7, h8⟩ := not_nodup h5
      have p := (h4 i (by omega)).1
      have q := (h4 j (by omega)).2
      rw [← h8] at q
      have r := rk_app p q
      obtain ⟨k', p1, p2, p3, p4⟩ := ih (i + 1 + (k - (j + 1))) (by omega) b (by omega) r
      exact ⟨k', p1, p2, by omega, p4⟩
/-- In how many edges at least: -1 if not at all. -/
def dist (es : E) (n a b : Nat) : Int := match (List.range n).find? (fun i => rk es (i + 1) a b) with
  | some i => (i : Int) + 1
  | none => -1
theorem dist_some {es : E} {n a b k : Nat} (hk : 1 ≤ k) (hn : k ≤ n) (h : rk es k a b = true) (hm : ∀ j, 1 ≤ j → j < k → rk es j a b = false) : dist es n a b = (k : Int) := by
  have e : (List.range n).find? (fun i => rk es (i + 1) a b) = some (k - 1) := by
    rw [List.find?_range_eq_some]
    refine ⟨by rw [Nat.sub_add_cancel hk]; exact h, by simp; omega, fun j hj => ?_⟩
    rw [hm (j + 1) (by omega) (by omega)]; rfl
  unfold dist
  rw [e]
  show ((k - 1 : Nat) : Int) + 1 = k
  omega
theorem dist_cases (es : E) (n a b : Nat) (hl : Low es n) : (dist es n a b = -1 ∧ ∀ k, 1 ≤ k → rk es k a b = false) ∨
    ∃ k, 1 ≤ k ∧ k ≤ n ∧ dist es n a b = (k : Int) ∧ rk es k a b = true ∧ ∀ j, 1 ≤ j → j < k → rk es j a b = false := by
  cases hf : (List.range n).find? (fun i => rk es (i + 1) a b) with
  | none =>
    left
    refine ⟨by unfold dist; rw [hf], fun k hk => ?_⟩
    cases hr : rk es k a b with
    | false => rfl
    | true =>
      obtain ⟨k', h1, h2, _, h4⟩ := rk_short hl k b hk hr
      rw [List.find?_eq_none] at hf
      have := hf (k' - 1) (by simp; omega)
      rw [Nat.sub_add_cancel h1, h4] at this
      exact absurd rfl this
  | some i =>
    right
    have h := List.find?_range_eq_some.1 hf
    refine ⟨i + 1, by omega, ?_, by unfold dist; rw [hf]; simp, h.1, fun j h1 h2 => ?_⟩
    · have := h.2.1; simp at this; omega
    · have := h.2.2 (j - 1) (by omega)
      rw [Nat.sub_add_cancel h1] at this
      simpa using this
theorem dist_pos {es : E} {n a b : Nat} (hl : Low es n) : 0 ≤ dist es n a b ↔ ∃ k, 1 ≤ k ∧ rk es k a b = true := by
  rcases dist_cases es n a b hl with ⟨h1, h2⟩ | ⟨k, h1, _, h2, h3, _⟩
  · rw [h1]
    constructor
    · intro h; omega
    · rintro ⟨k, hk, h3⟩; rw [h2 k hk] at h3; cases h3
  · rw [h2]
    exact ⟨fun _ => ⟨k, h1, h3⟩, fun _ => by omega⟩

/-! ### The reference's reckoning of it: edges relaxed, n times -/
def relax (d : List Int) (e : Nat × Nat) : List Int := if 0 ≤ d.getD e.1 (-1) ∧ (d.getD e.2 (-1) < 0 ∨ d.getD e.1 (-1) + 1 < d.getD e.2 (-1)) then d.set e.2 (d.getD e.1 (-1) + 1) else d
def start (es : E) (n a : Nat) : List Int := (List.range n).map fun i => if es.any (fun e => e.1 == a && e.2 == i) then 1 else -1
def rounds (es : E) : Nat → List Int → List Int
  | 0, d => d
  | r + 1, d => rounds es r (es.foldl relax d)
/-- What is noted is the length of a way. -/
structure Fine (es : E) (n a : Nat) (d : List Int) : Prop where
  len : d.length = n
  neg : ∀ i, d.getD i (-1) < 0 → d.getD i (-1) = -1
  way : ∀ i, 0 ≤ d.getD i (-1) → ∃ k : Nat, 1 ≤ k ∧ d.getD i (-1) = (k : Int) ∧ rk es k a i = true
theorem getD_set (d : List Int) (i j : Nat) (v : Int) (hi : i < d.length) : (d.set i v).getD j (-1) = if i = j then v else d.getD j (-1) := by
  rw [List.getD_eq_getElem?_getD, List.getD_eq_getElem?_getD, List.getElem?_set]
  by_cases h : i = j
  · subst h; simp [hi]
  · simp [h]
theorem Fine.relax {es : E} {n a : Nat} {d : List Int} (h : Fine es n a d) {e : Nat × Nat} (he : e ∈ es) (hl : Low es n) : Fine es n a (relax d e) := by
  unfold Gr.relax
  split
  · next hc =>
    have h2 := (hl e he).2
    obtain ⟨k, k1, k2, k3⟩ := h.way e.1 hc.1
    refine ⟨by simp [h.len], fun i hi => ?_, fun i hi => ?_⟩
    · rw [getD_set _ _ _ _ (by rw [h.len]; exact h2)] at hi ⊢
      split
      · next hx => rw [if_pos hx] at hi; omega
      · next hx => rw [if_neg hx] at hi; exact h.neg i hi
    · rw [getD_set _ _ _ _ (by rw [h.len]; exact h2)] at hi ⊢
      split
      · next hx =>
        subst hx
        exact ⟨k + 1, by omega, by rw [k2]; omega, rk_snoc k3 he⟩
      · next hx => rw [if_neg hx] at hi; exact h.way i hi
  · exact h
/-- Ways of at most r edges are noted. -/
def Cov (es : E) (a r : Nat) (d : List Int) : Prop := ∀ i k, 1 ≤ k → k ≤ r → rk es k a i = true → 0 ≤ d.getD i (-1) ∧ d.getD i (-1) ≤ (k : Int)
theorem relax_le {es : E} {n : Nat} {d : List Int} (hd : d.length = n) {e : Nat × Nat} (he : e ∈ es) (hl : Low es n) (i : Nat) (h : 0 ≤ d.getD i (-1)) : 0 ≤ (relax d e).getD i (-1) ∧ (relax d e).getD i (-1) ≤ d.getD i (-1) := by
  unfold relax
  split
  · next hc =>
    rw [getD_set _ _ _ _ (by rw [hd]; exact (hl e he).2)]
    split
    · next hx => subst hx; omega
    · exact ⟨h, Int.le_refl _⟩
  · exact ⟨h, Int.le_refl _⟩
theorem relax_edge {es : E} {n : Nat} {d : List Int} (hd : d.length = n) {e : Nat × Nat} (he : e ∈ es) (hl : Low es n) (h : 0 ≤ d.getD e.1 (-1)) : 0 ≤ (relax d e).getD e.2 (-1) ∧ (relax d e).getD e.2 (-1) ≤ d.getD e.1 (-1) + 1 := by
  unfold relax
  split
  · next hc =>
    rw [getD_set _ _ _ _ (by rw [hd]; exact (hl e he).2), if_pos rfl]
    omega
  · next hc =>
    have : ¬ (d.getD e.2 (-1) < 0 ∨ d.getD e.1 (-1) + 1 < d.getD e.2 (-1)) := fun hx => hc ⟨h, hx⟩
    omega
theorem fold_fine {es : E} {n a : Nat} (hl : Low es n) : ∀ (l : E) (d : List Int), (∀ e ∈ l, e ∈ es) → Fine es n a d → Fine es n a (l.foldl relax d)
  | [], d, _, h => h
  | e :: r, d, hs, h => fold_fine hl r (relax d e) (fun x hx => hs x (List.mem_cons_of_mem _ hx)) (h.relax (hs e (by simp)) hl)
theorem fold_le {es : E} {n a : Nat} (hl : Low es n) : ∀ (l : E) (d : List Int), (∀ e ∈ l, e ∈ es) → Fine es n a d → ∀ i, 0 ≤ d.getD i (-1) → 0 ≤ (l.foldl relax d).getD i (-1) ∧ (l.foldl relax d).getD i (-1) ≤ d.getD i (-1)
  | [], d, _, _, i, h => ⟨h, Int.le_refl _⟩
  | e :: r, d, hs, hf, i, h => by
    have h1 := relax_le hf.len (hs e (by simp)) hl i h
    have h2 := fold_le hl r (relax d e) (fun x hx => hs x (List.mem_cons_of_mem _ hx)) (hf.relax (hs e (by simp)) hl) i h1.1
    exact ⟨h2.1, Int.le_trans h2.2 h1.2⟩
theorem fold_edge {es : E} {n a : Nat} (hl : Low es n) : ∀ (l : E) (d : List Int), (∀ e ∈ l, e ∈ es) → Fine es n a d → ∀ e ∈ l, 0 ≤ d.getD e.1 (-1) → 0 ≤ (l.foldl relax d).getD e.2 (-1) ∧ (l.foldl relax d).getD e.2 (-1) ≤ d.getD e.1 (-1) + 1
  | [], d, _, _, e, he, _ => by simp at he
  | x :: r, d, hs, hf, e, he, h => by
    have hx := hs x (by simp)
    have hr : ∀ y ∈ r, y ∈ es := fun y hy => hs y (List.mem_cons_of_mem _ hy)
    rcases List.mem_cons.1 he with rfl | he2
    · have h1 := relax_edge hf.len hx hl h
      have h2 := fold_le hl r (relax d e) hr (hf.relax hx hl) e.2 h1.1
      exact ⟨h2.1, Int.le_trans h2.2 h1.2⟩
    · have h1 := relax_le hf.len hx hl e.1 h
      have h2 := fold_edge hl r (relax d x) hr (hf.relax hx hl) e he2 h1.1
      refine ⟨h2.1, ?_⟩
      have h3 := h1.2
      have h4 := h2.2
      show (r.foldl relax (relax d x)).getD e.2 (-1) ≤ _
      omega
theorem cov_step {es : E} {n a r : Nat} (hl : Low es n) {d : List Int} (hf : Fine es n a d) (hr : 1 ≤ r) (hc : Cov es a r d) : Cov es a (r + 1) (es.foldl relax d) := by
  intro i k h1 h2 h3
  by_cases hk : k ≤ r
  · obtain ⟨p, q⟩ := hc i k h1 hk h3
    have := fold_le hl es d (fun _ h => h) hf i p
    exact ⟨this.1, Int.le_trans this.2 q⟩
  · obtain rfl : k = r + 1 := by omega
    obtain ⟨x, hx, h4⟩ := rk_last h3
    obtain ⟨p, q⟩ := hc x r hr (Nat.le_refl _) h4
    have := fold_edge hl es d (fun _ h => h) hf (x, i) hx p
    exact ⟨this.1, by have := this.2; show _ ≤ ((r + 1 : Nat) : Int); simp only at this; omega⟩
theorem start_get (es : E) (n a i : Nat) (hi : i < n) : (start es n a).getD i (-1) = if (a, i) ∈ es then 1 else -1 := by
  unfold start
  rw [List.getD_eq_getElem?_getD, List.getElem?_map, List.getElem?_range hi]
  have e : (es.any fun e => e.1 == a && e.2 == i) = true ↔ (a, i) ∈ es := by
    rw [List.any_eq_true]
    constructor
    · rintro ⟨⟨x, y⟩, h1, h2⟩
      simp only [Bool.and_eq_true, beq_iff_eq] at h2
      obtain ⟨rfl, rfl⟩ := h2
      exact h1
    · intro h
      exact ⟨(a, i), h, by simp⟩
  by_cases h : (a, i) ∈ es
  · simp [e.2 h, h]
  · have h2 : (es.any fun e => e.1 == a && e.2 == i) = false := by
      cases hh : (es.any fun e => e.1 == a && e.2 == i) with
      | false => rfl
      | true => exact absurd (e.1 hh) h
    simp [h2, h]
theorem start_out (es : E) (n a i : Nat) (hi : n ≤ i) : (start es n a).getD i (-1) = -1 := by
  unfold start
  rw [List.getD_eq_getElem?_getD, List.getElem?_eq_none (by simp; omega)]
  rfl
theorem start_fine (es : E) (n a : Nat) : Fine es n a (start es n a) := by
  refine ⟨by simp [start], fun i hi => ?_, fun i hi => ?_⟩
  · rcases Nat.lt_or_ge i n with h | h
    · rw [start_get _ _ _ _ h] at hi ⊢
      split
      · next hx => rw [if_pos hx] at hi; omega
      · rfl
    · exact start_out es n a i h
  · rcases Nat.lt_or_ge i n with h | h
    · rw [start_get _ _ _ _ h] at hi ⊢
      split
      · next hx => exact ⟨1, Nat.le_refl _, rfl, rk_one.2 hx⟩
      · next hx => rw [if_neg hx] at hi; omega
    · rw [start_out _ _ _ _ h] at hi; omega
theorem start_cov {es : E} {n a : Nat} (hl : Low es n) : Cov es a 1 (start es n a) := by
  intro i k h1 h2 h3
  obtain rfl : k = 1 := by omega
  have h4 := rk_one.1 h3
  rw [start_get _ _ _ _ (hl _ h4).2, if_pos h4]
  omega
theorem rounds_fine {es : E} {n a : Nat} (hl : Low es n) : ∀ (r q : Nat) (d : List Int), 1 ≤ q → Fine es n a d → Cov es a q d → Fine es n a (rounds es r d) ∧ Cov es a (q + r) (rounds es r d)
  | 0, q, d, _, h1, h2 => ⟨h1, h2⟩
  | r + 1, q, d, hq, h1, h2 => by
    have := rounds_fine hl r (q + 1) (es.foldl relax d) (by omega) (fold_fine hl es d (fun _ h => h) h1) (cov_step hl h1 hq h2)
    rw [show q + (r + 1) = q + 1 + r by omega]
    exact this
/-- The reckoning tells the distance. -/
theorem rounds_dist {es : E} {n : Nat} (a i : Nat) (hl : Low es n) : (rounds es n (start es n a)).getD i (-1) = dist es n a i := by
  obtain ⟨h1, h2⟩ := rounds_fine hl n 1 _ (Nat.le_refl _) (start_fine es n a) (start_cov hl)
  generalize rounds es n (start es n a) = d at *
  rcases dist_cases es n a i hl with ⟨p1, p2⟩ | ⟨k, k1, kn, p1, p2, p3⟩
  · rw [p1]
    rcases Int.lt_or_le (d.getD i (-1)) 0 with h | h
    · exact h1.neg i h
    · obtain ⟨k, q1, q2, q3⟩ := h1.way i h
      rw [p2 k q1] at q3; cases q3
  · rw [p1]
    obtain ⟨q1, q2⟩ := h2 i k k1 (by omega) p2
    obtain ⟨j, j1, j2, j3⟩ := h1.way i q1
    rw [j2] at q2 ⊢
    have : ¬ j < k := fun hlt => by rw [p3 j j1 hlt] at j3; cases j3
    omega

/-! ### The first one of the shortest cycles -/
def grow (es : E) (n fr : Nat) : Nat → Nat → List Nat
  | 0, _ => []
  | m + 1, x => match (List.range n).find? (fun b => es.contains (x, b) && rk es (m + 1) b fr) with
    | some b => b :: grow es n fr m b
    | none => []
theorem grow_next {es : E} {n fr m x : Nat} (hl : Low es n) (h : rk es (m + 2) x fr = true) : ∃ b, (List.range n).find? (fun b => es.contains (x, b) && rk es (m + 1) b fr) = some b ∧ (x, b) ∈ es ∧ rk es (m + 1) b fr = true ∧ b < n ∧ ∀ c, c < b → ((x, c) ∈ es → rk es (m + 1) c fr = false) := by
  obtain ⟨c, hc, h2⟩ := rk_head h
  cases hf : (List.range n).find? (fun b => es.contains (x, b) && rk es (m + 1) b fr) with
  | none =>
    rw [List.find?_eq_none] at hf
    have := hf c (by simp; exact (hl _ hc).2)
    simp [hc, h2] at this
  | some b =>
    have h3 := List.find?_range_eq_some.1 hf
    simp only [Bool.and_eq_true, List.contains_iff_mem] at h3
    refine ⟨b, rfl, h3.1.1, h3.1.2, by have := h3.2.1; simpa using this, fun c hcb hce => ?_⟩
    have := h3.2.2 c hcb
    simpa [hce] using this
/-- What the nodes that are chosen one after another are. -/
theorem grow_spec {es : E} {n fr : Nat} (hl : Low es n) : ∀ (m x : Nat), rk es (m + 1) x fr = true →
    (grow es n fr m x).length = m ∧ (∀ i, i ≤ m → rk es i x ((x :: grow es n fr m x).getD i 0) = true ∧ rk es (m + 1 - i) ((x :: grow es n fr m x).getD i 0) fr = true) ∧ ∀ i, i < m → ((x :: grow es n fr m x).getD i 0, (x :: grow es n fr m x).getD (i + 1) 0) ∈ es
  | 0, x, h => by
    refine ⟨rfl, fun i hi => ?_, fun i hi => by omega⟩
    obtain rfl : i = 0 := by omega
    exact ⟨by simp [rk], h⟩
  | m + 1, x, h => by
    obtain ⟨b, hf, he, hb, _, _⟩ := grow_next hl h
    have e : grow es n fr (m + 1) x = b :: grow es n fr m b := by
      show (match (List.range n).find? (fun b => es.contains (x, b) && rk es (m + 1) b fr) with | some b => b :: grow es n fr m b | none => []) = _
      rw [hf]
    obtain ⟨h1, h2, h3⟩ := grow_spec hl m b hb
    rw [e]
    refine ⟨by simp [h1], fun i hi => ?_, fun i hi => ?_⟩
    · cases i with
      | zero => exact ⟨by simp [rk], h⟩
      | succ i =>
        obtain ⟨p, q⟩ := h2 i (by omega)
        rw [List.getD_cons_succ, show m + 1 + 1 - (i + 1) = m + 1 - i by omega]
        exact ⟨rk_cons he p, q⟩
    · cases i with
      | zero => exact he
      | succ i =>
        rw [List.getD_cons_succ, List.getD_cons_succ]
        exact h3 i (by omega)
/-- The length of a shortest cycle, less one. -/
def bestV (es : E) (n : Nat) : Option Nat := (List.range n).find? (fun i => (List.range n).any fun a => rk es (i + 1) a a)
def cycleV (es : E) (n : Nat) : List Nat := match bestV es n with
  | none => []
  | some k => match (List.range n).find? (fun a => rk es (k + 1) a a) with
    | none => []
    | some f => f :: grow es n f k f
/-- No node reaches itself. -/
def Tree (es : E) : Prop := ∀ k a, 1 ≤ k → rk es k a a = false
theorem best_none {es : E} {n : Nat} (hl : Low es n) (h : bestV es n = none) : Tree es := fun k a hk => by
  cases hr : rk es k a a with
  | false => rfl
  | true =>
    obtain ⟨k', h1, h2, _, h4⟩ := rk_short hl k a hk hr
    unfold bestV at h
    rw [List.find?_eq_none] at h
    have ha : a < n := by obtain ⟨j, rfl⟩ : ∃ j, k = j + 1 := ⟨k - 1, by omega⟩; exact (rk_low hl hr).1
    have := h (k' - 1) (by simp; omega)
    refine absurd ?_ this
    rw [Nat.sub_add_cancel h1, List.any_eq_true]
    exact ⟨a, by simpa using ha, h4⟩
theorem best_some {es : E} {n k : Nat} (hl : Low es n) (h : bestV es n = some k) : ∃ f, (List.range n).find? (fun a => rk es (k + 1) a a) = some f ∧ f < n ∧ rk es (k + 1) f f = true ∧ (∀ a, rk es (k + 1) a a = true → f ≤ a) ∧ ∀ j a, 1 ≤ j → j ≤ k → rk es j a a = false := by
  have h1 := List.find?_range_eq_some.1 h
  have h2 := h1.1
  rw [List.any_eq_true] at h2
  obtain ⟨a, ha, h3⟩ := h2
  have ha' : a < n := by simpa using ha
  cases hf : (List.range n).find? (fun a => rk es (k + 1) a a) with
  | none =>
    rw [List.find?_eq_none] at hf
    exact absurd h3 (hf a ha)
  | some f =>
    have h4 := List.find?_range_eq_some.1 hf
    have hfn : f < n := by have := h4.2.1; simpa using this
    refine ⟨f, rfl, hfn, h4.1, fun b hb => ?_, fun j b hj hjk => ?_⟩
    · rcases Nat.lt_or_ge b f with h5 | h5
      · have := h4.2.2 b h5
        rw [hb] at this; cases this
      · exact h5
    · cases hr : rk es j b b with
      | false => rfl
      | true =>
        have hb : b < n := by obtain ⟨i, rfl⟩ : ∃ i, j = i + 1 := ⟨j - 1, by omega⟩; exact (rk_low hl hr).1
        have := h1.2.2 (j - 1) (by omega)
        rw [Nat.sub_add_cancel hj] at this
        have h6 : ((List.range n).any fun a => rk es j a a) = true := by
          rw [List.any_eq_true]; exact ⟨b, by simpa using hb, hr⟩
        rw [h6] at this; cases this
theorem cycle_none {es : E} {n : Nat} (hl : Low es n) : cycleV es n = [] ↔ Tree es := by
  unfold cycleV
  cases hb : bestV es n with
  | none => exact ⟨fun _ => best_none hl hb, fun _ => rfl⟩
  | some k =>
    obtain ⟨f, hf, _, h2, _, _⟩ := best_some hl hb
    show (match (List.range n).find? (fun a => rk es (k + 1) a a) with | none => [] | some f => f :: grow es n f k f) = [] ↔ _
    rw [hf]
    constructor
    · intro h; cases h
    · intro h; rw [h (k + 1) f (by omega)] at h2; cases h2
theorem cycle_spec {es : E} {n : Nat} (hl : Low es n) :
    (∀ i, i < (cycleV es n).length → (cycleV es n).getD i 0 < n ∧ ((cycleV es n).getD i 0, (cycleV es n).getD ((i + 1) % (cycleV es n).length) 0) ∈ es ∧ (cycleV es n).getD 0 0 ≤ (cycleV es n).getD i 0 ∧ ∀ j, j < i → (cycleV es n).getD j 0 ≠ (cycleV es n).getD i 0) ∧ (cycleV es n).length ≤ n := by
  cases hb : bestV es n with
  | none =>
    have e : cycleV es n = [] := by unfold cycleV; rw [hb]
    rw [e]
    exact ⟨fun i hi => by simp at hi, by simp⟩
  | some k =>
    obtain ⟨f, hf, hfn, h2, h3, h4⟩ := best_some hl hb
    have e : cycleV es n = f :: grow es n f k f := by unfold cycleV; rw [hb]; show (match (List.range n).find? (fun a => rk es (k + 1) a a) with | none => [] | some f => f :: grow es n f k f) = _; rw [hf]
    obtain ⟨g1, g2, g3⟩ := grow_spec hl k f h2
    rw [e]
    generalize grow es n f k f = r at *
    have hlen : (f :: r).length = k + 1 := by simp [g1]
    have hkn : k + 1 ≤ n := by have := (List.find?_range_eq_some.1 hb).2.1; simp at this; omega
    refine ⟨fun i hi => ?_, by rw [hlen]; exact hkn⟩
    rw [hlen] at hi ⊢
    obtain ⟨p, q⟩ := g2 i (by omega)
    have hedge : ((f :: r).getD i 0, (f :: r).getD ((i + 1) % (k + 1)) 0) ∈ es := by
      by_cases hik : i < k
      · rw [Nat.mod_eq_of_lt (by omega)]; exact g3 i hik
      · obtain rfl : i = k := by omega
        rw [Nat.mod_self]
        have := (g2 i (Nat.le_refl _)).2
        rw [show i + 1 - i = 1 by omega] at this
        exact rk_one.1 this
    refine ⟨(hl _ hedge).1, hedge, ?_, fun j hj => ?_⟩
    · have h5 := rk_app q p
      rw [show k + 1 - i + i = k + 1 by omega] at h5
      exact h3 _ h5
    · intro he
      have p2 := (g2 j (by omega)).1
      rw [he] at p2
      have h5 := rk_app p2 q
      rw [h4 (j + (k + 1 - i)) f (by omega) (by omega)] at h5
      cases h5

/-! ### Without the edges that follow from others -/
def shortV (es : E) (n : Nat) : E := es.filter fun e => !(List.range n).any fun c => !(c == e.2) && es.contains (e.1, c) && decide (0 < dist es n c e.2)
theorem rk_mono {es fs : E} (hs : ∀ e ∈ fs, e ∈ es) {a : Nat} : ∀ {k b : Nat}, rk fs k a b = true → rk es k a b = true
  | 0, _, h => h
  | k + 1, b, h => by
    obtain ⟨x, hx, h2⟩ := rk_last h
    exact rk_snoc (rk_mono hs h2) (hs _ hx)
theorem tree_le {es : E} {n k a b : Nat} (hl : Low es n) (ht : Tree es) (h : rk es k a b = true) : k ≤ n := by
  obtain ⟨l, h2, h3, _, h4⟩ := rk_nodes hl h
  rw [← h2]
  refine nodup_low n l h3 ?_
  apply Classical.byContradiction
  intro hn
  obtain ⟨i, j, h6, h7, h8⟩ := not_nodup hn
  rw [h2] at h7
  have p := h4 i j (by omega) h7
  rw [← h8, ht (j - i) _ (by omega)] at p
  cases p
theorem longest {es : E} {n a b : Nat} (hl : Low es n) (ht : Tree es) : ∀ (d k : Nat), n - k ≤ d → rk es k a b = true → ∃ K, k ≤ K ∧ rk es K a b = true ∧ ∀ j, K < j → rk es j a b = false
  | 0, k, hd, h => by
    have := tree_le hl ht h
    refine ⟨k, Nat.le_refl _, h, fun j hj => ?_⟩
    cases hr : rk es j a b with
    | false => rfl
    | true => have := tree_le hl ht hr; omega
  | d + 1, k, hd, h => by
    by_cases hx : ∃ j, k < j ∧ rk es j a b = true
    · obtain ⟨j, hj, hr⟩ := hx
      obtain ⟨K, h1, h2, h3⟩ := longest hl ht d j (by omega) hr
      exact ⟨K, by omega, h2, h3⟩
    · refine ⟨k, Nat.le_refl _, h, fun j hj => ?_⟩
      cases hr : rk es j a b with
      | false => rfl
      | true => exact absurd ⟨j, hj, hr⟩ hx
theorem short_sub {es : E} {n : Nat} : ∀ e ∈ shortV es n, e ∈ es := fun e he => (List.mem_filter.1 he).1
/-- An edge that is left out follows from others. -/
theorem short_not {es : E} {n x y : Nat} (hl : Low es n) (he : (x, y) ∈ es) (hn : (x, y) ∉ shortV es n) : ∃ c k, c ≠ y ∧ (x, c) ∈ es ∧ 1 ≤ k ∧ rk es k c y = true := by
  unfold shortV at hn
  rw [List.mem_filter] at hn
  have h : ((List.range n).any fun c => !(c == y) && es.contains (x, c) && decide (0 < dist es n c y)) = true := by
    cases hh : ((List.range n).any fun c => !(c == y) && es.contains (x, c) && decide (0 < dist es n c y)) with
    | true => rfl
    | false => exact absurd ⟨he, by simp only [hh]; rfl⟩ hn
  rw [List.any_eq_true] at h
  obtain ⟨c, _, h2⟩ := h
  simp only [Bool.and_eq_true, Bool.not_eq_true', beq_eq_false_iff_ne, List.contains_iff_mem, decide_eq_true_eq] at h2
  obtain ⟨k, hk, hr⟩ := (dist_pos hl (a := c) (b := y)).1 (by omega)
  exact ⟨c, k, h2.1.1, h2.1.2, hk, hr⟩
theorem short_way {es : E} {n a b K : Nat} (hl : Low es n) (hK : ∀ j, K < j → rk es j a b = false) : ∀ i x, i ≤ K → rk es i a x = true → rk es (K - i) x b = true → rk (shortV es n) i a x = true
  | 0, x, _, h, _ => h
  | i + 1, x, hi, h, h2 => by
    obtain ⟨y, hy, h3⟩ := rk_last h
    have h4 : rk es (K - i) y b = true := by
      rw [show K - i = (K - (i + 1)) + 1 by omega]
      exact rk_cons hy h2
    refine rk_snoc (short_way hl hK i y (by omega) h3 h4) ?_
    apply Classical.byContradiction
    intro hn
    obtain ⟨c, m, _, hc, hm, hr⟩ := short_not hl hy hn
    have h5 := rk_app h3 (rk_cons hc (rk_app hr h2))
    rw [hK (i + (m + (K - (i + 1)) + 1)) (by omega)] at h5
    cases h5
/-- All that could be reached still can. -/
theorem short_reach {es : E} {n a b : Nat} (hl : Low es n) (ht : Tree es) : (∃ k, 1 ≤ k ∧ rk (shortV es n) k a b = true) ↔ ∃ k, 1 ≤ k ∧ rk es k a b = true := by
  constructor
  · rintro ⟨k, hk, h⟩
    exact ⟨k, hk, rk_mono short_sub h⟩
  · rintro ⟨k, hk, h⟩
    obtain ⟨K, h1, h2, h3⟩ := longest hl ht (n - k) k (Nat.le_refl _) h
    exact ⟨K, by omega, short_way hl h3 K b (Nat.le_refl _) h2 (by rw [Nat.sub_self]; simp [rk])⟩
theorem Low.sub {es fs : E} {n : Nat} (h : Low es n) (hs : ∀ e ∈ fs, e ∈ es) : Low fs n := fun e he => h e (hs e he)
theorem Tree.sub {es fs : E} (h : Tree es) (hs : ∀ e ∈ fs, e ∈ es) : Tree fs := fun k a hk => by
  cases hr : rk fs k a a with
  | false => rfl
  | true => have := rk_mono hs hr; rw [h k a hk] at this; cases this
/-- Once more changes nothing. -/
theorem short_again {es : E} {n : Nat} (hl : Low es n) (_ht : Tree es) : shortV (shortV es n) n = shortV es n := by
  show (shortV es n).filter (fun e => !(List.range n).any fun c => !(c == e.2) && (shortV es n).contains (e.1, c) && decide (0 < dist (shortV es n) n c e.2)) = shortV es n
  rw [List.filter_eq_self]
  rintro ⟨x, y⟩ he
  have he2 := he
  unfold shortV at he2
  rw [List.mem_filter] at he2
  obtain ⟨h1, h2⟩ := he2
  cases hh : ((List.range n).any fun c => !(c == (x, y).2) && (shortV es n).contains ((x, y).1, c) && decide (0 < dist (shortV es n) n c (x, y).2)) with
  | false => rfl
  | true =>
    exfalso
    rw [List.any_eq_true] at hh
    obtain ⟨c, hc, h3⟩ := hh
    simp only [Bool.and_eq_true, Bool.not_eq_true', beq_eq_false_iff_ne, List.contains_iff_mem, decide_eq_true_eq] at h3
    have hl2 := hl.sub (short_sub (es := es) (n := n))
    obtain ⟨k, hk, hr⟩ := (dist_pos hl2 (a := c) (b := y)).1 (by omega)
    have hr2 := rk_mono short_sub hr
    have h4 : 0 < dist es n c y := by
      rcases dist_cases es n c y hl with ⟨_, p⟩ | ⟨j, p1, _, p2, _, _⟩
      · rw [p k hk] at hr2; cases hr2
      · rw [p2]; omega
    have h5 : ((List.range n).any fun c => !(c == y) && es.contains (x, c) && decide (0 < dist es n c y)) = true := by
      rw [List.any_eq_true]
      exact ⟨c, hc, by simp [h3.1.1, short_sub _ h3.1.2, h4]⟩
    simp only [h5] at h2
    cases h2

/-! ### What is told of a graph -/
def aheadV (es : E) (n b : Nat) : List Nat := (List.range n).filter fun a => es.contains (a, b)
def behindV (es : E) (n a : Nat) : List Nat := (List.range n).filter fun b => es.contains (a, b)
def reachV (es : E) (n a : Nat) : List Nat := (List.range n).filter fun b => decide (0 ≤ dist es n a b)
theorem mem_ahead {es : E} {n a b : Nat} (hl : Low es n) : a ∈ aheadV es n b ↔ (a, b) ∈ es := by
  unfold aheadV
  rw [List.mem_filter, List.contains_iff_mem, List.mem_range]
  exact ⟨fun h => h.2, fun h => ⟨(hl _ h).1, h⟩⟩
theorem mem_behind {es : E} {n a b : Nat} (hl : Low es n) : b ∈ behindV es n a ↔ (a, b) ∈ es := by
  unfold behindV
  rw [List.mem_filter, List.contains_iff_mem, List.mem_range]
  exact ⟨fun h => h.2, fun h => ⟨(hl _ h).2, h⟩⟩
theorem mem_reach {es : E} {n a b : Nat} (hl : Low es n) : b ∈ reachV es n a ↔ ∃ k, 1 ≤ k ∧ rk es k a b = true := by
  unfold reachV
  rw [List.mem_filter, List.mem_range, decide_eq_true_eq, dist_pos hl]
  refine ⟨fun h => h.2, fun h => ⟨?_, h⟩⟩
  obtain ⟨k, hk, hr⟩ := h
  obtain ⟨j, rfl⟩ : ∃ j, k = j + 1 := ⟨k - 1, by omega⟩
  exact (rk_low hl hr).2
theorem reach_trans {es : E} {n a b c : Nat} (hl : Low es n) (h : b ∈ reachV es n a) (h2 : c ∈ reachV es n b) : c ∈ reachV es n a := by
  rw [mem_reach hl] at *
  obtain ⟨j, hj, h3⟩ := h
  obtain ⟨k, hk, h4⟩ := h2
  exact ⟨j + k, by omega, rk_app h3 h4⟩
theorem reach_edge {es : E} {n a b : Nat} (hl : Low es n) (h : (a, b) ∈ es) : b ∈ reachV es n a := (mem_reach hl).2 ⟨1, Nat.le_refl _, rk_one.2 h⟩
theorem reach_short {es : E} {n a : Nat} (hl : Low es n) (ht : Tree es) : reachV (shortV es n) n a = reachV es n a := by
  unfold reachV
  apply List.filter_congr
  intro b _
  have h : 0 ≤ dist (shortV es n) n a b ↔ 0 ≤ dist es n a b := by rw [dist_pos (hl.sub short_sub), dist_pos hl]; exact short_reach hl ht
  exact decide_eq_decide.2 h
theorem filter_range (n : Nat) (p : Nat → Bool) : ∀ i, i + 1 < ((List.range n).filter p).length → ((List.range n).filter p).getD i 0 < ((List.range n).filter p).getD (i + 1) 0 := fun i hi => by
  have h := (List.pairwise_lt_range (n := n)).filter p
  rw [List.getD_eq_getElem?_getD, List.getD_eq_getElem?_getD, List.getElem?_eq_getElem (by omega), List.getElem?_eq_getElem hi]
  exact List.pairwise_iff_getElem.1 h i (i + 1) (by omega) hi (by omega)
end Go.Proofs.YtpaolgjgonghlaaDoor.Gr
