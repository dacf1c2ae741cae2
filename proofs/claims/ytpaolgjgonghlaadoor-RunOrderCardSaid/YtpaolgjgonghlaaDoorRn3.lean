/-
  Part 3 of the texts behind the law: SixKit, Edges, ToPost, BytesKit, RowsKit, StrRows, StrCells, Only, GrMap, ZCells, BoolRows, BkDelay.
-/
import Derived.Test.YtpaolgjgonghlaaDoorRn1
import Derived.WalkKit
import Derived.WalkSpells
import Derived.WalkLawsBesides
import Derived.Lib.Hide
import Derived.Lib.SlBytesConst
import Derived.Lib.AppendStr
import Derived.OwnWalk
import Derived.Laws.OwnMore
import Derived.Laws.BytesArg
import Derived.Maps.AppendAt
import Derived.ArgAppend
import Derived.OneCell
import Derived.Lib.SmallJoins
import Derived.RegionTactic
import Derived.ProofKit
import Derived.OpenShut
import Derived.SliceStrings
import Derived.Laws.MakeOwn
import Derived.Maps.OwnSet
import Derived.Maps.RangeWalk
import Derived.DeepKeys4
import Derived.Test.YtpaolgjgonghlaaDoorRn2
/-
  A struct of six cells stored into its box.
-/
namespace Go.Proofs.YtpaolgjgonghlaaDoor
open Go.RowKit
def S6 (w : World) (g : Nat) (v0 v1 v2 v3 v4 v5 : Value) : World := (((((w.setCell ⟨g, 0, none⟩ v0).setCell ⟨g, 1, none⟩ v1).setCell ⟨g, 2, none⟩ v2).setCell ⟨g, 3, none⟩ v3).setCell ⟨g, 4, none⟩ v4).setCell ⟨g, 5, none⟩ v5
theorem S6.at_ {w : World} {g : Nat} {a b c d e f : Value} {t : TypeId} (h : w.heap[g]? = some (.cells #[a, b, c, d, e, f] t (0, 0))) (v0 v1 v2 v3 v4 v5 : Value) : (S6 w g v0 v1 v2 v3 v4 v5).heap[g]? = some (.cells #[v0, v1, v2, v3, v4, v5] t (0, 0)) :=
  heap_setCell_same _ g 5 _ _ _ (heap_setCell_same _ g 4 _ _ _ (heap_setCell_same _ g 3 _ _ _ (heap_setCell_same _ g 2 _ _ _ (heap_setCell_same _ g 1 _ _ _ (heap_setCell_same w g 0 _ _ _ h)))))
theorem S6.else_ (w : World) (g : Nat) (v0 v1 v2 v3 v4 v5 : Value) {k : Nat} (hk : k ≠ g) : (S6 w g v0 v1 v2 v3 v4 v5).heap[k]? = w.heap[k]? :=
  (Below.heap_setCell _ _ _ _ hk).trans ((Below.heap_setCell _ _ _ _ hk).trans ((Below.heap_setCell _ _ _ _ hk).trans ((Below.heap_setCell _ _ _ _ hk).trans ((Below.heap_setCell _ _ _ _ hk).trans (Below.heap_setCell _ _ _ _ hk)))))
theorem S6.size_ (w : World) (g : Nat) (v0 v1 v2 v3 v4 v5 : Value) : (S6 w g v0 v1 v2 v3 v4 v5).heap.size = w.heap.size := by simp [S6, World.setCell]
theorem S6.below {a w : World} {B g : Nat} (h : Below B a w) (hg : B ≤ g) (v0 v1 v2 v3 v4 v5 : Value) : Below B a (S6 w g v0 v1 v2 v3 v4 v5) :=
  (((((h.setCell (p := ⟨g, 0, none⟩) hg _).setCell (p := ⟨g, 1, none⟩) hg _).setCell (p := ⟨g, 2, none⟩) hg _).setCell (p := ⟨g, 3, none⟩) hg _).setCell (p := ⟨g, 4, none⟩) hg _).setCell (p := ⟨g, 5, none⟩) hg _
/-- The cells of a boxed struct of six. -/
theorem ob6 {w : World} {g : Nat} {v0 v1 v2 v3 v4 v5 : Value} {t : TypeId} (h : w.heap[g]? = some (.cells #[v0, v1, v2, v3, v4, v5] t (0, 0))) :
    w.cell? ⟨g, 0, none⟩ = some v0 ∧ w.cell? ⟨g, 1, none⟩ = some v1 ∧ w.cell? ⟨g, 2, none⟩ = some v2 ∧ w.cell? ⟨g, 3, none⟩ = some v3 ∧ w.cell? ⟨g, 4, none⟩ = some v4 ∧ w.cell? ⟨g, 5, none⟩ = some v5 :=
  ⟨by simp [World.cell?, h], by simp [World.cell?, h], by simp [World.cell?, h], by simp [World.cell?, h], by simp [World.cell?, h], by simp [World.cell?, h]⟩
theorem ob6f {w : World} {g : Nat} {cs : Array Value} {t : TypeId} (h : w.heap[g]? = some (.cells cs t (0, 0))) :
    w.frozen? ⟨g, 0, none⟩ = false ∧ w.frozen? ⟨g, 1, none⟩ = false ∧ w.frozen? ⟨g, 2, none⟩ = false ∧ w.frozen? ⟨g, 3, none⟩ = false ∧ w.frozen? ⟨g, 4, none⟩ = false ∧ w.frozen? ⟨g, 5, none⟩ = false :=
  ⟨by simp [World.frozen?, h], by simp [World.frozen?, h], by simp [World.frozen?, h], by simp [World.frozen?, h], by simp [World.frozen?, h], by simp [World.frozen?, h]⟩
theorem box0 (w : World) (X Y : Obj) : ((w.alloc X).alloc Y).heap[w.heap.size]? = some X := by rw [Below.heap_alloc _ _ _ (by simp)]; exact heap_alloc_new w X
theorem box1 (w : World) (X Y : Obj) : ((w.alloc X).alloc Y).heap[w.heap.size + 1]? = some Y := by have := heap_alloc_new (w.alloc X) Y; rwa [World.size_alloc] at this
end Go.Proofs.YtpaolgjgonghlaaDoor
/-
  Slices of edges (arrays of two ints): one that came in, and rows of the call's own, appended to, kept, read. The element's type is open (the program's Edge, or the array itself).
-/
namespace Go.Proofs.YtpaolgjgonghlaaDoor
open Go.RowKit
def inE (e : Int × Int) : Prop := inI e.1 ∧ inI e.2
/-- The slice at address A whose elements are the edges es, below block B. -/
def Edg (w : World) (B : Nat) (A : Option Addr) (es : List (Int × Int)) : Prop :=
  (∀ i, i < es.length → inE (es.getD i (0, 0))) ∧
  (0 < es.length → ∃ b off, A = some ⟨b, off, none⟩ ∧ b < B ∧ ∀ i, i < es.length → w.cell? ⟨b, off + i * 2, none⟩ = some (.int .i64 (es.getD i (0, 0)).1) ∧ w.cell? ⟨b, off + i * 2 + 1, none⟩ = some (.int .i64 (es.getD i (0, 0)).2))
theorem Edg.at_ {w : World} {B : Nat} {A : Option Addr} {es : List (Int × Int)} {k : Nat} (h : Edg w B A es) (hk : k < es.length) :
    ∃ b off x y, A = some ⟨b, off, none⟩ ∧ Hid (b < B) ∧ w.cell? ⟨b, off + k * 2, none⟩ = some (.int .i64 x) ∧ w.cell? ⟨b, off + k * 2 + 1, none⟩ = some (.int .i64 y) ∧ Hid (es.getD k (0, 0) = (x, y)) ∧ (-9223372036854775808 ≤ x ∧ x ≤ 9223372036854775807) ∧ -9223372036854775808 ≤ y ∧ y ≤ 9223372036854775807 := by
  obtain ⟨b, off, e, hb, hc⟩ := h.2 (by omega)
  exact ⟨b, off, _, _, e, Lib.hid hb, (hc k hk).1, (hc k hk).2, Lib.hid rfl, (h.1 k hk).1, (h.1 k hk).2⟩
theorem Edg.nil_ {w : World} {B : Nat} {A : Option Addr} : Edg w B A [] := ⟨fun i h => by simp at h, fun h => by simp at h⟩
theorem Edg.below {w w' : World} {B : Nat} {A : Option Addr} {es : List (Int × Int)} (h : Edg w B A es) (hb : Below B w w') : Edg w' B A es :=
  ⟨h.1, fun hn => by
    obtain ⟨b, off, e, hl, hc⟩ := h.2 hn
    exact ⟨b, off, e, hl, fun i hi => ⟨(hb.cell (p := ⟨b, _, none⟩) hl).trans (hc i hi).1, (hb.cell (p := ⟨b, _, none⟩) hl).trans (hc i hi).2⟩⟩⟩
theorem Edg.more {w : World} {B B' : Nat} {A : Option Addr} {es : List (Int × Int)} (h : Edg w B A es) (hB : B ≤ B') : Edg w B' A es :=
  ⟨h.1, fun hn => by
    obtain ⟨b, off, e, hb, hc⟩ := h.2 hn
    exact ⟨b, off, e, by omega, hc⟩⟩
theorem Edg.on {w w' : World} {A : Option Addr} {es : List (Int × Int)} (h : Edg w w.heap.size A es) (hb : Below w.heap.size w w') : Edg w' w'.heap.size A es := (h.below hb).more hb.size
theorem Edg.rng {w : World} {B : Nat} {A : Option Addr} {es : List (Int × Int)} (h : Edg w B A es) : ∀ e ∈ es, inE e := fun e he => by
  obtain ⟨i, hi, e1⟩ := List.getElem_of_mem he
  have := h.1 i hi
  rw [List.getD_eq_getElem?_getD, List.getElem?_eq_getElem hi] at this
  rw [← e1]; exact this

/-! ### Rows of the call's own -/
def eds (es : List (Int × Int)) : List (List Value) := es.map fun e => [.int .i64 e.1, .int .i64 e.2]
theorem eds_len (es : List (Int × Int)) : (eds es).length = es.length := by simp [eds]
theorem eds_app (es fs : List (Int × Int)) : eds (es ++ fs) = eds es ++ eds fs := by simp [eds]
theorem eds_wide (es : List (Int × Int)) : Wide 2 (eds es) := fun v hv => by
  obtain ⟨e, _, rfl⟩ := List.mem_map.1 hv
  exact ⟨rfl, fun u hu => by simp at hu; rcases hu with rfl | rfl <;> rfl⟩
def OwnE (w : World) (base : Nat) (T : TypeId) (A : Option Addr) (cap : Nat) (es : List (Int × Int)) : Prop := OwnK w base T 2 A cap (eds es) ∧ ∀ e ∈ es, inE e
theorem OwnE.none_ (w : World) (base : Nat) (T : TypeId) : OwnE w base T none 0 [] := ⟨OwnK.none_ w base T 2, fun e h => by simp at h⟩
theorem OwnE.keep {w w' : World} {base : Nat} {T : TypeId} {A : Option Addr} {cap : Nat} {es : List (Int × Int)} (h : OwnE w base T A cap es) (hk : ∀ a, A = some a → w'.heap[a.block]? = w.heap[a.block]?) : OwnE w' base T A cap es := ⟨h.1.keep hk, h.2⟩
theorem OwnE.low {w : World} {base b : Nat} {T : TypeId} {A : Option Addr} {cap : Nat} {es : List (Int × Int)} (h : OwnE w base T A cap es) (hb : b ≤ base) : OwnE w b T A cap es := ⟨h.1.low hb, h.2⟩
theorem OwnE.lt {w : World} {base : Nat} {T : TypeId} {a : Addr} {cap : Nat} {es : List (Int × Int)} (h : OwnE w base T (some a) cap es) : base ≤ a.block ∧ a.block < w.heap.size := h.1.lt
theorem OwnE.grew {w w' : World} {base B : Nat} {T : TypeId} {A : Option Addr} {cap : Nat} {es : List (Int × Int)} (h : OwnE w base T A cap es) (hb : Below B w w') (hB : w.heap.size ≤ B) : OwnE w' base T A cap es := ⟨h.1.grew hb hB, h.2⟩
theorem OwnE.cap_ {w : World} {base : Nat} {T : TypeId} {A : Option Addr} {cap : Nat} {es : List (Int × Int)} (h : OwnE w base T A cap es) : es.length ≤ cap := by have := h.1.cap_; rwa [eds_len] at this
theorem OwnE.edg {w : World} {base : Nat} {T : TypeId} {A : Option Addr} {cap : Nat} {es : List (Int × Int)} (h : OwnE w base T A cap es) : Edg w w.heap.size A es := by
  have hr : ∀ i, i < es.length → inE (es.getD i (0, 0)) := fun i hi => by rw [List.getD_eq_getElem?_getD, List.getElem?_eq_getElem hi]; exact h.2 _ (List.getElem_mem hi)
  refine ⟨hr, fun hn => ?_⟩
  obtain ⟨g, rfl, hg, hg2⟩ := h.1.shape (by rw [eds_len]; exact hn)
  refine ⟨g, 0, rfl, hg2, fun i hi => ?_⟩
  have e : (eds es).getD i [] = [.int .i64 (es.getD i (0, 0)).1, .int .i64 (es.getD i (0, 0)).2] := by
    unfold eds
    rw [List.getD_eq_getElem?_getD, List.getElem?_map, List.getD_eq_getElem?_getD, List.getElem?_eq_getElem hi]
    rfl
  have c0 := h.1.cell (i := i) (j := 0) (u := .int .i64 (es.getD i (0, 0)).1) (by rw [eds_len]; exact hi) (by decide) (by rw [e]; rfl)
  have c1 := h.1.cell (i := i) (j := 1) (u := .int .i64 (es.getD i (0, 0)).2) (by rw [eds_len]; exact hi) (by decide) (by rw [e]; rfl)
  rw [Nat.zero_add]
  exact ⟨c0, c1⟩
/-- A block of another type is no such row. -/
theorem OwnE.ne {w : World} {base : Nat} {T : TypeId} {a : Addr} {cap : Nat} {es : List (Int × Int)} (h : OwnE w base T (some a) cap es) {g : Nat} {cs : Array Value} {t : TypeId} {fz : Nat × Nat} (ho : w.heap[g]? = some (.cells cs t fz)) (ht : t ≠ T) : a.block ≠ g := by
  rintro rfl
  rcases h.1.1.2 with ⟨e, _⟩ | ⟨g, c', cur, e, hb, hg, r⟩
  · cases e
  · injection e with e1 e2 e3
    injection e1 with e1
    subst e1
    rw [ho] at hg
    injection hg with hg
    injection hg with _ h2 _
    exact ht h2
theorem grownE_below {w w' : World} {base : Nat} {T : TypeId} {A : Option Addr} {cap n : Nat} {es : List (Int × Int)} (h : OwnE w base T A cap es) (hbase : base ≤ w.heap.size) (hg : w.grownBy w' (Value.slice A n cap).ownBlock) : Below base w w' :=
  (Below.refl _ _).grown hg hbase fun k hk => by
    cases A with
    | none => cases hk
    | some a => simp [Value.ownBlock] at hk; subst hk; exact h.lt.1
theorem run_appE {w : World} {base : Nat} {T ST : TypeId} {A : Option Addr} {cap : Nat} {es : List (Int × Int)} {x y : Int} (hST : Tryd.prog.underlying ST = some (.slice T))
    (hI : (Tryd.prog.info? T).map (fun i => (i.zero, i.size, i.bytes)) = some (some (.agg #[.int .i64 0, .int .i64 0]), 2, 16))
    (h : OwnE w base T A cap es) (hbase : base ≤ w.heap.size) {b2 : Nat} (hx : w.cell? ⟨b2, 0, none⟩ = some (.int .i64 x)) (hy : w.cell? ⟨b2, 1, none⟩ = some (.int .i64 y)) (hi : inE (x, y)) (c : Nat) (hlen : es.length ≤ 100000000) (ty : TypeId) :
    ∃ A' cap' w', (Builtin.append_ #[ST, ST] ty #[.slice A es.length cap, .slice (some ⟨b2, 0, none⟩) 1 c]).run Tryd.prog w = .ok (.slice A' (es.length + 1) cap') w' ∧
      OwnE w' base T A' cap' (es ++ [(x, y)]) ∧ w.grownBy w' (Value.slice A es.length cap).ownBlock := by
  have hl : (eds es).length = es.length := eds_len es
  obtain ⟨A', cap', w', hr, h1, h2, _⟩ := run_appK (us := eds [(x, y)]) hST hI rfl (by decide) (by decide) h.1 hbase (b2 := b2) (o2 := 0) (eds_wide _) (fun j u hu => by
    rw [Nat.zero_add]
    match j, hu with
    | 0, hu => simp [eds] at hu; rw [← hu]; exact hx
    | 1, hu => simp [eds] at hu; rw [← hu]; exact hy
    | j + 2, hu => simp [eds] at hu) c (by rw [hl]; simp [eds]; omega) ty
  rw [hl] at hr h2
  have e : (eds es ++ eds [(x, y)]).length = es.length + 1 := by rw [List.length_append, hl]; rfl
  rw [e] at hr
  refine ⟨A', cap', w', hr, ⟨by rw [eds_app]; exact h1, fun z hz => ?_⟩, h2⟩
  rcases List.mem_append.1 hz with hz | hz
  · exact h.2 z hz
  · simp at hz; subst hz; exact hi
theorem wp_appE {w : World} {ops : Array Oper} {rest : List Oper} {o : Oper} {a : Act} {Q : Exit → Act → World → Prop} (hgd : o.guard = none) (s t : Operand) {T ST : TypeId}
    (ho : o.op = .call { callee := .builtin .append, args := #[s, t], argTypes := #[ST, ST] })
    {base : Nat} {A : Option Addr} {n cap : Nat} {es : List (Int × Int)} {x y : Int} (hST : Tryd.prog.underlying ST = some (.slice T))
    (hI : (Tryd.prog.info? T).map (fun i => (i.zero, i.size, i.bytes)) = some (some (.agg #[.int .i64 0, .int .i64 0]), 2, 16))
    (hs : a.eval s = .slice A n cap) (hn : n = es.length) (h : OwnE w base T A cap es) (hbase : base ≤ w.heap.size)
    {b2 c : Nat} (ht : a.eval t = .slice (some ⟨b2, 0, none⟩) 1 c) (hx : w.cell? ⟨b2, 0, none⟩ = some (.int .i64 x)) (hy : w.cell? ⟨b2, 1, none⟩ = some (.int .i64 y)) (hi : inE (x, y)) (hlen : es.length ≤ 100000000)
    (K : ∀ A' cap' w', OwnE w' base T A' cap' (es ++ [(x, y)]) → w.grownBy w' (Value.slice A es.length cap).ownBlock → wpList Tryd.prog ops Q rest (a.put o.dst (.slice A' (es.length + 1) cap')) w') :
    wpList Tryd.prog ops Q (o :: rest) a w := by
  subst hn
  obtain ⟨A', cap', w', hrun, h1, h2⟩ := run_appE hST hI h hbase hx hy hi c hlen o.type
  refine wpList_plain hgd fun K' hK => ?_
  unfold Oper.wp
  simp [execOp, ho, resolve, invoke, builtin, hs, ht, hrun, Result.andThen]
  exact hK _ _ (K A' cap' w' h1 h2)
theorem OwnE.set {w : World} {base : Nat} {T : TypeId} {A : Option Addr} {cap : Nat} {es : List (Int × Int)} (h : OwnE w base T A cap es) {g : Nat} {cs : Array Value} {t : TypeId} {fz : Nat × Nat} (ho : w.heap[g]? = some (.cells cs t fz)) (ht : t ≠ T) (o : Nat) (v : Value) : OwnE (w.setCell ⟨g, o, none⟩ v) base T A cap es :=
  h.keep fun a ha => by subst ha; exact Below.heap_setCell _ _ _ _ (h.ne ho ht)
theorem OwnE.set2 {w : World} {base : Nat} {T : TypeId} {A : Option Addr} {cap : Nat} {es : List (Int × Int)} (h : OwnE w base T A cap es) {g : Nat} {x y : Value} {t : TypeId} (ho : w.heap[g]? = some (.cells #[x, y] t (0, 0))) (ht : t ≠ T) (a b : Value) :
    OwnE ((w.setCell ⟨g, 0, none⟩ a).setCell ⟨g, 1, none⟩ b) base T A cap es :=
  (h.set ho ht 0 a).set (cs := #[a, y]) (fz := (0, 0)) (heap_setCell_same w g 0 _ _ _ ho) ht 1 b
/-- A literal row, full. -/
theorem OwnE.lit {w : World} {T : TypeId} (es : List (Int × Int)) (he : ∀ e ∈ es, inE e) (hv : es.length ≤ 1000000) (cs : Array Value) (hc : cs.toList = (eds es).flatten) : OwnE (w.alloc (.cells cs T)) w.heap.size T (some ⟨w.heap.size, 0, none⟩) es.length es := by
  have := OwnK.lit (w := w) (T := T) (eds es) (eds_wide es) (by rw [eds_len]; omega) cs hc
  rw [eds_len] at this
  exact ⟨this, he⟩
theorem edge_info : (Tryd.prog.info? 100).map (fun i => (i.zero, i.size, i.bytes)) = some (some (.agg #[.int .i64 0, .int .i64 0]), 2, 16) := by kernel_rfl
theorem arr2_info : (Tryd.prog.info? 99).map (fun i => (i.zero, i.size, i.bytes)) = some (some (.agg #[.int .i64 0, .int .i64 0]), 2, 16) := by kernel_rfl
/-- What lies in a boxed struct of two cells. -/
theorem obG {w : World} {g : Nat} {x y : Value} {t : TypeId} (h : w.heap[g]? = some (.cells #[x, y] t (0, 0))) :
    (w.cell? ⟨g, 0, none⟩ = some x ∧ w.cell? ⟨g, 1, none⟩ = some y) ∧ (w.frozen? ⟨g, 0, none⟩ = false ∧ w.frozen? ⟨g, 1, none⟩ = false) :=
  ⟨⟨by simp [World.cell?, h], by simp [World.cell?, h]⟩, ⟨by simp [World.frozen?, h], by simp [World.frozen?, h]⟩⟩
def BoolG (w : World) (b : Bool) (e : Ending) (w' : World) : Prop := e = .returned (.bool b) ∧ Hid (Below w.heap.size w w')
end Go.Proofs.YtpaolgjgonghlaaDoor
/-
  Two answers at once.
-/
namespace Go.Proofs.YtpaolgjgonghlaaDoor
open Go.RowKit
/-- A row of ints and whether there is one. -/
def OptG (w : World) (o : Option (List Int)) (e : Ending) (w' : World) : Prop :=
  ∃ A cap, e = .returned (.tuple #[.slice A (o.getD []).length cap, .bool o.isSome]) ∧ Hid ((o.getD []).length ≤ cap) ∧ Hid (Zs w' w'.heap.size A (o.getD [])) ∧ Hid (Below w.heap.size w w')
/-- A number and whether there is one. -/
def NumG (w : World) (o : Option Nat) (e : Ending) (w' : World) : Prop := e = .returned (.tuple #[.int .u64 ((o.getD 0 : Nat) : Int), .bool o.isSome]) ∧ Hid (Below w.heap.size w w')
theorem Zs.take {w : World} {B : Nat} {A : Option Addr} {zs : List Int} (h : Zs w B A zs) (k : Nat) : Zs w B A (zs.take k) := by
  have hg : ∀ i, i < (zs.take k).length → (zs.take k).getD i 0 = zs.getD i 0 := fun i hi => by
    rw [List.length_take] at hi
    rw [List.getD_eq_getElem?_getD, List.getD_eq_getElem?_getD, List.getElem?_take_of_lt (by omega)]
  refine ⟨fun i hi => ?_, fun hn => ?_⟩
  · rw [hg i hi]; rw [List.length_take] at hi; exact h.1 i (by omega)
  · rw [List.length_take] at hn
    obtain ⟨b, off, e, hb, hc⟩ := h.2 (by omega)
    refine ⟨b, off, e, hb, fun i hi => ?_⟩
    rw [hg i hi]; rw [List.length_take] at hi; exact hc i (by omega)
theorem take_at {zs : List Int} {k : Nat} {z : Int} (hk : k < zs.length) (hz : zs.getD k 0 = z) : zs.take (k + 1) = zs.take k ++ [z] := by
  rw [List.take_succ_eq_append_getElem hk]
  rw [List.getD_eq_getElem?_getD, List.getElem?_eq_getElem hk] at hz
  rw [← hz]; rfl
theorem mem_at {zs : List Int} {k : Nat} {z : Int} (hk : k < zs.length) (hz : zs.getD k 0 = z) : z ∈ zs := by
  rw [List.getD_eq_getElem?_getD, List.getElem?_eq_getElem hk] at hz
  rw [← hz]; exact List.getElem_mem hk
end Go.Proofs.YtpaolgjgonghlaaDoor
/-
  Slices of bytes in memory: what one holds (nil and empty too), cut, turned into a string, owned by the call, grown by append; what is kept of the other blocks. No function of the program is named here.
-/
namespace Go.Proofs.YtpaolgjgonghlaaDoor
open Go.RowKit

/-- Below 'base' nothing has changed, and no block of another type than a byte row has. -/
structure Grew (base : Nat) (w w' : World) : Prop where
  below : Below base w w'
  obj : ∀ (g : Nat) (cs : Array Value) (t : TypeId) (fz : Nat × Nat), w.heap[g]? = some (.cells cs t fz) → t ≠ 5 → w'.heap[g]? = some (.cells cs t fz)
theorem Grew.alloc {base : Nat} {a w : World} (h : Grew base a w) (hb : base ≤ w.heap.size) (o : Obj) : Grew base a (w.alloc o) :=
  ⟨h.below.alloc hb o, fun g cs t fz hg ht => by
    have h1 := h.obj g cs t fz hg ht
    rw [Below.heap_alloc _ _ _ (lt_of_block h1)]; exact h1⟩
theorem Grew.refl (base : Nat) (w : World) : Grew base w w := ⟨Below.refl _ _, fun _ _ _ _ h _ => h⟩
theorem Grew.trans {base : Nat} {a b c : World} (h : Grew base a b) (k : Grew base b c) : Grew base a c :=
  ⟨h.below.trans k.below, fun g cs t fz hg ht => k.obj g cs t fz (h.obj g cs t fz hg ht) ht⟩

/-! ### The bytes of a slice -/
/-- The slice at address A whose elements are the numbers zs, each a byte, below block B. -/
def Bytes (w : World) (B : Nat) (A : Option Addr) (zs : List Int) : Prop :=
  (∀ i, i < zs.length → 0 ≤ zs.getD i 0 ∧ zs.getD i 0 ≤ 255) ∧
  (0 < zs.length → ∃ b off, A = some ⟨b, off, none⟩ ∧ b < B ∧ ∀ i, i < zs.length → w.cell? ⟨b, off + i, none⟩ = some (.int .u8 (zs.getD i 0)))
theorem Bytes.at_ {w : World} {B : Nat} {A : Option Addr} {zs : List Int} {k : Nat} (h : Bytes w B A zs) (hk : k < zs.length) :
    ∃ b off z, A = some ⟨b, off, none⟩ ∧ Hid (b < B) ∧ w.cell? ⟨b, off + k, none⟩ = some (.int .u8 z) ∧ Hid (zs.getD k 0 = z) ∧ 0 ≤ z ∧ z ≤ 255 := by
  obtain ⟨b, off, e, hb, hc⟩ := h.2 (by omega)
  exact ⟨b, off, _, e, Lib.hid hb, hc k hk, Lib.hid rfl, (h.1 k hk).1, (h.1 k hk).2⟩
theorem Bytes.nil_ {w : World} {B : Nat} {A : Option Addr} : Bytes w B A [] := ⟨fun i h => by simp at h, fun h => by simp at h⟩
theorem Bytes.keep {w w' : World} {B : Nat} {A : Option Addr} {zs : List Int} (h : Bytes w B A zs) (hk : ∀ b off, b < B → w'.cell? ⟨b, off, none⟩ = w.cell? ⟨b, off, none⟩) : Bytes w' B A zs :=
  ⟨h.1, fun hn => by
    obtain ⟨b, off, e, hb, hc⟩ := h.2 hn
    exact ⟨b, off, e, hb, fun i hi => (hk b _ hb).trans (hc i hi)⟩⟩
theorem Bytes.below {w w' : World} {B : Nat} {A : Option Addr} {zs : List Int} (h : Bytes w B A zs) (hb : Below B w w') : Bytes w' B A zs :=
  h.keep fun b off hl => hb.cell (p := ⟨b, off, none⟩) hl
theorem Bytes.more {w : World} {B B' : Nat} {A : Option Addr} {zs : List Int} (h : Bytes w B A zs) (hB : B ≤ B') : Bytes w B' A zs :=
  ⟨h.1, fun hn => by
    obtain ⟨b, off, e, hb, hc⟩ := h.2 hn
    exact ⟨b, off, e, by omega, hc⟩⟩
theorem Bytes.mem {w : World} {B : Nat} {A : Option Addr} {zs : List Int} (h : Bytes w B A zs) : ∀ z ∈ zs, 0 ≤ z ∧ z ≤ 255 := fun z hz => by
  obtain ⟨i, hi, e⟩ := List.getElem_of_mem hz
  have := h.1 i hi
  rw [List.getD_eq_getElem?_getD, List.getElem?_eq_getElem hi] at this
  rw [← e]; exact this
/-- Bytes are kept where an object of another type is all that has changed. -/
theorem Bytes.but {w w' : World} {B g : Nat} {A : Option Addr} {zs : List Int} {vs : Array Value} {t : TypeId} {fz : Nat × Nat} (h : Bytes w B A zs) (hB : But B g w w') (ho : w.heap[g]? = some (.cells vs t fz))
    (hv : ∀ (i : Nat) (n : Int), vs[i]? ≠ some (.int .u8 n)) : Bytes w' B A zs :=
  ⟨h.1, fun hn => by
    obtain ⟨b, off, e, hb, hc⟩ := h.2 hn
    refine ⟨b, off, e, hb, fun i hi => ?_⟩
    have hne : b ≠ g := by
      rintro rfl
      have h0 := hc i hi
      rw [cell_of_row w b (off + i) vs t fz ho] at h0
      exact hv _ _ h0
    rw [← hc i hi]
    exact World.cell?_of_block (w := w) (hB.block b hb hne)⟩
/-- The row is none of the objects' blocks. -/
theorem Bytes.ne {w : World} {B b off : Nat} {zs : List Int} {g : Nat} {vs : Array Value} {t : TypeId} {fz : Nat × Nat} (h : Bytes w B (some ⟨b, off, none⟩) zs) (hn : 0 < zs.length) (ho : w.heap[g]? = some (.cells vs t fz))
    (hv : ∀ (i : Nat) (n : Int), vs[i]? ≠ some (.int .u8 n)) : b ≠ g := by
  rintro rfl
  obtain ⟨b', off', e, hb, hc⟩ := h.2 hn
  injection e with e
  injection e with e1 e2
  subst e1 e2
  have h0 := hc 0 hn
  rw [cell_of_row w b _ vs t fz ho] at h0
  exact hv _ _ h0
def isByte (z : Int) : Bool := decide (0 ≤ z) && decide (z ≤ 255)
/-- Bytes that the call itself has just laid, out of a literal. -/
theorem Bytes.new (w : World) (zs : List Int) (hz : zs.all isByte = true) (fr : Nat × Nat) (cs : Array Value) (hc : cs = (zs.map (Value.int .u8)).toArray) :
    Bytes (w.alloc (.cells cs 5 fr)) (w.heap.size + 1) (some ⟨w.heap.size, 0, none⟩) zs := by
  subst hc
  refine ⟨fun i hi => ?_, fun _ => ⟨w.heap.size, 0, rfl, by omega, fun i hi => ?_⟩⟩
  · have h := List.all_eq_true.1 hz (zs.getD i 0) (by rw [List.getD_eq_getElem?_getD, List.getElem?_eq_getElem hi]; exact List.getElem_mem hi)
    unfold isByte at h
    simp only [Bool.and_eq_true, decide_eq_true_eq] at h
    exact h
  · rw [Nat.zero_add, World.cell?_alloc_mark]
    simp [hi]
theorem Bytes.new1 (w : World) (z : Int) (h0 : 0 ≤ z) (h1 : z ≤ 255) (fr : Nat × Nat) :
    Bytes (w.alloc (.cells #[.int .u8 z] 5 fr)) (w.heap.size + 1) (some ⟨w.heap.size, 0, none⟩) [z] :=
  Bytes.new w [z] (by simp [isByte, h0, h1]) fr _ rfl
theorem conv_lit (w : World) (C : Array Value) (n c : Nat) : (convert 89 89 (.slice (some ⟨w.heap.size, 0, none⟩) n c)).run Tryd.prog (w.alloc (.cells C 5)) = .ok (.slice (some ⟨w.heap.size, 0, none⟩) n c) (w.alloc (.cells C 5 (C.size, C.size + 1))) :=
  Lib.run_convert_bytes_const w 89 5 C n c Tryd.underlying89 Tryd.underlying5
/-- string(b) -/
theorem conv_str {w : World} {B : Nat} {A : Option Addr} {zs : List Int} (h : Bytes w B A zs) (cap : Nat) : (convert 89 9 (.slice A zs.length cap)).run Tryd.prog w = .ok (.string (strOfNums zs)) w := by
  rcases Nat.eq_zero_or_pos zs.length with h0 | h0
  · obtain rfl := List.eq_nil_of_length_eq_zero h0
    rcases A with _ | ⟨b, off, sp⟩
    · rw [run_convert_bytes_nil w 89 5 Tryd.underlying89 Tryd.underlying5 _ _ 9 Tryd.underlying9]
      rfl
    · rw [run_convert_bytes_string w 89 9 5 _ _ _ Tryd.underlying89 Tryd.underlying5 Tryd.underlying9]
      have hl : (loadCells ⟨b, off, sp⟩ 0).run Tryd.prog w = .ok (([] : List Int).map (Value.int .u8)).toArray w := by
        simp [loadCells, loadCellsFrom]
      exact run_bytesToString w ⟨b, off, sp⟩ 0 cap [] hl
  · obtain ⟨b, off, rfl, hb, hc⟩ := h.2 h0
    exact run_convert_bytes_arg w 89 5 Tryd.underlying89 Tryd.underlying5 b off zs.length cap zs rfl hc 9 Tryd.underlying9

/-! ### A slice cut -/
def tailA (A : Option Addr) (cap k : Nat) : Option Addr := if cap = k then A else A.map (·.add k)
theorem size1 (W : World) : (sizeOf 5).run Tryd.prog W = .ok 1 W := by kernel_rfl
theorem elem30 : Tryd.prog.elem 89 = 5 := by kernel_rfl
theorem und30 : Tryd.prog.underlying 89 = some (.slice (Tryd.prog.elem 89)) := by rw [elem30]; exact Tryd.underlying89
theorem slice_to (A : Option Addr) (n cap k : Nat) (h : k ≤ cap) (ik : IntKind) (W : World) :
    (Instr.slice 89 (.slice A n cap) none (some (.int ik (k : Int))) none).run Tryd.prog W = .ok (.slice A k cap) W := by
  rw [run_slice_h (P := Tryd.prog) (w := W) 89 A n cap und30 ik k (by omega) (by omega), elem30, size1]
  simp [Result.andThen, sliced]
  intro _
  cases A <;> simp [Addr.add]
theorem slice_from (A : Option Addr) (n cap k : Nat) (h : k ≤ n) (ik : IntKind) (W : World) :
    (Instr.slice 89 (.slice A n cap) (some (.int ik (k : Int))) none none).run Tryd.prog W = .ok (.slice (tailA A cap k) (n - k) (cap - k)) W := by
  rw [run_slice_l (P := Tryd.prog) (w := W) 89 A n cap und30 ik k (by omega) (by omega), elem30, size1]
  simp [Result.andThen, sliced, tailA]
theorem slice_mid (A : Option Addr) (n cap l h : Nat) (h1 : l ≤ h) (h2 : h ≤ cap) (ik ik' : IntKind) (W : World) :
    (Instr.slice 89 (.slice A n cap) (some (.int ik (l : Int))) (some (.int ik' (h : Int))) none).run Tryd.prog W = .ok (.slice (tailA A cap l) (h - l) (cap - l)) W := by
  rw [run_slice_lh (P := Tryd.prog) (w := W) 89 A n cap und30 ik ik' l h (by omega) (by omega) (by omega), elem30, size1]
  simp [Result.andThen, sliced, tailA]
theorem Bytes.head {w : World} {B : Nat} {A : Option Addr} {zs : List Int} (h : Bytes w B A zs) (k : Nat) : Bytes w B A (zs.take k) := by
  have hg : ∀ i, i < (zs.take k).length → (zs.take k).getD i 0 = zs.getD i 0 ∧ i < zs.length := fun i hi => by
    simp at hi
    rw [List.getD_eq_getElem?_getD, List.getD_eq_getElem?_getD, List.getElem?_take_of_lt (by omega)]
    exact ⟨rfl, by omega⟩
  refine ⟨fun i hi => by rw [(hg i hi).1]; exact h.1 i (hg i hi).2, fun hn => ?_⟩
  obtain ⟨b, off, e, hb, hc⟩ := h.2 (by simp at hn; omega)
  exact ⟨b, off, e, hb, fun i hi => by rw [(hg i hi).1]; exact hc i (hg i hi).2⟩
theorem Bytes.tail {w : World} {B : Nat} {A : Option Addr} {zs : List Int} (h : Bytes w B A zs) (k cap : Nat) (hc : zs.length ≤ cap) : Bytes w B (tailA A cap k) (zs.drop k) := by
  have hg : ∀ i, i < (zs.drop k).length → (zs.drop k).getD i 0 = zs.getD (k + i) 0 ∧ k + i < zs.length := fun i hi => by
    simp at hi
    rw [List.getD_eq_getElem?_getD, List.getD_eq_getElem?_getD, List.getElem?_drop]
    exact ⟨rfl, by omega⟩
  refine ⟨fun i hi => by rw [(hg i hi).1]; exact h.1 _ (hg i hi).2, fun hn => ?_⟩
  have hk := (hg 0 hn).2
  obtain ⟨b, off, rfl, hb, hcell⟩ := h.2 (by omega)
  refine ⟨b, off + k, ?_, hb, fun i hi => ?_⟩
  · unfold tailA
    rw [if_neg (by omega)]
    show some (Addr.add ⟨b, off, none⟩ k) = _
    rw [add_off]
  · rw [(hg i hi).1, Nat.add_assoc]
    exact hcell _ (hg i hi).2

/-! ### A row of the call's own -/
def OwnB (w : World) (base : Nat) (A : Option Addr) (cap : Nat) (zs : List Int) : Prop :=
  w.ownsRow base 5 1 (.slice A zs.length cap) zs.length (zs.map (Value.int .u8)) ∧ ∀ i, i < zs.length → 0 ≤ zs.getD i 0 ∧ zs.getD i 0 ≤ 255
theorem OwnB.bytes {w : World} {base : Nat} {A : Option Addr} {cap : Nat} {zs : List Int} (h : OwnB w base A cap zs) : Bytes w w.heap.size A zs := by
  refine ⟨h.2, fun hn => ?_⟩
  obtain ⟨g, c, e⟩ := Joins.ownsRow_form h.1 hn
  injection e with e1 e2 e3
  subst e1 e3
  have hlt := h.1.lt g (by simp [Value.ownBlock])
  refine ⟨g, 0, rfl, hlt.2, fun i hi => ?_⟩
  rw [Nat.zero_add, h.1.cellAt i (by omega)]
  simp [hi]
theorem OwnB.cap_ {w : World} {base : Nat} {A : Option Addr} {cap : Nat} {zs : List Int} (h : OwnB w base A cap zs) : zs.length ≤ cap := by
  rcases h.1.2 with ⟨e, e0⟩ | ⟨g, c', cur, e, _, _, hle, _⟩
  · omega
  · injection e with e1 e2 e3; omega
theorem OwnB.start (w : World) (base : Nat) (hb : base ≤ w.heap.size) : OwnB (w.alloc (.cells #[] 5)) base (some ⟨w.heap.size, 0, none⟩) 0 [] :=
  ⟨World.ownsRow_lit w #[] 0 hb (by decide) rfl, fun i hi => by simp at hi⟩
theorem OwnB.start_at (w : World) (n : Nat) (hn : n = w.heap.size) : OwnB (w.alloc (.cells #[] 5)) n (some ⟨n, 0, none⟩) 0 [] := by
  subst hn; exact OwnB.start w _ (Nat.le_refl _)
theorem OwnB.low {w : World} {base b : Nat} {A : Option Addr} {cap : Nat} {zs : List Int} (h : OwnB w base A cap zs) (hb : b ≤ base) : OwnB w b A cap zs := ⟨Joins.ownsRow_le h.1 hb, h.2⟩
theorem OwnB.none_ (w : World) (base : Nat) : OwnB w base none 0 [] := ⟨World.ownsRow_nil w base _ _, fun i hi => by simp at hi⟩
theorem OwnB.shape {w : World} {base : Nat} {A : Option Addr} {cap : Nat} {zs : List Int} (h : OwnB w base A cap zs) (hn : 0 < zs.length) : ∃ g, A = some ⟨g, 0, none⟩ ∧ base ≤ g ∧ g < w.heap.size := by
  obtain ⟨g, c, e⟩ := Joins.ownsRow_form h.1 hn
  injection e with e1 e2 e3
  subst e1 e3
  have hlt := h.1.lt g (by simp [Value.ownBlock])
  exact ⟨g, rfl, hlt.1, hlt.2⟩
theorem OwnB.cell {w : World} {base g cap : Nat} {zs : List Int} (h : OwnB w base (some ⟨g, 0, none⟩) cap zs) {j : Nat} (hj : j < zs.length) :
    w.cell? ⟨g, j, none⟩ = some (.int .u8 (zs.getD j 0)) ∧ w.frozen? ⟨g, j, none⟩ = false := by
  refine ⟨?_, h.1.frozenAt j⟩
  rw [h.1.cellAt j (by omega)]
  simp [hj]
/-- An owned row is kept where its block is. -/
theorem OwnB.keep {w w' : World} {base : Nat} {A : Option Addr} {cap : Nat} {zs : List Int} (h : OwnB w base A cap zs) (hk : ∀ a, A = some a → w'.heap[a.block]? = w.heap[a.block]?) : OwnB w' base A cap zs := by
  refine ⟨⟨h.1.1, ?_⟩, h.2⟩
  rcases h.1.2 with e | ⟨g, c', cur, e, hb, hg, r⟩
  · exact .inl e
  · injection e with e1 e2 e3
    subst e1 e3
    exact .inr ⟨g, _, cur, rfl, hb, by rw [hk _ rfl]; exact hg, r⟩
/-- It is no object's block. -/
theorem OwnB.ne {w : World} {base : Nat} {a : Addr} {cap : Nat} {zs : List Int} (h : OwnB w base (some a) cap zs) {g : Nat} {cs : Array Value} {t : TypeId} {fz : Nat × Nat} (ho : w.heap[g]? = some (.cells cs t fz)) (ht : t ≠ 5) : a.block ≠ g := by
  rintro rfl
  rcases h.1.2 with ⟨e, _⟩ | ⟨g, c', cur, e, hb, hg, r⟩
  · cases e
  · injection e with e1 e2 e3
    injection e1 with e1
    subst e1
    rw [ho] at hg
    injection hg with hg
    injection hg with _ h2 _
    exact ht h2
theorem OwnB.set {w : World} {base : Nat} {A : Option Addr} {cap : Nat} {zs : List Int} (h : OwnB w base A cap zs) {g : Nat} {cs : Array Value} {t : TypeId} {fz : Nat × Nat} (ho : w.heap[g]? = some (.cells cs t fz)) (ht : t ≠ 5) (o : Nat) (v : Value) :
    OwnB (w.setCell ⟨g, o, none⟩ v) base A cap zs :=
  h.keep fun a ha => by subst ha; exact Below.heap_setCell _ _ _ _ (h.ne ho ht)
theorem OwnB.grew {w w' : World} {base B : Nat} {A : Option Addr} {cap : Nat} {zs : List Int} (h : OwnB w base A cap zs) (hb : Below B w w') (hB : w.heap.size ≤ B) : OwnB w' base A cap zs :=
  h.keep fun a ha => by
    subst ha
    exact hb.block _ (by have := (h.1.lt a.block (by simp [Value.ownBlock])).2; omega)
/-- A row of the call's own, or a full one (a literal of bytes): an append of something to it ends in a row of the call's own. -/
def Row (w : World) (base : Nat) (A : Option Addr) (cap : Nat) (xs : List Int) : Prop :=
  OwnB w base A cap xs ∨ (cap = xs.length ∧ 0 < xs.length ∧ Bytes w w.heap.size A xs)
theorem u8_info : (Tryd.prog.info? 5).map (fun i => (i.zero, i.size, i.bytes)) = some (some (.int .u8 0), 1, 1) := by kernel_rfl
theorem nil_src {w : World} {base : Nat} {A : Option Addr} {cap : Nat} {zs : List Int} (h : OwnB w base A cap zs) (c : Nat) (ty : TypeId) :
    (Builtin.append_ #[89, 89] ty #[.slice A zs.length cap, .slice none 0 c]).run Tryd.prog w = .ok (.slice A zs.length cap) w := by
  obtain ⟨i, hi, _, _, _⟩ := info_parts u8_info
  have hfit := h.1.2
  rcases hfit with ⟨e, _⟩ | ⟨g, c', cur, e, _, _, hle, _⟩
  · rw [e]
    simp [Builtin.append_, run_underlying Tryd.underlying89, sizeOf, typeInfo, hi, Builtin.lenOf, Builtin.firstCells]
  · rw [e]
    simp [Builtin.append_, run_underlying Tryd.underlying89, sizeOf, typeInfo, hi, Builtin.lenOf, Builtin.firstCells, hle, storeCells]
theorem rng_app {xs zs : List Int} (hx : ∀ i, i < xs.length → 0 ≤ xs.getD i 0 ∧ xs.getD i 0 ≤ 255) (hz : ∀ i, i < zs.length → 0 ≤ zs.getD i 0 ∧ zs.getD i 0 ≤ 255) :
    ∀ i, i < (xs ++ zs).length → 0 ≤ (xs ++ zs).getD i 0 ∧ (xs ++ zs).getD i 0 ≤ 255 := fun i hi => by
  rw [List.getD_eq_getElem?_getD]
  by_cases h : i < xs.length
  · rw [List.getElem?_append_left h, ← List.getD_eq_getElem?_getD]; exact hx i h
  · rw [List.getElem?_append_right (by omega), ← List.getD_eq_getElem?_getD]
    rw [List.length_append] at hi
    exact hz _ (by omega)
theorem cells_of {w : World} {B : Nat} {ad : Addr} {zs : List Int} (hb : Bytes w B (some ad) zs) : ∀ j u, (zs.map (Value.int .u8))[j]? = some u → w.cell? (ad.add j) = some u := fun j u hu => by
  rw [List.getElem?_map] at hu
  obtain ⟨z, hz1, rfl⟩ := Option.map_eq_some_iff.1 hu
  have hj : j < zs.length := (List.getElem?_eq_some_iff.1 hz1).1
  obtain ⟨b, off, e, _, hc⟩ := hb.2 (by omega)
  injection e with e
  subst e
  rw [add_off, hc j hj, List.getD_eq_getElem?_getD, hz1]
  rfl
theorem form_of {w : World} {base n : Nat} {v : Value} {xs : List Value} (h : w.ownsRow base 5 1 v n xs) : ∃ A cap, v = .slice A n cap := by
  rcases h.2 with ⟨e, e0⟩ | ⟨g, c', _, e, _⟩
  · exact ⟨none, 0, by rw [e0]; exact e⟩
  · exact ⟨_, _, e⟩
theorem grew_of {w w' : World} {base : Nat} {row : Option Nat} (hg : w.grownBy w' row) (hbase : base ≤ w.heap.size) (h1 : ∀ k, row = some k → base ≤ k)
    (h2 : ∀ k, row = some k → ∃ cur, w.heap[k]? = some (.cells cur 5 (0, 0))) : Grew base w w' := by
  refine ⟨(Below.refl _ _).grown hg hbase h1, fun g cs t fz ho ht => ?_⟩
  rw [hg.block g (lt_of_block ho) ?_]
  · exact ho
  · rintro e
    obtain ⟨cur, hc⟩ := h2 g e.symm
    rw [ho] at hc
    injection hc with hc
    injection hc with _ hc _
    exact ht hc
theorem row_block {w : World} {base n : Nat} {v : Value} {xs : List Value} (h : w.ownsRow base 5 1 v n xs) : ∀ k, v.ownBlock = some k → base ≤ k ∧ ∃ cur, w.heap[k]? = some (.cells cur 5 (0, 0)) := fun k hk => by
  refine ⟨(h.lt k hk).1, ?_⟩
  rcases h.2 with ⟨e, _⟩ | ⟨g, c', cur, e, _, hg, _⟩
  · rw [e] at hk; cases hk
  · rw [e] at hk; simp [Value.ownBlock] at hk; subst hk; exact ⟨cur, hg⟩
/-- What an append of bytes onto a row of the call's own leaves: the row with the bytes behind it. -/
theorem run_app {w : World} {base : Nat} {A : Option Addr} {cap : Nat} {xs : List Int} (h : OwnB w base A cap xs) (hbase : base ≤ w.heap.size)
    {B : Nat} {A2 : Option Addr} {zs : List Int} (hb : Bytes w B A2 zs) (c : Nat) (hlen : xs.length + zs.length ≤ 1073741824) (ty : TypeId) :
    ∃ A' cap' w', (Builtin.append_ #[89, 89] ty #[.slice A xs.length cap, .slice A2 zs.length c]).run Tryd.prog w = .ok (.slice A' (xs ++ zs).length cap') w' ∧
      OwnB w' base A' cap' (xs ++ zs) ∧ Grew base w w' := by
  have rng := rng_app h.2 hb.1
  obtain ⟨i, hi, hz, hs, hy⟩ := info_parts u8_info
  rcases A2 with _ | ad
  · have h0 : zs = [] := by
      rcases Nat.eq_zero_or_pos zs.length with h0 | h0
      · exact List.eq_nil_of_length_eq_zero h0
      · obtain ⟨_, _, e, _⟩ := hb.2 h0; cases e
    subst h0
    refine ⟨A, cap, w, ?_, ?_, Grew.refl _ _⟩
    · rw [List.append_nil]; exact nil_src h c ty
    · rw [List.append_nil]; exact h
  · obtain ⟨v', w', hrun, hown, hg, _, hblk⟩ := run_append_own_at (P := Tryd.prog) (w := w) base 89 ty 5 i _ 1 1 Tryd.underlying89 hi hz hs hy rfl (by decide)
      _ xs.length _ h.1 ad zs.length c (zs.map (Value.int .u8)) (by simp) (cells_of hb) (fun u hu => by simp at hu; obtain ⟨z, _, rfl⟩ := hu; rfl) (by unfold maxLen; omega) (by omega) hbase
    obtain ⟨A', cap', rfl⟩ := form_of hown
    rw [← List.length_append] at hrun hown
    refine ⟨A', cap', w', hrun, ⟨?_, rng⟩, grew_of hg hbase (fun k hk => (row_block h.1 k hk).1) (fun k hk => (row_block h.1 k hk).2)⟩
    rw [List.map_append]
    exact hown
theorem run_appR {w : World} {base : Nat} {A : Option Addr} {cap : Nat} {xs : List Int} (h : Row w base A cap xs) (hbase : base ≤ w.heap.size)
    {B : Nat} {A2 : Option Addr} {zs : List Int} (hb : Bytes w B A2 zs) (hn : 0 < zs.length) (c : Nat) (hlen : xs.length + zs.length ≤ 1073741824) (ty : TypeId) :
    ∃ A' cap' w', (Builtin.append_ #[89, 89] ty #[.slice A xs.length cap, .slice A2 zs.length c]).run Tryd.prog w = .ok (.slice A' (xs ++ zs).length cap') w' ∧
      OwnB w' base A' cap' (xs ++ zs) ∧ Grew base w w' := by
  rcases h with h | ⟨hc, hp, hx⟩
  · exact run_app h hbase hb c hlen ty
  · obtain ⟨i, hi, hz, hs, hy⟩ := info_parts u8_info
    obtain ⟨b1, off1, rfl, _, _⟩ := hx.2 hp
    obtain ⟨b2, off2, rfl, _, _⟩ := hb.2 hn
    obtain ⟨v', w', hrun, hown, hg⟩ := run_append_arg_grows (P := Tryd.prog) w 89 ty 5 i _ 1 1 Tryd.underlying89 hi hz hs hy rfl (by decide)
      _ xs.length cap (xs.map (Value.int .u8)) (by simp) (cells_of hx) _ zs.length c (zs.map (Value.int .u8)) (by simp) (cells_of hb)
      (by omega) (by unfold maxLen; omega) (by omega)
    obtain ⟨A', cap', rfl⟩ := form_of hown
    rw [← List.length_append] at hrun hown
    refine ⟨A', cap', w', hrun, ⟨?_, rng_app hx.1 hb.1⟩, grew_of hg hbase (fun k hk => by cases hk) (fun k hk => by cases hk)⟩
    rw [List.map_append]
    exact Joins.ownsRow_le hown hbase
def strB_ (s : ByteArray) : List Int := s.data.toList.map fun c => (c.toNat : Int)
theorem strB_cells (s : ByteArray) : Lib.strCells s = (strB_ s).map (Value.int .u8) := by
  unfold Lib.strCells strB_; rw [List.map_map]; rfl
theorem strB_size (s : ByteArray) : (strB_ s).length = s.size := by unfold strB_; rw [List.length_map, Array.length_toList]; rfl
theorem strB_rng (s : ByteArray) : ∀ i, i < (strB_ s).length → 0 ≤ (strB_ s).getD i 0 ∧ (strB_ s).getD i 0 ≤ 255 := fun i hi => by
  have hm : (strB_ s).getD i 0 ∈ strB_ s := by rw [List.getD_eq_getElem?_getD, List.getElem?_eq_getElem hi]; exact List.getElem_mem hi
  generalize (strB_ s).getD i 0 = z at hm
  simp only [strB_, List.mem_map] at hm
  obtain ⟨c, _, rfl⟩ := hm
  have := c.toNat_lt
  omega
theorem run_app_str {w : World} {base : Nat} {A : Option Addr} {cap : Nat} {xs : List Int} (h : OwnB w base A cap xs) (hbase : base ≤ w.heap.size)
    (s : ByteArray) (hlen : xs.length + s.size ≤ 1073741824) (ty : TypeId) :
    ∃ A' cap' w', (Builtin.append_ #[89, 9] ty #[.slice A xs.length cap, .string s]).run Tryd.prog w = .ok (.slice A' (xs ++ strB_ s).length cap') w' ∧
      OwnB w' base A' cap' (xs ++ strB_ s) ∧ Grew base w w' := by
  obtain ⟨i, hi, hz, hs, hy⟩ := info_parts u8_info
  obtain ⟨v', w', hrun, hown, hg, _⟩ := Lib.run_append_own_string (P := Tryd.prog) w base 89 9 ty 5 i Tryd.underlying89 Tryd.underlying9 hi hz hs hy
    _ xs.length _ h.1 s (by unfold maxLen; omega) (by omega) hbase
  obtain ⟨A', cap', rfl⟩ := form_of hown
  have e : xs.length + s.size = (xs ++ strB_ s).length := by rw [List.length_append, strB_size]
  rw [e] at hrun hown
  refine ⟨A', cap', w', hrun, ⟨?_, rng_app h.2 (strB_rng s)⟩, grew_of hg hbase (fun k hk => (row_block h.1 k hk).1) (fun k hk => (row_block h.1 k hk).2)⟩
  rw [List.map_append, ← strB_cells]
  exact hown

/-! The same at the operation, for a walk. -/
theorem wp_app {w : World} {ops : Array Oper} {rest : List Oper} {o : Oper} {a : Act} {Q : Exit → Act → World → Prop} (hgd : o.guard = none) (s x : Operand)
    (ho : o.op = .call { callee := .builtin .append, args := #[s, x], argTypes := #[89, 89] })
    {base : Nat} {A : Option Addr} {n cap : Nat} {xs : List Int} (hs : a.eval s = .slice A n cap) (hn : n = xs.length) (h : OwnB w base A cap xs) (hbase : base ≤ w.heap.size)
    {B : Nat} {A2 : Option Addr} {m c : Nat} {zs : List Int} (hx : a.eval x = .slice A2 m c) (hm : m = zs.length) (hb : Bytes w B A2 zs) (hlen : xs.length + zs.length ≤ 1073741824)
    (K : ∀ A' cap' w', OwnB w' base A' cap' (xs ++ zs) → Grew base w w' → wpList Tryd.prog ops Q rest (a.put o.dst (.slice A' (xs ++ zs).length cap')) w') :
    wpList Tryd.prog ops Q (o :: rest) a w := by
  subst hn hm
  obtain ⟨A', cap', w', hrun, h1, h2⟩ := run_app h hbase hb c hlen o.type
  refine wpList_plain hgd fun K' hK => ?_
  unfold Oper.wp
  simp [execOp, ho, resolve, invoke, builtin, hs, hx, hrun, Result.andThen]
  have hk := K A' cap' w' h1 h2
  rw [List.length_append] at hk
  exact hK _ _ hk
theorem wp_appR {w : World} {ops : Array Oper} {rest : List Oper} {o : Oper} {a : Act} {Q : Exit → Act → World → Prop} (hgd : o.guard = none) (s x : Operand)
    (ho : o.op = .call { callee := .builtin .append, args := #[s, x], argTypes := #[89, 89] })
    {base : Nat} {A : Option Addr} {n cap : Nat} {xs : List Int} (hs : a.eval s = .slice A n cap) (hn : n = xs.length) (h : Row w base A cap xs) (hbase : base ≤ w.heap.size)
    {B : Nat} {A2 : Option Addr} {m c : Nat} {zs : List Int} (hx : a.eval x = .slice A2 m c) (hm : m = zs.length) (hb : Bytes w B A2 zs) (hp : 0 < zs.length) (hlen : xs.length + zs.length ≤ 1073741824)
    (K : ∀ A' cap' w', OwnB w' base A' cap' (xs ++ zs) → Grew base w w' → wpList Tryd.prog ops Q rest (a.put o.dst (.slice A' (xs ++ zs).length cap')) w') :
    wpList Tryd.prog ops Q (o :: rest) a w := by
  subst hn hm
  obtain ⟨A', cap', w', hrun, h1, h2⟩ := run_appR h hbase hb hp c hlen o.type
  refine wpList_plain hgd fun K' hK => ?_
  unfold Oper.wp
  simp [execOp, ho, resolve, invoke, builtin, hs, hx, hrun, Result.andThen]
  have hk := K A' cap' w' h1 h2
  rw [List.length_append] at hk
  exact hK _ _ hk
theorem wp_app_str {w : World} {ops : Array Oper} {rest : List Oper} {o : Oper} {a : Act} {Q : Exit → Act → World → Prop} (hgd : o.guard = none) (s x : Operand)
    (ho : o.op = .call { callee := .builtin .append, args := #[s, x], argTypes := #[89, 9] })
    {base : Nat} {A : Option Addr} {n cap : Nat} {xs : List Int} (hs : a.eval s = .slice A n cap) (hn : n = xs.length) (h : OwnB w base A cap xs) (hbase : base ≤ w.heap.size)
    {t : ByteArray} (hx : a.eval x = .string t) (hlen : xs.length + t.size ≤ 1073741824)
    (K : ∀ A' cap' w', OwnB w' base A' cap' (xs ++ strB_ t) → Grew base w w' → wpList Tryd.prog ops Q rest (a.put o.dst (.slice A' (xs ++ strB_ t).length cap')) w') :
    wpList Tryd.prog ops Q (o :: rest) a w := by
  subst hn
  obtain ⟨A', cap', w', hrun, h1, h2⟩ := run_app_str h hbase t hlen o.type
  refine wpList_plain hgd fun K' hK => ?_
  unfold Oper.wp
  simp [execOp, ho, resolve, invoke, builtin, hs, hx, hrun, Result.andThen]
  have hk := K A' cap' w' h1 h2
  rw [List.length_append] at hk
  exact hK _ _ hk
end Go.Proofs.YtpaolgjgonghlaaDoor
/-
  Slices of strings and of signed numbers that came in, as the walks take them.
-/
namespace Go.Proofs.YtpaolgjgonghlaaDoor
open Go.ChangeShapes Go.WideShapes Go.ChangeAt Go.RowKit
/-- The slice at address A whose elements are the strings ss, below block B. -/
def Strs (w : World) (B : Nat) (A : Option Addr) (ss : List ByteArray) : Prop :=
  (∀ i, i < ss.length → (ss.getD i ByteArray.empty).size ≤ 9223372036854775807) ∧
  (0 < ss.length → ∃ b off, A = some ⟨b, off, none⟩ ∧ b < B ∧ ∀ i, i < ss.length → w.cell? ⟨b, off + i, none⟩ = some (.string (ss.getD i ByteArray.empty)))
theorem Strs.at_ {w : World} {B : Nat} {A : Option Addr} {ss : List ByteArray} {k : Nat} (h : Strs w B A ss) (hk : k < ss.length) :
    ∃ b off s, A = some ⟨b, off, none⟩ ∧ Hid (b < B) ∧ w.cell? ⟨b, off + k, none⟩ = some (.string s) ∧ Hid (ss.getD k ByteArray.empty = s) ∧ s.size ≤ 9223372036854775807 := by
  obtain ⟨b, off, e, hb, hc⟩ := h.2 (by omega)
  exact ⟨b, off, _, e, Lib.hid hb, hc k hk, Lib.hid rfl, h.1 k hk⟩
theorem Strs.nil_ {w : World} {B : Nat} {A : Option Addr} : Strs w B A [] := ⟨fun i h => by simp at h, fun h => by simp at h⟩
theorem Strs.below {w w' : World} {B : Nat} {A : Option Addr} {ss : List ByteArray} (h : Strs w B A ss) (hb : Below B w w') : Strs w' B A ss :=
  ⟨h.1, fun hn => by
    obtain ⟨b, off, e, hl, hc⟩ := h.2 hn
    exact ⟨b, off, e, hl, fun i hi => (hb.cell (p := ⟨b, _, none⟩) hl).trans (hc i hi)⟩⟩
/-- The slice at address A whose elements are the signed numbers zs, below block B. -/
def Nums (w : World) (B : Nat) (A : Option Addr) (zs : List Int) : Prop :=
  (∀ i, i < zs.length → -9223372036854775808 ≤ zs.getD i 0 ∧ zs.getD i 0 ≤ 9223372036854775807) ∧
  (0 < zs.length → ∃ b off, A = some ⟨b, off, none⟩ ∧ b < B ∧ ∀ i, i < zs.length → w.cell? ⟨b, off + i, none⟩ = some (.int .i64 (zs.getD i 0)))
theorem Nums.at_ {w : World} {B : Nat} {A : Option Addr} {zs : List Int} {k : Nat} (h : Nums w B A zs) (hk : k < zs.length) :
    ∃ b off z, A = some ⟨b, off, none⟩ ∧ Hid (b < B) ∧ w.cell? ⟨b, off + k, none⟩ = some (.int .i64 z) ∧ Hid (zs.getD k 0 = z) ∧ -9223372036854775808 ≤ z ∧ z ≤ 9223372036854775807 := by
  obtain ⟨b, off, e, hb, hc⟩ := h.2 (by omega)
  exact ⟨b, off, _, e, Lib.hid hb, hc k hk, Lib.hid rfl, (h.1 k hk).1, (h.1 k hk).2⟩
theorem Nums.nil_ {w : World} {B : Nat} {A : Option Addr} : Nums w B A [] := ⟨fun i h => by simp at h, fun h => by simp at h⟩
theorem Nums.below {w w' : World} {B : Nat} {A : Option Addr} {zs : List Int} (h : Nums w B A zs) (hb : Below B w w') : Nums w' B A zs :=
  ⟨h.1, fun hn => by
    obtain ⟨b, off, e, hl, hc⟩ := h.2 hn
    exact ⟨b, off, e, hl, fun i hi => (hb.cell (p := ⟨b, _, none⟩) hl).trans (hc i hi)⟩⟩
theorem getD_take {α : Type} (l : List α) (n i : Nat) (d : α) (h : i < n) : (l.take n).getD i d = l.getD i d := by
  rw [List.getD_eq_getElem?_getD, List.getD_eq_getElem?_getD, List.getElem?_take_of_lt h]
theorem strs_of {W : World} {x : Addr} {len : Nat} {ss : List ByteArray} (hl : len ≤ ss.length) (hc : ∀ i, i < ss.length → W.cell? (x.add i) = some (.string (ss.getD i ByteArray.empty))) (hs : ∀ s ∈ ss, s.size ≤ maxLen) :
    Strs W W.heap.size (some x) (ss.take len) := by
  have hlen : (ss.take len).length = len := by simp; omega
  refine ⟨fun i hi => ?_, fun hn => ?_⟩
  · rw [hlen] at hi
    rw [getD_take _ _ _ _ hi, List.getD_eq_getElem?_getD, List.getElem?_eq_getElem (by omega)]
    have h := hs _ (List.getElem_mem (show i < ss.length by omega))
    unfold maxLen at h
    exact h
  · rw [hlen] at hn
    obtain ⟨b, off, spot⟩ := x
    have h0 := hc 0 (by omega)
    have hspot : spot = none := by simpa [Addr.add] using World.cell?_spot h0
    subst hspot
    refine ⟨b, off, rfl, ?_, fun i hi => ?_⟩
    · rw [add_off] at h0
      exact block_lt h0
    · rw [hlen] at hi
      rw [getD_take _ _ _ _ hi, ← add_off]
      exact hc i (by omega)
theorem nums_of {W : World} {x : Addr} {len : Nat} {zs : List Int} (hl : len ≤ zs.length) (hc : ∀ i, i < zs.length → W.cell? (x.add i) = some (.int .i64 (zs.getD i 0))) (hw : ∀ n ∈ zs, (Lit.int .i64 n).wf = true) :
    Nums W W.heap.size (some x) (zs.take len) := by
  have hlen : (zs.take len).length = len := by simp; omega
  refine ⟨fun i hi => ?_, fun hn => ?_⟩
  · rw [hlen] at hi
    rw [getD_take _ _ _ _ hi, List.getD_eq_getElem?_getD, List.getElem?_eq_getElem (by omega)]
    have h := hw _ (List.getElem_mem (show i < zs.length by omega))
    simpa [Lit.wf, IntKind.min, IntKind.max, IntKind.bits, IntKind.signed] using h
  · rw [hlen] at hn
    obtain ⟨b, off, spot⟩ := x
    have h0 := hc 0 (by omega)
    have hspot : spot = none := by simpa [Addr.add] using World.cell?_spot h0
    subst hspot
    refine ⟨b, off, rfl, ?_, fun i hi => ?_⟩
    · rw [add_off] at h0
      exact block_lt h0
    · rw [hlen] at hi
      rw [getD_take _ _ _ _ hi, ← add_off]
      exact hc i (by omega)
end Go.Proofs.YtpaolgjgonghlaaDoor
/-
  Rows of strings of the call's own, grown by append.
-/
namespace Go.Proofs.YtpaolgjgonghlaaDoor
open Go.RowKit

def OwnT (w : World) (base : Nat) (A : Option Addr) (cap : Nat) (ss : List ByteArray) : Prop := w.ownsRow base 9 1 (.slice A ss.length cap) ss.length (ss.map Value.string)
theorem txt_info : (Tryd.prog.info? 9).map (fun i => (i.zero, i.size, i.bytes)) = some (some (.string ⟨#[]⟩), 1, 16) := by kernel_rfl
theorem form_ofT {w : World} {base n : Nat} {v : Value} {xs : List Value} (h : w.ownsRow base 9 1 v n xs) : ∃ A cap, v = .slice A n cap := by
  rcases h.2 with ⟨e, e0⟩ | ⟨g, c', _, e, _⟩
  · exact ⟨none, 0, by rw [e0]; exact e⟩
  · exact ⟨_, _, e⟩
theorem run_appT {w : World} {base : Nat} {A : Option Addr} {cap : Nat} {ss : List ByteArray} {x : ByteArray} (h : OwnT w base A cap ss) (hbase : base ≤ w.heap.size) {b2 : Nat} (hx : w.cell? ⟨b2, 0, none⟩ = some (.string x)) (c : Nat) (hlen : ss.length ≤ 1000000000) (ty : TypeId) :
    ∃ A' cap' w', (Builtin.append_ #[27, 27] ty #[.slice A ss.length cap, .slice (some ⟨b2, 0, none⟩) 1 c]).run Tryd.prog w = .ok (.slice A' (ss ++ [x]).length cap') w' ∧
      OwnT w' base A' cap' (ss ++ [x]) ∧ w.grownBy w' (Value.slice A ss.length cap).ownBlock := by
  obtain ⟨i, hi, hz0, hs, hyb⟩ := info_parts txt_info
  obtain ⟨v', w', hrun, hown, hg, _, _⟩ := run_append_own_at (P := Tryd.prog) (w := w) base 27 ty 9 i _ 1 16 Tryd.underlying27 hi hz0 hs hyb rfl (by decide)
    _ ss.length _ h ⟨b2, 0, none⟩ 1 c [.string x] rfl (fun j u hu => by
      rw [add_off, Nat.zero_add]
      match j, hu with
      | 0, hu => simp at hu; rw [← hu]; exact hx
      | j + 1, hu => simp at hu) (fun u hu => by simp at hu; subst hu; rfl) (by unfold maxLen; omega) (by omega) hbase
  obtain ⟨A', cap', rfl⟩ := form_ofT hown
  have e : ss.length + 1 = (ss ++ [x]).length := by simp
  rw [e] at hrun hown
  refine ⟨A', cap', w', hrun, ?_, hg⟩
  unfold OwnT
  rw [List.map_append]
  exact hown
theorem wp_appT {w : World} {ops : Array Oper} {rest : List Oper} {o : Oper} {a : Act} {Q : Exit → Act → World → Prop} (hgd : o.guard = none) (s t : Operand)
    (ho : o.op = .call { callee := .builtin .append, args := #[s, t], argTypes := #[27, 27] })
    {base : Nat} {A : Option Addr} {n cap : Nat} {ss : List ByteArray} {x : ByteArray} (hs : a.eval s = .slice A n cap) (hn : n = ss.length) (h : OwnT w base A cap ss) (hbase : base ≤ w.heap.size)
    {b2 c : Nat} (ht : a.eval t = .slice (some ⟨b2, 0, none⟩) 1 c) (hx : w.cell? ⟨b2, 0, none⟩ = some (.string x)) (hlen : ss.length ≤ 1000000000)
    (K : ∀ A' cap' w', OwnT w' base A' cap' (ss ++ [x]) → w.grownBy w' (Value.slice A ss.length cap).ownBlock → wpList Tryd.prog ops Q rest (a.put o.dst (.slice A' (ss ++ [x]).length cap')) w') :
    wpList Tryd.prog ops Q (o :: rest) a w := by
  subst hn
  obtain ⟨A', cap', w', hrun, h1, h2⟩ := run_appT h hbase hx c hlen o.type
  refine wpList_plain hgd fun K' hK => ?_
  unfold Oper.wp
  simp [execOp, ho, resolve, invoke, builtin, hs, ht, hrun, Result.andThen]
  have hk := K A' cap' w' h1 h2
  rw [List.length_append, List.length_singleton] at hk
  exact hK _ _ hk
theorem OwnT.none_ (w : World) (base : Nat) : OwnT w base none 0 [] := World.ownsRow_nil w base _ _
theorem OwnT.keep {w w' : World} {base : Nat} {A : Option Addr} {cap : Nat} {ss : List ByteArray} (h : OwnT w base A cap ss) (hb : Below w.heap.size w w') : OwnT w' base A cap ss := by
  refine ⟨h.1, ?_⟩
  rcases h.2 with e | ⟨g, c', cur, e, hb2, hg, r⟩
  · exact .inl e
  · exact .inr ⟨g, _, cur, e, hb2, (hb.block g (lt_of_block hg)).trans hg, r⟩
theorem grownT_below {w w' : World} {base : Nat} {A : Option Addr} {cap n : Nat} {ss : List ByteArray} (h : OwnT w base A cap ss) (hbase : base ≤ w.heap.size) (hg : w.grownBy w' (Value.slice A n cap).ownBlock) : Below base w w' :=
  (Below.refl _ _).grown hg hbase fun k hk => by
    cases A with
    | none => cases hk
    | some a => simp [Value.ownBlock] at hk; subst hk; exact (World.ownsRow.lt h a.block (by simp [Value.ownBlock])).1
theorem OwnT.strs {w : World} {base : Nat} {A : Option Addr} {cap : Nat} {ss : List ByteArray} (h : OwnT w base A cap ss) (hs : ∀ s ∈ ss, s.size ≤ 9223372036854775807) : Strs w w.heap.size A ss := by
  refine ⟨fun i hi => ?_, fun hp => ?_⟩
  · rw [List.getD_eq_getElem?_getD, List.getElem?_eq_getElem hi]; exact hs _ (List.getElem_mem hi)
  · obtain ⟨g, c, e⟩ := Joins.ownsRow_form h hp
    injection e with e1 e2 e3
    subst e1 e3
    refine ⟨g, 0, rfl, (World.ownsRow.lt h g (by simp [Value.ownBlock])).2, fun i hi => ?_⟩
    have hc := World.ownsRow.cellAt h i (by omega)
    rw [Nat.zero_add, hc, List.getElem?_map, List.getElem?_eq_getElem hi, List.getD_eq_getElem?_getD, List.getElem?_eq_getElem hi]
    rfl
theorem OwnT.start (w : World) (base : Nat) (hb : base ≤ w.heap.size) : OwnT (w.alloc (.cells #[] 9)) base (some ⟨w.heap.size, 0, none⟩) 0 [] := World.ownsRow_lit w #[] 0 hb (by decide) rfl
set_option maxRecDepth 20000 in
theorem nil_srcT {w : World} {base : Nat} {A : Option Addr} {cap : Nat} {ss : List ByteArray} (h : OwnT w base A cap ss) (c : Nat) (ty : TypeId) :
    (Builtin.append_ #[27, 27] ty #[.slice A ss.length cap, .slice none 0 c]).run Tryd.prog w = .ok (.slice A ss.length cap) w := by
  obtain ⟨i, hi, _, _, _⟩ := info_parts txt_info
  have hfit := h.2
  rcases hfit with ⟨e, _⟩ | ⟨g, c', cur, e, _, _, hle, _⟩
  · rw [e]
    simp [Builtin.append_, run_underlying Tryd.underlying27, sizeOf, typeInfo, hi, Builtin.lenOf, Builtin.firstCells]
  · rw [e]
    simp [Builtin.append_, run_underlying Tryd.underlying27, sizeOf, typeInfo, hi, Builtin.lenOf, Builtin.firstCells, hle, storeCells]
set_option maxRecDepth 20000 in
theorem run_appTs {w : World} {base : Nat} {A : Option Addr} {cap : Nat} {ss ts : List ByteArray} (h : OwnT w base A cap ss) (hbase : base ≤ w.heap.size) {B : Nat} {A2 : Option Addr} (hx : Strs w B A2 ts) (c : Nat) (hlen : ss.length + ts.length ≤ 1000000000) (ty : TypeId) :
    ∃ A' cap' w', (Builtin.append_ #[27, 27] ty #[.slice A ss.length cap, .slice A2 ts.length c]).run Tryd.prog w = .ok (.slice A' (ss ++ ts).length cap') w' ∧
      OwnT w' base A' cap' (ss ++ ts) ∧ w.grownBy w' (Value.slice A ss.length cap).ownBlock := by
  obtain ⟨i, hi, hz0, hs, hyb⟩ := info_parts txt_info
  rcases A2 with _ | ad
  · have h0 : ts = [] := by
      rcases Nat.eq_zero_or_pos ts.length with h0 | h0
      · exact List.eq_nil_of_length_eq_zero h0
      · obtain ⟨_, _, e, _⟩ := hx.2 h0; cases e
    subst h0
    refine ⟨A, cap, w, ?_, ?_, ⟨rfl, rfl, rfl, Nat.le_refl _, fun _ _ _ => rfl⟩⟩
    · rw [List.append_nil]; exact nil_srcT h c ty
    · rw [List.append_nil]; exact h
  · have hnews : ∀ j u, (ts.map Value.string)[j]? = some u → w.cell? (ad.add j) = some u := fun j u hu => by
      rw [List.getElem?_map] at hu
      obtain ⟨z, hz1, rfl⟩ := Option.map_eq_some_iff.1 hu
      have hj : j < ts.length := (List.getElem?_eq_some_iff.1 hz1).1
      obtain ⟨b, off, e, _, hc⟩ := hx.2 (by omega)
      injection e with e
      subst e
      rw [add_off, hc j hj, List.getD_eq_getElem?_getD, hz1]
      rfl
    obtain ⟨v', w', hrun, hown, hg, _, _⟩ := run_append_own_at (P := Tryd.prog) (w := w) base 27 ty 9 i _ 1 16 Tryd.underlying27 hi hz0 hs hyb rfl (by decide)
      _ ss.length _ h ad ts.length c (ts.map Value.string) (by simp) hnews (fun u hu => by simp at hu; obtain ⟨z, _, rfl⟩ := hu; rfl) (by unfold maxLen; omega) (by omega) hbase
    obtain ⟨A', cap', rfl⟩ := form_ofT hown
    rw [← List.length_append] at hrun hown
    refine ⟨A', cap', w', hrun, ?_, hg⟩
    unfold OwnT
    rw [List.map_append]
    exact hown
set_option maxRecDepth 20000 in
theorem wp_appTs {w : World} {ops : Array Oper} {rest : List Oper} {o : Oper} {a : Act} {Q : Exit → Act → World → Prop} (hgd : o.guard = none) (s t : Operand)
    (ho : o.op = .call { callee := .builtin .append, args := #[s, t], argTypes := #[27, 27] })
    {base : Nat} {A : Option Addr} {n cap : Nat} {ss : List ByteArray} (hs : a.eval s = .slice A n cap) (hn : n = ss.length) (h : OwnT w base A cap ss) (hbase : base ≤ w.heap.size)
    {B : Nat} {A2 : Option Addr} {m c : Nat} {ts : List ByteArray} (ht : a.eval t = .slice A2 m c) (hm : m = ts.length) (hx : Strs w B A2 ts) (hlen : ss.length + ts.length ≤ 1000000000)
    (K : ∀ A' cap' w', OwnT w' base A' cap' (ss ++ ts) → w.grownBy w' (Value.slice A ss.length cap).ownBlock → wpList Tryd.prog ops Q rest (a.put o.dst (.slice A' (ss ++ ts).length cap')) w') :
    wpList Tryd.prog ops Q (o :: rest) a w := by
  subst hn hm
  obtain ⟨A', cap', w', hrun, h1, h2⟩ := run_appTs h hbase hx c hlen o.type
  refine wpList_plain hgd fun K' hK => ?_
  unfold Oper.wp
  simp [execOp, ho, resolve, invoke, builtin, hs, ht, hrun, Result.andThen]
  have hk := K A' cap' w' h1 h2
  rw [List.length_append] at hk
  exact hK _ _ hk
end Go.Proofs.YtpaolgjgonghlaaDoor
/-
  Rows of strings of the call's own: made by length, stored into, read.
-/
namespace Go.Proofs.YtpaolgjgonghlaaDoor
open Go.RowKit
theorem OwnT.lt {w : World} {base : Nat} {a : Addr} {cap : Nat} {ss : List ByteArray} (h : OwnT w base (some a) cap ss) : base ≤ a.block ∧ a.block < w.heap.size :=
  World.ownsRow.lt h a.block (by simp [Value.ownBlock])
theorem OwnT.kept {w w' : World} {base : Nat} {A : Option Addr} {cap : Nat} {ss : List ByteArray} (h : OwnT w base A cap ss) (hk : ∀ a, A = some a → w'.heap[a.block]? = w.heap[a.block]?) : OwnT w' base A cap ss := by
  refine ⟨h.1, ?_⟩
  rcases h.2 with e | ⟨g, c', cur, e, hb, hg, r⟩
  · exact .inl e
  · injection e with e1 e2 e3
    subst e1 e3
    exact .inr ⟨g, _, cur, rfl, hb, by rw [hk _ rfl]; exact hg, r⟩
theorem OwnT.under {w w' : World} {base B g cap : Nat} {ss : List ByteArray} (h : OwnT w base (some ⟨g, 0, none⟩) cap ss) (hb : Below B w w') (hB : g < B) : OwnT w' base (some ⟨g, 0, none⟩) cap ss :=
  h.kept fun a ha => by
    injection ha with ha
    subst ha
    exact hb.block _ hB
theorem OwnT.val {w : World} {base g cap : Nat} {ss : List ByteArray} (h : OwnT w base (some ⟨g, 0, none⟩) cap ss) {i : Nat} (hi : i < ss.length) : w.cell? ⟨g, i, none⟩ = some (.string (ss.getD i ByteArray.empty)) := by
  rw [World.ownsRow.cellAt h i (by omega), List.getElem?_map, List.getD_eq_getElem?_getD, List.getElem?_eq_getElem hi]
  rfl
theorem OwnT.thaw {w : World} {base g cap : Nat} {ss : List ByteArray} (h : OwnT w base (some ⟨g, 0, none⟩) cap ss) (i : Nat) : w.frozen? ⟨g, i, none⟩ = false := by
  rcases h.2 with ⟨e, _⟩ | ⟨g', c', cur, e, hb, hg, r⟩
  · cases e
  · injection e with e1 e2 e3
    injection e1 with e1
    injection e1 with e1
    subst e1
    simp [World.frozen?, hg]
theorem OwnT.stored {w : World} {base g cap : Nat} {ss : List ByteArray} (h : OwnT w base (some ⟨g, 0, none⟩) cap ss) (j : Nat) (v : ByteArray) :
    OwnT (w.setCell ⟨g, j, none⟩ (.string v)) base (some ⟨g, 0, none⟩) cap (ss.set j v) := by
  have hs := World.ownsRow.stored h j (.string v)
  unfold OwnT
  rw [List.length_set, List.map_set]
  exact hs.1
theorem OwnT.cap_ {w : World} {base : Nat} {A : Option Addr} {cap : Nat} {ss : List ByteArray} (h : OwnT w base A cap ss) : ss.length ≤ cap := by
  rcases h.2 with ⟨e, e0⟩ | ⟨g, c', cur, e, _, _, hle, _⟩
  · omega
  · injection e with e1 e2 e3; omega
theorem OwnT.shape {w : World} {base : Nat} {A : Option Addr} {cap : Nat} {ss : List ByteArray} (h : OwnT w base A cap ss) (hn : 0 < ss.length) : ∃ g, A = some ⟨g, 0, none⟩ ∧ base ≤ g ∧ g < w.heap.size := by
  obtain ⟨g, c, e⟩ := Joins.ownsRow_form h hn
  injection e with e1 e2 e3
  subst e1 e3
  have hlt := OwnT.lt h
  exact ⟨g, rfl, hlt.1, hlt.2⟩
theorem OwnT.low {w : World} {base b : Nat} {A : Option Addr} {cap : Nat} {ss : List ByteArray} (h : OwnT w base A cap ss) (hb : b ≤ base) : OwnT w b A cap ss := Joins.ownsRow_le h hb
theorem made_T (n : Nat) (hn : n ≤ 1000000) (W : World) : (Instr.makeSlice 27 (.int .i64 (n : Int)) (.int .i64 (n : Int))).run Tryd.prog W = .ok (.slice (some ⟨W.heap.size, 0, none⟩) n n) (W.alloc (.cells (madeCells #[.string ⟨#[]⟩] n) 9)) := by
  obtain ⟨i, hi, hz, hs, hy⟩ := info_parts txt_info
  have hr := run_make (P := Tryd.prog) W 27 9 i _ Tryd.underlying27 hi hz .i64 .i64 n n (by omega) (Int.le_refl _) (by rw [hy]; omega) (by omega)
  rw [hs, Int.toNat_natCast, Nat.mul_one] at hr
  exact hr
theorem OwnT.made (W : World) (n : Nat) (hn : n ≤ 1000000) : OwnT (W.alloc (.cells (madeCells #[.string ⟨#[]⟩] n) 9)) W.heap.size (some ⟨W.heap.size, 0, none⟩) n (List.replicate n ⟨#[]⟩) := by
  have e : (madeCells #[Value.string ⟨#[]⟩] n).toList = (List.replicate n (⟨#[]⟩ : ByteArray)).map Value.string := by
    rw [toList_madeCells_one (Value.string ⟨#[]⟩) n, List.map_replicate]
  have h := World.ownsRow_lit (e := 9) (size := 1) W (madeCells #[.string ⟨#[]⟩] n) n (Nat.le_refl W.heap.size) (by unfold maxLen; omega) (by rw [← Array.length_toList, e]; simp)
  rw [e] at h
  unfold OwnT
  rw [List.length_replicate]
  exact h
theorem OwnT.lit (W : World) (ss : List ByteArray) (hn : ss.length ≤ 1000000) (cs : Array Value) (hc : cs.toList = ss.map Value.string) : OwnT (W.alloc (.cells cs 9)) W.heap.size (some ⟨W.heap.size, 0, none⟩) ss.length ss := by
  have h := World.ownsRow_lit (e := 9) (size := 1) W cs ss.length (Nat.le_refl W.heap.size) (by unfold maxLen; omega) (by rw [← Array.length_toList, hc]; simp)
  rw [hc] at h
  exact h
/-- While a made row is filled: the first k are there. -/
def Filled (ss : List ByteArray) (m : Nat) (l : List (List UInt8)) (k : Nat) : Prop := ss.length = m ∧ ss.take k = (l.take k).map (fun t => (⟨t.toArray⟩ : ByteArray))
theorem Filled.next {ss : List ByteArray} {m k : Nat} {l : List (List UInt8)} (h : Filled ss m l k) (hk : k < m) (hl : k < l.length) : Filled (ss.set k ⟨l[k].toArray⟩) m l (k + 1) := by
  refine ⟨by rw [List.length_set]; exact h.1, ?_⟩
  have hks : k < (ss.set k ⟨l[k].toArray⟩).length := by rw [List.length_set, h.1]; exact hk
  rw [List.take_succ_eq_append_getElem hks, List.take_succ_eq_append_getElem hl, List.map_append, ← h.2, List.take_set_of_le (Nat.le_refl k), List.getElem_set_self]
  rfl
theorem Filled.all {ss : List ByteArray} {m : Nat} {l : List (List UInt8)} (h : Filled ss m l m) (hl : l.length = m) : ss = l.map (fun t => (⟨t.toArray⟩ : ByteArray)) := by
  have := h.2
  rwa [List.take_of_length_le (Nat.le_of_eq h.1), List.take_of_length_le (Nat.le_of_eq hl)] at this
end Go.Proofs.YtpaolgjgonghlaaDoor
/-
  What a call leaves of the blocks that are none of an object's own.
-/
namespace Go.Proofs.YtpaolgjgonghlaaDoor
open Go.RowKit

/-! ### What is kept -/
/-- Nothing but the blocks of 'own' and new ones has changed. -/
structure Only (own : Nat → Prop) (w w' : World) : Prop where
  os : w'.os = w.os
  tape : w'.tape = w.tape
  output : w'.output = w.output
  size : w.heap.size ≤ w'.heap.size
  block : ∀ k, k < w.heap.size → ¬ own k → w'.heap[k]? = w.heap[k]?
theorem Only.refl (own : Nat → Prop) (w : World) : Only own w w := ⟨rfl, rfl, rfl, Nat.le_refl _, fun _ _ _ => rfl⟩
theorem Only.mono {own own2 : Nat → Prop} {w w' : World} (h : Only own w w') (hs : ∀ k, k < w.heap.size → own k → own2 k) : Only own2 w w' := ⟨h.os, h.tape, h.output, h.size, fun k hk hn => h.block k hk fun ho => hn (hs k hk ho)⟩
theorem Only.of {own : Nat → Prop} {w w' : World} (h : Below w.heap.size w w') : Only own w w' := ⟨h.os, h.tape, h.output, h.size, fun k hk _ => h.block k hk⟩
theorem Only.trans {own own2 : Nat → Prop} {a b c : World} (h : Only own a b) (k : Only own2 b c) (hs : ∀ i, own2 i → own i ∨ a.heap.size ≤ i) : Only own a c :=
  ⟨k.os.trans h.os, k.tape.trans h.tape, k.output.trans h.output, Nat.le_trans h.size k.size, fun i hi hn =>
    (k.block i (Nat.lt_of_lt_of_le hi h.size) fun ho => by rcases hs i ho with h1 | h1; exact hn h1; omega).trans (h.block i hi hn)⟩
theorem Only.below {own : Nat → Prop} {w w' : World} {base : Nat} (h : Only own w w') (hb : base ≤ w.heap.size) (ho : ∀ k, own k → base ≤ k) : Below base w w' :=
  ⟨h.os, h.tape, h.output, h.size, fun k hk => h.block k (by omega) fun hn => by have := ho k hn; omega⟩
theorem Only.set (own : Nat → Prop) {g : Nat} (o : Nat) (w : World) (v : Value) (hg : own g) : Only own w (w.setCell ⟨g, o, none⟩ v) :=
  ⟨rfl, rfl, rfl, by simp [World.setCell], fun k _ hn => Below.heap_setCell _ _ _ _ (by rintro rfl; exact hn hg)⟩
theorem Only.drewN {own : Nat → Prop} {a w : World} (h : Only own a w) (n : Nat) : Only own a (w.drewN n) := ⟨h.os, h.tape, h.output, h.size, h.block⟩
theorem Only.drew {own : Nat → Prop} {a w : World} (h : Only own a w) : Only own a w.drew := ⟨h.os, h.tape, h.output, h.size, h.block⟩
theorem Only.from {own : Nat → Prop} {a w : World} (h : Only own a w) (n : Nat) : Only own (a.drewN n) w := ⟨h.os, h.tape, h.output, h.size, h.block⟩
theorem Only.alloc {own : Nat → Prop} {a w : World} (h : Only own a w) (o : Obj) : Only own a (w.alloc o) :=
  ⟨h.os, h.tape, h.output, by simp; have := h.size; omega, fun k hk hn => by rw [Below.heap_alloc _ _ _ (Nat.lt_of_lt_of_le hk h.size)]; exact h.block k hk hn⟩
theorem Only.grown {own : Nat → Prop} {w w' : World} {row : Option Nat} (h : w.grownBy w' row) (hr : ∀ k, row = some k → own k) : Only own w w' :=
  ⟨h.os, h.tape, h.output, h.size, fun k hk hn => h.block k hk fun e => hn (hr k e.symm)⟩
/-- What a call of the object whose blocks are 'own' leaves: 'own2' are its blocks then. -/
structure Step (own own2 : Nat → Prop) (w w' : World) : Prop where
  only : Only own w w'
  sub : ∀ k, own2 k → own k ∨ w.heap.size ≤ k
theorem Step.refl (own : Nat → Prop) (w : World) : Step own own w w := ⟨Only.refl _ _, fun _ h => .inl h⟩
theorem Step.trans {o1 o2 o3 : Nat → Prop} {a b c : World} (h : Step o1 o2 a b) (k : Step o2 o3 b c) : Step o1 o3 a c :=
  ⟨h.only.trans k.only h.sub, fun i hi => by
    rcases k.sub i hi with h1 | h1
    · exact h.sub i h1
    · exact .inr (Nat.le_trans h.only.size h1)⟩
theorem Step.ahead {o1 o2 : Nat → Prop} {a b c : World} (h : Below a.heap.size a b) (k : Step o1 o2 b c) : Step o1 o2 a c :=
  ⟨(Only.of h).trans k.only fun i hi => .inl hi, fun i hi => by
    rcases k.sub i hi with h1 | h1
    · exact .inl h1
    · exact .inr (Nat.le_trans h.size h1)⟩
theorem Step.drewN {o1 o2 : Nat → Prop} {a w : World} (h : Step o1 o2 a w) (n : Nat) : Step o1 o2 a (w.drewN n) := ⟨h.only.drewN n, h.sub⟩
theorem Step.alloc {o1 o2 : Nat → Prop} {a w : World} (h : Step o1 o2 a w) (o : Obj) : Step o1 o2 a (w.alloc o) := ⟨h.only.alloc o, h.sub⟩
theorem Step.behind {o1 o2 : Nat → Prop} {a b c : World} (h : Step o1 o2 a b) (k : Below b.heap.size b c) : Step o1 o2 a c := h.trans ⟨Only.of k, fun _ hi => .inl hi⟩

end Go.Proofs.YtpaolgjgonghlaaDoor
/-
  Maps keyed by edges: the distances (map[Edge]int) and the set of edges seen (map[Edge]struct{}), told by what they hold at each pair of numbers.
-/
namespace Go.Proofs.YtpaolgjgonghlaaDoor
open Go.RowKit Go.Maps
set_option maxRecDepth 100000

theorem laidOutG : laidOutB Tryd.prog = true := by kernel_rfl
theorem edge_row : 100 < Tryd.prog.types.size := of_decide_eq_true (by kernel_rfl)
theorem edge_wide : (match Tryd.prog.underlying 100 with | some (.array _ _) | some (.struct _) => true | _ => false) = true := by rw [Tryd.underlying100]
theorem edge_deep : Tryd.prog.keyType 100 = true := by kernel_rfl
theorem edge_cells : Tryd.prog.cellsOf 100 = 2 := by kernel_rfl
theorem int_cells : Tryd.prog.cellsOf 3 = 1 := by kernel_rfl
theorem edge_law : Keyed Tryd.prog 100 := Keyed.of_law (deep_law_laid laidOutG (m := 2) (by omega) edge_row (by kernel_rfl) edge_wide)
def ev (a b : Int) : Value := .agg #[.int .i64 a, .int .i64 b]
def ek (a b : Int) : Lit := .string (keyBytes [.int .i64 a, .int .i64 b])
theorem wf_i {a : Int} (h : inI a) : (Lit.int .i64 a).wf = true := by
  unfold inI at h
  simpa [Lit.wf, IntKind.min, IntKind.max, IntKind.bits, IntKind.signed] using h
theorem key_edge (a b : Int) (ha : inI a) (hb : inI b) : keyOf Tryd.prog 100 (ev a b) = some (ek a b) := by
  have ha := wf_i ha
  have hb := wf_i hb
  obtain ⟨n, hn⟩ : ∃ n, Tryd.prog.types.size = n + 1 := ⟨Tryd.prog.types.size - 1, by have := edge_row; omega⟩
  have hf : (ev a b).formed Tryd.prog 100 = true := by simp [ev, Value.formed, Tryd.underlying100, edge_cells]
  have e : ∀ v, keyOf Tryd.prog 100 v = if Tryd.prog.keyType 100 && v.formed Tryd.prog 100 then (Tryd.prog.keyLits (Tryd.prog.types.size + 1) 100 v.cells.toList).map fun ls => .string (keyBytes ls) else none := fun v => by
    unfold keyOf
    rw [Tryd.underlying100]
  rw [e, edge_deep, hf, hn]
  have h1 : ∀ x : Int, (Lit.int .i64 x).wf = true → Tryd.prog.keyLits (n + 1) 3 [.int .i64 x] = some [.int .i64 x] := fun x hx => by
    simp [Program.keyLits, Tryd.underlying3, hx]
  have h2 : Tryd.prog.keyLits (n + 1 + 1) 100 (ev a b).cells.toList = some [.int .i64 a, .int .i64 b] := by
    have e2 : Tryd.prog.keyLits (n + 1 + 1) 100 [.int .i64 a, .int .i64 b] = if [Value.int .i64 a, Value.int .i64 b].length = Tryd.prog.cellsOf 100 then ((List.range 2).mapM fun i => Tryd.prog.keyLits (n + 1) 3 (([Value.int .i64 a, .int .i64 b].drop (i * Tryd.prog.cellsOf 3)).take (Tryd.prog.cellsOf 3))).map List.flatten else none := by
      conv => lhs; unfold Program.keyLits
      simp only [Tryd.underlying100]
    show Tryd.prog.keyLits (n + 1 + 1) 100 [.int .i64 a, .int .i64 b] = _
    rw [e2, edge_cells, int_cells, show List.range 2 = [0, 1] from rfl]
    simp [h1 a ha, h1 b hb]
  rw [h2]
  rfl
theorem ek_ne {a b x y : Int} (ha : inI a) (hb : inI b) (hx : inI x) (hy : inI y) (h : ¬ (x = a ∧ y = b)) : ek x y ≠ ek a b := fun e => by
  have h1 := key_edge a b ha hb
  have h2 := key_edge x y hx hy
  rw [e] at h2
  have := edge_law.inj h1 h2
  unfold ev at this
  injection this with h3
  have h4 := congrArg Array.toList h3
  simp at h4
  exact h ⟨h4.1.symm, h4.2.symm⟩

/-- Block m is a map of at most c entries that holds F. -/
def GMap (w : World) (m c : Nat) (F : Int → Int → Option Int) : Prop :=
  ∃ D : DataW Unit, w.ownsMap Tryd.prog 100 (plainElem Tryd.prog 3) m c D ∧ ∀ a b, inI a → inI b → Maps.has D (ek a b) = (F a b).isSome ∧ D.atKey (ek a b) (.lit (.int .i64 0)) = .lit (.int .i64 ((F a b).getD 0))
def upd (F : Int → Int → Option Int) (a b v : Int) : Int → Int → Option Int := fun x y => if x = a ∧ y = b then some v else F x y
theorem GMap.lt {w : World} {m c : Nat} {F : Int → Int → Option Int} (h : GMap w m c F) : m < w.heap.size := by obtain ⟨D, h, _⟩ := h; exact World.ownsMap.lt h
theorem GMap.keep {w w' : World} {m c : Nat} {F : Int → Int → Option Int} (h : GMap w m c F) (hk : w'.heap[m]? = w.heap[m]?) : GMap w' m c F := by
  obtain ⟨D, ⟨es, clock, hb, r⟩, h2⟩ := h
  exact ⟨D, ⟨es, clock, hk.trans hb, r⟩, h2⟩
theorem GMap.below {w w' : World} {m c B : Nat} {F : Int → Int → Option Int} (h : GMap w m c F) (hb : Below B w w') (hm : m < B) : GMap w' m c F := h.keep (hb.block m hm)
theorem GMap.grew {w w' : World} {m c : Nat} {F : Int → Int → Option Int} (h : GMap w m c F) (hb : Below w.heap.size w w') : GMap w' m c F := h.below hb h.lt
theorem GMap.mono {w : World} {m c c' : Nat} {F : Int → Int → Option Int} (h : GMap w m c F) (hc : c ≤ c') : GMap w m c' F := by
  obtain ⟨D, h, h2⟩ := h
  exact ⟨D, h.mono hc, h2⟩
theorem GMap.congr {w : World} {m c : Nat} {F G : Int → Int → Option Int} (h : GMap w m c F) (hg : ∀ a b, G a b = F a b) : GMap w m c G := by
  obtain ⟨D, h, h2⟩ := h
  exact ⟨D, h, fun a b ha hb => by rw [hg]; exact h2 a b ha hb⟩
theorem GMap.ne {w : World} {m c : Nat} {F : Int → Int → Option Int} (h : GMap w m c F) {g : Nat} {cs : Array Value} {t : TypeId} {fz : Nat × Nat} (hg : w.heap[g]? = some (.cells cs t fz)) : g ≠ m := by
  rintro rfl
  obtain ⟨D, ⟨es, clock, hb, _⟩, _⟩ := h
  rw [hg] at hb; cases hb
theorem GMap.made (w : World) : GMap (w.alloc (.map #[] 0)) w.heap.size 0 (fun _ _ => none) :=
  ⟨.map [], World.ownsMap_made w _ _ _, fun _ _ _ _ => ⟨rfl, rfl⟩⟩
theorem turned_frame {w w' : World} {m : Nat} (h : w.mapTurned w' m) : w'.os = w.os ∧ w'.tape = w.tape ∧ w'.output = w.output ∧ w'.heap.size = w.heap.size ∧ ∀ i, i ≠ m → w'.heap[i]? = w.heap[i]? := by
  obtain ⟨es, clock, es', clock', hb, rfl⟩ := h
  exact ⟨rfl, rfl, rfl, by simp [ChangeMaps.setBlock], fun i hi => ChangeMaps.heap_setBlock_other hb _ hi⟩
theorem turned_but {w w' : World} {m B : Nat} (h : w.mapTurned w' m) : But B m w w' := by
  obtain ⟨h1, h2, h3, h4, h5⟩ := turned_frame h
  exact ⟨h1, h2, h3, by omega, fun k _ hk => h5 k hk⟩

/-- Block m is a set of edges. -/
def SMap (w : World) (m c : Nat) (F : Int → Int → Bool) : Prop :=
  ∃ D : DataW Unit, w.ownsMap Tryd.prog 100 unitElem m c D ∧ ∀ a b, inI a → inI b → Maps.has D (ek a b) = F a b
def updS (F : Int → Int → Bool) (a b : Int) : Int → Int → Bool := fun x y => if x = a ∧ y = b then true else F x y
theorem SMap.lt {w : World} {m c : Nat} {F : Int → Int → Bool} (h : SMap w m c F) : m < w.heap.size := by obtain ⟨D, h, _⟩ := h; exact World.ownsMap.lt h
theorem SMap.keep {w w' : World} {m c : Nat} {F : Int → Int → Bool} (h : SMap w m c F) (hk : w'.heap[m]? = w.heap[m]?) : SMap w' m c F := by
  obtain ⟨D, ⟨es, clock, hb, r⟩, h2⟩ := h
  exact ⟨D, ⟨es, clock, hk.trans hb, r⟩, h2⟩
theorem SMap.below {w w' : World} {m c B : Nat} {F : Int → Int → Bool} (h : SMap w m c F) (hb : Below B w w') (hm : m < B) : SMap w' m c F := h.keep (hb.block m hm)
theorem SMap.grew {w w' : World} {m c : Nat} {F : Int → Int → Bool} (h : SMap w m c F) (hb : Below w.heap.size w w') : SMap w' m c F := h.below hb h.lt
theorem SMap.congr {w : World} {m c : Nat} {F G : Int → Int → Bool} (h : SMap w m c F) (hg : ∀ a b, G a b = F a b) : SMap w m c G := by
  obtain ⟨D, h, h2⟩ := h
  exact ⟨D, h, fun a b ha hb => by rw [hg]; exact h2 a b ha hb⟩
theorem SMap.made (w : World) : SMap (w.alloc (.map #[] 0)) w.heap.size 0 (fun _ _ => false) := ⟨.map [], World.ownsMap_made w _ _ _, fun _ _ _ _ => rfl⟩
theorem SMap.look2 {w : World} {m c : Nat} {F : Int → Int → Bool} (h : SMap w m c F) (a b : Int) (ha : inI a) (hb : inI b) :
    (Instr.lookup 98 (.map (some m)) (.agg #[.int .i64 a, .int .i64 b]) true).run Tryd.prog w = .ok (.tuple #[.agg #[], .bool (F a b)]) w := by
  obtain ⟨D, h, h2⟩ := h
  obtain ⟨v, ps, hr, hv⟩ := h.look_ok edge_law Tryd.underlying98 (show (zeroValue 97).run Tryd.prog w = .ok (.agg #[]) w by kernel_rfl) (zd := .agg []) (zp := []) unitElem_mk (key_edge a b ha hb)
  obtain ⟨rfl, _⟩ := unitElem_inv hv
  rw [h2 a b ha hb] at hr
  exact hr
theorem SMap.store {w : World} {m c : Nat} {F : Int → Int → Bool} (h : SMap w m c F) (hc : c ≤ 1000000000) (a b : Int) (ha : inI a) (hb : inI b) :
    ∃ w', (Instr.mapUpdate 98 (.map (some m)) (.agg #[.int .i64 a, .int .i64 b]) (.agg #[])).run Tryd.prog w = .ok () w' ∧ SMap w' m (c + 1) (updS F a b) ∧ w.mapTurned w' m := by
  obtain ⟨D, h, h2⟩ := h
  obtain ⟨w', hr, ho, ht⟩ := h.store edge_law Tryd.underlying98 (by unfold maxLen; omega) (key_edge a b ha hb) (d := .agg []) (ps := []) unitElem_mk
  refine ⟨w', hr, ⟨_, ho, fun x y hx hy => ?_⟩, ht⟩
  unfold updS
  by_cases hxy : x = a ∧ y = b
  · obtain ⟨rfl, rfl⟩ := hxy
    rw [if_pos ⟨rfl, rfl⟩, has_put_same h.isMap (edge_law.key (key_edge x y ha hb))]
  · rw [if_neg hxy, has_put_other (ek_ne ha hb hx hy hxy)]
    exact h2 x y hx hy

/-! At the operation. -/
section
variable {w : World} {ops : Array Oper} {rest : List Oper} {o : Oper} {a : Act} {Q : Exit → Act → World → Prop}
theorem wp_slook2 (hgd : o.guard = none) (mo x : Operand) (hop : o.op = Op.lookup 98 mo x true) {m c : Nat} {F : Int → Int → Bool} (hm : a.eval mo = .map (some m)) (h : SMap w m c F) (p q : Int) (hx : a.eval x = .agg #[.int .i64 p, .int .i64 q]) (hp : inI p) (hq : inI q) (b : Bool) (hb : F p q = b)
    (K : wpList Tryd.prog ops Q rest (a.put o.dst (.tuple #[.agg #[], .bool b])) w) : wpList Tryd.prog ops Q (o :: rest) a w := by
  subst hb
  refine wpList_plain hgd fun K' hK => ?_
  unfold Oper.wp
  simp [execOp, hop, hm, hx, h.look2 p q hp hq, Result.andThen]
  exact hK _ _ K
theorem wp_sstore (hgd : o.guard = none) (mo x y : Operand) (hop : o.op = Op.mapUpdate 98 mo x y) {m c : Nat} {F : Int → Int → Bool} (hm : a.eval mo = .map (some m)) (h : SMap w m c F) (hc : c ≤ 1000000000) (p q : Int) (hx : a.eval x = .agg #[.int .i64 p, .int .i64 q]) (hy : a.eval y = .agg #[]) (hp : inI p) (hq : inI q)
    (K : ∀ w', SMap w' m (c + 1) (updS F p q) → w.mapTurned w' m → wpList Tryd.prog ops Q rest (a.put o.dst undef) w') : wpList Tryd.prog ops Q (o :: rest) a w := by
  obtain ⟨w', hr, h1, h2⟩ := h.store hc p q hp hq
  refine wpList_plain hgd fun K' hK => ?_
  unfold Oper.wp
  simp [execOp, hop, hm, hx, hy, hr, Result.andThen]
  exact hK _ _ (K w' h1 h2)
end
end Go.Proofs.YtpaolgjgonghlaaDoor
/-
  The cells of a row of ints of the call's own.
-/
namespace Go.Proofs.YtpaolgjgonghlaaDoor
open Go.RowKit
theorem OwnZ.thaw {w : World} {base g cap : Nat} {zs : List Int} (h : OwnZ w base (some ⟨g, 0, none⟩) cap zs) (i : Nat) : w.frozen? ⟨g, i, none⟩ = false := by
  rcases h.1.2 with ⟨e, _⟩ | ⟨g', c', cur, e, hb, hg, r⟩
  · cases e
  · injection e with e1 e2 e3
    injection e1 with e1
    injection e1 with e1
    subst e1
    simp [World.frozen?, hg]
theorem OwnZ.val {w : World} {base g cap : Nat} {zs : List Int} (h : OwnZ w base (some ⟨g, 0, none⟩) cap zs) {i : Nat} (hi : i < zs.length) : w.cell? ⟨g, i, none⟩ = some (.int .i64 (zs.getD i 0)) := by
  obtain ⟨bb, off, z, he, _, hc, hz, _, _⟩ := h.zs.at_ hi
  injection he with he
  injection he with he1 he2
  subst he1 he2
  rw [hz.out, Nat.zero_add] at *
  exact hc
end Go.Proofs.YtpaolgjgonghlaaDoor
/-
  Rows of bools of the call's own: made, stored to, read.
-/
namespace Go.Proofs.YtpaolgjgonghlaaDoor
open Go.RowKit
def OwnF (w : World) (base : Nat) (A : Option Addr) (cap : Nat) (bs : List Bool) : Prop :=
  w.ownsRow base 4 1 (.slice A bs.length cap) bs.length (bs.map Value.bool)
theorem OwnF.lt {w : World} {base : Nat} {a : Addr} {cap : Nat} {bs : List Bool} (h : OwnF w base (some a) cap bs) : base ≤ a.block ∧ a.block < w.heap.size :=
  World.ownsRow.lt h a.block (by simp [Value.ownBlock])
theorem OwnF.keep {w w' : World} {base : Nat} {A : Option Addr} {cap : Nat} {bs : List Bool} (h : OwnF w base A cap bs) (hk : ∀ a, A = some a → w'.heap[a.block]? = w.heap[a.block]?) : OwnF w' base A cap bs := by
  refine ⟨h.1, ?_⟩
  rcases h.2 with e | ⟨g, c', cur, e, hb, hg, r⟩
  · exact .inl e
  · injection e with e1 e2 e3
    subst e1 e3
    exact .inr ⟨g, _, cur, rfl, hb, by rw [hk _ rfl]; exact hg, r⟩
theorem OwnF.grew {w w' : World} {base B : Nat} {A : Option Addr} {cap : Nat} {bs : List Bool} (h : OwnF w base A cap bs) (hb : Below B w w') (hB : w.heap.size ≤ B) : OwnF w' base A cap bs :=
  h.keep fun a ha => by
    subst ha
    exact hb.block _ (by have := h.lt.2; omega)
theorem OwnF.under {w w' : World} {base B g cap : Nat} {bs : List Bool} (h : OwnF w base (some ⟨g, 0, none⟩) cap bs) (hb : Below B w w') (hB : g < B) : OwnF w' base (some ⟨g, 0, none⟩) cap bs :=
  h.keep fun a ha => by
    injection ha with ha
    subst ha
    exact hb.block _ hB
theorem OwnF.val {w : World} {base g cap : Nat} {bs : List Bool} (h : OwnF w base (some ⟨g, 0, none⟩) cap bs) {i : Nat} (hi : i < bs.length) : w.cell? ⟨g, i, none⟩ = some (.bool (bs.getD i false)) := by
  rw [World.ownsRow.cellAt h i (by omega), List.getElem?_map, List.getD_eq_getElem?_getD, List.getElem?_eq_getElem hi]
  rfl
theorem OwnF.thaw {w : World} {base g cap : Nat} {bs : List Bool} (h : OwnF w base (some ⟨g, 0, none⟩) cap bs) (i : Nat) : w.frozen? ⟨g, i, none⟩ = false := by
  rcases h.2 with ⟨e, _⟩ | ⟨g', c', cur, e, hb, hg, r⟩
  · cases e
  · injection e with e1 e2 e3
    injection e1 with e1
    injection e1 with e1
    subst e1
    simp [World.frozen?, hg]
theorem OwnF.stored {w : World} {base g cap : Nat} {bs : List Bool} (h : OwnF w base (some ⟨g, 0, none⟩) cap bs) (j : Nat) (v : Bool) :
    OwnF (w.setCell ⟨g, j, none⟩ (.bool v)) base (some ⟨g, 0, none⟩) cap (bs.set j v) := by
  have hs := World.ownsRow.stored h j (.bool v)
  unfold OwnF
  rw [List.length_set, List.map_set]
  exact hs.1
theorem bool_info : (Tryd.prog.info? 4).map (fun i => (i.zero, i.size, i.bytes)) = some (some (.bool false), 1, 1) := by kernel_rfl
theorem made_F (n : Nat) (hn : n ≤ 1000000) (W : World) : (Instr.makeSlice 105 (.int .i64 (n : Int)) (.int .i64 (n : Int))).run Tryd.prog W = .ok (.slice (some ⟨W.heap.size, 0, none⟩) n n) (W.alloc (.cells (madeCells #[.bool false] n) 4)) := by
  obtain ⟨i, hi, hz, hs, hy⟩ := info_parts bool_info
  have hr := run_make (P := Tryd.prog) W 105 4 i _ Tryd.underlying105 hi hz .i64 .i64 n n (by omega) (Int.le_refl _) (by rw [hy]; omega) (by omega)
  rw [hs, Int.toNat_natCast, Nat.mul_one] at hr
  exact hr
theorem OwnF.made (W : World) (n : Nat) (hn : n ≤ 1000000) : OwnF (W.alloc (.cells (madeCells #[.bool false] n) 4)) W.heap.size (some ⟨W.heap.size, 0, none⟩) n (List.replicate n false) := by
  have e : (madeCells #[Value.bool false] n).toList = (List.replicate n false).map Value.bool := by
    rw [toList_madeCells_one (Value.bool false) n, List.map_replicate]
  have h := World.ownsRow_lit (e := 4) (size := 1) W (madeCells #[.bool false] n) n (Nat.le_refl W.heap.size) (by unfold maxLen; omega) (by rw [← Array.length_toList, e]; simp)
  rw [e] at h
  unfold OwnF
  rw [List.length_replicate]
  exact h
end Go.Proofs.YtpaolgjgonghlaaDoor
/-
  Package back: Delay.
-/
namespace Go.Proofs.YtpaolgjgonghlaaDoor
open Go.RowKit
/-- A number handed back, the world as it was. -/
def StI (w : World) (v : Int) (e : Ending) (w' : World) : Prop := e = .returned (.int .i64 v) ∧ w = w'
theorem Bk.pow_int (k : Nat) : (2 : Int) ^ k = ((2 ^ k : Nat) : Int) := by
  rw [Int.natCast_pow]; rfl
theorem Bk.dl_over {b t : Int} (hb : 1 ≤ b) (h : (64000 : Int) / 2 ^ min (t.toNat - 1) 64 < b) : (Bk.dl b.toNat t.toNat : Int) = 64000 := by
  have e : Bk.dl b.toNat t.toNat = 64000 := by
    rcases Nat.lt_or_ge 16 t.toNat with h17 | h16
    · exact Bk.dl_17 (by omega) h17
    · rw [show min (t.toNat - 1) 64 = t.toNat - 1 by omega, Bk.pow_int, Int.ediv_lt_iff_lt_mul (by have := Bk.pow_pos2 (t.toNat - 1); omega)] at h
      refine Bk.dl_top ?_
      rw [show b = (b.toNat : Int) by omega, ← Int.natCast_mul] at h
      omega
  omega
theorem Bk.dl_under {b t : Int} (hb : 1 ≤ b) (h : b ≤ (64000 : Int) / 2 ^ min (t.toNat - 1) 64) : wrap64 (b * 2 ^ min (t.toNat - 1) 64) = (Bk.dl b.toNat t.toNat : Int) := by
  have h16 : t.toNat ≤ 16 := by
    apply Classical.byContradiction
    intro h2
    have e : (64000 : Int) / 2 ^ min (t.toNat - 1) 64 = 0 := by
      rw [Bk.pow_int]
      refine Int.ediv_eq_zero_of_lt (by decide) ?_
      have : 2 ^ 16 ≤ 2 ^ min (t.toNat - 1) 64 := Nat.pow_le_pow_right (by decide) (by omega)
      omega
    omega
  have hp := Bk.pow_pos2 (t.toNat - 1)
  rw [show min (t.toNat - 1) 64 = t.toNat - 1 by omega, Bk.pow_int] at h ⊢
  rw [Int.le_ediv_iff_mul_le (by omega)] at h
  rw [show b = (b.toNat : Int) by omega, ← Int.natCast_mul] at h ⊢
  rw [Int.toNat_natCast]
  have h3 : b.toNat * 2 ^ (t.toNat - 1) ≤ 64000 := by omega
  rw [Bk.dl_low h3]
  unfold wrap64; omega
set_option maxHeartbeats 2000000 in
theorem delay_same (b t : Int) (hb : is64 b) (ht : is64 t) (w : World) : Calls Tryd.prog 47 #[.int .i64 b, .int .i64 t] w (StI w (Bk.delayI b t)) := by
  obtain ⟨hb0, hb1⟩ := hb
  obtain ⟨ht0, ht1⟩ := ht
  by_cases h1 : b < 1
  · have E : Hid (Bk.delayI b t = 0) := Lib.hid (by unfold Bk.delayI; rw [if_pos (.inl h1)])
    go_enter Tryd.func47, Tryd.ntmps47
    go_wp2
    go_ret
    exact ⟨ret_int E.out.symm, rfl⟩
  by_cases h2 : t < 1
  · have E : Hid (Bk.delayI b t = 0) := Lib.hid (by unfold Bk.delayI; rw [if_pos (.inr h2)])
    have h1' : 1 ≤ b := by omega
    clear h1
    go_enter Tryd.func47, Tryd.ntmps47
    go_wp2
    go_ret
    exact ⟨ret_int E.out.symm, rfl⟩
  have h1' : 1 ≤ b := by omega
  have h2' : 1 ≤ t := by omega
  have E : Hid (Bk.delayI b t = (Bk.dl b.toNat t.toNat : Int)) := Lib.hid (by unfold Bk.delayI; rw [if_neg (by omega)])
  clear h1 h2
  go_enter Tryd.func47, Tryd.ntmps47
  go_wp2
  · rename_i hlt
    go_ret
    exact ⟨ret_int (by rw [E.out]; exact (Bk.dl_over h1' hlt).symm), rfl⟩
  · rename_i hle
    go_ret
    exact ⟨ret_int (by rw [E.out]; exact Bk.dl_under h1' hle), rfl⟩
end Go.Proofs.YtpaolgjgonghlaaDoor
