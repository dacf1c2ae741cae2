/-
  Slices of edges (arrays of two ints): one that came in, and rows of the call's own, appended to, kept, read. The element's type is open (the program's Edge, or the array itself).
-/
import Derived.Test.YtgeefkfolejbnaaZRows
import Derived.Test.YtgeefkfolejbnaaKRows
namespace Go.Proofs.Ytgeefkfolejbnaa
open Go.RowKit
def inE (e : Int × Int) : Prop := inI e.1 ∧ inI e.2
/-- The slice at address A whose elements are the edges es, below block B. -/
def Edg (w : World) (B : Nat) (A : Option Addr) (es : List (Int × Int)) : Prop :=
  (∀ i, i < es.length → inE (es.getD i (0, 0))) ∧
  (0 < es.length → ∃ b off, A = some ⟨b, off, none⟩ ∧ b < B ∧ ∀ i, i < es.length → w.cell? ⟨b, off + i * 2, none⟩ = some (.int .i64 (es.getD i (0, 0)).1) ∧ w.cell? ⟨b, off + i * 2 + 1, none⟩ = some (.int .i64 (es.getD i (0, 0)).2))
theorem Edg.at_ {w : World} {B : Nat} {A : Option Addr} {es : List (Int × Int)} {k : Nat} (h : Edg w B A es) (hk : k < es.length) :
    ∃ b off x y, A = some ⟨b, off, none⟩ ∧ Hid (b < B) ∧ w.cell? ⟨b, off + k * 2, none⟩ = some (.int .i64 x) ∧ w.cell? ⟨b, off + k * 2 + 1, none⟩ = some (.int .i64 y) ∧ Hid (es.getD k (0, 0) = (x, y)) ∧ (-9223372036854775808 ≤ x ∧ x ≤ 9223372036854775807) ∧ -9223372036854775808 ≤ y ∧ y ≤ 9223372036854775807 := by
  obtain ⟨b, off, e, hb, hc⟩ := h.2 (by omega)
  exact ⟨b, off, _, _, e, Lib.hid hb, (hc k hk).1, (hc k hk).2, Lib.hid rfl, (h.1 k hk).1, (h.1 k hk).2⟩
theorem Edg.nil_ {w : World} {B : Nat} {A : Option Addr} : Edg w B A [] := ⟨fun i h => by simp at h, fun h => by simp at h⟩
theorem Edg.below {w w' : World} {B : Nat} {A : Option Addr} {es : List (Int × Int)} (h : Edg w B A es) (hb : Below B w w') : Edg w' B A es :=
  ⟨h.1, fun hn => by
    obtain ⟨b, off, e, hl, hc⟩ := h.2 hn
    exact ⟨b, off, e, hl, fun i hi => ⟨(hb.cell (p := ⟨b, _, none⟩) hl).trans (hc i hi).1, (hb.cell (p := ⟨b, _, none⟩) hl).trans (hc i hi).2⟩⟩⟩
theorem Edg.more {w : World} {B B' : Nat} {A : Option Addr} {es : List (Int × Int)} (h : Edg w B A es) (hB : B ≤ B') : Edg w B' A es :=
  ⟨h.1, fun hn => by
    obtain ⟨b, off, e, hb, hc⟩ := h.2 hn
    exact ⟨b, off, e, by omega, hc⟩⟩
theorem Edg.on {w w' : World} {A : Option Addr} {es : List (Int × Int)} (h : Edg w w.heap.size A es) (hb : Below w.heap.size w w') : Edg w' w'.heap.size A es := (h.below hb).more hb.size
theorem Edg.rng {w : World} {B : Nat} {A : Option Addr} {es : List (Int × Int)} (h : Edg w B A es) : ∀ e ∈ es, inE e := fun e he => by
  obtain ⟨i, hi, e1⟩ := List.getElem_of_mem he
  have := h.1 i hi
  rw [List.getD_eq_getElem?_getD, List.getElem?_eq_getElem hi] at this
  rw [← e1]; exact this

/-! ### Rows of the call's own -/
def eds (es : List (Int × Int)) : List (List Value) := es.map fun e => [.int .i64 e.1, .int .i64 e.2]
theorem eds_len (es : List (Int × Int)) : (eds es).length = es.length := by simp [eds]
theorem eds_app (es fs : List (Int × Int)) : eds (es ++ fs) = eds es ++ eds fs := by simp [eds]
theorem eds_wide (es : List (Int × Int)) : Wide 2 (eds es) := fun v hv => by
  obtain ⟨e, _, rfl⟩ := List.mem_map.1 hv
  exact ⟨rfl, fun u hu => by simp at hu; rcases hu with rfl | rfl <;> rfl⟩
def OwnE (w : World) (base : Nat) (T : TypeId) (A : Option Addr) (cap : Nat) (es : List (Int × Int)) : Prop := OwnK w base T 2 A cap (eds es) ∧ ∀ e ∈ es, inE e
theorem OwnE.none_ (w : World) (base : Nat) (T : TypeId) : OwnE w base T none 0 [] := ⟨OwnK.none_ w base T 2, fun e h => by simp at h⟩
theorem OwnE.keep {w w' : World} {base : Nat} {T : TypeId} {A : Option Addr} {cap : Nat} {es : List (Int × Int)} (h : OwnE w base T A cap es) (hk : ∀ a, A = some a → w'.heap[a.block]? = w.heap[a.block]?) : OwnE w' base T A cap es := ⟨h.1.keep hk, h.2⟩
theorem OwnE.low {w : World} {base b : Nat} {T : TypeId} {A : Option Addr} {cap : Nat} {es : List (Int × Int)} (h : OwnE w base T A cap es) (hb : b ≤ base) : OwnE w b T A cap es := ⟨h.1.low hb, h.2⟩
theorem OwnE.lt {w : World} {base : Nat} {T : TypeId} {a : Addr} {cap : Nat} {es : List (Int × Int)} (h : OwnE w base T (some a) cap es) : base ≤ a.block ∧ a.block < w.heap.size := h.1.lt
theorem OwnE.grew {w w' : World} {base B : Nat} {T : TypeId} {A : Option Addr} {cap : Nat} {es : List (Int × Int)} (h : OwnE w base T A cap es) (hb : Below B w w') (hB : w.heap.size ≤ B) : OwnE w' base T A cap es := ⟨h.1.grew hb hB, h.2⟩
theorem OwnE.cap_ {w : World} {base : Nat} {T : TypeId} {A : Option Addr} {cap : Nat} {es : List (Int × Int)} (h : OwnE w base T A cap es) : es.length ≤ cap := by have := h.1.cap_; rwa [eds_len] at this
theorem OwnE.edg {w : World} {base : Nat} {T : TypeId} {A : Option Addr} {cap : Nat} {es : List (Int × Int)} (h : OwnE w base T A cap es) : Edg w w.heap.size A es := by
  have hr : ∀ i, i < es.length → inE (es.getD i (0, 0)) := fun i hi => by rw [List.getD_eq_getElem?_getD, List.getElem?_eq_getElem hi]; exact h.2 _ (List.getElem_mem hi)
  refine ⟨hr, fun hn => ?_⟩
  obtain ⟨g, rfl, hg, hg2⟩ := h.1.shape (by rw [eds_len]; exact hn)
  refine ⟨g, 0, rfl, hg2, fun i hi => ?_⟩
  have e : (eds es).getD i [] = [.int .i64 (es.getD i (0, 0)).1, .int .i64 (es.getD i (0, 0)).2] := by
    unfold eds
    rw [List.getD_eq_getElem?_getD, List.getElem?_map, List.getD_eq_getElem?_getD, List.getElem?_eq_getElem hi]
    rfl
  have c0 := h.1.cell (i := i) (j := 0) (u := .int .i64 (es.getD i (0, 0)).1) (by rw [eds_len]; exact hi) (by decide) (by rw [e]; rfl)
  have c1 := h.1.cell (i := i) (j := 1) (u := .int .i64 (es.getD i (0, 0)).2) (by rw [eds_len]; exact hi) (by decide) (by rw [e]; rfl)
  rw [Nat.zero_add]
  exact ⟨c0, c1⟩
/-- A block of another type is no such row. -/
theorem OwnE.ne {w : World} {base : Nat} {T : TypeId} {a : Addr} {cap : Nat} {es : List (Int × Int)} (h : OwnE w base T (some a) cap es) {g : Nat} {cs : Array Value} {t : TypeId} {fz : Nat × Nat} (ho : w.heap[g]? = some (.cells cs t fz)) (ht : t ≠ T) : a.block ≠ g := by
  rintro rfl
  rcases h.1.1.2 with ⟨e, _⟩ | ⟨g, c', cur, e, hb, hg, r⟩
  · cases e
  · injection e with e1 e2 e3
    injection e1 with e1
    subst e1
    rw [ho] at hg
    injection hg with hg
    injection hg with _ h2 _
    exact ht h2
theorem grownE_below {w w' : World} {base : Nat} {T : TypeId} {A : Option Addr} {cap n : Nat} {es : List (Int × Int)} (h : OwnE w base T A cap es) (hbase : base ≤ w.heap.size) (hg : w.grownBy w' (Value.slice A n cap).ownBlock) : Below base w w' :=
  (Below.refl _ _).grown hg hbase fun k hk => by
    cases A with
    | none => cases hk
    | some a => simp [Value.ownBlock] at hk; subst hk; exact h.lt.1
theorem run_appE {w : World} {base : Nat} {T ST : TypeId} {A : Option Addr} {cap : Nat} {es : List (Int × Int)} {x y : Int} (hST : Try.prog.underlying ST = some (.slice T))
    (hI : (Try.prog.info? T).map (fun i => (i.zero, i.size, i.bytes)) = some (some (.agg #[.int .i64 0, .int .i64 0]), 2, 16))
    (h : OwnE w base T A cap es) (hbase : base ≤ w.heap.size) {b2 : Nat} (hx : w.cell? ⟨b2, 0, none⟩ = some (.int .i64 x)) (hy : w.cell? ⟨b2, 1, none⟩ = some (.int .i64 y)) (hi : inE (x, y)) (c : Nat) (hlen : es.length ≤ 1000000) (ty : TypeId) :
    ∃ A' cap' w', (Builtin.append_ #[ST, ST] ty #[.slice A es.length cap, .slice (some ⟨b2, 0, none⟩) 1 c]).run Try.prog w = .ok (.slice A' (es.length + 1) cap') w' ∧
      OwnE w' base T A' cap' (es ++ [(x, y)]) ∧ w.grownBy w' (Value.slice A es.length cap).ownBlock := by
  have hl : (eds es).length = es.length := eds_len es
  obtain ⟨A', cap', w', hr, h1, h2, _⟩ := run_appK (us := eds [(x, y)]) hST hI rfl (by decide) (by decide) h.1 hbase (b2 := b2) (o2 := 0) (eds_wide _) (fun j u hu => by
    rw [Nat.zero_add]
    match j, hu with
    | 0, hu => simp [eds] at hu; rw [← hu]; exact hx
    | 1, hu => simp [eds] at hu; rw [← hu]; exact hy
    | j + 2, hu => simp [eds] at hu) c (by rw [hl]; simp [eds]; omega) ty
  rw [hl] at hr h2
  have e : (eds es ++ eds [(x, y)]).length = es.length + 1 := by rw [List.length_append, hl]; rfl
  rw [e] at hr
  refine ⟨A', cap', w', hr, ⟨by rw [eds_app]; exact h1, fun z hz => ?_⟩, h2⟩
  rcases List.mem_append.1 hz with hz | hz
  · exact h.2 z hz
  · simp at hz; subst hz; exact hi
theorem wp_appE {w : World} {ops : Array Oper} {rest : List Oper} {o : Oper} {a : Act} {Q : Exit → Act → World → Prop} (hgd : o.guard = none) (s t : Operand) {T ST : TypeId}
    (ho : o.op = .call { callee := .builtin .append, args := #[s, t], argTypes := #[ST, ST] })
    {base : Nat} {A : Option Addr} {n cap : Nat} {es : List (Int × Int)} {x y : Int} (hST : Try.prog.underlying ST = some (.slice T))
    (hI : (Try.prog.info? T).map (fun i => (i.zero, i.size, i.bytes)) = some (some (.agg #[.int .i64 0, .int .i64 0]), 2, 16))
    (hs : a.eval s = .slice A n cap) (hn : n = es.length) (h : OwnE w base T A cap es) (hbase : base ≤ w.heap.size)
    {b2 c : Nat} (ht : a.eval t = .slice (some ⟨b2, 0, none⟩) 1 c) (hx : w.cell? ⟨b2, 0, none⟩ = some (.int .i64 x)) (hy : w.cell? ⟨b2, 1, none⟩ = some (.int .i64 y)) (hi : inE (x, y)) (hlen : es.length ≤ 1000000)
    (K : ∀ A' cap' w', OwnE w' base T A' cap' (es ++ [(x, y)]) → w.grownBy w' (Value.slice A es.length cap).ownBlock → wpList Try.prog ops Q rest (a.put o.dst (.slice A' (es.length + 1) cap')) w') :
    wpList Try.prog ops Q (o :: rest) a w := by
  subst hn
  obtain ⟨A', cap', w', hrun, h1, h2⟩ := run_appE hST hI h hbase hx hy hi c hlen o.type
  refine wpList_plain hgd fun K' hK => ?_
  unfold Oper.wp
  simp [execOp, ho, resolve, invoke, builtin, hs, ht, hrun, Result.andThen]
  exact hK _ _ (K A' cap' w' h1 h2)
/-- A literal row, full. -/
theorem OwnE.lit {w : World} {T : TypeId} (es : List (Int × Int)) (he : ∀ e ∈ es, inE e) (hv : es.length ≤ 1000000) (cs : Array Value) (hc : cs.toList = (eds es).flatten) : OwnE (w.alloc (.cells cs T)) w.heap.size T (some ⟨w.heap.size, 0, none⟩) es.length es := by
  have := OwnK.lit (w := w) (T := T) (eds es) (eds_wide es) (by rw [eds_len]; omega) cs hc
  rw [eds_len] at this
  exact ⟨this, he⟩
theorem edge_info : (Try.prog.info? 24).map (fun i => (i.zero, i.size, i.bytes)) = some (some (.agg #[.int .i64 0, .int .i64 0]), 2, 16) := by kernel_rfl
theorem arr2_info : (Try.prog.info? 23).map (fun i => (i.zero, i.size, i.bytes)) = some (some (.agg #[.int .i64 0, .int .i64 0]), 2, 16) := by kernel_rfl
/-- What lies in a boxed struct of two cells. -/
theorem obG {w : World} {g : Nat} {x y : Value} {t : TypeId} (h : w.heap[g]? = some (.cells #[x, y] t (0, 0))) :
    (w.cell? ⟨g, 0, none⟩ = some x ∧ w.cell? ⟨g, 1, none⟩ = some y) ∧ (w.frozen? ⟨g, 0, none⟩ = false ∧ w.frozen? ⟨g, 1, none⟩ = false) :=
  ⟨⟨by simp [World.cell?, h], by simp [World.cell?, h]⟩, ⟨by simp [World.frozen?, h], by simp [World.frozen?, h]⟩⟩
def BoolG (w : World) (b : Bool) (e : Ending) (w' : World) : Prop := e = .returned (.bool b) ∧ Hid (Below w.heap.size w w')
end Go.Proofs.Ytgeefkfolejbnaa
