/-
  Rows of records of package frame, the call's own: what one holds, kept where the world grows, one more at its end.
-/
import Derived.Test.YtlaomaefhanacaaDoorFrGet
import Derived.Test.YtlaomaefhanacaaDoorPairRows
namespace Go.Proofs.YtlaomaefhanacaaDoor
open Go.RowKit

/-- What a record's two cells hold: its stamp, and its payload in a row of the call's own. -/
def RecV (w : World) (base : Nat) (v : Value × Value) (r : Fr.Rc) : Prop := v.1 = .int .u64 r.1 ∧ ∃ A cap, v.2 = .slice A r.2.length cap ∧ OwnB w base A cap r.2
/-- The row of records at address A, the call's own. -/
def OwnR (w : World) (base : Nat) (A : Option Addr) (cap : Nat) (l : List Fr.Rc) : Prop :=
  ∃ vs : List (Value × Value), vs.length = l.length ∧ OwnP w base 34 A cap vs ∧ ∀ i, i < l.length → RecV w base (vs.getD i (undef, undef)) (l.getD i (0, []))
theorem OwnR.none_ (w : World) (base : Nat) : OwnR w base none 0 [] := ⟨[], rfl, OwnP.none_ _ _ _, fun i hi => by simp at hi⟩
theorem RecV.grew {w w' : World} {base B : Nat} {v : Value × Value} {r : Fr.Rc} (h : RecV w base v r) (hb : Below B w w') (hB : w.heap.size ≤ B) : RecV w' base v r := by
  obtain ⟨h1, A, cap, h2, h3⟩ := h
  exact ⟨h1, A, cap, h2, h3.grew hb hB⟩
theorem OwnR.grew {w w' : World} {base B : Nat} {A : Option Addr} {cap : Nat} {l : List Fr.Rc} (h : OwnR w base A cap l) (hb : Below B w w') (hB : w.heap.size ≤ B) : OwnR w' base A cap l := by
  obtain ⟨vs, h1, h2, h3⟩ := h
  exact ⟨vs, h1, h2.grew hb hB, fun i hi => (h3 i hi).grew hb hB⟩
theorem getD_snoc_lt {α : Type} (l : List α) (x d : α) (i : Nat) (h : i < l.length) : (l ++ [x]).getD i d = l.getD i d := by
  rw [List.getD_eq_getElem?_getD, List.getElem?_append_left h, ← List.getD_eq_getElem?_getD]
theorem getD_snoc_eq {α : Type} (l : List α) (x d : α) : (l ++ [x]).getD l.length d = x := by
  rw [List.getD_eq_getElem?_getD, List.getElem?_append_right (Nat.le_refl _)]; simp
theorem OwnR.snoc {w' : World} {base : Nat} {A' : Option Addr} {cap' : Nat} {l : List Fr.Rc} {vs : List (Value × Value)} (hl : vs.length = l.length) (hv : ∀ i, i < l.length → RecV w' base (vs.getD i (undef, undef)) (l.getD i (0, [])))
    {at_ : Int} {p : List Int} {A2 : Option Addr} {cap2 : Nat} (hp : OwnB w' base A2 cap2 p) (h : OwnP w' base 34 A' cap' (vs ++ [(.int .u64 at_, .slice A2 p.length cap2)])) : OwnR w' base A' cap' (l ++ [(at_, p)]) := by
  refine ⟨_, by simp [hl], h, fun i hi => ?_⟩
  by_cases hi2 : i < l.length
  · rw [getD_snoc_lt _ _ _ _ hi2, getD_snoc_lt _ _ _ _ (by omega)]
    exact hv i hi2
  · rw [List.length_append, List.length_singleton] at hi
    have e : i = l.length := by omega
    subst e
    rw [getD_snoc_eq, ← hl, getD_snoc_eq]
    exact ⟨rfl, A2, cap2, rfl, hp⟩
theorem rec_info : (Tryd.prog.info? 34).map (fun i => (i.zero, i.size, i.bytes)) = some (some (.agg #[.int .u64 0, .slice none 0 0]), 2, 32) := by kernel_rfl
theorem second_new (w : World) (X Y : Obj) : ((w.alloc X).alloc Y).heap[w.heap.size + 1]? = some Y := by
  have h := heap_alloc_new (w.alloc X) Y
  simpa using h
end Go.Proofs.YtlaomaefhanacaaDoor
