/-
  Rows of the call's own whose elements are structs of two cells: appended to, kept, read. The element's type is open; no function of the program is named here.
-/
import Derived.Test.YtlaomaefhanacaaDoorBytesKit
namespace Go.Proofs.YtlaomaefhanacaaDoor
open Go.RowKit

def flat2 (vs : List (Value × Value)) : List Value := vs.flatMap fun p => [p.1, p.2]
theorem flat2_len (vs : List (Value × Value)) : (flat2 vs).length = vs.length * 2 := by
  induction vs with
  | nil => rfl
  | cons p r ih =>
    have e : flat2 (p :: r) = p.1 :: p.2 :: flat2 r := rfl
    rw [e, List.length_cons, List.length_cons, List.length_cons, ih]; omega
theorem flat2_app (vs us : List (Value × Value)) : flat2 (vs ++ us) = flat2 vs ++ flat2 us := by unfold flat2; rw [List.flatMap_append]
theorem flat2_get (vs : List (Value × Value)) (d : Value × Value) (i : Nat) (h : i < vs.length) : (flat2 vs)[i * 2]? = some (vs.getD i d).1 ∧ (flat2 vs)[i * 2 + 1]? = some (vs.getD i d).2 := by
  induction vs generalizing i with
  | nil => simp at h
  | cons p r ih =>
    have e : flat2 (p :: r) = p.1 :: p.2 :: flat2 r := rfl
    rw [e]
    cases i with
    | zero => exact ⟨rfl, rfl⟩
    | succ i =>
      have := ih i (by simpa using h)
      rw [show (i + 1) * 2 = i * 2 + 1 + 1 by omega]
      simp only [List.getElem?_cons_succ, List.getD_cons_succ]
      exact this
/-- The row of pairs at address A is the call's own. -/
def OwnP (w : World) (base : Nat) (T : TypeId) (A : Option Addr) (cap : Nat) (vs : List (Value × Value)) : Prop :=
  w.ownsRow base T 2 (.slice A vs.length cap) vs.length (flat2 vs)
theorem OwnP.none_ (w : World) (base : Nat) (T : TypeId) : OwnP w base T none 0 [] := World.ownsRow_nil w base _ _
theorem OwnP.keep {w w' : World} {base : Nat} {T : TypeId} {A : Option Addr} {cap : Nat} {vs : List (Value × Value)} (h : OwnP w base T A cap vs) (hk : ∀ a, A = some a → w'.heap[a.block]? = w.heap[a.block]?) : OwnP w' base T A cap vs := by
  refine ⟨h.1, ?_⟩
  rcases h.2 with e | ⟨g, c', cur, e, hb, hg, r⟩
  · exact .inl e
  · injection e with e1 e2 e3
    subst e1 e3
    exact .inr ⟨g, _, cur, rfl, hb, by rw [hk _ rfl]; exact hg, r⟩
theorem OwnP.lt {w : World} {base : Nat} {T : TypeId} {a : Addr} {cap : Nat} {vs : List (Value × Value)} (h : OwnP w base T (some a) cap vs) : base ≤ a.block ∧ a.block < w.heap.size :=
  World.ownsRow.lt h a.block (by simp [Value.ownBlock])
theorem OwnP.grew {w w' : World} {base B : Nat} {T : TypeId} {A : Option Addr} {cap : Nat} {vs : List (Value × Value)} (h : OwnP w base T A cap vs) (hb : Below B w w') (hB : w.heap.size ≤ B) : OwnP w' base T A cap vs :=
  h.keep fun a ha => by
    subst ha
    exact hb.block _ (by have := h.lt.2; omega)
theorem OwnP.shape {w : World} {base : Nat} {T : TypeId} {A : Option Addr} {cap : Nat} {vs : List (Value × Value)} (h : OwnP w base T A cap vs) (hn : 0 < vs.length) : ∃ g, A = some ⟨g, 0, none⟩ ∧ base ≤ g ∧ g < w.heap.size := by
  obtain ⟨g, c, e⟩ := Joins.ownsRow_form h hn
  injection e with e1 e2 e3
  subst e1 e3
  have hlt := OwnP.lt h
  exact ⟨g, rfl, hlt.1, hlt.2⟩
theorem OwnP.cell {w : World} {base g cap : Nat} {T : TypeId} {vs : List (Value × Value)} (h : OwnP w base T (some ⟨g, 0, none⟩) cap vs) (d : Value × Value) {i : Nat} (hi : i < vs.length) :
    w.cell? ⟨g, i * 2, none⟩ = some (vs.getD i d).1 ∧ w.cell? ⟨g, i * 2 + 1, none⟩ = some (vs.getD i d).2 := by
  obtain ⟨h1, h2⟩ := flat2_get vs d i hi
  rw [← h1, ← h2]
  exact ⟨World.ownsRow.cellAt h (i * 2) (by omega), World.ownsRow.cellAt h (i * 2 + 1) (by omega)⟩
/-- A row of bytes is no row of pairs. -/
theorem OwnP.apart {w : World} {base b2 : Nat} {T : TypeId} {a a2 : Addr} {cap cap2 : Nat} {vs : List (Value × Value)} {zs : List Int} (h : OwnP w base T (some a) cap vs) (k : OwnB w b2 (some a2) cap2 zs) (hT : T ≠ 5) : a2.block ≠ a.block := by
  intro e
  rcases h.2 with ⟨e1, _⟩ | ⟨g, c', cur, e1, _, hg, _⟩
  · cases e1
  · injection e1 with e1 _ _
    injection e1 with e1
    subst e1
    exact k.ne (g := g) hg hT e
theorem form_of2 {w : World} {base n : Nat} {T : TypeId} {v : Value} {xs : List Value} (h : w.ownsRow base T 2 v n xs) : ∃ A cap, v = .slice A n cap := by
  rcases h.2 with ⟨e, e0⟩ | ⟨g, c', _, e, _⟩
  · exact ⟨none, 0, by rw [e0]; exact e⟩
  · exact ⟨_, _, e⟩
/-- What an append of one pair leaves: the row with the pair behind it, all other blocks as they were. -/
theorem run_app2 {w : World} {base : Nat} {T ST : TypeId} {A : Option Addr} {cap : Nat} {vs : List (Value × Value)} {z x y : Value} {by_ : Nat} (hST : Tryd.prog.underlying ST = some (.slice T))
    (hI : (Tryd.prog.info? T).map (fun i => (i.zero, i.size, i.bytes)) = some (some z, 2, by_)) (hz : z.cells.size = 2) (hby : by_ ≤ 64)
    (h : OwnP w base T A cap vs) (hbase : base ≤ w.heap.size) {b2 : Nat} (hx : w.cell? ⟨b2, 0, none⟩ = some x) (hy : w.cell? ⟨b2, 1, none⟩ = some y) (hx1 : x.oneCell' = true) (hy1 : y.oneCell' = true) (c : Nat)
    (hlen : vs.length ≤ 1000000000) (ty : TypeId) :
    ∃ A' cap' w', (Builtin.append_ #[ST, ST] ty #[.slice A vs.length cap, .slice (some ⟨b2, 0, none⟩) 1 c]).run Tryd.prog w = .ok (.slice A' (vs ++ [(x, y)]).length cap') w' ∧
      OwnP w' base T A' cap' (vs ++ [(x, y)]) ∧ w.grownBy w' (Value.slice A vs.length cap).ownBlock := by
  obtain ⟨i, hi, hz0, hs, hyb⟩ := info_parts hI
  obtain ⟨v', w', hrun, hown, hg, _, _⟩ := run_append_own_at (P := Tryd.prog) (w := w) base ST ty T i z 2 by_ hST hi hz0 hs hyb hz (by decide)
    _ vs.length _ h ⟨b2, 0, none⟩ 1 c [x, y] rfl (fun j u hu => by
      rw [add_off, Nat.zero_add]
      match j, hu with
      | 0, hu => simp at hu; rw [← hu]; exact hx
      | 1, hu => simp at hu; rw [← hu]; exact hy
      | j + 2, hu => simp at hu) (fun u hu => by
      simp at hu
      rcases hu with rfl | rfl
      · exact hx1
      · exact hy1) (by unfold maxLen; omega) (by
      have h1 : (vs.length + 1) * by_ ≤ 1000000001 * 64 := Nat.mul_le_mul (by omega) hby
      omega) hbase
  obtain ⟨A', cap', rfl⟩ := form_of2 hown
  have e : vs.length + 1 = (vs ++ [(x, y)]).length := by simp
  rw [e] at hrun hown
  refine ⟨A', cap', w', hrun, ?_, hg⟩
  unfold OwnP
  rw [flat2_app]
  exact hown
theorem wp_app2 {w : World} {ops : Array Oper} {rest : List Oper} {o : Oper} {a : Act} {Q : Exit → Act → World → Prop} (hgd : o.guard = none) (s t : Operand) {T ST : TypeId}
    (ho : o.op = .call { callee := .builtin .append, args := #[s, t], argTypes := #[ST, ST] })
    {base : Nat} {A : Option Addr} {n cap : Nat} {vs : List (Value × Value)} {z x y : Value} {by_ : Nat} (hST : Tryd.prog.underlying ST = some (.slice T))
    (hI : (Tryd.prog.info? T).map (fun i => (i.zero, i.size, i.bytes)) = some (some z, 2, by_)) (hz : z.cells.size = 2) (hby : by_ ≤ 64)
    (hs : a.eval s = .slice A n cap) (hn : n = vs.length) (h : OwnP w base T A cap vs) (hbase : base ≤ w.heap.size)
    {b2 c : Nat} (ht : a.eval t = .slice (some ⟨b2, 0, none⟩) 1 c) (hx : w.cell? ⟨b2, 0, none⟩ = some x) (hy : w.cell? ⟨b2, 1, none⟩ = some y) (hx1 : x.oneCell' = true) (hy1 : y.oneCell' = true)
    (hlen : vs.length ≤ 1000000000)
    (K : ∀ A' cap' w', OwnP w' base T A' cap' (vs ++ [(x, y)]) → w.grownBy w' (Value.slice A vs.length cap).ownBlock → wpList Tryd.prog ops Q rest (a.put o.dst (.slice A' (vs ++ [(x, y)]).length cap')) w') :
    wpList Tryd.prog ops Q (o :: rest) a w := by
  subst hn
  obtain ⟨A', cap', w', hrun, h1, h2⟩ := run_app2 hST hI hz hby h hbase hx hy hx1 hy1 c hlen o.type
  refine wpList_plain hgd fun K' hK => ?_
  unfold Oper.wp
  simp [execOp, ho, resolve, invoke, builtin, hs, ht, hrun, Result.andThen]
  have hk := K A' cap' w' h1 h2
  rw [List.length_append, List.length_singleton] at hk
  exact hK _ _ hk
theorem grown_below {w w' : World} {base : Nat} {T : TypeId} {A : Option Addr} {cap n : Nat} {vs : List (Value × Value)} (h : OwnP w base T A cap vs) (hbase : base ≤ w.heap.size) (hg : w.grownBy w' (Value.slice A n cap).ownBlock) : Below base w w' :=
  (Below.refl _ _).grown hg hbase fun k hk => by
    cases A with
    | none => cases hk
    | some a => simp [Value.ownBlock] at hk; subst hk; exact h.lt.1
/-- A row of bytes is kept by an append to a row of pairs. -/
theorem OwnB.grown {w w' : World} {base b2 : Nat} {T : TypeId} {A A2 : Option Addr} {cap cap2 n : Nat} {vs : List (Value × Value)} {zs : List Int} (k : OwnB w b2 A2 cap2 zs) (h : OwnP w base T A cap vs) (hT : T ≠ 5) (hg : w.grownBy w' (Value.slice A n cap).ownBlock) : OwnB w' b2 A2 cap2 zs :=
  k.keep fun a ha => by
    subst ha
    refine hg.block _ (k.1.lt a.block (by simp [Value.ownBlock])).2 ?_
    cases A with
    | none => simp [Value.ownBlock]
    | some a1 => simp [Value.ownBlock]; exact h.apart k hT
end Go.Proofs.YtlaomaefhanacaaDoor
