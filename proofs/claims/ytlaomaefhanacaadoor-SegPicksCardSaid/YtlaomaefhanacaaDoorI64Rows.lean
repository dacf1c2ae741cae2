/-
  Rows of int64 numbers of the call's own.
-/
import Derived.Test.YtlaomaefhanacaaDoorBytesKit
namespace Go.Proofs.YtlaomaefhanacaaDoor
open Go.RowKit
def OwnL (w : World) (base : Nat) (A : Option Addr) (cap : Nat) (zs : List Int) : Prop :=
  w.ownsRow base 2 1 (.slice A zs.length cap) zs.length (zs.map (Value.int .i64))
theorem OwnL.none_ (w : World) (base : Nat) : OwnL w base none 0 [] := World.ownsRow_nil w base _ _
theorem OwnL.lt {w : World} {base : Nat} {a : Addr} {cap : Nat} {zs : List Int} (h : OwnL w base (some a) cap zs) : base ≤ a.block ∧ a.block < w.heap.size :=
  World.ownsRow.lt h a.block (by simp [Value.ownBlock])
theorem OwnL.keep {w w' : World} {base : Nat} {A : Option Addr} {cap : Nat} {zs : List Int} (h : OwnL w base A cap zs) (hk : ∀ a, A = some a → w'.heap[a.block]? = w.heap[a.block]?) : OwnL w' base A cap zs := by
  refine ⟨h.1, ?_⟩
  rcases h.2 with e | ⟨g, c', cur, e, hb, hg, r⟩
  · exact .inl e
  · injection e with e1 e2 e3
    subst e1 e3
    exact .inr ⟨g, _, cur, rfl, hb, by rw [hk _ rfl]; exact hg, r⟩
theorem OwnL.grew {w w' : World} {base B : Nat} {A : Option Addr} {cap : Nat} {zs : List Int} (h : OwnL w base A cap zs) (hb : Below B w w') (hB : w.heap.size ≤ B) : OwnL w' base A cap zs :=
  h.keep fun a ha => by
    subst ha
    exact hb.block _ (by have := h.lt.2; omega)
theorem OwnL.cell {w : World} {base : Nat} {A : Option Addr} {cap : Nat} {zs : List Int} (h : OwnL w base A cap zs) {i : Nat} (hi : i < zs.length) :
    ∃ g, A = some ⟨g, 0, none⟩ ∧ Hid (g < w.heap.size) ∧ w.cell? ⟨g, i, none⟩ = some (.int .i64 (zs.getD i 0)) := by
  obtain ⟨g, c, e⟩ := Joins.ownsRow_form h (by omega)
  injection e with e1 e2 e3
  subst e1 e3
  refine ⟨g, rfl, Lib.hid (OwnL.lt h).2, ?_⟩
  rw [World.ownsRow.cellAt h i (by omega), List.getElem?_map, List.getD_eq_getElem?_getD, List.getElem?_eq_getElem hi]
  rfl
/-- A row of bytes is no row of numbers. -/
theorem OwnL.apart {w : World} {base b2 : Nat} {a a2 : Addr} {cap cap2 : Nat} {ns zs : List Int} (h : OwnL w base (some a) cap ns) (k : OwnB w b2 (some a2) cap2 zs) : a2.block ≠ a.block := by
  intro e
  rcases h.2 with ⟨e1, _⟩ | ⟨g, c', cur, e1, _, hg, _⟩
  · cases e1
  · injection e1 with e1 _ _
    injection e1 with e1
    subst e1
    exact k.ne (g := g) hg (by decide) e
theorem OwnB.grownL {w w' : World} {base b2 : Nat} {A A2 : Option Addr} {cap cap2 n : Nat} {ns zs : List Int} (k : OwnB w b2 A2 cap2 zs) (h : OwnL w base A cap ns) (hg : w.grownBy w' (Value.slice A n cap).ownBlock) : OwnB w' b2 A2 cap2 zs :=
  k.keep fun a ha => by
    subst ha
    refine hg.block _ (k.1.lt a.block (by simp [Value.ownBlock])).2 ?_
    cases A with
    | none => simp [Value.ownBlock]
    | some a1 => simp [Value.ownBlock]; exact h.apart k
theorem grownL_below {w w' : World} {base : Nat} {A : Option Addr} {cap n : Nat} {zs : List Int} (h : OwnL w base A cap zs) (hbase : base ≤ w.heap.size) (hg : w.grownBy w' (Value.slice A n cap).ownBlock) : Below base w w' :=
  (Below.refl _ _).grown hg hbase fun k hk => by
    cases A with
    | none => cases hk
    | some a => simp [Value.ownBlock] at hk; subst hk; exact h.lt.1
theorem int64_info : (Tryd.prog.info? 2).map (fun i => (i.zero, i.size, i.bytes)) = some (some (.int .i64 0), 1, 8) := by kernel_rfl
theorem form_ofL {w : World} {base n : Nat} {v : Value} {xs : List Value} (h : w.ownsRow base 2 1 v n xs) : ∃ A cap, v = .slice A n cap := by
  rcases h.2 with ⟨e, e0⟩ | ⟨g, c', _, e, _⟩
  · exact ⟨none, 0, by rw [e0]; exact e⟩
  · exact ⟨_, _, e⟩
theorem run_appL {w : World} {base : Nat} {A : Option Addr} {cap : Nat} {zs : List Int} {x : Int} (h : OwnL w base A cap zs) (hbase : base ≤ w.heap.size) {b2 : Nat} (hx : w.cell? ⟨b2, 0, none⟩ = some (.int .i64 x)) (c : Nat) (hlen : zs.length ≤ 1000000000) (ty : TypeId) :
    ∃ A' cap' w', (Builtin.append_ #[38, 38] ty #[.slice A zs.length cap, .slice (some ⟨b2, 0, none⟩) 1 c]).run Tryd.prog w = .ok (.slice A' (zs ++ [x]).length cap') w' ∧
      OwnL w' base A' cap' (zs ++ [x]) ∧ w.grownBy w' (Value.slice A zs.length cap).ownBlock := by
  obtain ⟨i, hi, hz0, hs, hyb⟩ := info_parts int64_info
  obtain ⟨v', w', hrun, hown, hg, _, _⟩ := run_append_own_at (P := Tryd.prog) (w := w) base 38 ty 2 i _ 1 8 Tryd.underlying38 hi hz0 hs hyb rfl (by decide)
    _ zs.length _ h ⟨b2, 0, none⟩ 1 c [.int .i64 x] rfl (fun j u hu => by
      rw [add_off, Nat.zero_add]
      match j, hu with
      | 0, hu => simp at hu; rw [← hu]; exact hx
      | j + 1, hu => simp at hu) (fun u hu => by simp at hu; subst hu; rfl) (by unfold maxLen; omega) (by omega) hbase
  obtain ⟨A', cap', rfl⟩ := form_ofL hown
  have e : zs.length + 1 = (zs ++ [x]).length := by simp
  rw [e] at hrun hown
  refine ⟨A', cap', w', hrun, ?_, hg⟩
  unfold OwnL
  rw [List.map_append]
  exact hown
theorem wp_appL {w : World} {ops : Array Oper} {rest : List Oper} {o : Oper} {a : Act} {Q : Exit → Act → World → Prop} (hgd : o.guard = none) (s t : Operand)
    (ho : o.op = .call { callee := .builtin .append, args := #[s, t], argTypes := #[38, 38] })
    {base : Nat} {A : Option Addr} {n cap : Nat} {zs : List Int} {x : Int} (hs : a.eval s = .slice A n cap) (hn : n = zs.length) (h : OwnL w base A cap zs) (hbase : base ≤ w.heap.size)
    {b2 c : Nat} (ht : a.eval t = .slice (some ⟨b2, 0, none⟩) 1 c) (hx : w.cell? ⟨b2, 0, none⟩ = some (.int .i64 x)) (hlen : zs.length ≤ 1000000000)
    (K : ∀ A' cap' w', OwnL w' base A' cap' (zs ++ [x]) → w.grownBy w' (Value.slice A zs.length cap).ownBlock → wpList Tryd.prog ops Q rest (a.put o.dst (.slice A' (zs ++ [x]).length cap')) w') :
    wpList Tryd.prog ops Q (o :: rest) a w := by
  subst hn
  obtain ⟨A', cap', w', hrun, h1, h2⟩ := run_appL h hbase hx c hlen o.type
  refine wpList_plain hgd fun K' hK => ?_
  unfold Oper.wp
  simp [execOp, ho, resolve, invoke, builtin, hs, ht, hrun, Result.andThen]
  have hk := K A' cap' w' h1 h2
  rw [List.length_append, List.length_singleton] at hk
  exact hK _ _ hk

end Go.Proofs.YtlaomaefhanacaaDoor
