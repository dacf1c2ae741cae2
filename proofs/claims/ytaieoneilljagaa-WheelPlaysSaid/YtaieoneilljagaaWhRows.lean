/-
  Rows of the program's timers, three ints each, appended to by a law.
-/
import Derived.Test.YtaieoneilljagaaWhRefTo
namespace Go.Proofs.Ytaieoneilljagaa
open Go.RowKit
theorem due_infoX : (Try.prog.info? 56).map (fun i => (i.zero, i.size, i.bytes)) = some (some (.agg #[.int .i64 0, .int .i64 0, .int .i64 0]), 3, 24) := by kernel_rfl
theorem form_ofX {w : World} {base n : Nat} {v : Value} {xs : List Value} (h : w.ownsRow base 56 3 v n xs) : ∃ A cap, v = .slice A n cap := by
  rcases h.2 with ⟨e, e0⟩ | ⟨g, c', _, e, _⟩
  · exact ⟨none, 0, by rw [e0]; exact e⟩
  · exact ⟨_, _, e⟩
/-- Timers that a law keeps in a row of its own, since base. -/
def OwnX (w : World) (base : Nat) (A : Option Addr) (n cap : Nat) (l : List Wh.T) : Prop := w.ownsRow base 56 3 (.slice A n cap) n (flatW l)
theorem OwnX.nil_ (w : World) (base : Nat) : OwnX w base none 0 0 [] := World.ownsRow_nil _ _ _ _
theorem OwnX.len {w : World} {base n cap : Nat} {A : Option Addr} {l : List Wh.T} (h : OwnX w base A n cap l) : l.length = n := by
  have := h.1
  rw [flatW_len] at this
  omega
theorem OwnX.lt {w : World} {base n cap : Nat} {A : Option Addr} {l : List Wh.T} (h : OwnX w base A n cap l) {a : Addr} (ha : A = some a) : base ≤ a.block ∧ a.block < w.heap.size := by
  subst ha
  exact World.ownsRow.lt h a.block (by simp [Value.ownBlock])
theorem OwnX.keep {w w' : World} {base n cap : Nat} {A : Option Addr} {l : List Wh.T} (h : OwnX w base A n cap l) (hk : ∀ a, A = some a → w'.heap[a.block]? = w.heap[a.block]?) : OwnX w' base A n cap l := ownsRow_keep h hk
theorem OwnX.on {w w' : World} {base n cap : Nat} {A : Option Addr} {l : List Wh.T} (h : OwnX w base A n cap l) (hb : Below w.heap.size w w') : OwnX w' base A n cap l := h.keep fun _ ha => hb.block _ (h.lt ha).2
theorem OwnX.down {w : World} {base base' n cap : Nat} {A : Option Addr} {l : List Wh.T} (h : OwnX w base A n cap l) (hb : base' ≤ base) : OwnX w base' A n cap l := by
  refine ⟨h.1, ?_⟩
  rcases h.2 with h1 | ⟨g, c', cur, e, hge, r⟩
  · exact .inl h1
  · exact .inr ⟨g, c', cur, e, Nat.le_trans hb hge, r⟩
theorem OwnX.cells {w : World} {base n cap : Nat} {A : Option Addr} {l : List Wh.T} (h : OwnX w base A n cap l) (hok : ∀ a ∈ l, a.ok) : Dues w (fun b => base ≤ b) A l := by
  refine ⟨hok, fun hl => ?_⟩
  have hn := h.len
  obtain ⟨g, c, e⟩ := Joins.ownsRow_form h (by omega)
  injection e with e1 e2 e3
  subst e1 e3
  have hlt := h.lt rfl
  have at_ : ∀ j u, (flatW l)[j]? = some u → w.cell? ⟨g, 0 + j, none⟩ = some u := fun j u hu => by
    have hj : j < (flatW l).length := (List.getElem?_eq_some_iff.1 hu).1
    have h1 := h.1
    rw [Nat.zero_add, ← hu]
    exact World.ownsRow.cellAt h j (by omega)
  exact ⟨g, 0, rfl, hlt.1, hlt.2, fun i hi => ⟨at_ _ _ (flatW_at l i hi).1, at_ _ _ (flatW_at l i hi).2.1, at_ _ _ (flatW_at l i hi).2.2⟩⟩
set_option maxRecDepth 20000 in
/-- One timer is appended to such a row. -/
theorem run_appX {w : World} {base : Nat} {A : Option Addr} {n cap : Nat} {l : List Wh.T} (h : OwnX w base A n cap l) (hbase : base ≤ w.heap.size)
    {b : Nat} {a : Wh.T} (h0 : w.cell? ⟨b, 0, none⟩ = some (.int .i64 a.run)) (h1 : w.cell? ⟨b, 1, none⟩ = some (.int .i64 a.task)) (h2 : w.cell? ⟨b, 2, none⟩ = some (.int .i64 a.at_)) (c : Nat) (hlen : n ≤ 1000000) (ty : TypeId) :
    ∃ A' cap' w', (Builtin.append_ #[33, 33] ty #[.slice A n cap, .slice (some ⟨b, 0, none⟩) 1 c]).run Try.prog w = .ok (.slice A' (n + 1) cap') w' ∧
      OwnX w' base A' (n + 1) cap' (l ++ [a]) ∧ Below base w w' := by
  obtain ⟨i, hi, hz0, hs, hyb⟩ := info_parts due_infoX
  obtain ⟨v', w', hrun, hown, hg, _, _⟩ := run_append_own_at (P := Try.prog) (w := w) base 33 ty 56 i _ 3 24 Try.underlying33 hi hz0 hs hyb rfl (by decide)
    _ n _ h ⟨b, 0, none⟩ 1 c (flatW [a]) rfl (fun j u hu => by
      rw [add_off]
      match j, hu with
      | 0, hu => simp [flatW] at hu; subst hu; exact h0
      | 1, hu => simp [flatW] at hu; subst hu; exact h1
      | 2, hu => simp [flatW] at hu; subst hu; exact h2
      | j + 3, hu => simp [flatW] at hu) (flatW_one _) (by unfold maxLen; omega) (by omega) hbase
  obtain ⟨A', cap', rfl⟩ := form_ofX hown
  refine ⟨A', cap', w', hrun, ?_, (Below.refl _ _).grown hg hbase fun k hk => ?_⟩
  · unfold OwnX
    rw [flatW_app]
    exact hown
  · cases A with
    | none => cases hk
    | some a => exact (World.ownsRow.lt h k hk).1
set_option maxRecDepth 20000 in
theorem wp_appX {w : World} {ops : Array Oper} {rest : List Oper} {o : Oper} {a : Act} {Q : Exit → Act → World → Prop} (hgd : o.guard = none) (s x : Operand)
    (ho : o.op = .call { callee := .builtin .append, args := #[s, x], argTypes := #[33, 33] })
    {base : Nat} {A : Option Addr} {n cap : Nat} {l : List Wh.T} (hs : a.eval s = .slice A n cap) (h : OwnX w base A n cap l) (hbase : base ≤ w.heap.size)
    {b : Nat} {t : Wh.T} {c : Nat} (hx : a.eval x = .slice (some ⟨b, 0, none⟩) 1 c) (h0 : w.cell? ⟨b, 0, none⟩ = some (.int .i64 t.run)) (h1 : w.cell? ⟨b, 1, none⟩ = some (.int .i64 t.task)) (h2 : w.cell? ⟨b, 2, none⟩ = some (.int .i64 t.at_)) (hlen : n ≤ 1000000)
    (K : ∀ A' cap' w', OwnX w' base A' (n + 1) cap' (l ++ [t]) → Below base w w' → wpList Try.prog ops Q rest (a.put o.dst (.slice A' (n + 1) cap')) w') :
    wpList Try.prog ops Q (o :: rest) a w := by
  obtain ⟨A', cap', w', hrun, h2, h3⟩ := run_appX h hbase h0 h1 h2 c hlen o.type
  refine wpList_plain hgd fun K' hK => ?_
  unfold Oper.wp
  simp [execOp, ho, resolve, invoke, builtin, hs, hx, hrun, Result.andThen]
  exact hK _ _ (K A' cap' w' h2 h3)
end Go.Proofs.Ytaieoneilljagaa
