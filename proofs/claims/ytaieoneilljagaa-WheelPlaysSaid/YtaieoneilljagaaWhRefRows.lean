/-
  Rows of timers of the reference, three ints each: cut, appended to.
-/
import Derived.Test.YtaieoneilljagaaWhRef
namespace Go.Proofs.Ytaieoneilljagaa
open Go.RowKit

theorem due_info : (Try.prog.info? 39).map (fun i => (i.zero, i.size, i.bytes)) = some (some (.agg #[.int .i64 0, .int .i64 0, .int .i64 0]), 3, 24) := by kernel_rfl
/-! ### A row cut -/
def tailW (A : Option Addr) (cap k : Nat) : Option Addr := if cap = k then A else A.map (·.add (k * 3))
theorem sizeW (W : World) : (sizeOf 39).run Try.prog W = .ok 3 W := by kernel_rfl
theorem elemW : Try.prog.elem 40 = 39 := by kernel_rfl
theorem undW : Try.prog.underlying 40 = some (.slice (Try.prog.elem 40)) := by rw [elemW]; exact Try.underlying40
theorem slice_toW (A : Option Addr) (n cap k : Nat) (h : k ≤ cap) (ik : IntKind) (W : World) :
    (Instr.slice 40 (.slice A n cap) none (some (.int ik (k : Int))) none).run Try.prog W = .ok (.slice A k cap) W := by
  rw [run_slice_h (P := Try.prog) (w := W) 40 A n cap undW ik k (by omega) (by omega), elemW, sizeW]
  simp [Result.andThen, sliced]
  intro _
  cases A <;> simp [Addr.add]
theorem slice_fromW (A : Option Addr) (n cap k : Nat) (h : k ≤ n) (ik : IntKind) (W : World) :
    (Instr.slice 40 (.slice A n cap) (some (.int ik (k : Int))) none none).run Try.prog W = .ok (.slice (tailW A cap k) (n - k) (cap - k)) W := by
  rw [run_slice_l (P := Try.prog) (w := W) 40 A n cap undW ik k (by omega) (by omega), elemW, sizeW]
  simp [Result.andThen, sliced, tailW]
/-! ### What is read of it -/
def SrcW (w : World) (B : Nat) (A : Option Addr) (ys : List Value) : Prop := ys = [] ∨ ∃ b off, A = some ⟨b, off, none⟩ ∧ b < B ∧ ∀ j u, ys[j]? = some u → w.cell? ⟨b, off + j, none⟩ = some u
theorem SrcW.below {w w' : World} {B : Nat} {A : Option Addr} {ys : List Value} (h : SrcW w B A ys) (hb : Below B w w') : SrcW w' B A ys := by
  rcases h with h | ⟨b, off, e, hlt, hc⟩
  · exact .inl h
  · exact .inr ⟨b, off, e, hlt, fun j u hu => (hb.cell (p := ⟨b, off + j, none⟩) hlt).trans (hc j u hu)⟩
theorem SrcW.of {w : World} {A : Option Addr} {n cap : Nat} {xs : List Value} {base : Nat} (h : w.ownsRow base 39 3 (.slice A n cap) n xs) : SrcW w w.heap.size A xs := by
  rcases Nat.eq_zero_or_pos n with h0 | h0
  · left
    have := h.1
    rw [h0] at this
    exact List.eq_nil_of_length_eq_zero (by omega)
  · obtain ⟨g, c, e⟩ := Joins.ownsRow_form h h0
    injection e with e1 e2 e3
    subst e1 e3
    refine .inr ⟨g, 0, rfl, (World.ownsRow.lt h g (by simp [Value.ownBlock])).2, fun j u hu => ?_⟩
    have hj : j < xs.length := (List.getElem?_eq_some_iff.1 hu).1
    have h1 := h.1
    rw [Nat.zero_add, ← hu]
    exact World.ownsRow.cellAt h j (by omega)
theorem SrcW.head {w : World} {B : Nat} {A : Option Addr} {xs : List Value} (h : SrcW w B A xs) (k : Nat) : SrcW w B A (xs.take k) := by
  rcases h with h | ⟨b, off, e, hlt, hc⟩
  · left; rw [h]; simp
  · refine .inr ⟨b, off, e, hlt, fun j u hu => hc j u ?_⟩
    rw [List.getElem?_take] at hu
    split at hu
    · exact hu
    · cases hu
theorem SrcW.tail {w : World} {B : Nat} {A : Option Addr} {xs : List Value} (h : SrcW w B A xs) (k cap : Nat) (hc : xs.length ≤ cap * 3) : SrcW w B (tailW A cap k) (xs.drop (k * 3)) := by
  rcases h with h | ⟨b, off, e, hlt, hcl⟩
  · left; rw [h]; simp
  · unfold tailW
    split
    · next he => left; exact List.drop_eq_nil_of_le (by omega)
    · refine .inr ⟨b, off + k * 3, by rw [e]; simp [Addr.add], hlt, fun j u hu => ?_⟩
      rw [List.getElem?_drop] at hu
      rw [Nat.add_assoc]
      exact hcl _ _ hu
def flatW : List Wh.T → List Value
  | [] => []
  | a :: l => .int .i64 a.run :: .int .i64 a.task :: .int .i64 a.at_ :: flatW l
theorem flatW_cons (a : Wh.T) (l : List Wh.T) : flatW (a :: l) = .int .i64 a.run :: .int .i64 a.task :: .int .i64 a.at_ :: flatW l := rfl
theorem flatW_len : ∀ l : List Wh.T, (flatW l).length = l.length * 3
  | [] => rfl
  | a :: l => by rw [flatW_cons, List.length_cons, List.length_cons, List.length_cons, flatW_len l, List.length_cons]; omega
theorem flatW_app : ∀ l m : List Wh.T, flatW (l ++ m) = flatW l ++ flatW m
  | [], m => rfl
  | a :: l, m => by rw [List.cons_append, flatW_cons, flatW_app l m, flatW_cons]; rfl
theorem flatW_take : ∀ (l : List Wh.T) (k : Nat), (flatW l).take (k * 3) = flatW (l.take k)
  | [], k => by simp [flatW]
  | f :: l, 0 => by simp [flatW]
  | f :: l, k + 1 => by rw [flatW_cons, show (k + 1) * 3 = k * 3 + 1 + 1 + 1 by omega, List.take_succ_cons, List.take_succ_cons, List.take_succ_cons, flatW_take l k, List.take_succ_cons, flatW_cons]
theorem flatW_drop : ∀ (l : List Wh.T) (k : Nat), (flatW l).drop (k * 3) = flatW (l.drop k)
  | [], k => by simp [flatW]
  | f :: l, 0 => by simp [flatW]
  | f :: l, k + 1 => by rw [flatW_cons, show (k + 1) * 3 = k * 3 + 1 + 1 + 1 by omega, List.drop_succ_cons, List.drop_succ_cons, List.drop_succ_cons, flatW_drop l k, List.drop_succ_cons]
theorem flatW_one : ∀ (l : List Wh.T), ∀ u ∈ flatW l, u.oneCell' = true
  | [], u, h => by simp [flatW] at h
  | f :: l, u, h => by
    rw [flatW_cons] at h
    simp only [List.mem_cons] at h
    rcases h with rfl | rfl | rfl | h
    · rfl
    · rfl
    · rfl
    · exact flatW_one l u h
theorem flatW_at : ∀ (l : List Wh.T) (i : Nat) (hi : i < l.length), (flatW l)[i * 3]? = some (.int .i64 l[i].run) ∧ (flatW l)[i * 3 + 1]? = some (.int .i64 l[i].task) ∧ (flatW l)[i * 3 + 2]? = some (.int .i64 l[i].at_)
  | a :: l, 0, _ => ⟨rfl, rfl, rfl⟩
  | a :: l, i + 1, h => by
    have := flatW_at l i (by simpa using h)
    rw [show (i + 1) * 3 = i * 3 + 3 by omega]
    exact this
/-! ### Appended to -/
theorem form_ofW {w : World} {base n : Nat} {v : Value} {xs : List Value} (h : w.ownsRow base 39 3 v n xs) : ∃ A cap, v = .slice A n cap := by
  rcases h.2 with ⟨e, e0⟩ | ⟨g, c', _, e, _⟩
  · exact ⟨none, 0, by rw [e0]; exact e⟩
  · exact ⟨_, _, e⟩
set_option maxRecDepth 20000 in
theorem nil_srcW {w : World} {base n : Nat} {A : Option Addr} {cap : Nat} {xs : List Value} (h : w.ownsRow base 39 3 (.slice A n cap) n xs) (c : Nat) (ty : TypeId) :
    (Builtin.append_ #[40, 40] ty #[.slice A n cap, .slice none 0 c]).run Try.prog w = .ok (.slice A n cap) w := by
  obtain ⟨i, hi, _, hs, _⟩ := info_parts due_info
  have hfit := h.2
  rcases hfit with ⟨e, _⟩ | ⟨g, c', cur, e, _, _, hle, _⟩
  · rw [e]
    simp [Builtin.append_, run_underlying Try.underlying40, sizeOf, typeInfo, hi, Builtin.lenOf, Builtin.firstCells]
  · rw [e]
    simp [Builtin.append_, run_underlying Try.underlying40, sizeOf, typeInfo, hi, Builtin.lenOf, Builtin.firstCells, hle, storeCells]
set_option maxRecDepth 20000 in
theorem run_appW {w : World} {base : Nat} {A : Option Addr} {n cap : Nat} {xs : List Value} (h : w.ownsRow base 39 3 (.slice A n cap) n xs) (hbase : base ≤ w.heap.size)
    {B : Nat} {A2 : Option Addr} {m : Nat} {ys : List Value} (hx : SrcW w B A2 ys) (hm : ys.length = m * 3) (h1 : ∀ u ∈ ys, u.oneCell' = true) (c : Nat) (hlen : n + m ≤ 2000000) (ty : TypeId) :
    ∃ A' cap' w', (Builtin.append_ #[40, 40] ty #[.slice A n cap, .slice A2 m c]).run Try.prog w = .ok (.slice A' (n + m) cap') w' ∧
      w'.ownsRow base 39 3 (.slice A' (n + m) cap') (n + m) (xs ++ ys) ∧ Below base w w' ∧ w.grownBy w' (Value.slice A n cap).ownBlock := by
  obtain ⟨i, hi, hz0, hs, hyb⟩ := info_parts due_info
  rcases A2 with _ | ad
  · have h0 : ys = [] := by
      rcases hx with h0 | ⟨_, _, e, _⟩
      · exact h0
      · cases e
    subst h0
    obtain rfl : m = 0 := by simp at hm; omega
    exact ⟨A, cap, w, nil_srcW h c ty, by rw [List.append_nil]; exact h, Below.refl _ _, ⟨rfl, rfl, rfl, Nat.le_refl _, fun _ _ _ => rfl⟩⟩
  · have hnews : ∀ j u, ys[j]? = some u → w.cell? (ad.add j) = some u := fun j u hu => by
      rcases hx with h0 | ⟨b, off, e, _, hc⟩
      · rw [h0] at hu; cases hu
      · injection e with e
        subst e
        rw [add_off]; exact hc j u hu
    obtain ⟨v', w', hrun, hown, hg, _, _⟩ := run_append_own_at (P := Try.prog) (w := w) base 40 ty 39 i _ 3 24 Try.underlying40 hi hz0 hs hyb rfl (by decide)
      _ n _ h ad m c ys hm hnews h1 (by unfold maxLen; omega) (by omega) hbase
    obtain ⟨A', cap', rfl⟩ := form_ofW hown
    refine ⟨A', cap', w', hrun, hown, (Below.refl _ _).grown hg hbase fun k hk => ?_, hg⟩
    cases A with
    | none => cases hk
    | some a => exact (World.ownsRow.lt h k hk).1
set_option maxRecDepth 20000 in
theorem step_appW {w : World} {ops : Array Oper} {o : Oper} {a : Act} {K : Act → World → Prop} {Q : Exit → Act → World → Prop} {E : Prop} (hgd : o.guard = none) (s x : Operand)
    (ho : o.op = .call { callee := .builtin .append, args := #[s, x], argTypes := #[40, 40] })
    {base : Nat} {A : Option Addr} {n cap : Nat} {xs : List Value} (hs : a.eval s = .slice A n cap) (h : w.ownsRow base 39 3 (.slice A n cap) n xs) (hbase : base ≤ w.heap.size)
    {B : Nat} {A2 : Option Addr} {m c : Nat} {ys : List Value} (hx : a.eval x = .slice A2 m c) (hb : SrcW w B A2 ys) (hm : ys.length = m * 3) (h1 : ∀ u ∈ ys, u.oneCell' = true) (hlen : n + m ≤ 2000000) {r : Nat} (hr : n + m = r)
    (H : ∀ A' cap' w', w'.ownsRow base 39 3 (.slice A' r cap') r (xs ++ ys) → Below base w w' → w.grownBy w' (Value.slice A n cap).ownBlock → K (a.put o.dst (.slice A' r cap')) w') :
    if Region.wanted o (yielded ops a.tmps) = true then Oper.wp Try.prog o a w K Q else E := by
  subst hr
  have hw : Region.wanted o (yielded ops a.tmps) = true := by simp [Region.wanted, hgd]
  rw [if_pos hw]
  obtain ⟨A', cap', w', hrun, h2, h3, h4⟩ := run_appW h hbase hb hm h1 c hlen o.type
  unfold Oper.wp
  simp [execOp, ho, resolve, invoke, builtin, hs, hx, hrun, Result.andThen]
  exact H A' cap' w' h2 h3 h4
theorem startW (w : World) : (w.alloc (.cells #[] 39)).ownsRow w.heap.size 39 3 (.slice (some ⟨w.heap.size, 0, none⟩) 0 0) 0 [] := World.ownsRow_lit w #[] 0 (Nat.le_refl _) (by decide) rfl
theorem ownsRow_capW {w : World} {base n size cap : Nat} {e : TypeId} {A : Option Addr} {xs : List Value} (h : w.ownsRow base e size (.slice A n cap) n xs) : n ≤ cap := by
  rcases h.2 with ⟨e, h0⟩ | ⟨g, c', cur, e, _, _, hle, _⟩
  · omega
  · injection e with _ _ e3
    omega
/-- A row of the call's own that holds timers, read as Dues. -/
theorem Dues.row {w : World} {base n cap : Nat} {A : Option Addr} {l : List Wh.T} (h : w.ownsRow base 39 3 (.slice A n cap) n (flatW l)) (hok : ∀ a ∈ l, a.ok) {O : Nat → Prop} (hO : ∀ a, A = some a → O a.block) : Dues w O A l := by
  refine ⟨hok, fun hl => ?_⟩
  have hn : l.length = n := by have := h.1; rw [flatW_len] at this; omega
  rcases SrcW.of h with e | ⟨b, off, e, hb, hc⟩
  · have := flatW_len l; rw [e] at this; simp at this; omega
  · exact ⟨b, off, e, hO _ e, hb, fun i hi => ⟨hc _ _ (flatW_at l i hi).1, hc _ _ (flatW_at l i hi).2.1, hc _ _ (flatW_at l i hi).2.2⟩⟩
/-- Dues as a source of an append. -/
theorem Dues.src {w : World} {O : Nat → Prop} {A : Option Addr} {l : List Wh.T} (h : Dues w O A l) : SrcW w w.heap.size A (flatW l) := by
  rcases Nat.eq_zero_or_pos l.length with h0 | h0
  · left; rw [List.eq_nil_of_length_eq_zero h0]; rfl
  · obtain ⟨b, off, e, _, hb, hc⟩ := h.2 h0
    refine .inr ⟨b, off, e, hb, fun j u hu => ?_⟩
    have hj : j < (flatW l).length := (List.getElem?_eq_some_iff.1 hu).1
    rw [flatW_len] at hj
    obtain ⟨q, hq, hm⟩ : ∃ q, q < l.length ∧ (j = q * 3 ∨ j = q * 3 + 1 ∨ j = q * 3 + 2) := ⟨j / 3, by omega, by omega⟩
    obtain ⟨a0, a1, a2⟩ := flatW_at l q hq
    obtain ⟨b0, b1, b2⟩ := hc q hq
    rcases hm with rfl | rfl | rfl
    · rw [a0] at hu; injection hu with hu; rw [← hu]; exact b0
    · rw [a1] at hu; injection hu with hu; rw [← hu, ← Nat.add_assoc]; exact b1
    · rw [a2] at hu; injection hu with hu; rw [← hu, ← Nat.add_assoc]; exact b2
end Go.Proofs.Ytaieoneilljagaa
