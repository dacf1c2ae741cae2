/-
  An append of structs onto a row of the call's own, as a step of a region that draws its order. The element's type is open; no function is named here.
-/
import Derived.Test.YteppokokabgniaaKRows
import Derived.Deep.RegionHeld3
namespace Go.Proofs.Yteppokokabgniaa
open Go.RowKit
theorem step_appK {w : World} {ops : Array Oper} {o : Oper} {a : Act} {K : Act → World → Prop} {Q : Exit → Act → World → Prop} {E : Prop} (hgd : o.guard = none) (s t : Operand) {T ST : TypeId}
    (ho : o.op = .call { callee := .builtin .append, args := #[s, t], argTypes := #[ST, ST] })
    {base k : Nat} {A : Option Addr} {n cap : Nat} {vs us : List (List Value)} {z : Value} {by_ : Nat} (hST : Try.prog.underlying ST = some (.slice T))
    (hI : (Try.prog.info? T).map (fun i => (i.zero, i.size, i.bytes)) = some (some z, k, by_)) (hz : z.cells.size = k) (hk : 0 < k) (hby : by_ ≤ 128)
    (hs : a.eval s = .slice A n cap) (hn : n = vs.length) (h : OwnK w base T k A cap vs) (hbase : base ≤ w.heap.size)
    {b2 o2 m c : Nat} (ht : a.eval t = .slice (some ⟨b2, o2, none⟩) m c) (hm : m = us.length) (hw : Wide k us) (hx : ∀ j u, us.flatten[j]? = some u → w.cell? ⟨b2, o2 + j, none⟩ = some u)
    (hlen : vs.length + us.length ≤ 1000000000) {r : Nat} (hr : vs.length + us.length = r)
    (H : ∀ A' cap' w', OwnK w' base T k A' cap' (vs ++ us) → w.grownBy w' (Value.slice A vs.length cap).ownBlock → (∀ a, A' = some a → (∃ a0, A = some a0 ∧ a.block = a0.block) ∨ a.block = w.heap.size) → K (a.put o.dst (.slice A' r cap')) w') :
    if Region.wanted o (yielded ops a.tmps) = true then Oper.wp Try.prog o a w K Q else E := by
  have hw' : Region.wanted o (yielded ops a.tmps) = true := by simp [Region.wanted, hgd]
  rw [if_pos hw']
  subst hn hm hr
  obtain ⟨A', cap', w', hrun, h1, h2, h3⟩ := run_appK hST hI hz hk hby h hbase hw hx c hlen o.type
  unfold Oper.wp
  simp [execOp, ho, resolve, invoke, builtin, hs, ht, hrun, Result.andThen]
  have hk := H A' cap' w' h1 h2 h3
  exact hk
theorem step_appK' {w : World} {o : Oper} {a : Act} {K : Act → World → Prop} {Q : Exit → Act → World → Prop} (s t : Operand) {T ST : TypeId}
    (ho : o.op = .call { callee := .builtin .append, args := #[s, t], argTypes := #[ST, ST] })
    {base k : Nat} {A : Option Addr} {n cap : Nat} {vs us : List (List Value)} {z : Value} {by_ : Nat} (hST : Try.prog.underlying ST = some (.slice T))
    (hI : (Try.prog.info? T).map (fun i => (i.zero, i.size, i.bytes)) = some (some z, k, by_)) (hz : z.cells.size = k) (hk : 0 < k) (hby : by_ ≤ 128)
    (hs : a.eval s = .slice A n cap) (hn : n = vs.length) (h : OwnK w base T k A cap vs) (hbase : base ≤ w.heap.size)
    {b2 o2 m c : Nat} (ht : a.eval t = .slice (some ⟨b2, o2, none⟩) m c) (hm : m = us.length) (hw : Wide k us) (hx : ∀ j u, us.flatten[j]? = some u → w.cell? ⟨b2, o2 + j, none⟩ = some u)
    (hlen : vs.length + us.length ≤ 1000000000) {r : Nat} (hr : vs.length + us.length = r)
    (H : ∀ A' cap' w', OwnK w' base T k A' cap' (vs ++ us) → w.grownBy w' (Value.slice A vs.length cap).ownBlock → (∀ a, A' = some a → (∃ a0, A = some a0 ∧ a.block = a0.block) ∨ a.block = w.heap.size) → K (a.put o.dst (.slice A' r cap')) w') :
    Oper.wp Try.prog o a w K Q := by
  subst hn hm hr
  obtain ⟨A', cap', w', hrun, h1, h2, h3⟩ := run_appK hST hI hz hk hby h hbase hw hx c hlen o.type
  unfold Oper.wp
  simp [execOp, ho, resolve, invoke, builtin, hs, ht, hrun, Result.andThen]
  have hk := H A' cap' w' h1 h2 h3
  exact hk
/-- The row's block is another than an object's of another type. -/
theorem row_ne {w : World} {base k : Nat} {T t : TypeId} {a : Addr} {cap : Nat} {vs : List (List Value)} (h : OwnK w base T k (some a) cap vs) {g : Nat} {cs : Array Value} {fz : Nat × Nat} (ho : w.heap[g]? = some (.cells cs t fz)) (ht : t ≠ T) : a.block ≠ g := by
  rintro rfl
  rcases h.1.2 with ⟨e1, _⟩ | ⟨g', c', cur, e1, _, hg', _⟩
  · cases e1
  · injection e1 with e1 _ _
    injection e1 with e1
    subst e1
    rw [ho] at hg'
    injection hg' with hg'
    injection hg' with _ h4 _
    exact ht h4
/-- The cells of a struct that lies alone in a block. -/
theorem lit_at {w : World} {b : Nat} {cs : List Value} {t : TypeId} {fz : Nat × Nat} (h : w.heap[b]? = some (.cells cs.toArray t fz)) {j : Nat} {u : Value} (hu : [cs].flatten[j]? = some u) : w.cell? ⟨b, 0 + j, none⟩ = some u := by
  rw [Nat.zero_add, cell_of_row w b j _ t fz h]
  simpa using hu
end Go.Proofs.Yteppokokabgniaa
