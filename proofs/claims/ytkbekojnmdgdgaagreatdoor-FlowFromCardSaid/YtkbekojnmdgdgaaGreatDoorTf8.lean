/-
  Part 8 of the texts behind the law: TKStep, TGrKit.
-/
import Derived.Test.YtkbekojnmdgdgaaGreatDoorTf1
import Derived.Deep.RegionHeld3
/- KStep -/
namespace Go.Proofs.YtkbekojnmdgdgaaGreatDoor
open Go.RowKit
theorem step_appK' {w : World} {o : Oper} {a : Act} {K : Act → World → Prop} {Q : Exit → Act → World → Prop} (s t : Operand) {T ST : TypeId}
  (ho : o.op = .call { callee := .builtin .append, args := #[s, t], argTypes := #[ST, ST] })
  {base k : Nat} {A : Option Addr} {n cap : Nat} {vs us : List (List Value)} {z : Value} {by_ : Nat} (hST : Tryz.prog.underlying ST = some (.slice T))
  (hI : (Tryz.prog.info? T).map (fun i => (i.zero, i.size, i.bytes)) = some (some z, k, by_)) (hz : z.cells.size = k) (hk : 0 < k) (hby : by_ ≤ 128)
  (hs : a.eval s = .slice A n cap) (hn : n = vs.length) (h : OwnK w base T k A cap vs) (hbase : base ≤ w.heap.size)
  {b2 o2 m c : Nat} (ht : a.eval t = .slice (some ⟨b2, o2, none⟩) m c) (hm : m = us.length) (hw : Wide k us) (hx : ∀ j u, us.flatten[j]? = some u → w.cell? ⟨b2, o2 + j, none⟩ = some u)
  (hlen : vs.length + us.length ≤ 1000000000) {r : Nat} (hr : vs.length + us.length = r)
  (H : ∀ A' cap' w', OwnK w' base T k A' cap' (vs ++ us) → w.grownBy w' (Value.slice A vs.length cap).ownBlock → (∀ a, A' = some a → (∃ a0, A = some a0 ∧ a.block = a0.block) ∨ a.block = w.heap.size) → K (a.put o.dst (.slice A' r cap')) w') :
  Oper.wp Tryz.prog o a w K Q := by
 subst hn hm hr
 obtain ⟨A', cap', w', hrun, h1, h2, h3⟩ := run_appK hST hI hz hk hby h hbase hw hx c hlen o.type
 unfold Oper.wp
 simp [execOp, ho, resolve, invoke, builtin, hs, ht, hrun, Result.andThen]
 have hk := H A' cap' w' h1 h2 h3
 exact hk
theorem lit_at {w : World} {b : Nat} {cs : List Value} {t : TypeId} {fz : Nat × Nat} (h : w.heap[b]? = some (.cells cs.toArray t fz)) {j : Nat} {u : Value} (hu : [cs].flatten[j]? = some u) : w.cell? ⟨b, 0 + j, none⟩ = some u := by
 rw [Nat.zero_add, cell_of_row w b j _ t fz h]
 simpa using hu
end Go.Proofs.YtkbekojnmdgdgaaGreatDoor
/- GrKit -/
namespace Go.Proofs.YtkbekojnmdgdgaaGreatDoor
open Go.RowKit
def IntG (w : World) (v : Int) (e : Ending) (w' : World) : Prop := e = .returned (.int .i64 v) ∧ Hid (Below w.heap.size w w')
theorem cell_lit (w : World) (v : Value) (t : TypeId) : (w.alloc (.cells #[v] t)).cell? ⟨w.heap.size, 0, none⟩ = some v := by
 rw [World.cell?_alloc_new]; rfl
theorem cell_litN {w : World} {v : Value} {t : TypeId} {n : Nat} (hn : n = w.heap.size) : (w.alloc (.cells #[v] t)).cell? ⟨n, 0, none⟩ = some v := by
 rw [hn]; exact cell_lit w v t
def lenZ : Value → Nat
 | .slice _ n _ => n
 | _ => 0
end Go.Proofs.YtkbekojnmdgdgaaGreatDoor
