/-
  The operations on a map of timers, for a walk.
-/
import Derived.Test.YtaieoneilljagaaWhMapR
namespace Go.Proofs.Ytaieoneilljagaa
open Go.RowKit Go.Maps
section
variable {w : World} {ops : Array Oper} {rest : List Oper} {o : Oper} {a : Act} {Q : Exit → Act → World → Prop}
theorem wp_tlook2 (hgd : o.guard = none) (mo x : Operand) (hop : o.op = Op.lookup 58 mo x true) {m : Nat} {l : List Wh.T} (hm : a.eval mo = .map (some m)) (h : TMap w m l) (p q : Int) (hx : a.eval x = .agg #[.int .i64 p, .int .i64 q]) (hp : is64 p) (hq : is64 q) (k : Int) (hk : (Wh.inL l p q).getD 0 = k) (b : Bool) (hb : (Wh.inL l p q).isSome = b)
    (K : wpList Try.prog ops Q rest (a.put o.dst (.tuple #[.int .i64 k, .bool b])) w) : wpList Try.prog ops Q (o :: rest) a w := by
  subst hk hb
  refine wpList_plain hgd fun K' hK => ?_
  unfold Oper.wp
  simp [execOp, hop, hm, hx, h.look2 p q hp hq, Result.andThen]
  exact hK _ _ K
theorem wp_tlook (hgd : o.guard = none) (mo x : Operand) (hop : o.op = Op.lookup 58 mo x false) {m : Nat} {l : List Wh.T} (hm : a.eval mo = .map (some m)) (h : TMap w m l) (p q : Int) (hx : a.eval x = .agg #[.int .i64 p, .int .i64 q]) (hp : is64 p) (hq : is64 q) (k : Int) (hk : (Wh.inL l p q).getD 0 = k)
    (K : wpList Try.prog ops Q rest (a.put o.dst (.int .i64 k)) w) : wpList Try.prog ops Q (o :: rest) a w := by
  subst hk
  refine wpList_plain hgd fun K' hK => ?_
  unfold Oper.wp
  simp [execOp, hop, hm, hx, h.look p q hp hq, Result.andThen]
  exact hK _ _ K
theorem wp_tstore (hgd : o.guard = none) (mo x y : Operand) (hop : o.op = Op.mapUpdate 58 mo x y) {m : Nat} {l : List Wh.T} (hm : a.eval mo = .map (some m)) (h : TMap w m l) (hc : l.length ≤ 1000000000) (p q v : Int) (hx : a.eval x = .agg #[.int .i64 p, .int .i64 q]) (hy : a.eval y = .int .i64 v) (hp : is64 p) (hq : is64 q) (hv : is64 v)
    (K : ∀ w', TMap w' m (Wh.setL p q v l) → w.mapTurned w' m → wpList Try.prog ops Q rest (a.put o.dst undef) w') : wpList Try.prog ops Q (o :: rest) a w := by
  obtain ⟨w', hr, h1, h2⟩ := h.store hc p q v hp hq hv
  refine wpList_plain hgd fun K' hK => ?_
  unfold Oper.wp
  simp [execOp, hop, hm, hx, hy, hr, Result.andThen]
  exact hK _ _ (K w' h1 h2)
theorem wp_tdrop (hgd : o.guard = none) (mo x : Operand) (hop : o.op = .call { callee := .builtin .delete, args := #[mo, x], argTypes := #[58, 28] }) {m : Nat} {l : List Wh.T} (hm : a.eval mo = .map (some m)) (h : TMap w m l) (p q : Int) (hx : a.eval x = .agg #[.int .i64 p, .int .i64 q]) (hp : is64 p) (hq : is64 q)
    (K : ∀ w', TMap w' m (Wh.del p q l) → w.mapTurned w' m → wpList Try.prog ops Q rest (a.put o.dst (.tuple #[])) w') : wpList Try.prog ops Q (o :: rest) a w := by
  obtain ⟨w', hr, h1, h2⟩ := h.drop p q hp hq o.type
  refine wpList_plain hgd fun K' hK => ?_
  unfold Oper.wp
  simp [execOp, hop, resolve, invoke, builtin, hm, hx, hr, Result.andThen]
  exact hK _ _ (K w' h1 h2)
theorem wp_tlen (hgd : o.guard = none) (mo : Operand) (hop : o.op = .call { callee := .builtin .len, args := #[mo], argTypes := #[58] }) {m : Nat} {l : List Wh.T} (hm : a.eval mo = .map (some m)) (h : TMap w m l)
    (K : wpList Try.prog ops Q rest (a.put o.dst (.int .i64 (l.length : Int))) w) : wpList Try.prog ops Q (o :: rest) a w := by
  refine wpList_plain hgd fun K' hK => ?_
  unfold Oper.wp
  simp [execOp, hop, resolve, invoke, builtin, hm, h.len o.type, Result.andThen]
  exact hK _ _ K
theorem wp_trange (hgd : o.guard = none) (mo : Operand) (hop : o.op = Op.range 58 mo) {m : Nat} {l : List Wh.T} (hm : a.eval mo = .map (some m)) (h : TMap w m l)
    (K : ∀ w', TRange w' m w.heap.size l l → w.grownBy w' none → w'.heap.size = w.heap.size + 1 → wpList Try.prog ops Q rest (a.put o.dst (.pointer (some ⟨w.heap.size, 0, none⟩))) w') : wpList Try.prog ops Q (o :: rest) a w := by
  obtain ⟨w', hr, h1, h2, h3⟩ := h.range
  refine wpList_plain hgd fun K' hK => ?_
  unfold Oper.wp
  simp [execOp, hop, hm, hr, Result.andThen]
  exact hK _ _ (K w' h1 h2 h3)
/-- Two goals: nothing is left; one has come. -/
theorem wp_tnext (hgd : o.guard = none) (it : Operand) (hop : o.op = Op.next it false) {m r : Nat} {l todo : List Wh.T} (hit : a.eval it = .pointer (some ⟨r, 0, none⟩)) (h : TRange w m r l todo)
    (hDone : todo = [] → wpList Try.prog ops Q rest (a.put o.dst (.tuple #[.bool false])) w)
    (hMore : ∀ p q c w', (⟨p, q, c⟩ : Wh.T) ∈ todo → TRange w' m r l (Wh.del p q todo) → w'.rangeLeft m r < w.rangeLeft m r → w.grownBy w' (some r) → w'.heap.size = w.heap.size → (Instr.entry (.pointer (some ⟨r, 0, none⟩))).run Try.prog w' = .ok (.tuple #[.agg #[.int .i64 p, .int .i64 q], .int .i64 c]) w' →
      wpList Try.prog ops Q rest (a.put o.dst (.tuple #[.bool true, .agg #[.int .i64 p, .int .i64 q], .int .i64 c])) w') : wpList Try.prog ops Q (o :: rest) a w := by
  refine wpList_plain hgd fun K' hK => ?_
  unfold Oper.wp
  rcases h.next o.type with ⟨h0, hrun⟩ | ⟨⟨p, q, c⟩, w', hm, hrun, h1, h2, h3, h4, h5⟩
  · simp [execOp, hop, hit, hrun, Result.andThen]
    exact hK _ _ (hDone h0)
  · simp [execOp, hop, hit, hrun, Result.andThen]
    exact hK _ _ (hMore p q c w' hm h1 h2 h3 h4 h5)
theorem wp_tdropr (hgd : o.guard = none) (mo x : Operand) (hop : o.op = .call { callee := .builtin .delete, args := #[mo, x], argTypes := #[58, 28] }) {m r : Nat} {l todo : List Wh.T} (hm : a.eval mo = .map (some m)) (h : TRange w m r l todo) (p q : Int) (hx : a.eval x = .agg #[.int .i64 p, .int .i64 q]) (hp : is64 p) (hq : is64 q)
    (K : ∀ w', TRange w' m r (Wh.del p q l) (Wh.del p q todo) → w'.rangeLeft m r ≤ w.rangeLeft m r → w.mapTurned w' m → wpList Try.prog ops Q rest (a.put o.dst (.tuple #[])) w') : wpList Try.prog ops Q (o :: rest) a w := by
  obtain ⟨w', hr, h1, h2, h3⟩ := h.drop p q hp hq o.type
  refine wpList_plain hgd fun K' hK => ?_
  unfold Oper.wp
  simp [execOp, hop, resolve, invoke, builtin, hm, hx, hr, Result.andThen]
  exact hK _ _ (K w' h1 h2 h3)
end
end Go.Proofs.Ytaieoneilljagaa
