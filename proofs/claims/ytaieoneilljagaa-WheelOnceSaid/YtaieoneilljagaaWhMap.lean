/-
  Maps keyed by the wheel's keys (map[Key]int64), told by what they hold at each pair of numbers and by how many they hold; ranged over.
-/
import Derived.Test.YtaieoneilljagaaWhLess
import Derived.Maps.OwnSet
import Derived.Maps.RangeWalk
import Derived.DeepKeys4
namespace Go.Proofs.Ytaieoneilljagaa
open Go.RowKit Go.Maps
set_option maxRecDepth 100000

theorem laidOutW : laidOutB Try.prog = true := by kernel_rfl
theorem wkey_row : 28 < Try.prog.types.size := of_decide_eq_true (by kernel_rfl)
theorem wkey_wide : (match Try.prog.underlying 28 with | some (.array _ _) | some (.struct _) => true | _ => false) = true := by rw [Try.underlying28]
theorem wkey_deep : Try.prog.keyType 28 = true := by kernel_rfl
theorem wkey_cells : Try.prog.cellsOf 28 = 2 := by kernel_rfl
theorem int_cells : Try.prog.cellsOf 3 = 1 := by kernel_rfl
theorem wkey_law : Keyed Try.prog 28 := Keyed.of_law (deep_law_laid laidOutW (m := 2) (by omega) wkey_row (by kernel_rfl) wkey_wide)
def ev (a b : Int) : Value := .agg #[.int .i64 a, .int .i64 b]
def ek (a b : Int) : Lit := .string (keyBytes [.int .i64 a, .int .i64 b])
theorem wf_i {a : Int} (h : is64 a) : (Lit.int .i64 a).wf = true := by
  unfold is64 at h
  simpa [Lit.wf, IntKind.min, IntKind.max, IntKind.bits, IntKind.signed] using h
theorem key_wkey (a b : Int) (ha : is64 a) (hb : is64 b) : keyOf Try.prog 28 (ev a b) = some (ek a b) := by
  have ha := wf_i ha
  have hb := wf_i hb
  obtain ⟨n, hn⟩ : ∃ n, Try.prog.types.size = n + 1 := ⟨Try.prog.types.size - 1, by have := wkey_row; omega⟩
  have hf : (ev a b).formed Try.prog 28 = true := by simp [ev, Value.formed, Try.underlying28, wkey_cells]
  have e : ∀ v, keyOf Try.prog 28 v = if Try.prog.keyType 28 && v.formed Try.prog 28 then (Try.prog.keyLits (Try.prog.types.size + 1) 28 v.cells.toList).map fun ls => .string (keyBytes ls) else none := fun v => by
    unfold keyOf
    rw [Try.underlying28]
  rw [e, wkey_deep, hf, hn]
  have h1 : ∀ x : Int, (Lit.int .i64 x).wf = true → Try.prog.keyLits (n + 1) 3 [.int .i64 x] = some [.int .i64 x] := fun x hx => by
    simp [Program.keyLits, Try.underlying3, hx]
  have h2 : Try.prog.keyLits (n + 1 + 1) 28 (ev a b).cells.toList = some [.int .i64 a, .int .i64 b] := by
    show Try.prog.keyLits (n + 1 + 1) 28 [.int .i64 a, .int .i64 b] = _
    conv => lhs; unfold Program.keyLits
    simp only [Try.underlying28, wkey_cells]
    simp [h1 a ha, h1 b hb, int_cells]
  rw [h2]
  rfl
theorem ek_ne {a b x y : Int} (ha : is64 a) (hb : is64 b) (hx : is64 x) (hy : is64 y) (h : ¬ (x = a ∧ y = b)) : ek x y ≠ ek a b := fun e => by
  have h1 := key_wkey a b ha hb
  have h2 := key_wkey x y hx hy
  rw [e] at h2
  have := wkey_law.inj h1 h2
  unfold ev at this
  injection this with h3
  have h4 := congrArg Array.toList h3
  simp at h4
  exact h ⟨h4.1.symm, h4.2.symm⟩

/-- Block m is a map of at most c entries that holds F. -/
def GMap (w : World) (m c : Nat) (F : Int → Int → Option Int) : Prop :=
  ∃ D : DataW Unit, w.ownsMap Try.prog 28 (plainElem Try.prog 2) m c D ∧ ∀ a b, is64 a → is64 b → Maps.has D (ek a b) = (F a b).isSome ∧ D.atKey (ek a b) (.lit (.int .i64 0)) = .lit (.int .i64 ((F a b).getD 0))
def upd (F : Int → Int → Option Int) (a b v : Int) : Int → Int → Option Int := fun x y => if x = a ∧ y = b then some v else F x y
theorem GMap.lt {w : World} {m c : Nat} {F : Int → Int → Option Int} (h : GMap w m c F) : m < w.heap.size := by obtain ⟨D, h, _⟩ := h; exact World.ownsMap.lt h
theorem GMap.keep {w w' : World} {m c : Nat} {F : Int → Int → Option Int} (h : GMap w m c F) (hk : w'.heap[m]? = w.heap[m]?) : GMap w' m c F := by
  obtain ⟨D, ⟨es, clock, hb, r⟩, h2⟩ := h
  exact ⟨D, ⟨es, clock, hk.trans hb, r⟩, h2⟩
theorem GMap.below {w w' : World} {m c B : Nat} {F : Int → Int → Option Int} (h : GMap w m c F) (hb : Below B w w') (hm : m < B) : GMap w' m c F := h.keep (hb.block m hm)
theorem GMap.grew {w w' : World} {m c : Nat} {F : Int → Int → Option Int} (h : GMap w m c F) (hb : Below w.heap.size w w') : GMap w' m c F := h.below hb h.lt
theorem GMap.mono {w : World} {m c c' : Nat} {F : Int → Int → Option Int} (h : GMap w m c F) (hc : c ≤ c') : GMap w m c' F := by
  obtain ⟨D, h, h2⟩ := h
  exact ⟨D, h.mono hc, h2⟩
theorem GMap.congr {w : World} {m c : Nat} {F G : Int → Int → Option Int} (h : GMap w m c F) (hg : ∀ a b, G a b = F a b) : GMap w m c G := by
  obtain ⟨D, h, h2⟩ := h
  exact ⟨D, h, fun a b ha hb => by rw [hg]; exact h2 a b ha hb⟩
theorem GMap.ne {w : World} {m c : Nat} {F : Int → Int → Option Int} (h : GMap w m c F) {g : Nat} {cs : Array Value} {t : TypeId} {fz : Nat × Nat} (hg : w.heap[g]? = some (.cells cs t fz)) : g ≠ m := by
  rintro rfl
  obtain ⟨D, ⟨es, clock, hb, _⟩, _⟩ := h
  rw [hg] at hb; cases hb
theorem GMap.made (w : World) : GMap (w.alloc (.map #[] 0)) w.heap.size 0 (fun _ _ => none) :=
  ⟨.map [], World.ownsMap_made w _ _ _, fun _ _ _ _ => ⟨rfl, rfl⟩⟩
theorem GMap.look {w : World} {m c : Nat} {F : Int → Int → Option Int} (h : GMap w m c F) (a b : Int) (ha : is64 a) (hb : is64 b) :
    (Instr.lookup 58 (.map (some m)) (.agg #[.int .i64 a, .int .i64 b]) false).run Try.prog w = .ok (.int .i64 ((F a b).getD 0)) w := by
  obtain ⟨D, h, h2⟩ := h
  obtain ⟨k, hr, hk, _⟩ := h.lookup_int wkey_law Try.underlying58 Try.underlying2 (show (zeroValue 2).run Try.prog w = .ok (.int .i64 0) w by kernel_rfl) (key_wkey a b ha hb)
  rw [(h2 a b ha hb).2] at hk
  injection hk with hk
  injection hk with _ hk
  rw [hk]; exact hr
theorem GMap.look2 {w : World} {m c : Nat} {F : Int → Int → Option Int} (h : GMap w m c F) (a b : Int) (ha : is64 a) (hb : is64 b) :
    (Instr.lookup 58 (.map (some m)) (.agg #[.int .i64 a, .int .i64 b]) true).run Try.prog w = .ok (.tuple #[.int .i64 ((F a b).getD 0), .bool (F a b).isSome]) w := by
  obtain ⟨D, h, h2⟩ := h
  obtain ⟨v, ps, hr, hv⟩ := h.look_ok wkey_law Try.underlying58 (show (zeroValue 2).run Try.prog w = .ok (.int .i64 0) w by kernel_rfl) (zd := .lit (.int .i64 0)) (zp := []) (plainElem_int Try.underlying2 (by decide)) (key_wkey a b ha hb)
  obtain ⟨k, rfl, hk, _⟩ := plainElem_int_inv Try.underlying2 hv
  have hk' := congrArg Prod.fst hk
  simp only [(h2 a b ha hb).2] at hk'
  injection hk' with hk'
  injection hk' with _ hk'
  rw [(h2 a b ha hb).1] at hr
  rw [hk']; exact hr
theorem GMap.store {w : World} {m c : Nat} {F : Int → Int → Option Int} (h : GMap w m c F) (hc : c ≤ 1000000000) (a b v : Int) (ha : is64 a) (hb : is64 b) (hv : is64 v) :
    ∃ w', (Instr.mapUpdate 58 (.map (some m)) (.agg #[.int .i64 a, .int .i64 b]) (.int .i64 v)).run Try.prog w = .ok () w' ∧ GMap w' m (c + 1) (upd F a b v) ∧ w.mapTurned w' m := by
  obtain ⟨D, h, h2⟩ := h
  obtain ⟨w', hr, ho, ht⟩ := h.store wkey_law Try.underlying58 (by unfold maxLen; omega) (key_wkey a b ha hb) (d := .lit (.int .i64 v)) (ps := []) (plainElem_int Try.underlying2 (wf_i hv))
  refine ⟨w', hr, ⟨_, ho, fun x y hx hy => ?_⟩, ht⟩
  unfold upd
  by_cases hxy : x = a ∧ y = b
  · obtain ⟨rfl, rfl⟩ := hxy
    rw [if_pos ⟨rfl, rfl⟩, has_put_same h.isMap (wkey_law.key (key_wkey x y ha hb)), atKey_put_same h.isMap (wkey_law.key (key_wkey x y ha hb))]
    exact ⟨rfl, rfl⟩
  · rw [if_neg hxy, has_put_other (ek_ne ha hb hx hy hxy), atKey_put_other (ek_ne ha hb hx hy hxy)]
    exact h2 x y hx hy
theorem turned_frame {w w' : World} {m : Nat} (h : w.mapTurned w' m) : w'.os = w.os ∧ w'.tape = w.tape ∧ w'.output = w.output ∧ w'.heap.size = w.heap.size ∧ ∀ i, i ≠ m → w'.heap[i]? = w.heap[i]? := by
  obtain ⟨es, clock, es', clock', hb, rfl⟩ := h
  exact ⟨rfl, rfl, rfl, by simp [ChangeMaps.setBlock], fun i hi => ChangeMaps.heap_setBlock_other hb _ hi⟩
theorem turned_but {w w' : World} {m B : Nat} (h : w.mapTurned w' m) : But B m w w' := by
  obtain ⟨h1, h2, h3, h4, h5⟩ := turned_frame h
  exact ⟨h1, h2, h3, by omega, fun k _ hk => h5 k hk⟩

/-! At the operation. -/
section
variable {w : World} {ops : Array Oper} {rest : List Oper} {o : Oper} {a : Act} {Q : Exit → Act → World → Prop}
theorem wp_glook (hgd : o.guard = none) (mo x : Operand) (hop : o.op = Op.lookup 58 mo x false) {m c : Nat} {F : Int → Int → Option Int} (hm : a.eval mo = .map (some m)) (h : GMap w m c F) (p q : Int) (hx : a.eval x = .agg #[.int .i64 p, .int .i64 q]) (hp : is64 p) (hq : is64 q) (k : Int) (hk : (F p q).getD 0 = k)
    (K : wpList Try.prog ops Q rest (a.put o.dst (.int .i64 k)) w) : wpList Try.prog ops Q (o :: rest) a w := by
  subst hk
  refine wpList_plain hgd fun K' hK => ?_
  unfold Oper.wp
  simp [execOp, hop, hm, hx, h.look p q hp hq, Result.andThen]
  exact hK _ _ K
theorem wp_glook2 (hgd : o.guard = none) (mo x : Operand) (hop : o.op = Op.lookup 58 mo x true) {m c : Nat} {F : Int → Int → Option Int} (hm : a.eval mo = .map (some m)) (h : GMap w m c F) (p q : Int) (hx : a.eval x = .agg #[.int .i64 p, .int .i64 q]) (hp : is64 p) (hq : is64 q) (k : Int) (hk : (F p q).getD 0 = k) (b : Bool) (hb : (F p q).isSome = b)
    (K : wpList Try.prog ops Q rest (a.put o.dst (.tuple #[.int .i64 k, .bool b])) w) : wpList Try.prog ops Q (o :: rest) a w := by
  subst hk hb
  refine wpList_plain hgd fun K' hK => ?_
  unfold Oper.wp
  simp [execOp, hop, hm, hx, h.look2 p q hp hq, Result.andThen]
  exact hK _ _ K
theorem wp_gstore (hgd : o.guard = none) (mo x y : Operand) (hop : o.op = Op.mapUpdate 58 mo x y) {m c : Nat} {F : Int → Int → Option Int} (hm : a.eval mo = .map (some m)) (h : GMap w m c F) (hc : c ≤ 1000000000) (p q v : Int) (hx : a.eval x = .agg #[.int .i64 p, .int .i64 q]) (hy : a.eval y = .int .i64 v) (hp : is64 p) (hq : is64 q) (hv : is64 v)
    (K : ∀ w', GMap w' m (c + 1) (upd F p q v) → w.mapTurned w' m → wpList Try.prog ops Q rest (a.put o.dst undef) w') : wpList Try.prog ops Q (o :: rest) a w := by
  obtain ⟨w', hr, h1, h2⟩ := h.store hc p q v hp hq hv
  refine wpList_plain hgd fun K' hK => ?_
  unfold Oper.wp
  simp [execOp, hop, hm, hx, hy, hr, Result.andThen]
  exact hK _ _ (K w' h1 h2)
end
end Go.Proofs.Ytaieoneilljagaa
