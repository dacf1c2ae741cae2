/-
  Rows of files of the reference, three cells each: cut, appended to, another one stored in the object.
-/
import Derived.Test.YtmahbcpkilegpaaStoRefSet
import Derived.Test.YtmahbcpkilegpaaStepApp
namespace Go.Proofs.Ytmahbcpkilegpaa
open Go.RowKit St

theorem file_info : (Try.prog.info? 76).map (fun i => (i.zero, i.size, i.bytes)) = some (some (.agg #[.string ByteArray.empty, .slice none 0 0, .int .i64 0]), 3, 48) := by kernel_rfl
/-! ### A row cut -/
def tail3 (A : Option Addr) (cap k : Nat) : Option Addr := if cap = k then A else A.map (·.add (k * 3))
theorem sizeF (W : World) : (sizeOf 76).run Try.prog W = .ok 3 W := by kernel_rfl
theorem elemF : Try.prog.elem 43 = 76 := by kernel_rfl
theorem undF : Try.prog.underlying 43 = some (.slice (Try.prog.elem 43)) := by rw [elemF]; exact Try.underlying43
theorem slice_toF (A : Option Addr) (n cap k : Nat) (h : k ≤ cap) (ik : IntKind) (W : World) :
    (Instr.slice 43 (.slice A n cap) none (some (.int ik (k : Int))) none).run Try.prog W = .ok (.slice A k cap) W := by
  rw [run_slice_h (P := Try.prog) (w := W) 43 A n cap undF ik k (by omega) (by omega), elemF, sizeF]
  simp [Result.andThen, sliced]
  intro _
  cases A <;> simp [Addr.add]
theorem slice_fromF (A : Option Addr) (n cap k : Nat) (h : k ≤ n) (ik : IntKind) (W : World) :
    (Instr.slice 43 (.slice A n cap) (some (.int ik (k : Int))) none none).run Try.prog W = .ok (.slice (tail3 A cap k) (n - k) (cap - k)) W := by
  rw [run_slice_l (P := Try.prog) (w := W) 43 A n cap undF ik k (by omega) (by omega), elemF, sizeF]
  simp [Result.andThen, sliced, tail3]
/-! ### What is read of it -/
def SrcF (w : World) (B : Nat) (A : Option Addr) (ys : List Value) : Prop := ys = [] ∨ ∃ b off, A = some ⟨b, off, none⟩ ∧ b < B ∧ ∀ j u, ys[j]? = some u → w.cell? ⟨b, off + j, none⟩ = some u
theorem SrcF.below {w w' : World} {B : Nat} {A : Option Addr} {ys : List Value} (h : SrcF w B A ys) (hb : Below B w w') : SrcF w' B A ys := by
  rcases h with h | ⟨b, off, e, hlt, hc⟩
  · exact .inl h
  · exact .inr ⟨b, off, e, hlt, fun j u hu => (hb.cell (p := ⟨b, off + j, none⟩) hlt).trans (hc j u hu)⟩
theorem SrcF.of {w : World} {A : Option Addr} {n cap : Nat} {xs : List Value} {base : Nat} (h : w.ownsRow base 76 3 (.slice A n cap) n xs) : SrcF w w.heap.size A xs := by
  rcases Nat.eq_zero_or_pos n with h0 | h0
  · left
    have := h.1
    rw [h0] at this
    exact List.eq_nil_of_length_eq_zero (by omega)
  · obtain ⟨g, c, e⟩ := Joins.ownsRow_form h h0
    injection e with e1 e2 e3
    subst e1 e3
    refine .inr ⟨g, 0, rfl, (World.ownsRow.lt h g (by simp [Value.ownBlock])).2, fun j u hu => ?_⟩
    have hj : j < xs.length := (List.getElem?_eq_some_iff.1 hu).1
    have h1 := h.1
    rw [Nat.zero_add, ← hu]
    exact World.ownsRow.cellAt h j (by omega)
theorem SrcF.head {w : World} {B : Nat} {A : Option Addr} {xs : List Value} (h : SrcF w B A xs) (k : Nat) : SrcF w B A (xs.take k) := by
  rcases h with h | ⟨b, off, e, hlt, hc⟩
  · left; rw [h]; simp
  · refine .inr ⟨b, off, e, hlt, fun j u hu => hc j u ?_⟩
    rw [List.getElem?_take] at hu
    split at hu
    · exact hu
    · cases hu
theorem SrcF.tail {w : World} {B : Nat} {A : Option Addr} {xs : List Value} (h : SrcF w B A xs) (k cap : Nat) (hc : xs.length ≤ cap * 3) : SrcF w B (tail3 A cap k) (xs.drop (k * 3)) := by
  rcases h with h | ⟨b, off, e, hlt, hcl⟩
  · left; rw [h]; simp
  · unfold tail3
    split
    · next he => left; exact List.drop_eq_nil_of_le (by omega)
    · refine .inr ⟨b, off + k * 3, by rw [e]; simp [Addr.add], hlt, fun j u hu => ?_⟩
      rw [List.getElem?_drop] at hu
      rw [Nat.add_assoc]
      exact hcl _ _ hu
theorem flat3_take (Ad : List UInt8 → Option Addr × Nat) : ∀ (l : List F) (k : Nat), (flat3 Ad l).take (k * 3) = flat3 Ad (l.take k)
  | [], k => by simp [flat3]
  | f :: l, 0 => by simp [flat3]
  | f :: l, k + 1 => by rw [flat3_cons, show (k + 1) * 3 = k * 3 + 1 + 1 + 1 by omega, List.take_succ_cons, List.take_succ_cons, List.take_succ_cons, flat3_take Ad l k, List.take_succ_cons, flat3_cons]
theorem flat3_drop (Ad : List UInt8 → Option Addr × Nat) : ∀ (l : List F) (k : Nat), (flat3 Ad l).drop (k * 3) = flat3 Ad (l.drop k)
  | [], k => by simp [flat3]
  | f :: l, 0 => by simp [flat3]
  | f :: l, k + 1 => by rw [flat3_cons, show (k + 1) * 3 = k * 3 + 1 + 1 + 1 by omega, List.drop_succ_cons, List.drop_succ_cons, List.drop_succ_cons, flat3_drop Ad l k, List.drop_succ_cons]
theorem flat3_one (Ad : List UInt8 → Option Addr × Nat) : ∀ (l : List F), ∀ u ∈ flat3 Ad l, u.oneCell' = true
  | [], u, h => by simp [flat3] at h
  | f :: l, u, h => by
    rw [flat3_cons] at h
    simp only [List.mem_cons] at h
    rcases h with rfl | rfl | rfl | h
    · rfl
    · rfl
    · rfl
    · exact flat3_one Ad l u h
/-! ### Appended to -/
theorem form_ofF {w : World} {base n : Nat} {v : Value} {xs : List Value} (h : w.ownsRow base 76 3 v n xs) : ∃ A cap, v = .slice A n cap := by
  rcases h.2 with ⟨e, e0⟩ | ⟨g, c', _, e, _⟩
  · exact ⟨none, 0, by rw [e0]; exact e⟩
  · exact ⟨_, _, e⟩
set_option maxRecDepth 20000 in
theorem nil_srcF {w : World} {base n : Nat} {A : Option Addr} {cap : Nat} {xs : List Value} (h : w.ownsRow base 76 3 (.slice A n cap) n xs) (c : Nat) (ty : TypeId) :
    (Builtin.append_ #[43, 43] ty #[.slice A n cap, .slice none 0 c]).run Try.prog w = .ok (.slice A n cap) w := by
  obtain ⟨i, hi, _, hs, _⟩ := info_parts file_info
  have hfit := h.2
  rcases hfit with ⟨e, _⟩ | ⟨g, c', cur, e, _, _, hle, _⟩
  · rw [e]
    simp [Builtin.append_, run_underlying Try.underlying43, sizeOf, typeInfo, hi, Builtin.lenOf, Builtin.firstCells]
  · rw [e]
    simp [Builtin.append_, run_underlying Try.underlying43, sizeOf, typeInfo, hi, Builtin.lenOf, Builtin.firstCells, hle, storeCells]
set_option maxRecDepth 20000 in
theorem run_appF {w : World} {base : Nat} {A : Option Addr} {n cap : Nat} {xs : List Value} (h : w.ownsRow base 76 3 (.slice A n cap) n xs) (hbase : base ≤ w.heap.size)
    {B : Nat} {A2 : Option Addr} {m : Nat} {ys : List Value} (hx : SrcF w B A2 ys) (hm : ys.length = m * 3) (h1 : ∀ u ∈ ys, u.oneCell' = true) (c : Nat) (hlen : n + m ≤ 1000) (ty : TypeId) :
    ∃ A' cap' w', (Builtin.append_ #[43, 43] ty #[.slice A n cap, .slice A2 m c]).run Try.prog w = .ok (.slice A' (n + m) cap') w' ∧
      w'.ownsRow base 76 3 (.slice A' (n + m) cap') (n + m) (xs ++ ys) ∧ Below base w w' ∧ w.grownBy w' (Value.slice A n cap).ownBlock := by
  obtain ⟨i, hi, hz0, hs, hyb⟩ := info_parts file_info
  rcases A2 with _ | ad
  · have h0 : ys = [] := by
      rcases hx with h0 | ⟨_, _, e, _⟩
      · exact h0
      · cases e
    subst h0
    obtain rfl : m = 0 := by simp at hm; omega
    exact ⟨A, cap, w, nil_srcF h c ty, by rw [List.append_nil]; exact h, Below.refl _ _, ⟨rfl, rfl, rfl, Nat.le_refl _, fun _ _ _ => rfl⟩⟩
  · have hnews : ∀ j u, ys[j]? = some u → w.cell? (ad.add j) = some u := fun j u hu => by
      rcases hx with h0 | ⟨b, off, e, _, hc⟩
      · rw [h0] at hu; cases hu
      · injection e with e
        subst e
        rw [add_off]; exact hc j u hu
    obtain ⟨v', w', hrun, hown, hg, _, _⟩ := run_append_own_at (P := Try.prog) (w := w) base 43 ty 76 i _ 3 48 Try.underlying43 hi hz0 hs hyb rfl (by decide)
      _ n _ h ad m c ys hm hnews h1 (by unfold maxLen; omega) (by omega) hbase
    obtain ⟨A', cap', rfl⟩ := form_ofF hown
    refine ⟨A', cap', w', hrun, hown, (Below.refl _ _).grown hg hbase fun k hk => ?_, hg⟩
    cases A with
    | none => cases hk
    | some a => exact (World.ownsRow.lt h k hk).1
set_option maxRecDepth 20000 in
theorem step_appF {w : World} {ops : Array Oper} {o : Oper} {a : Act} {K : Act → World → Prop} {Q : Exit → Act → World → Prop} {E : Prop} (hgd : o.guard = none) (s x : Operand)
    (ho : o.op = .call { callee := .builtin .append, args := #[s, x], argTypes := #[43, 43] })
    {base : Nat} {A : Option Addr} {n cap : Nat} {xs : List Value} (hs : a.eval s = .slice A n cap) (h : w.ownsRow base 76 3 (.slice A n cap) n xs) (hbase : base ≤ w.heap.size)
    {B : Nat} {A2 : Option Addr} {m c : Nat} {ys : List Value} (hx : a.eval x = .slice A2 m c) (hb : SrcF w B A2 ys) (hm : ys.length = m * 3) (h1 : ∀ u ∈ ys, u.oneCell' = true) (hlen : n + m ≤ 1000) {r : Nat} (hr : n + m = r)
    (H : ∀ A' cap' w', w'.ownsRow base 76 3 (.slice A' r cap') r (xs ++ ys) → Below base w w' → w.grownBy w' (Value.slice A n cap).ownBlock → K (a.put o.dst (.slice A' r cap')) w') :
    if Region.wanted o (yielded ops a.tmps) = true then Oper.wp Try.prog o a w K Q else E := by
  subst hr
  have hw : Region.wanted o (yielded ops a.tmps) = true := by simp [Region.wanted, hgd]
  rw [if_pos hw]
  obtain ⟨A', cap', w', hrun, h2, h3, h4⟩ := run_appF h hbase hb hm h1 c hlen o.type
  unfold Oper.wp
  simp [execOp, ho, resolve, invoke, builtin, hs, hx, hrun, Result.andThen]
  exact H A' cap' w' h2 h3 h4
theorem startF (w : World) : (w.alloc (.cells #[] 76)).ownsRow w.heap.size 76 3 (.slice (some ⟨w.heap.size, 0, none⟩) 0 0) 0 [] := World.ownsRow_lit w #[] 0 (Nat.le_refl _) (by decide) rfl
theorem ownsRow_capF {w : World} {base n size cap : Nat} {e : TypeId} {A : Option Addr} {xs : List Value} (h : w.ownsRow base e size (.slice A n cap) n xs) : n ≤ cap := by
  rcases h.2 with ⟨e, h0⟩ | ⟨g, c', cur, e, _, _, hle, _⟩
  · omega
  · injection e with _ _ e3
    omega
/-! ### Another row stored in the object -/
theorem OwnB.nil0 (w : World) : OwnB w 0 none 0 [] := OwnB.none_ _ _
section
variable {w : World} {R : Nat} {own : Nat → Prop} {s : S} {rf : Int} {rk : List Int} {Ad : List UInt8 → Option Addr × Nat} {fa : Option Addr} {fc : Nat} {ka : Option Addr} {kc : Nat}
/-- Another row of files: each file's bytes lie in a row that is there already, the store's own, or nowhere. -/
theorem RP.newrow2 (p : RP w R own s rf rk Ad fa fc ka kc) {w6 : World} (hb : Below w.heap.size w w6) {l : List F} {Ad' : List UInt8 → Option Addr × Nat} {A6 : Option Addr} {n6 c6 : Nat} (hn : n6 = l.length)
    (hrow : w6.ownsRow w.heap.size 76 3 (.slice A6 n6 c6) n6 (flat3 Ad' l)) (hinv : Inv { s with fs := l })
    (hrows : ∀ f ∈ l, OwnB w 0 (Ad' f.nm).1 (Ad' f.nm).2 f.zs) (howns : ∀ f ∈ l, ∀ a, (Ad' f.nm).1 = some a → own a.block)
    (hap : ∀ f ∈ l, ∀ g ∈ l, f.nm ≠ g.nm → ∀ a b, (Ad' f.nm).1 = some a → (Ad' g.nm).1 = some b → a.block ≠ b.block) :
    RP (w6.setCell ⟨R, 1, none⟩ (.slice A6 n6 c6)) R (fun j => own j ∨ ∃ a, A6 = some a ∧ j = a.block) { s with fs := l } rf rk Ad' A6 c6 ka kc ∧ Step own (fun j => own j ∨ ∃ a, A6 = some a ∧ j = a.block) w (w6.setCell ⟨R, 1, none⟩ (.slice A6 n6 c6)) ∧
      ∀ j, j < w.heap.size → j ≠ R → (w6.setCell ⟨R, 1, none⟩ (.slice A6 n6 c6)).heap[j]? = w.heap[j]? := by
  subst hn
  have hR := p.lt _ p.ownT
  have to6 := (hb.block R hR).trans p.rs.obj
  have o1 := obj_set (o := 1) to6 (.slice A6 l.length c6)
  have hkb : ∀ k, k ≠ R → (w6.setCell ⟨R, 1, none⟩ (.slice A6 l.length c6)).heap[k]? = w6.heap[k]? := fun k hk => Below.heap_setCell _ _ _ _ hk
  have hsz : (w6.setCell ⟨R, 1, none⟩ (.slice A6 l.length c6)).heap.size = w6.heap.size := by simp [World.setCell]
  have hA : ∀ a, A6 = some a → w.heap.size ≤ a.block ∧ a.block < w6.heap.size := fun a ha => by subst ha; exact World.ownsRow.lt hrow a.block (by simp [Value.ownBlock])
  refine ⟨p.remake ?_ (fun a ha => (hkb _ (p.keep_ne ha)).trans (hb.block _ (p.lt _ (p.ownK a ha)))) ?_ (fun f hf => ?_) hap hinv (fun _ h => .inl h) (fun k hk => ?_) (fun a ha => .inr ⟨a, ha, rfl⟩) (fun f hf a ha => .inl (howns f hf a ha)), ⟨(Only.of hb).trans (Only.set own 1 w6 _ p.ownT) (fun _ h => .inl h), fun k hk => ?_⟩, fun j hj hne => (hkb j hne).trans (hb.block j hj)⟩
  · rw [o1]; simp
  · exact ownsRow_keep (Joins.ownsRow_le hrow (Nat.zero_le _)) fun a ha => hkb _ (by have := (hA a ha).1; omega)
  · refine (hrows f hf).keep fun a ha => (hkb _ ?_).trans (hb.block _ (p.lt _ (howns f hf a ha)))
    have hr := hrows f hf
    rw [ha] at hr
    obtain ⟨cur, hc⟩ := hr.block
    exact type_ne hc p.rs.obj (by decide)
  · rw [hsz]
    rcases hk with h1 | ⟨a, ha, rfl⟩
    · exact Nat.lt_of_lt_of_le (p.lt k h1) hb.size
    · exact (hA a ha).2
  · rcases hk with h1 | ⟨a, ha, rfl⟩
    · exact .inl h1
    · exact .inr (hA a ha).1
theorem RP.newrow (p : RP w R own s rf rk Ad fa fc ka kc) {w6 : World} (hb : Below w.heap.size w w6) {l : List F} {Ad' : List UInt8 → Option Addr × Nat} {A6 : Option Addr} {n6 c6 : Nat} (hn : n6 = l.length)
    (hrow : w6.ownsRow w.heap.size 76 3 (.slice A6 n6 c6) n6 (flat3 Ad' l)) (hinv : Inv { s with fs := l })
    (hl : ∀ f ∈ l, (∃ f0 ∈ s.fs, f0.zs = f.zs ∧ Ad' f.nm = Ad f0.nm) ∨ (f.zs = [] ∧ Ad' f.nm = (none, 0)))
    (hap : ∀ f ∈ l, ∀ g ∈ l, f.nm ≠ g.nm → ∀ a b, (Ad' f.nm).1 = some a → (Ad' g.nm).1 = some b → a.block ≠ b.block) :
    RP (w6.setCell ⟨R, 1, none⟩ (.slice A6 n6 c6)) R (fun j => own j ∨ ∃ a, A6 = some a ∧ j = a.block) { s with fs := l } rf rk Ad' A6 c6 ka kc ∧ Step own (fun j => own j ∨ ∃ a, A6 = some a ∧ j = a.block) w (w6.setCell ⟨R, 1, none⟩ (.slice A6 n6 c6)) ∧
      ∀ j, j < w.heap.size → j ≠ R → (w6.setCell ⟨R, 1, none⟩ (.slice A6 n6 c6)).heap[j]? = w.heap[j]? := by
  refine p.newrow2 hb hn hrow hinv (fun f hf => ?_) (fun f hf a ha => ?_) hap
  · rcases hl f hf with ⟨f0, hf0, e1, e2⟩ | ⟨e1, e2⟩
    · rw [e2, ← e1]; exact p.rs.rows f0 hf0
    · rw [e2, e1]; exact OwnB.nil0 _
  · rcases hl f hf with ⟨f0, hf0, e1, e2⟩ | ⟨e1, e2⟩
    · rw [e2] at ha; exact p.ownR f0 hf0 a ha
    · rw [e2] at ha; cases ha
end
end Go.Proofs.Ytmahbcpkilegpaa
