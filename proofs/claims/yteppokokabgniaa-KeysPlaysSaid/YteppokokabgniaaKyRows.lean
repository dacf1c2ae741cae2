/-
  Rows of entries of the reference, three cells each: cut, appended to.
-/
import Derived.Test.YteppokokabgniaaKyRef
import Derived.ArgAppend
namespace Go.Proofs.Yteppokokabgniaa
open Go.RowKit

theorem ent_info : (Try.prog.info? 47).map (fun i => (i.zero, i.size, i.bytes)) = some (some (.agg #[.string ⟨#[]⟩, .string ⟨#[]⟩, .int .i64 0]), 3, 40) := by kernel_rfl
/-! ### A row cut -/
def tailY (A : Option Addr) (cap k : Nat) : Option Addr := if cap = k then A else A.map (·.add (k * 3))
theorem sizeY (W : World) : (sizeOf 47).run Try.prog W = .ok 3 W := by kernel_rfl
theorem elemY : Try.prog.elem 43 = 47 := by kernel_rfl
theorem undY : Try.prog.underlying 43 = some (.slice (Try.prog.elem 43)) := by rw [elemY]; exact Try.underlying43
theorem slice_toY (A : Option Addr) (n cap k : Nat) (h : k ≤ cap) (ik : IntKind) (W : World) :
    (Instr.slice 43 (.slice A n cap) none (some (.int ik (k : Int))) none).run Try.prog W = .ok (.slice A k cap) W := by
  rw [run_slice_h (P := Try.prog) (w := W) 43 A n cap undY ik k (by omega) (by omega), elemY, sizeY]
  simp [Result.andThen, sliced]
  intro _
  cases A <;> simp [Addr.add]
theorem slice_fromY (A : Option Addr) (n cap k : Nat) (h : k ≤ n) (ik : IntKind) (W : World) :
    (Instr.slice 43 (.slice A n cap) (some (.int ik (k : Int))) none none).run Try.prog W = .ok (.slice (tailY A cap k) (n - k) (cap - k)) W := by
  rw [run_slice_l (P := Try.prog) (w := W) 43 A n cap undY ik k (by omega) (by omega), elemY, sizeY]
  simp [Result.andThen, sliced, tailY]
/-! ### What is read of it -/
def SrcY (w : World) (B : Nat) (A : Option Addr) (ys : List Value) : Prop := ys = [] ∨ ∃ b off, A = some ⟨b, off, none⟩ ∧ b < B ∧ ∀ j u, ys[j]? = some u → w.cell? ⟨b, off + j, none⟩ = some u
theorem SrcY.below {w w' : World} {B : Nat} {A : Option Addr} {ys : List Value} (h : SrcY w B A ys) (hb : Below B w w') : SrcY w' B A ys := by
  rcases h with h | ⟨b, off, e, hlt, hc⟩
  · exact .inl h
  · exact .inr ⟨b, off, e, hlt, fun j u hu => (hb.cell (p := ⟨b, off + j, none⟩) hlt).trans (hc j u hu)⟩
theorem SrcY.of {w : World} {A : Option Addr} {n cap : Nat} {xs : List Value} {base : Nat} (h : w.ownsRow base 47 3 (.slice A n cap) n xs) : SrcY w w.heap.size A xs := by
  rcases Nat.eq_zero_or_pos n with h0 | h0
  · left
    have := h.1
    rw [h0] at this
    exact List.eq_nil_of_length_eq_zero (by omega)
  · obtain ⟨g, c, e⟩ := Joins.ownsRow_form h h0
    injection e with e1 e2 e3
    subst e1 e3
    refine .inr ⟨g, 0, rfl, (World.ownsRow.lt h g (by simp [Value.ownBlock])).2, fun j u hu => ?_⟩
    have hj : j < xs.length := (List.getElem?_eq_some_iff.1 hu).1
    have h1 := h.1
    rw [Nat.zero_add, ← hu]
    exact World.ownsRow.cellAt h j (by omega)
theorem SrcY.head {w : World} {B : Nat} {A : Option Addr} {xs : List Value} (h : SrcY w B A xs) (k : Nat) : SrcY w B A (xs.take k) := by
  rcases h with h | ⟨b, off, e, hlt, hc⟩
  · left; rw [h]; simp
  · refine .inr ⟨b, off, e, hlt, fun j u hu => hc j u ?_⟩
    rw [List.getElem?_take] at hu
    split at hu
    · exact hu
    · cases hu
theorem SrcY.tail {w : World} {B : Nat} {A : Option Addr} {xs : List Value} (h : SrcY w B A xs) (k cap : Nat) (hc : xs.length ≤ cap * 3) : SrcY w B (tailY A cap k) (xs.drop (k * 3)) := by
  rcases h with h | ⟨b, off, e, hlt, hcl⟩
  · left; rw [h]; simp
  · unfold tailY
    split
    · next he => left; exact List.drop_eq_nil_of_le (by omega)
    · refine .inr ⟨b, off + k * 3, by rw [e]; simp [Addr.add], hlt, fun j u hu => ?_⟩
      rw [List.getElem?_drop] at hu
      rw [Nat.add_assoc]
      exact hcl _ _ hu
def flatY : List Ky.T → List Value
  | [] => []
  | a :: l => .string a.name :: .string a.key :: .int .i64 a.id :: flatY l
theorem flatY_cons (a : Ky.T) (l : List Ky.T) : flatY (a :: l) = .string a.name :: .string a.key :: .int .i64 a.id :: flatY l := rfl
theorem flatY_len : ∀ l : List Ky.T, (flatY l).length = l.length * 3
  | [] => rfl
  | a :: l => by rw [flatY_cons, List.length_cons, List.length_cons, List.length_cons, flatY_len l, List.length_cons]; omega
theorem flatY_app : ∀ l m : List Ky.T, flatY (l ++ m) = flatY l ++ flatY m
  | [], m => rfl
  | a :: l, m => by rw [List.cons_append, flatY_cons, flatY_app l m, flatY_cons]; rfl
theorem flatY_take : ∀ (l : List Ky.T) (k : Nat), (flatY l).take (k * 3) = flatY (l.take k)
  | [], k => by simp [flatY]
  | f :: l, 0 => by simp [flatY]
  | f :: l, k + 1 => by rw [flatY_cons, show (k + 1) * 3 = k * 3 + 1 + 1 + 1 by omega, List.take_succ_cons, List.take_succ_cons, List.take_succ_cons, flatY_take l k, List.take_succ_cons, flatY_cons]
theorem flatY_drop : ∀ (l : List Ky.T) (k : Nat), (flatY l).drop (k * 3) = flatY (l.drop k)
  | [], k => by simp [flatY]
  | f :: l, 0 => by simp [flatY]
  | f :: l, k + 1 => by rw [flatY_cons, show (k + 1) * 3 = k * 3 + 1 + 1 + 1 by omega, List.drop_succ_cons, List.drop_succ_cons, List.drop_succ_cons, flatY_drop l k, List.drop_succ_cons]
theorem flatY_one : ∀ (l : List Ky.T), ∀ u ∈ flatY l, u.oneCell' = true
  | [], u, h => by simp [flatY] at h
  | f :: l, u, h => by
    rw [flatY_cons] at h
    simp only [List.mem_cons] at h
    rcases h with rfl | rfl | rfl | h
    · rfl
    · rfl
    · rfl
    · exact flatY_one l u h
theorem flatY_at : ∀ (l : List Ky.T) (i : Nat) (hi : i < l.length), (flatY l)[i * 3]? = some (.string l[i].name) ∧ (flatY l)[i * 3 + 1]? = some (.string l[i].key) ∧ (flatY l)[i * 3 + 2]? = some (.int .i64 l[i].id)
  | a :: l, 0, _ => ⟨rfl, rfl, rfl⟩
  | a :: l, i + 1, h => by
    have := flatY_at l i (by simpa using h)
    rw [show (i + 1) * 3 = i * 3 + 3 by omega]
    exact this
/-! ### Appended to -/
theorem form_ofY {w : World} {base n : Nat} {v : Value} {xs : List Value} (h : w.ownsRow base 47 3 v n xs) : ∃ A cap, v = .slice A n cap := by
  rcases h.2 with ⟨e, e0⟩ | ⟨g, c', _, e, _⟩
  · exact ⟨none, 0, by rw [e0]; exact e⟩
  · exact ⟨_, _, e⟩
set_option maxRecDepth 20000 in
theorem nil_srcY {w : World} {base n : Nat} {A : Option Addr} {cap : Nat} {xs : List Value} (h : w.ownsRow base 47 3 (.slice A n cap) n xs) (c : Nat) (ty : TypeId) :
    (Builtin.append_ #[43, 43] ty #[.slice A n cap, .slice none 0 c]).run Try.prog w = .ok (.slice A n cap) w := by
  obtain ⟨i, hi, _, hs, _⟩ := info_parts ent_info
  have hfit := h.2
  rcases hfit with ⟨e, _⟩ | ⟨g, c', cur, e, _, _, hle, _⟩
  · rw [e]
    simp [Builtin.append_, run_underlying Try.underlying43, sizeOf, typeInfo, hi, Builtin.lenOf, Builtin.firstCells]
  · rw [e]
    simp [Builtin.append_, run_underlying Try.underlying43, sizeOf, typeInfo, hi, Builtin.lenOf, Builtin.firstCells, hle, storeCells]
set_option maxRecDepth 20000 in
theorem run_appY {w : World} {base : Nat} {A : Option Addr} {n cap : Nat} {xs : List Value} (h : w.ownsRow base 47 3 (.slice A n cap) n xs) (hbase : base ≤ w.heap.size)
    {B : Nat} {A2 : Option Addr} {m : Nat} {ys : List Value} (hx : SrcY w B A2 ys) (hm : ys.length = m * 3) (h1 : ∀ u ∈ ys, u.oneCell' = true) (c : Nat) (hlen : n + m ≤ 2000000) (ty : TypeId) :
    ∃ A' cap' w', (Builtin.append_ #[43, 43] ty #[.slice A n cap, .slice A2 m c]).run Try.prog w = .ok (.slice A' (n + m) cap') w' ∧
      w'.ownsRow base 47 3 (.slice A' (n + m) cap') (n + m) (xs ++ ys) ∧ Below base w w' ∧ w.grownBy w' (Value.slice A n cap).ownBlock := by
  obtain ⟨i, hi, hz0, hs, hyb⟩ := info_parts ent_info
  rcases A2 with _ | ad
  · have h0 : ys = [] := by
      rcases hx with h0 | ⟨_, _, e, _⟩
      · exact h0
      · cases e
    subst h0
    obtain rfl : m = 0 := by simp at hm; omega
    exact ⟨A, cap, w, nil_srcY h c ty, by rw [List.append_nil]; exact h, Below.refl _ _, ⟨rfl, rfl, rfl, Nat.le_refl _, fun _ _ _ => rfl⟩⟩
  · have hnews : ∀ j u, ys[j]? = some u → w.cell? (ad.add j) = some u := fun j u hu => by
      rcases hx with h0 | ⟨b, off, e, _, hc⟩
      · rw [h0] at hu; cases hu
      · injection e with e
        subst e
        rw [add_off]; exact hc j u hu
    obtain ⟨v', w', hrun, hown, hg, _, _⟩ := run_append_own_at (P := Try.prog) (w := w) base 43 ty 47 i _ 3 40 Try.underlying43 hi hz0 hs hyb rfl (by decide)
      _ n _ h ad m c ys hm hnews h1 (by unfold maxLen; omega) (by omega) hbase
    obtain ⟨A', cap', rfl⟩ := form_ofY hown
    refine ⟨A', cap', w', hrun, hown, (Below.refl _ _).grown hg hbase fun k hk => ?_, hg⟩
    cases A with
    | none => cases hk
    | some a => exact (World.ownsRow.lt h k hk).1
set_option maxRecDepth 20000 in
theorem step_appY {w : World} {ops : Array Oper} {o : Oper} {a : Act} {K : Act → World → Prop} {Q : Exit → Act → World → Prop} {E : Prop} (hgd : o.guard = none) (s x : Operand)
    (ho : o.op = .call { callee := .builtin .append, args := #[s, x], argTypes := #[43, 43] })
    {base : Nat} {A : Option Addr} {n cap : Nat} {xs : List Value} (hs : a.eval s = .slice A n cap) (h : w.ownsRow base 47 3 (.slice A n cap) n xs) (hbase : base ≤ w.heap.size)
    {B : Nat} {A2 : Option Addr} {m c : Nat} {ys : List Value} (hx : a.eval x = .slice A2 m c) (hb : SrcY w B A2 ys) (hm : ys.length = m * 3) (h1 : ∀ u ∈ ys, u.oneCell' = true) (hlen : n + m ≤ 2000000) {r : Nat} (hr : n + m = r)
    (H : ∀ A' cap' w', w'.ownsRow base 47 3 (.slice A' r cap') r (xs ++ ys) → Below base w w' → w.grownBy w' (Value.slice A n cap).ownBlock → K (a.put o.dst (.slice A' r cap')) w') :
    if Region.wanted o (yielded ops a.tmps) = true then Oper.wp Try.prog o a w K Q else E := by
  subst hr
  have hw : Region.wanted o (yielded ops a.tmps) = true := by simp [Region.wanted, hgd]
  rw [if_pos hw]
  obtain ⟨A', cap', w', hrun, h2, h3, h4⟩ := run_appY h hbase hb hm h1 c hlen o.type
  unfold Oper.wp
  simp [execOp, ho, resolve, invoke, builtin, hs, hx, hrun, Result.andThen]
  exact H A' cap' w' h2 h3 h4
theorem startY (w : World) : (w.alloc (.cells #[] 47)).ownsRow w.heap.size 47 3 (.slice (some ⟨w.heap.size, 0, none⟩) 0 0) 0 [] := World.ownsRow_lit w #[] 0 (Nat.le_refl _) (by decide) rfl
theorem ownsRow_capY {w : World} {base n size cap : Nat} {e : TypeId} {A : Option Addr} {xs : List Value} (h : w.ownsRow base e size (.slice A n cap) n xs) : n ≤ cap := by
  rcases h.2 with ⟨e, h0⟩ | ⟨g, c', cur, e, _, _, hle, _⟩
  · omega
  · injection e with _ _ e3
    omega
/-- A row of the call's own that holds entries, read as such. -/
theorem Ents.row {w : World} {base n cap : Nat} {A : Option Addr} {l : List Ky.T} (h : w.ownsRow base 47 3 (.slice A n cap) n (flatY l)) {O : Nat → Prop} (hO : ∀ a, A = some a → O a.block) : Ents w O A l := by
  intro hl
  have hn : l.length = n := by have := h.1; rw [flatY_len] at this; omega
  rcases SrcY.of h with e | ⟨b, off, e, hb, hc⟩
  · have := flatY_len l; rw [e] at this; simp at this; omega
  · exact ⟨b, off, e, hO _ e, hb, fun i hi => ⟨hc _ _ (flatY_at l i hi).1, hc _ _ (flatY_at l i hi).2.1, hc _ _ (flatY_at l i hi).2.2⟩⟩
/-- A source read as entries. -/
theorem Ents.of_src {w : World} {A : Option Addr} {l : List Ky.T} (h : SrcY w w.heap.size A (flatY l)) {O : Nat → Prop} (hO : ∀ a, A = some a → O a.block) : Ents w O A l := by
  intro hl
  rcases h with e | ⟨b, off, e, hb, hc⟩
  · have := flatY_len l; rw [e] at this; simp at this; omega
  · exact ⟨b, off, e, hO _ e, hb, fun i hi => ⟨hc _ _ (flatY_at l i hi).1, hc _ _ (flatY_at l i hi).2.1, hc _ _ (flatY_at l i hi).2.2⟩⟩
/-- Entries as a source of an append. -/
theorem Ents.src {w : World} {O : Nat → Prop} {A : Option Addr} {l : List Ky.T} (h : Ents w O A l) : SrcY w w.heap.size A (flatY l) := by
  rcases Nat.eq_zero_or_pos l.length with h0 | h0
  · left; rw [List.eq_nil_of_length_eq_zero h0]; rfl
  · obtain ⟨b, off, e, _, hb, hc⟩ := h h0
    refine .inr ⟨b, off, e, hb, fun j u hu => ?_⟩
    have hj : j < (flatY l).length := (List.getElem?_eq_some_iff.1 hu).1
    rw [flatY_len] at hj
    obtain ⟨q, hq, hm⟩ : ∃ q, q < l.length ∧ (j = q * 3 ∨ j = q * 3 + 1 ∨ j = q * 3 + 2) := ⟨j / 3, by omega, by omega⟩
    obtain ⟨a0, a1, a2⟩ := flatY_at l q hq
    obtain ⟨b0, b1, b2⟩ := hc q hq
    rcases hm with rfl | rfl | rfl
    · rw [a0] at hu; injection hu with hu; rw [← hu]; exact b0
    · rw [a1] at hu; injection hu with hu; rw [← hu, ← Nat.add_assoc]; exact b1
    · rw [a2] at hu; injection hu with hu; rw [← hu, ← Nat.add_assoc]; exact b2
/-! ### Its tail appended to, in the row's own room or in a new row -/
theorem setCells_kept (b : Nat) : ∀ (vs : List Value) (o : Nat) (w : World), (w.setCells b o vs).os = w.os ∧ (w.setCells b o vs).tape = w.tape ∧ (w.setCells b o vs).output = w.output ∧ (w.setCells b o vs).heap.size = w.heap.size ∧ ∀ k, k ≠ b → (w.setCells b o vs).heap[k]? = w.heap[k]?
  | [], _, _ => ⟨rfl, rfl, rfl, rfl, fun _ _ => rfl⟩
  | v :: r, o, w => by
    obtain ⟨h1, h2, h3, h4, h5⟩ := setCells_kept b r (o + 1) (w.setCell ⟨b, o, none⟩ v)
    rw [World.setCells]
    exact ⟨h1, h2, h3, h4.trans (by simp [World.setCell]), fun k hk => (h5 k hk).trans (Below.heap_setCell _ _ _ _ hk)⟩
/-- One element more behind the tail of a row of the call's own: in its room, or in a new row; all blocks below are as they were. -/
theorem run_appYt {w : World} {base : Nat} {A : Option Addr} {n cap k : Nat} {xs : List Value} (h : w.ownsRow base 47 3 (.slice A n cap) n xs) (_hbase : base ≤ w.heap.size) (hk : k ≤ n) (hn0 : 0 < n)
    {b2 o2 m : Nat} {ys : List Value} (hx : ∀ j u, ys[j]? = some u → w.cell? ⟨b2, o2 + j, none⟩ = some u) (hm : ys.length = m * 3) (h1 : ∀ u ∈ ys, u.oneCell' = true) (c : Nat) (hlen : n + m ≤ 2000000) (ty : TypeId) :
    ∃ A' cap' w', (Builtin.append_ #[43, 43] ty #[.slice (tailY A cap k) (n - k) (cap - k), .slice (some ⟨b2, o2, none⟩) m c]).run Try.prog w = .ok (.slice A' (n - k + m) cap') w' ∧
      SrcY w' w'.heap.size A' (xs.drop (k * 3) ++ ys) ∧ (∀ a, A' = some a → base ≤ a.block ∧ a.block < w'.heap.size) ∧ n - k + m ≤ cap' ∧ Below base w w' := by
  obtain ⟨i, hi, hz0, hs, hyb⟩ := info_parts ent_info
  obtain ⟨hl, hr⟩ := h
  rcases hr with ⟨e, e0⟩ | ⟨g, c', cur, e, hg, hblk, hle, hmax, hsz, htake⟩
  · omega
  injection e with e1 e2 e3
  subst e1 e3
  have hxl : (xs.drop (k * 3)).length = (n - k) * 3 := by rw [List.length_drop, hl]; omega
  obtain ⟨off, hoff, hA⟩ : ∃ off, (cap = k ∨ off = k * 3) ∧ tailY (some ⟨g, 0, none⟩) cap k = some ⟨g, off, none⟩ := by
    unfold tailY
    split
    · next he => exact ⟨0, .inl he, rfl⟩
    · exact ⟨k * 3, .inr rfl, by simp [Addr.add]; omega⟩
  have hg' : g < w.heap.size := lt_of_block hblk
  have hcell : ∀ p, w.cell? ⟨g, p, none⟩ = cur[p]? := fun p => by simp [World.cell?, hblk]
  have holds : ∀ j u, (xs.drop (k * 3))[j]? = some u → w.cell? ⟨g, off + j, none⟩ = some u := fun j u hu => by
    have hj : j < (xs.drop (k * 3)).length := (List.getElem?_eq_some_iff.1 hu).1
    rw [hxl] at hj
    rcases hoff with he | he
    · omega
    · rw [List.getElem?_drop, ← htake, List.getElem?_take] at hu
      split at hu
      · rw [hcell, he]; simpa using hu
      · cases hu
  have hnews : ∀ j u, ys[j]? = some u → w.cell? ((⟨b2, o2, none⟩ : Addr).add j) = some u := fun j u hu => by rw [add_off]; exact hx j u hu
  rw [hA]
  by_cases hroom : n - k + m ≤ cap - k
  · have hin : ∀ j, j < ys.length → off + (n - k) * 3 + j < cur.size := fun j hj => by
      rw [hsz]
      rcases hoff with he | he
      · omega
      · omega
    have hc1 : ∀ j, j < ys.length → (w.cell? ⟨g, off + (n - k) * 3 + j, none⟩).isSome = true := fun j hj => by
      rw [hcell, Array.getElem?_eq_getElem (hin j hj)]; rfl
    have hf1 : ∀ j, j < ys.length → w.frozen? ⟨g, off + (n - k) * 3 + j, none⟩ = false := fun j _ => by simp [World.frozen?, hblk]
    obtain ⟨k1, k2, k3, k4, k5⟩ := setCells_kept g ys (off + (n - k) * 3) w
    have hrun := run_append_room_cells (P := Try.prog) w 43 ty 47 i Try.underlying43 hi g off (n - k) (cap - k) ⟨b2, o2, none⟩ m c ys (by rw [hs]; exact hm) hnews h1 hroom (by rw [hs]; exact hc1) (by rw [hs]; exact hf1)
    rw [hs] at hrun
    refine ⟨some ⟨g, off, none⟩, cap - k, _, hrun, .inr ⟨g, off, rfl, by rw [k4]; exact hg', fun j u hu => ?_⟩, fun a ha => ?_, hroom, ⟨k1, k2, k3, Nat.le_of_eq k4.symm, fun q hq => k5 q (by omega)⟩⟩
    · rw [List.getElem?_append] at hu
      split at hu
      · next hj =>
        rw [World.cell?_setCells_out g ys _ w _ fun _ _ => .inl (by show off + j < _; rw [hxl] at hj; omega)]
        exact holds j u hu
      · next hj =>
        rw [hxl] at hu hj
        have hj2 : j - (n - k) * 3 < ys.length := (List.getElem?_eq_some_iff.1 hu).1
        have := World.cell?_setCells_in g ys (off + (n - k) * 3) w hc1 (j - (n - k) * 3) hj2
        rw [show off + (n - k) * 3 + (j - (n - k) * 3) = off + j by omega] at this
        rw [this, ← hu, List.getElem?_eq_getElem hj2]
    · injection ha with ha
      subst ha
      exact ⟨hg, by rw [k4]; exact hg'⟩
  · obtain ⟨v', w', hrun, hown, hgr⟩ := run_append_arg_grows (P := Try.prog) w 43 ty 47 i _ 3 40 Try.underlying43 hi hz0 hs hyb rfl (by decide) ⟨g, off, none⟩ (n - k) (cap - k) (xs.drop (k * 3)) hxl (fun j u hu => by rw [add_off]; exact holds j u hu)
      ⟨b2, o2, none⟩ m c ys hm hnews (by omega) (by unfold maxLen; omega) (by omega)
    obtain ⟨A', cap', rfl⟩ := form_ofY hown
    refine ⟨A', cap', w', hrun, SrcY.of hown, fun a ha => ?_, ownsRow_capY hown, ⟨hgr.os, hgr.tape, hgr.output, hgr.size, fun q hq => hgr.block q (by omega) (by simp)⟩⟩
    subst ha
    have := World.ownsRow.lt hown a.block (by simp [Value.ownBlock])
    exact ⟨by omega, this.2⟩
set_option maxRecDepth 20000 in
theorem step_appYt {w : World} {ops : Array Oper} {o : Oper} {a : Act} {K : Act → World → Prop} {Q : Exit → Act → World → Prop} {E : Prop} (hgd : o.guard = none) (s x : Operand)
    (ho : o.op = .call { callee := .builtin .append, args := #[s, x], argTypes := #[43, 43] })
    {base : Nat} {A : Option Addr} {n cap k : Nat} {xs : List Value} {n1 cap1 : Nat} {A1 : Option Addr} (hs : a.eval s = .slice A1 n1 cap1) (e1 : A1 = tailY A cap k) (e2 : n1 = n - k) (e3 : cap1 = cap - k) (h : w.ownsRow base 47 3 (.slice A n cap) n xs) (hbase : base ≤ w.heap.size) (hk : k ≤ n) (hn0 : 0 < n)
    {b2 o2 m c : Nat} {ys : List Value} (hx : a.eval x = .slice (some ⟨b2, o2, none⟩) m c) (hc : ∀ j u, ys[j]? = some u → w.cell? ⟨b2, o2 + j, none⟩ = some u) (hm : ys.length = m * 3) (h1 : ∀ u ∈ ys, u.oneCell' = true) (hlen : n + m ≤ 2000000) {r : Nat} (hr : n - k + m = r)
    (H : ∀ A' cap' w', SrcY w' w'.heap.size A' (xs.drop (k * 3) ++ ys) → (∀ a, A' = some a → base ≤ a.block ∧ a.block < w'.heap.size) → r ≤ cap' → Below base w w' → K (a.put o.dst (.slice A' r cap')) w') :
    if Region.wanted o (yielded ops a.tmps) = true then Oper.wp Try.prog o a w K Q else E := by
  subst hr e1 e2 e3
  have hw : Region.wanted o (yielded ops a.tmps) = true := by simp [Region.wanted, hgd]
  rw [if_pos hw]
  obtain ⟨A', cap', w', hrun, h2, h3, h4, h5⟩ := run_appYt h hbase hk hn0 hc hm h1 c hlen o.type
  unfold Oper.wp
  simp [execOp, ho, resolve, invoke, builtin, hs, hx, hrun, Result.andThen]
  exact H A' cap' w' h2 h3 h4 h5
set_option maxRecDepth 20000 in
theorem wp_appY {w : World} {ops : Array Oper} {rest : List Oper} {o : Oper} {a : Act} {Q : Exit → Act → World → Prop} (hgd : o.guard = none) (s x : Operand)
    (ho : o.op = .call { callee := .builtin .append, args := #[s, x], argTypes := #[43, 43] })
    {base : Nat} {A : Option Addr} {n cap : Nat} {xs : List Value} (hs : a.eval s = .slice A n cap) (h : w.ownsRow base 47 3 (.slice A n cap) n xs) (hbase : base ≤ w.heap.size)
    {B : Nat} {A2 : Option Addr} {m c : Nat} {ys : List Value} (hx : a.eval x = .slice A2 m c) (hb : SrcY w B A2 ys) (hm : ys.length = m * 3) (h1 : ∀ u ∈ ys, u.oneCell' = true) (hlen : n + m ≤ 2000000) {r : Nat} (hr : n + m = r)
    (K : ∀ A' cap' w', w'.ownsRow base 47 3 (.slice A' r cap') r (xs ++ ys) → Below base w w' → wpList Try.prog ops Q rest (a.put o.dst (.slice A' r cap')) w') :
    wpList Try.prog ops Q (o :: rest) a w := by
  subst hr
  obtain ⟨A', cap', w', hrun, h2, h3, _⟩ := run_appY h hbase hb hm h1 c hlen o.type
  refine wpList_plain hgd fun K' hK => ?_
  unfold Oper.wp
  simp [execOp, ho, resolve, invoke, builtin, hs, hx, hrun, Result.andThen]
  exact hK _ _ (K A' cap' w' h2 h3)
set_option maxRecDepth 20000 in
theorem wp_appYt {w : World} {ops : Array Oper} {rest : List Oper} {o : Oper} {a : Act} {Q : Exit → Act → World → Prop} (hgd : o.guard = none) (s x : Operand)
    (ho : o.op = .call { callee := .builtin .append, args := #[s, x], argTypes := #[43, 43] })
    {base : Nat} {A : Option Addr} {n cap k : Nat} {xs : List Value} {n1 cap1 : Nat} {A1 : Option Addr} (hs : a.eval s = .slice A1 n1 cap1) (e1 : A1 = tailY A cap k) (e2 : n1 = n - k) (e3 : cap1 = cap - k) (h : w.ownsRow base 47 3 (.slice A n cap) n xs) (hbase : base ≤ w.heap.size) (hk : k ≤ n) (hn0 : 0 < n)
    {b2 o2 m c : Nat} {ys : List Value} (hx : a.eval x = .slice (some ⟨b2, o2, none⟩) m c) (hc : ∀ j u, ys[j]? = some u → w.cell? ⟨b2, o2 + j, none⟩ = some u) (hm : ys.length = m * 3) (h1 : ∀ u ∈ ys, u.oneCell' = true) (hlen : n + m ≤ 2000000) {r : Nat} (hr : n - k + m = r)
    (K : ∀ A' cap' w', SrcY w' w'.heap.size A' (xs.drop (k * 3) ++ ys) → (∀ a, A' = some a → base ≤ a.block ∧ a.block < w'.heap.size) → r ≤ cap' → Below base w w' → wpList Try.prog ops Q rest (a.put o.dst (.slice A' r cap')) w') :
    wpList Try.prog ops Q (o :: rest) a w := by
  subst hr e1 e2 e3
  obtain ⟨A', cap', w', hrun, h2, h3, h4, h5⟩ := run_appYt h hbase hk hn0 hc hm h1 c hlen o.type
  refine wpList_plain hgd fun K' hK => ?_
  unfold Oper.wp
  simp [execOp, ho, resolve, invoke, builtin, hs, hx, hrun, Result.andThen]
  exact hK _ _ (K A' cap' w' h2 h3 h4 h5)
/-- A new block of one entry, beside a row of the call's own. -/
theorem one_more {w : World} {base : Nat} {A : Option Addr} {n cap : Nat} {xs : List Value} (h : w.ownsRow base 47 3 (.slice A n cap) n xs) (hb : base ≤ w.heap.size) (u v z : Value) :
    (w.alloc (.cells #[u, v, z] 47)).ownsRow base 47 3 (.slice A n cap) n xs ∧ (∀ j x, [u, v, z][j]? = some x → (w.alloc (.cells #[u, v, z] 47)).cell? ⟨w.heap.size, 0 + j, none⟩ = some x) ∧ Below base w (w.alloc (.cells #[u, v, z] 47)) ∧ base ≤ (w.alloc (.cells #[u, v, z] 47)).heap.size ∧ w.heap.size < (w.alloc (.cells #[u, v, z] 47)).heap.size := by
  have hsz : (w.alloc (.cells #[u, v, z] 47)).heap.size = w.heap.size + 1 := by unfold World.alloc; simp
  have hnew : (w.alloc (.cells #[u, v, z] 47)).heap[w.heap.size]? = some (.cells #[u, v, z] 47 (0, 0)) := heap_alloc_new ..
  refine ⟨⟨h.1, ?_⟩, fun j x hx => ?_, (Below.refl _ _).alloc hb _, by omega, by omega⟩
  · rcases h.2 with e | ⟨g, c', cur, e, hg, hblk, r⟩
    · exact .inl e
    · exact .inr ⟨g, c', cur, e, hg, by rw [Below.heap_alloc _ _ _ (lt_of_block hblk)]; exact hblk, r⟩
  · rw [Nat.zero_add]
    have : (w.alloc (.cells #[u, v, z] 47)).cell? ⟨w.heap.size, j, none⟩ = #[u, v, z][j]? := by simp only [World.cell?, hnew]; rfl
    rw [this, ← hx]
    simp
end Go.Proofs.Yteppokokabgniaa
