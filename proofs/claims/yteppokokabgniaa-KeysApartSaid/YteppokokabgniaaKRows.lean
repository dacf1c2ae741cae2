/-
  Rows of the call's own whose elements are structs of k cells: appended to, kept, read. The element's type is open; no function of the program is named here.
-/
import Derived.Test.YteppokokabgniaaBaseKit
namespace Go.Proofs.Yteppokokabgniaa
open Go.RowKit

/-- Every element has k cells, each a value of one cell. -/
def Wide (k : Nat) (vs : List (List Value)) : Prop := ∀ v ∈ vs, v.length = k ∧ ∀ u ∈ v, u.oneCell' = true
theorem Wide.nil (k : Nat) : Wide k [] := fun v hv => by simp at hv
theorem Wide.app {k : Nat} {vs us : List (List Value)} (h : Wide k vs) (h2 : Wide k us) : Wide k (vs ++ us) := fun v hv => by
  rcases List.mem_append.1 hv with h1 | h1
  · exact h v h1
  · exact h2 v h1
theorem Wide.len {k : Nat} {vs : List (List Value)} (h : Wide k vs) : vs.flatten.length = vs.length * k := by
  induction vs with
  | nil => simp
  | cons v r ih =>
    rw [List.flatten_cons, List.length_append, ih fun x hx => h x (List.mem_cons_of_mem _ hx), (h v (List.mem_cons_self ..)).1, List.length_cons, Nat.add_mul, Nat.one_mul, Nat.add_comm]
theorem Wide.get {k : Nat} {vs : List (List Value)} (h : Wide k vs) (i j : Nat) (hi : i < vs.length) (hj : j < k) : vs.flatten[i * k + j]? = (vs.getD i [])[j]? := by
  induction vs generalizing i with
  | nil => simp at hi
  | cons v r ih =>
    have hv := (h v (List.mem_cons_self ..)).1
    rw [List.flatten_cons]
    cases i with
    | zero =>
      rw [Nat.zero_mul, Nat.zero_add, List.getElem?_append_left (by omega)]
      rfl
    | succ i =>
      rw [List.getElem?_append_right (by rw [hv, Nat.add_mul]; omega), hv, show (i + 1) * k + j - k = i * k + j by rw [Nat.add_mul]; omega,
        ih (fun x hx => h x (List.mem_cons_of_mem _ hx)) i (by simpa using hi)]
      rfl
theorem Wide.mem {k : Nat} {vs : List (List Value)} (h : Wide k vs) : ∀ u ∈ vs.flatten, u.oneCell' = true := fun u hu => by
  obtain ⟨v, hv, hu2⟩ := List.mem_flatten.1 hu
  exact (h v hv).2 u hu2
/-- The row of structs of k cells at address A is the call's own. -/
def OwnK (w : World) (base : Nat) (T : TypeId) (k : Nat) (A : Option Addr) (cap : Nat) (vs : List (List Value)) : Prop :=
  w.ownsRow base T k (.slice A vs.length cap) vs.length vs.flatten ∧ Wide k vs
theorem OwnK.none_ (w : World) (base : Nat) (T : TypeId) (k : Nat) : OwnK w base T k none 0 [] := ⟨World.ownsRow_nil w base _ _, Wide.nil k⟩
theorem OwnK.keep {w w' : World} {base : Nat} {T : TypeId} {k : Nat} {A : Option Addr} {cap : Nat} {vs : List (List Value)} (h : OwnK w base T k A cap vs) (hk : ∀ a, A = some a → w'.heap[a.block]? = w.heap[a.block]?) : OwnK w' base T k A cap vs := by
  refine ⟨⟨h.1.1, ?_⟩, h.2⟩
  rcases h.1.2 with e | ⟨g, c', cur, e, hb, hg, r⟩
  · exact .inl e
  · injection e with e1 e2 e3
    subst e1 e3
    exact .inr ⟨g, _, cur, rfl, hb, by rw [hk _ rfl]; exact hg, r⟩
theorem OwnK.low {w : World} {base b : Nat} {T : TypeId} {k : Nat} {A : Option Addr} {cap : Nat} {vs : List (List Value)} (h : OwnK w base T k A cap vs) (hb : b ≤ base) : OwnK w b T k A cap vs := ⟨Joins.ownsRow_le h.1 hb, h.2⟩
theorem OwnK.lt {w : World} {base : Nat} {T : TypeId} {k : Nat} {a : Addr} {cap : Nat} {vs : List (List Value)} (h : OwnK w base T k (some a) cap vs) : base ≤ a.block ∧ a.block < w.heap.size :=
  World.ownsRow.lt h.1 a.block (by simp [Value.ownBlock])
theorem OwnK.grew {w w' : World} {base B : Nat} {T : TypeId} {k : Nat} {A : Option Addr} {cap : Nat} {vs : List (List Value)} (h : OwnK w base T k A cap vs) (hb : Below B w w') (hB : w.heap.size ≤ B) : OwnK w' base T k A cap vs :=
  h.keep fun a ha => by
    subst ha
    exact hb.block _ (by have := h.lt.2; omega)
theorem OwnK.shape {w : World} {base : Nat} {T : TypeId} {k : Nat} {A : Option Addr} {cap : Nat} {vs : List (List Value)} (h : OwnK w base T k A cap vs) (hn : 0 < vs.length) : ∃ g, A = some ⟨g, 0, none⟩ ∧ base ≤ g ∧ g < w.heap.size := by
  obtain ⟨g, c, e⟩ := Joins.ownsRow_form h.1 hn
  injection e with e1 e2 e3
  subst e1 e3
  have hlt := OwnK.lt h
  exact ⟨g, rfl, hlt.1, hlt.2⟩
theorem OwnK.cap_ {w : World} {base : Nat} {T : TypeId} {k : Nat} {A : Option Addr} {cap : Nat} {vs : List (List Value)} (h : OwnK w base T k A cap vs) : vs.length ≤ cap := by
  rcases h.1.2 with ⟨e, e0⟩ | ⟨g, c', cur, e, _, _, hle, _⟩
  · omega
  · injection e with e1 e2 e3
    omega
/-- The cell j of element i. -/
theorem OwnK.cell {w : World} {base g cap : Nat} {T : TypeId} {k : Nat} {vs : List (List Value)} (h : OwnK w base T k (some ⟨g, 0, none⟩) cap vs) {i j : Nat} (hi : i < vs.length) (hj : j < k) {u : Value} (hu : (vs.getD i [])[j]? = some u) :
    w.cell? ⟨g, i * k + j, none⟩ = some u := by
  rw [← hu, ← h.2.get i j hi hj]
  exact World.ownsRow.cellAt h.1 (i * k + j) (by
    have h1 : (i + 1) * k ≤ vs.length * k := Nat.mul_le_mul_right k hi
    rw [Nat.add_mul, Nat.one_mul] at h1
    omega)
theorem form_ofK {w : World} {base n k : Nat} {T : TypeId} {v : Value} {xs : List Value} (h : w.ownsRow base T k v n xs) : ∃ A cap, v = .slice A n cap := by
  rcases h.2 with ⟨e, e0⟩ | ⟨g, c', _, e, _⟩
  · exact ⟨none, 0, by rw [e0]; exact e⟩
  · exact ⟨_, _, e⟩
/-- What an append of further structs leaves: the row with them behind it, all other blocks as they were; where the row lies then. -/
theorem run_appK {w : World} {base : Nat} {T ST : TypeId} {k : Nat} {A : Option Addr} {cap : Nat} {vs us : List (List Value)} {z : Value} {by_ : Nat} (hST : Try.prog.underlying ST = some (.slice T))
    (hI : (Try.prog.info? T).map (fun i => (i.zero, i.size, i.bytes)) = some (some z, k, by_)) (hz : z.cells.size = k) (hk : 0 < k) (hby : by_ ≤ 128)
    (h : OwnK w base T k A cap vs) (hbase : base ≤ w.heap.size) {b2 o2 : Nat} (hw : Wide k us) (hx : ∀ j u, us.flatten[j]? = some u → w.cell? ⟨b2, o2 + j, none⟩ = some u) (c : Nat)
    (hlen : vs.length + us.length ≤ 1000000000) (ty : TypeId) :
    ∃ A' cap' w', (Builtin.append_ #[ST, ST] ty #[.slice A vs.length cap, .slice (some ⟨b2, o2, none⟩) us.length c]).run Try.prog w = .ok (.slice A' (vs ++ us).length cap') w' ∧
      OwnK w' base T k A' cap' (vs ++ us) ∧ w.grownBy w' (Value.slice A vs.length cap).ownBlock ∧ ∀ a, A' = some a → (∃ a0, A = some a0 ∧ a.block = a0.block) ∨ a.block = w.heap.size := by
  obtain ⟨i, hi, hz0, hs, hyb⟩ := info_parts hI
  obtain ⟨v', w', hrun, hown, hg, _, hwh⟩ := run_append_own_at (P := Try.prog) (w := w) base ST ty T i z k by_ hST hi hz0 hs hyb hz hk
    _ vs.length _ h.1 ⟨b2, o2, none⟩ us.length c us.flatten hw.len (fun j u hu => by
      rw [add_off]
      exact hx j u hu) hw.mem (by unfold maxLen; omega) (by
      have h1 : (vs.length + us.length) * by_ ≤ 1000000000 * 128 := Nat.mul_le_mul hlen hby
      omega) hbase
  obtain ⟨A', cap', rfl⟩ := form_ofK hown
  rw [← List.length_append] at hrun hown
  refine ⟨A', cap', w', hrun, ⟨?_, h.2.app hw⟩, hg, fun a ha => ?_⟩
  · rw [List.flatten_append]
    exact hown
  · subst ha
    rcases hwh with h1 | h1
    · cases A with
      | none => simp [Value.ownBlock] at h1
      | some a0 => simp [Value.ownBlock] at h1; exact .inl ⟨a0, rfl, h1⟩
    · simp [Value.ownBlock] at h1; exact .inr h1
theorem wp_appK {w : World} {ops : Array Oper} {rest : List Oper} {o : Oper} {a : Act} {Q : Exit → Act → World → Prop} (hgd : o.guard = none) (s t : Operand) {T ST : TypeId}
    (ho : o.op = .call { callee := .builtin .append, args := #[s, t], argTypes := #[ST, ST] })
    {base k : Nat} {A : Option Addr} {n cap : Nat} {vs us : List (List Value)} {z : Value} {by_ : Nat} (hST : Try.prog.underlying ST = some (.slice T))
    (hI : (Try.prog.info? T).map (fun i => (i.zero, i.size, i.bytes)) = some (some z, k, by_)) (hz : z.cells.size = k) (hk : 0 < k) (hby : by_ ≤ 128)
    (hs : a.eval s = .slice A n cap) (hn : n = vs.length) (h : OwnK w base T k A cap vs) (hbase : base ≤ w.heap.size)
    {b2 o2 m c : Nat} (ht : a.eval t = .slice (some ⟨b2, o2, none⟩) m c) (hm : m = us.length) (hw : Wide k us) (hx : ∀ j u, us.flatten[j]? = some u → w.cell? ⟨b2, o2 + j, none⟩ = some u)
    (hlen : vs.length + us.length ≤ 1000000000)
    (K : ∀ A' cap' w', OwnK w' base T k A' cap' (vs ++ us) → w.grownBy w' (Value.slice A vs.length cap).ownBlock → (∀ a, A' = some a → (∃ a0, A = some a0 ∧ a.block = a0.block) ∨ a.block = w.heap.size) → wpList Try.prog ops Q rest (a.put o.dst (.slice A' (vs ++ us).length cap')) w') :
    wpList Try.prog ops Q (o :: rest) a w := by
  subst hn hm
  obtain ⟨A', cap', w', hrun, h1, h2, h3⟩ := run_appK hST hI hz hk hby h hbase hw hx c hlen o.type
  refine wpList_plain hgd fun K' hK => ?_
  unfold Oper.wp
  simp [execOp, ho, resolve, invoke, builtin, hs, ht, hrun, Result.andThen]
  have hk := K A' cap' w' h1 h2 h3
  rw [List.length_append] at hk
  exact hK _ _ hk
/-- A literal row, full. -/
theorem OwnK.lit {w : World} {T : TypeId} {k : Nat} (vs : List (List Value)) (hw : Wide k vs) (hv : vs.length ≤ 1000000000) (cs : Array Value) (hc : cs.toList = vs.flatten) : OwnK (w.alloc (.cells cs T)) w.heap.size T k (some ⟨w.heap.size, 0, none⟩) vs.length vs := by
  have hl := hw.len
  have hcs : cs = vs.flatten.toArray := by rw [← hc]
  refine ⟨?_, hw⟩
  have := World.ownsRow_lit (e := T) (size := k) w cs vs.length (Nat.le_refl w.heap.size) (by unfold maxLen; omega) (by rw [← Array.length_toList, hc, hl])
  rw [hc] at this
  exact this
end Go.Proofs.Yteppokokabgniaa
