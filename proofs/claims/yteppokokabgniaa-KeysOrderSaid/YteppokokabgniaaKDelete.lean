/-
  A row of the call's own whose first element is deleted in its place (slices.Delete(l, 0, 1)): the elements behind it moved one ahead, the last place cleared. The element's type is open; no function is named here.
-/
import Derived.Test.YteppokokabgniaaKRows
import Derived.Test.YteppokokabgniaaOnly
import Derived.Laws.IdiomCopy
namespace Go.Proofs.Yteppokokabgniaa
open Go.RowKit
theorem setCells_block (b : Nat) : ∀ (vs : List Value) (o : Nat) (w : World) (cur : Array Value) (T : TypeId) (fz : Nat × Nat), w.heap[b]? = some (.cells cur T fz) → ∃ cur', (w.setCells b o vs).heap[b]? = some (.cells cur' T fz) ∧ cur'.size = cur.size
  | [], _, _, cur, _, _, h => ⟨cur, h, rfl⟩
  | v :: r, o, w, cur, T, fz, h => by
    have hs : (w.setCell ⟨b, o, none⟩ v).heap[b]? = some (.cells (cur.setIfInBounds o v) T fz) := by
      unfold World.setCell
      simp only
      rw [Array.getElem?_modify, if_pos rfl, h]
      rfl
    obtain ⟨c2, h2, e2⟩ := setCells_block b r (o + 1) _ _ T fz hs
    exact ⟨c2, by rw [World.setCells]; exact h2, by rw [e2]; simp⟩
theorem setCells_only (b : Nat) : ∀ (vs : List Value) (o : Nat) (w : World), Only (fun i => i = b) w (w.setCells b o vs)
  | [], _, _ => Only.refl _ _
  | v :: r, o, w => by
    rw [World.setCells]
    exact Only.trans (own := fun i => i = b) (own2 := fun i => i = b) (Only.set _ o w v rfl) (setCells_only b r (o + 1) _) fun i hi => .inl hi
theorem OwnK.inner {w : World} {base g cap k : Nat} {T : TypeId} {vs : List (List Value)} (h : OwnK w base T k (some ⟨g, 0, none⟩) cap vs) : ∃ cur, w.heap[g]? = some (.cells cur T (0, 0)) ∧ base ≤ g ∧ vs.length ≤ cap ∧ cap ≤ maxLen ∧ cur.size = cap * k ∧ cur.toList.take (vs.length * k) = vs.flatten := by
  rcases h.1.2 with ⟨e, _⟩ | ⟨g', c', cur, e, hb, hg, hle, hm, hsz, htk⟩
  · cases e
  · injection e with e1 e2 e3
    injection e1 with e1
    injection e1 with e1
    subst e1 e3
    exact ⟨cur, hg, hb, hle, hm, hsz, htk⟩
/-- The room of a row of the call's own. -/
theorem OwnK.spare {w : World} {base g cap k : Nat} {T : TypeId} {vs : List (List Value)} (h : OwnK w base T k (some ⟨g, 0, none⟩) cap vs) : vs.length ≤ cap ∧ cap ≤ 9223372036854775807 ∧ ∀ j, j < cap * k → (w.cell? ⟨g, j, none⟩).isSome = true ∧ w.frozen? ⟨g, j, none⟩ = false := by
  obtain ⟨cur, hg, hb, hle, hm, hsz, htk⟩ := h.inner
  refine ⟨hle, by unfold maxLen at hm; exact hm, fun j hj => ⟨?_, ?_⟩⟩
  · simp [World.cell?, hg]; omega
  · simp [World.frozen?, hg]
/-- A row's first n cells written anew, then cells behind them: the row of fewer elements. -/
theorem OwnK.moved {w : World} {base g cap k : Nat} {T : TypeId} {vs ys : List (List Value)} (h : OwnK w base T k (some ⟨g, 0, none⟩) cap vs) (hy : Wide k ys) (hle : ys.length ≤ vs.length) (us : List Value) :
    OwnK ((w.setCells g 0 ys.flatten).setCells g (ys.length * k) us) base T k (some ⟨g, 0, none⟩) cap ys := by
  obtain ⟨s1, s2, s3⟩ := h.spare
  obtain ⟨cur, hg, hb, hl, hm, hsz, htk⟩ := h.inner
  obtain ⟨c1, h1, e1⟩ := setCells_block g ys.flatten 0 w cur T (0, 0) hg
  obtain ⟨c2, h2, e2⟩ := setCells_block g us (ys.length * k) _ c1 T (0, 0) h1
  have hlen := hy.len
  have hmul : ys.length * k ≤ cap * k := Nat.mul_le_mul_right k (by omega)
  refine ⟨⟨hlen, .inr ⟨g, cap, c2, rfl, hb, h2, by omega, hm, by rw [e2, e1, hsz], ?_⟩⟩, hy⟩
  refine List.ext_getElem? fun j => ?_
  rw [List.getElem?_take]
  split
  · next hj =>
    have hj2 : j < ys.flatten.length := by rw [hlen]; exact hj
    have a1 : ((w.setCells g 0 ys.flatten).setCells g (ys.length * k) us).cell? ⟨g, j, none⟩ = c2.toList[j]? := by simp [World.cell?, h2]
    have a2 := World.cell?_setCells_out g us (ys.length * k) (w.setCells g 0 ys.flatten) ⟨g, j, none⟩ fun _ _ => .inl hj
    have a3 := World.cell?_setCells_in g ys.flatten 0 w (fun i hi => by rw [Nat.zero_add]; exact (s3 i (by rw [hlen] at hi; omega)).1) j hj2
    rw [Nat.zero_add] at a3
    rw [← a1, a2, a3, List.getElem?_eq_getElem hj2]
  · next hj => rw [List.getElem?_eq_none (by rw [hlen]; omega)]
theorem Wide.drop {k : Nat} {vs : List (List Value)} (h : Wide k vs) (n : Nat) : Wide k (vs.drop n) := fun v hv => h v (List.mem_of_mem_drop hv)
theorem Wide.flat_drop {k : Nat} {vs : List (List Value)} (h : Wide k vs) : ∀ n : Nat, (vs.drop n).flatten = vs.flatten.drop (n * k) := by
  induction vs with
  | nil => intro n; simp
  | cons v r ih =>
    intro n
    cases n with
    | zero => simp
    | succ n =>
      have hv := (h v (List.mem_cons_self ..)).1
      rw [List.drop_succ_cons, ih (fun x hx => h x (List.mem_cons_of_mem _ hx)) n, List.flatten_cons, List.drop_append, hv, show v.drop ((n + 1) * k) = [] from List.drop_eq_nil_of_le (by rw [hv, Nat.add_mul]; omega), List.nil_append, show (n + 1) * k - k = n * k by rw [Nat.add_mul]; omega]
/-- The cells of a row from an element on. -/
theorem OwnK.cells {w : World} {base g cap k : Nat} {T : TypeId} {vs : List (List Value)} (h : OwnK w base T k (some ⟨g, 0, none⟩) cap vs) (n : Nat) (j : Nat) (u : Value) (hu : (vs.drop n).flatten[j]? = some u) : w.cell? ⟨g, n * k + j, none⟩ = some u := by
  rw [h.2.flat_drop n, List.getElem?_drop] at hu
  have hj : n * k + j < vs.flatten.length := (List.getElem?_eq_some_iff.1 hu).1
  rw [← hu]
  rw [h.2.len] at hj
  exact World.ownsRow.cellAt h.1 (n * k + j) hj
theorem OwnK.drewN {w : World} {base k cap : Nat} {T : TypeId} {A : Option Addr} {vs : List (List Value)} (h : OwnK w base T k A cap vs) (n : Nat) : OwnK (w.drewN n) base T k A cap vs := h.keep fun _ _ => rfl
theorem OwnK.drew {w : World} {base k cap : Nat} {T : TypeId} {A : Option Addr} {vs : List (List Value)} (h : OwnK w base T k A cap vs) : OwnK w.drew base T k A cap vs := h.keep fun _ _ => rfl
end Go.Proofs.Yteppokokabgniaa
