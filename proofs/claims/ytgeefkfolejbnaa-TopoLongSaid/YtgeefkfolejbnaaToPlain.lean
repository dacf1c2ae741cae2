/-
  Topological orders in plain words: the order that puts the least possible node at each place, levels, the number of paths; what is told of them.
-/
import Derived.Test.YtgeefkfolejbnaaGrPlain
namespace Go.Proofs.Ytgeefkfolejbnaa.To
open Gr
/-! ### Orders -/
def ready (es : E) (n : Nat) (l : List Nat) (x : Nat) : Bool := !l.contains x && (aheadV es n x).all fun a => l.contains a
def next (es : E) (n : Nat) (l : List Nat) : Option Nat := (List.range n).find? (ready es n l)
def orderK (es : E) (n : Nat) : Nat → List Nat → Option (List Nat)
  | 0, l => some l
  | k + 1, l => match next es n l with
    | none => none
    | some x => orderK es n k (l ++ [x])
def orderV (es : E) (n : Nat) : Option (List Nat) := orderK es n n []
/-- A first part of an order: no node twice, each behind all that it wants. -/
structure Ord (es : E) (n : Nat) (l : List Nat) : Prop where
  once : l.Nodup
  low : ∀ x ∈ l, x < n
  behind : ∀ i, i < l.length → ∀ a, (a, l.getD i 0) ∈ es → a ∈ l.take i
theorem Ord.nil (es : E) (n : Nat) : Ord es n [] := ⟨List.nodup_nil, fun x h => by simp at h, fun i h => by simp at h⟩
theorem ready_iff {es : E} {n : Nat} (hl : Low es n) (l : List Nat) (x : Nat) : ready es n l x = true ↔ x ∉ l ∧ ∀ a, (a, x) ∈ es → a ∈ l := by
  unfold ready
  rw [Bool.and_eq_true, Bool.not_eq_true', List.all_eq_true]
  constructor
  · rintro ⟨h1, h2⟩
    refine ⟨fun h => (by rw [List.contains_iff_mem.2 h] at h1; cases h1), fun a ha => List.contains_iff_mem.1 (h2 a ((mem_ahead hl).2 ha))⟩
  · rintro ⟨h1, h2⟩
    refine ⟨?_, fun a ha => List.contains_iff_mem.2 (h2 a ((mem_ahead hl).1 ha))⟩
    cases hc : l.contains x with
    | false => rfl
    | true => exact absurd (List.contains_iff_mem.1 hc) h1
theorem next_some {es : E} {n x : Nat} {l : List Nat} (h : next es n l = some x) : x < n ∧ ready es n l x = true ∧ ∀ y, y < x → ready es n l y = false := by
  unfold next at h
  rw [List.find?_eq_some_iff_getElem] at h
  obtain ⟨h1, i, hi, h2, h3⟩ := h
  rw [List.getElem_range] at h2
  subst h2
  rw [List.length_range] at hi
  refine ⟨hi, h1, fun y hy => ?_⟩
  have := h3 y hy
  rw [List.getElem_range] at this
  simpa using this
theorem next_eq {es : E} {n x : Nat} {l : List Nat} (hx : x < n) (h : ready es n l x = true) (hm : ∀ y, y < x → ready es n l y = false) : next es n l = some x := by
  unfold next
  rw [List.find?_eq_some_iff_getElem]
  refine ⟨h, x, by simpa using hx, by rw [List.getElem_range], fun y hy => ?_⟩
  rw [List.getElem_range, hm y hy]; rfl
theorem next_none {es : E} {n : Nat} {l : List Nat} : next es n l = none ↔ ∀ y, y < n → ready es n l y = false := by
  unfold next
  rw [List.find?_eq_none]
  constructor
  · intro h y hy
    have := h y (by simpa using hy)
    simpa using this
  · intro h y hy
    rw [h y (by simpa using hy)]; simp
theorem Ord.next {es : E} {n x : Nat} {l : List Nat} (hl : Low es n) (h : Ord es n l) (hx : x < n) (hr : ready es n l x = true) : Ord es n (l ++ [x]) := by
  obtain ⟨h1, h2⟩ := (ready_iff hl l x).1 hr
  refine ⟨List.nodup_append.2 ⟨h.once, by simp, fun a ha b hb hab => by simp at hb; subst hb; subst hab; exact h1 ha⟩, fun y hy => ?_, fun i hi a ha => ?_⟩
  · rcases List.mem_append.1 hy with hy | hy
    · exact h.low y hy
    · simp at hy; subst hy; exact hx
  · rcases Nat.lt_or_ge i l.length with hlt | hge
    · rw [List.getD_eq_getElem?_getD, List.getElem?_append_left hlt, ← List.getD_eq_getElem?_getD] at ha
      rw [List.take_append_of_le_length (by omega)]
      exact h.behind i hlt a ha
    · have hie : i = l.length := by simp at hi; omega
      subst hie
      rw [List.getD_eq_getElem?_getD, List.getElem?_append_right (by omega)] at ha
      simp at ha
      rw [List.take_append_of_le_length (by omega), List.take_length]
      exact h2 a ha
/-- Where no node reaches itself, some node is ready while any is left. -/
theorem Ord.more {es : E} {n : Nat} {l : List Nat} (hl : Low es n) (ht : Tree es) (_h : Ord es n l) (hn : ∃ x, x < n ∧ x ∉ l) : ∃ x, To.next es n l = some x := by
  cases hx : To.next es n l with
  | some x => exact ⟨x, rfl⟩
  | none =>
    exfalso
    rw [next_none] at hx
    have hp : ∀ x, x < n → x ∉ l → ∃ a, a < n ∧ a ∉ l ∧ (a, x) ∈ es := fun x hxn hxl => by
      apply Classical.byContradiction
      intro hno
      have hr : ready es n l x = true := (ready_iff hl l x).2 ⟨hxl, fun a ha => by
        apply Classical.byContradiction
        intro hal
        exact hno ⟨a, (hl _ ha).1, hal, ha⟩⟩
      rw [hx x hxn] at hr
      cases hr
    have hall : ∀ k, ∃ a b, a < n ∧ a ∉ l ∧ rk es k a b = true := fun k => by
      induction k with
      | zero => obtain ⟨x, h1, h2⟩ := hn; exact ⟨x, x, h1, h2, by simp [rk]⟩
      | succ k ih =>
        obtain ⟨a, b, h1, h2, h3⟩ := ih
        obtain ⟨c, h4, h5, h6⟩ := hp a h1 h2
        exact ⟨c, b, h4, h5, rk_cons h6 h3⟩
    obtain ⟨a, b, _, _, h⟩ := hall (n + 1)
    have := tree_le hl ht h
    omega
theorem nodup_full {n : Nat} {l : List Nat} (ho : l.Nodup) (hlo : ∀ x ∈ l, x < n) (hn : l.length = n) : ∀ x, x < n → x ∈ l := fun x hx => by
  apply Classical.byContradiction
  intro hno
  have := nodup_low n (x :: l) (fun y hy => by
    rcases List.mem_cons.1 hy with rfl | hy
    · exact hx
    · exact hlo y hy) (List.nodup_cons.2 ⟨hno, ho⟩)
  simp at this
  omega
theorem all_long : ∀ (n : Nat) (l : List Nat), (∀ x, x < n → x ∈ l) → n ≤ l.length
  | 0, l, _ => Nat.zero_le _
  | n + 1, l, h => by
    have hm := h n (Nat.lt_succ_self n)
    have h1 := all_long n (l.erase n) fun x hx => (List.mem_erase_of_ne (by omega)).2 (h x (by omega))
    rw [List.length_erase_of_mem hm] at h1
    have := List.length_pos_of_mem hm
    omega
theorem some_left {n : Nat} {l : List Nat} (hn : l.length < n) : ∃ x, x < n ∧ x ∉ l := by
  apply Classical.byContradiction
  intro hno
  have hall : ∀ x, x < n → x ∈ l := fun x hx => by
    apply Classical.byContradiction
    intro h
    exact hno ⟨x, hx, h⟩
  have := all_long n l hall
  omega
theorem orderK_tree {es : E} {n : Nat} (hl : Low es n) (ht : Tree es) : ∀ (k : Nat) (l : List Nat), Ord es n l → l.length + k = n → ∃ o, orderK es n k l = some o ∧ Ord es n o ∧ o.length = n
  | 0, l, h, hk => ⟨l, rfl, h, by omega⟩
  | k + 1, l, h, hk => by
    obtain ⟨x, hx⟩ := h.more hl ht (some_left (by omega))
    obtain ⟨h1, h2, _⟩ := next_some hx
    obtain ⟨o, h3, h4, h5⟩ := orderK_tree hl ht k (l ++ [x]) (h.next hl h1 h2) (by simp; omega)
    exact ⟨o, by unfold orderK; rw [hx]; exact h3, h4, h5⟩
theorem orderK_ord {es : E} {n : Nat} (hl : Low es n) : ∀ (k : Nat) (l o : List Nat), Ord es n l → l.length + k = n → orderK es n k l = some o → Ord es n o ∧ o.length = n
  | 0, l, o, h, hk, e => by
    unfold orderK at e
    injection e with e
    subst e
    exact ⟨h, by omega⟩
  | k + 1, l, o, h, hk, e => by
    unfold orderK at e
    cases hx : To.next es n l with
    | none => rw [hx] at e; cases e
    | some x =>
      rw [hx] at e
      obtain ⟨h1, h2, _⟩ := next_some hx
      exact orderK_ord hl k (l ++ [x]) o (h.next hl h1 h2) (by simp; omega) e
/-- A whole order: each node stands in it, behind all that it wants. -/
theorem Ord.pos {es : E} {n : Nat} {l : List Nat} (h : Ord es n l) {a b : Nat} (he : (a, b) ∈ es) (hb : b ∈ l) : a ∈ l ∧ l.idxOf a < l.idxOf b := by
  have hi := List.idxOf_lt_length_iff.2 hb
  have hg : l.getD (l.idxOf b) 0 = b := by
    rw [List.getD_eq_getElem?_getD, List.getElem?_eq_getElem hi]
    exact List.getElem_idxOf hi
  have hm := h.behind (l.idxOf b) hi a (by rw [hg]; exact he)
  obtain ⟨j, hj, e⟩ := List.getElem_of_mem hm
  rw [List.length_take] at hj
  rw [List.getElem_take] at e
  refine ⟨e ▸ List.getElem_mem _, ?_⟩
  have : l.idxOf a ≤ j := by
    rw [← e]
    rw [h.once.idxOf_getElem]
    exact Nat.le_refl _
  omega
theorem Ord.way {es : E} {n : Nat} {l : List Nat} (h : Ord es n l) {a : Nat} : ∀ {k b : Nat}, rk es (k + 1) a b = true → b ∈ l → a ∈ l ∧ l.idxOf a < l.idxOf b
  | 0, b, hr, hb => h.pos (rk_one.1 hr) hb
  | k + 1, b, hr, hb => by
    obtain ⟨x, hx, h2⟩ := rk_last hr
    obtain ⟨h3, h4⟩ := h.pos hx hb
    obtain ⟨h5, h6⟩ := h.way h2 h3
    exact ⟨h5, by omega⟩
theorem Ord.tree {es : E} {n : Nat} {l : List Nat} (hl : Low es n) (h : Ord es n l) (hn : l.length = n) : Tree es := fun k a hk => by
  cases hr : rk es k a a with
  | false => rfl
  | true =>
    obtain ⟨j, rfl⟩ : ∃ j, k = j + 1 := ⟨k - 1, by omega⟩
    have ha := (rk_low hl hr).1
    have := (h.way hr (nodup_full h.once h.low hn a ha)).2
    omega
theorem order_some {es : E} {n : Nat} (hl : Low es n) (ht : Tree es) : ∃ o, orderV es n = some o ∧ Ord es n o ∧ o.length = n := orderK_tree hl ht n [] (Ord.nil es n) (by simp)
theorem order_ord {es : E} {n : Nat} (hl : Low es n) {o : List Nat} (h : orderV es n = some o) : Ord es n o ∧ o.length = n := orderK_ord hl n [] o (Ord.nil es n) (by simp) h
theorem order_tree {es : E} {n : Nat} (hl : Low es n) {o : List Nat} (h : orderV es n = some o) : Tree es := (order_ord hl h).1.tree hl (order_ord hl h).2
theorem order_none {es : E} {n : Nat} (hl : Low es n) : orderV es n = none ↔ ¬ Tree es := by
  constructor
  · intro h ht
    obtain ⟨o, h2, _⟩ := order_some hl ht
    rw [h] at h2; cases h2
  · intro h
    cases ho : orderV es n with
    | none => rfl
    | some o => exact absurd (order_tree hl ho) h
end Go.Proofs.Ytgeefkfolejbnaa.To
