/-
  Graphs in plain words: ways of k edges, distances and the reference's reckoning of them, the first one of the shortest cycles, the transitive reduction, what is told of a graph.
-/
import Derived.Test.YtgeefkfolejbnaaBaseKit
namespace Go.Proofs.Ytgeefkfolejbnaa.Gr
abbrev E := List (Nat × Nat)
/-- There is a way of k edges from a to b. -/
def rk (es : E) : Nat → Nat → Nat → Bool
  | 0, a, b => a == b
  | k + 1, a, b => es.any fun e => e.2 == b && rk es k a e.1
theorem rk_snoc {es : E} {k a x b : Nat} (h : rk es k a x = true) (he : (x, b) ∈ es) : rk es (k + 1) a b = true := by
  unfold rk
  rw [List.any_eq_true]
  exact ⟨(x, b), he, by simp [h]⟩
theorem rk_last {es : E} {k a b : Nat} (h : rk es (k + 1) a b = true) : ∃ x, (x, b) ∈ es ∧ rk es k a x = true := by
  unfold rk at h
  rw [List.any_eq_true] at h
  obtain ⟨⟨x, y⟩, he, h2⟩ := h
  simp only [Bool.and_eq_true, beq_iff_eq] at h2
  obtain ⟨rfl, h3⟩ := h2
  exact ⟨x, he, h3⟩
theorem rk_app {es : E} {j a b : Nat} (h : rk es j a b = true) : ∀ {k c : Nat}, rk es k b c = true → rk es (j + k) a c = true
  | 0, c, h2 => by
    have : b = c := by simpa [rk] using h2
    subst this; exact h
  | k + 1, c, h2 => by
    obtain ⟨x, hx, h3⟩ := rk_last h2
    exact rk_snoc (rk_app h h3) hx
theorem rk_one {es : E} {a b : Nat} : rk es 1 a b = true ↔ (a, b) ∈ es := by
  constructor
  · intro h
    obtain ⟨x, hx, h2⟩ := rk_last h
    have : a = x := by simpa [rk] using h2
    rw [this]; exact hx
  · intro h
    exact rk_snoc (k := 0) (x := a) (by simp [rk]) h
theorem rk_cons {es : E} {k a c b : Nat} (he : (a, c) ∈ es) (h : rk es k c b = true) : rk es (k + 1) a b = true := by
  rw [Nat.add_comm]
  exact rk_app (rk_one.2 he) h
theorem rk_split {es : E} {a : Nat} : ∀ {j k b : Nat}, rk es (j + k) a b = true → ∃ x, rk es j a x = true ∧ rk es k x b = true
  | j, 0, b, h => ⟨b, h, by simp [rk]⟩
  | j, k + 1, b, h => by
    obtain ⟨x, hx, h2⟩ := rk_last (k := j + k) h
    obtain ⟨y, h3, h4⟩ := rk_split h2
    exact ⟨y, h3, rk_snoc h4 hx⟩
theorem rk_head {es : E} {k a b : Nat} (h : rk es (k + 1) a b = true) : ∃ c, (a, c) ∈ es ∧ rk es k c b = true := by
  rw [Nat.add_comm] at h
  obtain ⟨c, h1, h2⟩ := rk_split h
  exact ⟨c, rk_one.1 h1, h2⟩
/-- Every edge connects nodes below n. -/
def Low (es : E) (n : Nat) : Prop := ∀ e ∈ es, e.1 < n ∧ e.2 < n
theorem rk_low {es : E} {n k a b : Nat} (hl : Low es n) (h : rk es (k + 1) a b = true) : a < n ∧ b < n := by
  obtain ⟨x, hx, _⟩ := rk_last h
  obtain ⟨c, hc, _⟩ := rk_head h
  exact ⟨(hl _ hc).1, (hl _ hx).2⟩
theorem nodup_low : ∀ (n : Nat) (l : List Nat), (∀ x ∈ l, x < n) → l.Nodup → l.length ≤ n
  | 0, l, h, _ => by
    cases l with
    | nil => simp
    | cons x r => have := h x (by simp); omega
  | n + 1, l, h, hd => by
    have h1 : ∀ x ∈ l.erase n, x < n := fun x hx => by
      have h2 := h x (List.mem_of_mem_erase hx)
      have h3 := (List.Nodup.mem_erase_iff hd).1 hx
      omega
    have h2 := nodup_low n (l.erase n) h1 (hd.erase n)
    rw [List.length_erase] at h2
    split at h2 <;> omega
/-- The nodes of a way, from the one behind a on. -/
theorem rk_nodes {es : E} {n a : Nat} (hl : Low es n) : ∀ {k b : Nat}, rk es k a b = true → ∃ l : List Nat, l.length = k ∧ (∀ x ∈ l, x < n) ∧ (∀ i, i < k → rk es (i + 1) a (l.getD i 0) = true ∧ rk es (k - (i + 1)) (l.getD i 0) b = true) ∧ ∀ i j, i ≤ j → j < k → rk es (j - i) (l.getD i 0) (l.getD j 0) = true
  | 0, b, _ => ⟨[], rfl, fun x hx => by simp at hx, fun i hi => by omega, fun i j _ hj => by omega⟩
  | k + 1, b, h => by
    obtain ⟨x, hx, h2⟩ := rk_last h
    obtain ⟨l, h3, h4, h5, h7⟩ := rk_nodes hl h2
    have old : ∀ i, i < k → (l ++ [b]).getD i 0 = l.getD i 0 := fun i hi => by
      rw [List.getD_eq_getElem?_getD, List.getElem?_append_left (by omega), ← List.getD_eq_getElem?_getD]
    have new : (l ++ [b]).getD k 0 = b := by
      rw [List.getD_eq_getElem?_getD, List.getElem?_append_right (by omega), h3, Nat.sub_self]; rfl
    have key : ∀ i, i < k → rk es (k + 1 - (i + 1)) (l.getD i 0) b = true := fun i hi => by
      rw [show k + 1 - (i + 1) = (k - (i + 1)) + 1 by omega]
      exact rk_snoc (h5 i hi).2 hx
    refine ⟨l ++ [b], by simp [h3], fun y hy => ?_, fun i hi => ?_, fun i j hij hj => ?_⟩
    · rcases List.mem_append.1 hy with h6 | h6
      · exact h4 y h6
      · simp at h6; subst h6; exact (hl _ hx).2
    · by_cases h6 : i < k
      · rw [old i h6]
        exact ⟨(h5 i h6).1, key i h6⟩
      · have e : i = k := by omega
        subst e
        rw [new]
        exact ⟨h, by simp [rk]⟩
    · by_cases h6 : j < k
      · rw [old i (by omega), old j h6]
        exact h7 i j hij h6
      · have e : j = k := by omega
        subst e
        rw [new]
        by_cases h8 : i = j
        · subst h8; rw [new, Nat.sub_self]; simp [rk]
        · rw [old i (by omega)]
          have := key i (by omega)
          rwa [show j + 1 - (i + 1) = j - i by omega] at this
theorem not_nodup {l : List Nat} (h : ¬ l.Nodup) : ∃ i j, i < j ∧ j < l.length ∧ l.getD i 0 = l.getD j 0 := by
  induction l with
  | nil => simp at h
  | cons x r ih =>
    rw [List.nodup_cons] at h
    by_cases hx : x ∈ r
    · obtain ⟨j, hj, e⟩ := List.getElem_of_mem hx
      refine ⟨0, j + 1, by omega, by simp; omega, ?_⟩
      simp [List.getElem?_eq_getElem hj, e]
    · have h2 : ¬ r.Nodup := fun h3 => h ⟨hx, h3⟩
      obtain ⟨i, j, h3, h4, h5⟩ := ih h2
      refine ⟨i + 1, j + 1, by omega, by simp; omega, ?_⟩
      simpa using h5
/-- A way of more than n edges can be cut short. -/
theorem rk_short {es : E} {n a : Nat} (hl : Low es n) : ∀ (k b : Nat), 1 ≤ k → rk es k a b = true → ∃ k', 1 ≤ k' ∧ k' ≤ n ∧ k' ≤ k ∧ rk es k' a b = true := by
  intro k
  induction k using Nat.strongRecOn with
  | _ k ih =>
    intro b h1 h
    by_cases hk : k ≤ n
    · exact ⟨k, h1, hk, Nat.le_refl _, h⟩
    · obtain ⟨l, h2, h3, h4, _⟩ := rk_nodes hl h
      have h5 : ¬ l.Nodup := fun hd => by have := nodup_low n l h3 hd; omega
      obtain ⟨i, j, h6, h7, h8⟩ := not_nodup h5
      have p := (h4 i (by omega)).1
      have q := (h4 j (by omega)).2
      rw [← h8] at q
      have r := rk_app p q
      obtain ⟨k', p1, p2, p3, p4⟩ := ih (i + 1 + (k - (j + 1))) (by omega) b (by omega) r
      exact ⟨k', p1, p2, by omega, p4⟩
/-- In how many edges at least: -1 if not at all. -/
def dist (es : E) (n a b : Nat) : Int := match (List.range n).find? (fun i => rk es (i + 1) a b) with
  | some i => (i : Int) + 1
  | none => -1
theorem dist_some {es : E} {n a b k : Nat} (hk : 1 ≤ k) (hn : k ≤ n) (h : rk es k a b = true) (hm : ∀ j, 1 ≤ j → j < k → rk es j a b = false) : dist es n a b = (k : Int) := by
  have e : (List.range n).find? (fun i => rk es (i + 1) a b) = some (k - 1) := by
    rw [List.find?_range_eq_some]
    refine ⟨by rw [Nat.sub_add_cancel hk]; exact h, by simp; omega, fun j hj => ?_⟩
    rw [hm (j + 1) (by omega) (by omega)]; rfl
  unfold dist
  rw [e]
  show ((k - 1 : Nat) : Int) + 1 = k
  omega
theorem dist_cases (es : E) (n a b : Nat) (hl : Low es n) : (dist es n a b = -1 ∧ ∀ k, 1 ≤ k → rk es k a b = false) ∨
    ∃ k, 1 ≤ k ∧ k ≤ n ∧ dist es n a b = (k : Int) ∧ rk es k a b = true ∧ ∀ j, 1 ≤ j → j < k → rk es j a b = false := by
  cases hf : (List.range n).find? (fun i => rk es (i + 1) a b) with
  | none =>
    left
    refine ⟨by unfold dist; rw [hf], fun k hk => ?_⟩
    cases hr : rk es k a b with
    | false => rfl
    | true =>
      obtain ⟨k', h1, h2, _, h4⟩ := rk_short hl k b hk hr
      rw [List.find?_eq_none] at hf
      have := hf (k' - 1) (by simp; omega)
      rw [Nat.sub_add_cancel h1, h4] at this
      exact absurd rfl this
  | some i =>
    right
    have h := List.find?_range_eq_some.1 hf
    refine ⟨i + 1, by omega, ?_, by unfold dist; rw [hf]; simp, h.1, fun j h1 h2 => ?_⟩
    · have := h.2.1; simp at this; omega
    · have := h.2.2 (j - 1) (by omega)
      rw [Nat.sub_add_cancel h1] at this
      simpa using this
theorem dist_pos {es : E} {n a b : Nat} (hl : Low es n) : 0 ≤ dist es n a b ↔ ∃ k, 1 ≤ k ∧ rk es k a b = true := by
  rcases dist_cases es n a b hl with ⟨h1, h2⟩ | ⟨k, h1, _, h2, h3, _⟩
  · rw [h1]
    constructor
    · intro h; omega
    · rintro ⟨k, hk, h3⟩; rw [h2 k hk] at h3; cases h3
  · rw [h2]
    exact ⟨fun _ => ⟨k, h1, h3⟩, fun _ => by omega⟩

/-! ### The reference's reckoning of it: edges relaxed, n times -/
def relax (d : List Int) (e : Nat × Nat) : List Int := if 0 ≤ d.getD e.1 (-1) ∧ (d.getD e.2 (-1) < 0 ∨ d.getD e.1 (-1) + 1 < d.getD e.2 (-1)) then d.set e.2 (d.getD e.1 (-1) + 1) else d
def start (es : E) (n a : Nat) : List Int := (List.range n).map fun i => if es.any (fun e => e.1 == a && e.2 == i) then 1 else -1
def rounds (es : E) : Nat → List Int → List Int
  | 0, d => d
  | r + 1, d => rounds es r (es.foldl relax d)
/-- What is noted is the length of a way. -/
structure Fine (es : E) (n a : Nat) (d : List Int) : Prop where
  len : d.length = n
  neg : ∀ i, d.getD i (-1) < 0 → d.getD i (-1) = -1
  way : ∀ i, 0 ≤ d.getD i (-1) → ∃ k : Nat, 1 ≤ k ∧ d.getD i (-1) = (k : Int) ∧ rk es k a i = true
theorem getD_set (d : List Int) (i j : Nat) (v : Int) (hi : i < d.length) : (d.set i v).getD j (-1) = if i = j then v else d.getD j (-1) := by
  rw [List.getD_eq_getElem?_getD, List.getD_eq_getElem?_getD, List.getElem?_set]
  by_cases h : i = j
  · subst h; simp [hi]
  · simp [h]
theorem Fine.relax {es : E} {n a : Nat} {d : List Int} (h : Fine es n a d) {e : Nat × Nat} (he : e ∈ es) (hl : Low es n) : Fine es n a (relax d e) := by
  unfold Gr.relax
  split
  · next hc =>
    have h2 := (hl e he).2
    obtain ⟨k, k1, k2, k3⟩ := h.way e.1 hc.1
    refine ⟨by simp [h.len], fun i hi => ?_, fun i hi => ?_⟩
    · rw [getD_set _ _ _ _ (by rw [h.len]; exact h2)] at hi ⊢
      split
      · next hx => rw [if_pos hx] at hi; omega
      · next hx => rw [if_neg hx] at hi; exact h.neg i hi
    · rw [getD_set _ _ _ _ (by rw [h.len]; exact h2)] at hi ⊢
      split
      · next hx =>
        subst hx
        exact ⟨k + 1, by omega, by rw [k2]; omega, rk_snoc k3 he⟩
      · next hx => rw [if_neg hx] at hi; exact h.way i hi
  · exact h
/-- Ways of at most r edges are noted. -/
def Cov (es : E) (a r : Nat) (d : List Int) : Prop := ∀ i k, 1 ≤ k → k ≤ r → rk es k a i = true → 0 ≤ d.getD i (-1) ∧ d.getD i (-1) ≤ (k : Int)
theorem relax_le {es : E} {n : Nat} {d : List Int} (hd : d.length = n) {e : Nat × Nat} (he : e ∈ es) (hl : Low es n) (i : Nat) (h : 0 ≤ d.getD i (-1)) : 0 ≤ (relax d e).getD i (-1) ∧ (relax d e).getD i (-1) ≤ d.getD i (-1) := by
  unfold relax
  split
  · next hc =>
    rw [getD_set _ _ _ _ (by rw [hd]; exact (hl e he).2)]
    split
    · next hx => subst hx; omega
    · exact ⟨h, Int.le_refl _⟩
  · exact ⟨h, Int.le_refl _⟩
theorem relax_edge {es : E} {n : Nat} {d : List Int} (hd : d.length = n) {e : Nat × Nat} (he : e ∈ es) (hl : Low es n) (h : 0 ≤ d.getD e.1 (-1)) : 0 ≤ (relax d e).getD e.2 (-1) ∧ (relax d e).getD e.2 (-1) ≤ d.getD e.1 (-1) + 1 := by
  unfold relax
  split
  · next hc =>
    rw [getD_set _ _ _ _ (by rw [hd]; exact (hl e he).2), if_pos rfl]
    omega
  · next hc =>
    have : ¬ (d.getD e.2 (-1) < 0 ∨ d.getD e.1 (-1) + 1 < d.getD e.2 (-1)) := fun hx => hc ⟨h, hx⟩
    omega
theorem fold_fine {es : E} {n a : Nat} (hl : Low es n) : ∀ (l : E) (d : List Int), (∀ e ∈ l, e ∈ es) → Fine es n a d → Fine es n a (l.foldl relax d)
  | [], d, _, h => h
  | e :: r, d, hs, h => fold_fine hl r (relax d e) (fun x hx => hs x (List.mem_cons_of_mem _ hx)) (h.relax (hs e (by simp)) hl)
theorem fold_le {es : E} {n a : Nat} (hl : Low es n) : ∀ (l : E) (d : List Int), (∀ e ∈ l, e ∈ es) → Fine es n a d → ∀ i, 0 ≤ d.getD i (-1) → 0 ≤ (l.foldl relax d).getD i (-1) ∧ (l.foldl relax d).getD i (-1) ≤ d.getD i (-1)
  | [], d, _, _, i, h => ⟨h, Int.le_refl _⟩
  | e :: r, d, hs, hf, i, h => by
    have h1 := relax_le hf.len (hs e (by simp)) hl i h
    have h2 := fold_le hl r (relax d e) (fun x hx => hs x (List.mem_cons_of_mem _ hx)) (hf.relax (hs e (by simp)) hl) i h1.1
    exact ⟨h2.1, Int.le_trans h2.2 h1.2⟩
theorem fold_edge {es : E} {n a : Nat} (hl : Low es n) : ∀ (l : E) (d : List Int), (∀ e ∈ l, e ∈ es) → Fine es n a d → ∀ e ∈ l, 0 ≤ d.getD e.1 (-1) → 0 ≤ (l.foldl relax d).getD e.2 (-1) ∧ (l.foldl relax d).getD e.2 (-1) ≤ d.getD e.1 (-1) + 1
  | [], d, _, _, e, he, _ => by simp at he
  | x :: r, d, hs, hf, e, he, h => by
    have hx := hs x (by simp)
    have hr : ∀ y ∈ r, y ∈ es := fun y hy => hs y (List.mem_cons_of_mem _ hy)
    rcases List.mem_cons.1 he with rfl | he2
    · have h1 := relax_edge hf.len hx hl h
      have h2 := fold_le hl r (relax d e) hr (hf.relax hx hl) e.2 h1.1
      exact ⟨h2.1, Int.le_trans h2.2 h1.2⟩
    · have h1 := relax_le hf.len hx hl e.1 h
      have h2 := fold_edge hl r (relax d x) hr (hf.relax hx hl) e he2 h1.1
      refine ⟨h2.1, ?_⟩
      have h3 := h1.2
      have h4 := h2.2
      show (r.foldl relax (relax d x)).getD e.2 (-1) ≤ _
      omega
theorem cov_step {es : E} {n a r : Nat} (hl : Low es n) {d : List Int} (hf : Fine es n a d) (hr : 1 ≤ r) (hc : Cov es a r d) : Cov es a (r + 1) (es.foldl relax d) := by
  intro i k h1 h2 h3
  by_cases hk : k ≤ r
  · obtain ⟨p, q⟩ := hc i k h1 hk h3
    have := fold_le hl es d (fun _ h => h) hf i p
    exact ⟨this.1, Int.le_trans this.2 q⟩
  · obtain rfl : k = r + 1 := by omega
    obtain ⟨x, hx, h4⟩ := rk_last h3
    obtain ⟨p, q⟩ := hc x r hr (Nat.le_refl _) h4
    have := fold_edge hl es d (fun _ h => h) hf (x, i) hx p
    exact ⟨this.1, by have := this.2; show _ ≤ ((r + 1 : Nat) : Int); simp only at this; omega⟩
theorem start_get (es : E) (n a i : Nat) (hi : i < n) : (start es n a).getD i (-1) = if (a, i) ∈ es then 1 else -1 := by
  unfold start
  rw [List.getD_eq_getElem?_getD, List.getElem?_map, List.getElem?_range hi]
  have e : (es.any fun e => e.1 == a && e.2 == i) = true ↔ (a, i) ∈ es := by
    rw [List.any_eq_true]
    constructor
    · rintro ⟨⟨x, y⟩, h1, h2⟩
      simp only [Bool.and_eq_true, beq_iff_eq] at h2
      obtain ⟨rfl, rfl⟩ := h2
      exact h1
    · intro h
      exact ⟨(a, i), h, by simp⟩
  by_cases h : (a, i) ∈ es
  · simp [e.2 h, h]
  · have h2 : (es.any fun e => e.1 == a && e.2 == i) = false := by
      cases hh : (es.any fun e => e.1 == a && e.2 == i) with
      | false => rfl
      | true => exact absurd (e.1 hh) h
    simp [h2, h]
theorem start_out (es : E) (n a i : Nat) (hi : n ≤ i) : (start es n a).getD i (-1) = -1 := by
  unfold start
  rw [List.getD_eq_getElem?_getD, List.getElem?_eq_none (by simp; omega)]
  rfl
theorem start_fine (es : E) (n a : Nat) : Fine es n a (start es n a) := by
  refine ⟨by simp [start], fun i hi => ?_, fun i hi => ?_⟩
  · rcases Nat.lt_or_ge i n with h | h
    · rw [start_get _ _ _ _ h] at hi ⊢
      split
      · next hx => rw [if_pos hx] at hi; omega
      · rfl
    · exact start_out es n a i h
  · rcases Nat.lt_or_ge i n with h | h
    · rw [start_get _ _ _ _ h] at hi ⊢
      split
      · next hx => exact ⟨1, Nat.le_refl _, rfl, rk_one.2 hx⟩
      · next hx => rw [if_neg hx] at hi; omega
    · rw [start_out _ _ _ _ h] at hi; omega
theorem start_cov {es : E} {n a : Nat} (hl : Low es n) : Cov es a 1 (start es n a) := by
  intro i k h1 h2 h3
  obtain rfl : k = 1 := by omega
  have h4 := rk_one.1 h3
  rw [start_get _ _ _ _ (hl _ h4).2, if_pos h4]
  omega
theorem rounds_fine {es : E} {n a : Nat} (hl : Low es n) : ∀ (r q : Nat) (d : List Int), 1 ≤ q → Fine es n a d → Cov es a q d → Fine es n a (rounds es r d) ∧ Cov es a (q + r) (rounds es r d)
  | 0, q, d, _, h1, h2 => ⟨h1, h2⟩
  | r + 1, q, d, hq, h1, h2 => by
    have := rounds_fine hl r (q + 1) (es.foldl relax d) (by omega) (fold_fine hl es d (fun _ h => h) h1) (cov_step hl h1 hq h2)
    rw [show q + (r + 1) = q + 1 + r by omega]
    exact this
/-- The reckoning tells the distance. -/
theorem rounds_dist {es : E} {n : Nat} (a i : Nat) (hl : Low es n) : (rounds es n (start es n a)).getD i (-1) = dist es n a i := by
  obtain ⟨h1, h2⟩ := rounds_fine hl n 1 _ (Nat.le_refl _) (start_fine es n a) (start_cov hl)
  generalize rounds es n (start es n a) = d at *
  rcases dist_cases es n a i hl with ⟨p1, p2⟩ | ⟨k, k1, kn, p1, p2, p3⟩
  · rw [p1]
    rcases Int.lt_or_le (d.getD i (-1)) 0 with h | h
    · exact h1.neg i h
    · obtain ⟨k, q1, q2, q3⟩ := h1.way i h
      rw [p2 k q1] at q3; cases q3
  · rw [p1]
    obtain ⟨q1, q2⟩ := h2 i k k1 (by omega) p2
    obtain ⟨j, j1, j2, j3⟩ := h1.way i q1
    rw [j2] at q2 ⊢
    have : ¬ j < k := fun hlt => by rw [p3 j j1 hlt] at j3; cases j3
    omega

/-! ### The first one of the shortest cycles -/
def grow (es : E) (n fr : Nat) : Nat → Nat → List Nat
  | 0, _ => []
  | m + 1, x => match (List.range n).find? (fun b => es.contains (x, b) && rk es (m + 1) b fr) with
    | some b => b :: grow es n fr m b
    | none => []
theorem grow_next {es : E} {n fr m x : Nat} (hl : Low es n) (h : rk es (m + 2) x fr = true) : ∃ b, (List.range n).find? (fun b => es.contains (x, b) && rk es (m + 1) b fr) = some b ∧ (x, b) ∈ es ∧ rk es (m + 1) b fr = true ∧ b < n ∧ ∀ c, c < b → ((x, c) ∈ es → rk es (m + 1) c fr = false) := by
  obtain ⟨c, hc, h2⟩ := rk_head h
  cases hf : (List.range n).find? (fun b => es.contains (x, b) && rk es (m + 1) b fr) with
  | none =>
    rw [List.find?_eq_none] at hf
    have := hf c (by simp; exact (hl _ hc).2)
    simp [hc, h2] at this
  | some b =>
    have h3 := List.find?_range_eq_some.1 hf
    simp only [Bool.and_eq_true, List.contains_iff_mem] at h3
    refine ⟨b, rfl, h3.1.1, h3.1.2, by have := h3.2.1; simpa using this, fun c hcb hce => ?_⟩
    have := h3.2.2 c hcb
    simpa [hce] using this
/-- What the nodes that are chosen one after another are. -/
theorem grow_spec {es : E} {n fr : Nat} (hl : Low es n) : ∀ (m x : Nat), rk es (m + 1) x fr = true →
    (grow es n fr m x).length = m ∧ (∀ i, i ≤ m → rk es i x ((x :: grow es n fr m x).getD i 0) = true ∧ rk es (m + 1 - i) ((x :: grow es n fr m x).getD i 0) fr = true) ∧ ∀ i, i < m → ((x :: grow es n fr m x).getD i 0, (x :: grow es n fr m x).getD (i + 1) 0) ∈ es
  | 0, x, h => by
    refine ⟨rfl, fun i hi => ?_, fun i hi => by omega⟩
    obtain rfl : i = 0 := by omega
    exact ⟨by simp [rk], h⟩
  | m + 1, x, h => by
    obtain ⟨b, hf, he, hb, _, _⟩ := grow_next hl h
    have e : grow es n fr (m + 1) x = b :: grow es n fr m b := by
      show (match (List.range n).find? (fun b => es.contains (x, b) && rk es (m + 1) b fr) with | some b => b :: grow es n fr m b | none => []) = _
      rw [hf]
    obtain ⟨h1, h2, h3⟩ := grow_spec hl m b hb
    rw [e]
    refine ⟨by simp [h1], fun i hi => ?_, fun i hi => ?_⟩
    · cases i with
      | zero => exact ⟨by simp [rk], h⟩
      | succ i =>
        obtain ⟨p, q⟩ := h2 i (by omega)
        rw [List.getD_cons_succ, show m + 1 + 1 - (i + 1) = m + 1 - i by omega]
        exact ⟨rk_cons he p, q⟩
    · cases i with
      | zero => exact he
      | succ i =>
        rw [List.getD_cons_succ, List.getD_cons_succ]
        exact h3 i (by omega)
/-- The length of a shortest cycle, less one. -/
def bestV (es : E) (n : Nat) : Option Nat := (List.range n).find? (fun i => (List.range n).any fun a => rk es (i + 1) a a)
def cycleV (es : E) (n : Nat) : List Nat := match bestV es n with
  | none => []
  | some k => match (List.range n).find? (fun a => rk es (k + 1) a a) with
    | none => []
    | some f => f :: grow es n f k f
/-- No node reaches itself. -/
def Tree (es : E) : Prop := ∀ k a, 1 ≤ k → rk es k a a = false
theorem best_none {es : E} {n : Nat} (hl : Low es n) (h : bestV es n = none) : Tree es := fun k a hk => by
  cases hr : rk es k a a with
  | false => rfl
  | true =>
    obtain ⟨k', h1, h2, _, h4⟩ := rk_short hl k a hk hr
    unfold bestV at h
    rw [List.find?_eq_none] at h
    have ha : a < n := by obtain ⟨j, rfl⟩ : ∃ j, k = j + 1 := ⟨k - 1, by omega⟩; exact (rk_low hl hr).1
    have := h (k' - 1) (by simp; omega)
    refine absurd ?_ this
    rw [Nat.sub_add_cancel h1, List.any_eq_true]
    exact ⟨a, by simpa using ha, h4⟩
theorem best_some {es : E} {n k : Nat} (hl : Low es n) (h : bestV es n = some k) : ∃ f, (List.range n).find? (fun a => rk es (k + 1) a a) = some f ∧ f < n ∧ rk es (k + 1) f f = true ∧ (∀ a, rk es (k + 1) a a = true → f ≤ a) ∧ ∀ j a, 1 ≤ j → j ≤ k → rk es j a a = false := by
  have h1 := List.find?_range_eq_some.1 h
  have h2 := h1.1
  rw [List.any_eq_true] at h2
  obtain ⟨a, ha, h3⟩ := h2
  have ha' : a < n := by simpa using ha
  cases hf : (List.range n).find? (fun a => rk es (k + 1) a a) with
  | none =>
    rw [List.find?_eq_none] at hf
    exact absurd h3 (hf a ha)
  | some f =>
    have h4 := List.find?_range_eq_some.1 hf
    have hfn : f < n := by have := h4.2.1; simpa using this
    refine ⟨f, rfl, hfn, h4.1, fun b hb => ?_, fun j b hj hjk => ?_⟩
    · rcases Nat.lt_or_ge b f with h5 | h5
      · have := h4.2.2 b h5
        rw [hb] at this; cases this
      · exact h5
    · cases hr : rk es j b b with
      | false => rfl
      | true =>
        have hb : b < n := by obtain ⟨i, rfl⟩ : ∃ i, j = i + 1 := ⟨j - 1, by omega⟩; exact (rk_low hl hr).1
        have := h1.2.2 (j - 1) (by omega)
        rw [Nat.sub_add_cancel hj] at this
        have h6 : ((List.range n).any fun a => rk es j a a) = true := by
          rw [List.any_eq_true]; exact ⟨b, by simpa using hb, hr⟩
        rw [h6] at this; cases this
theorem cycle_none {es : E} {n : Nat} (hl : Low es n) : cycleV es n = [] ↔ Tree es := by
  unfold cycleV
  cases hb : bestV es n with
  | none => exact ⟨fun _ => best_none hl hb, fun _ => rfl⟩
  | some k =>
    obtain ⟨f, hf, _, h2, _, _⟩ := best_some hl hb
    show (match (List.range n).find? (fun a => rk es (k + 1) a a) with | none => [] | some f => f :: grow es n f k f) = [] ↔ _
    rw [hf]
    constructor
    · intro h; cases h
    · intro h; rw [h (k + 1) f (by omega)] at h2; cases h2
theorem cycle_spec {es : E} {n : Nat} (hl : Low es n) :
    (∀ i, i < (cycleV es n).length → (cycleV es n).getD i 0 < n ∧ ((cycleV es n).getD i 0, (cycleV es n).getD ((i + 1) % (cycleV es n).length) 0) ∈ es ∧ (cycleV es n).getD 0 0 ≤ (cycleV es n).getD i 0 ∧ ∀ j, j < i → (cycleV es n).getD j 0 ≠ (cycleV es n).getD i 0) ∧ (cycleV es n).length ≤ n := by
  cases hb : bestV es n with
  | none =>
    have e : cycleV es n = [] := by unfold cycleV; rw [hb]
    rw [e]
    exact ⟨fun i hi => by simp at hi, by simp⟩
  | some k =>
    obtain ⟨f, hf, hfn, h2, h3, h4⟩ := best_some hl hb
    have e : cycleV es n = f :: grow es n f k f := by unfold cycleV; rw [hb]; show (match (List.range n).find? (fun a => rk es (k + 1) a a) with | none => [] | some f => f :: grow es n f k f) = _; rw [hf]
    obtain ⟨g1, g2, g3⟩ := grow_spec hl k f h2
    rw [e]
    generalize grow es n f k f = r at *
    have hlen : (f :: r).length = k + 1 := by simp [g1]
    have hkn : k + 1 ≤ n := by have := (List.find?_range_eq_some.1 hb).2.1; simp at this; omega
    refine ⟨fun i hi => ?_, by rw [hlen]; exact hkn⟩
    rw [hlen] at hi ⊢
    obtain ⟨p, q⟩ := g2 i (by omega)
    have hedge : ((f :: r).getD i 0, (f :: r).getD ((i + 1) % (k + 1)) 0) ∈ es := by
      by_cases hik : i < k
      · rw [Nat.mod_eq_of_lt (by omega)]; exact g3 i hik
      · obtain rfl : i = k := by omega
        rw [Nat.mod_self]
        have := (g2 i (Nat.le_refl _)).2
        rw [show i + 1 - i = 1 by omega] at this
        exact rk_one.1 this
    refine ⟨(hl _ hedge).1, hedge, ?_, fun j hj => ?_⟩
    · have h5 := rk_app q p
      rw [show k + 1 - i + i = k + 1 by omega] at h5
      exact h3 _ h5
    · intro he
      have p2 := (g2 j (by omega)).1
      rw [he] at p2
      have h5 := rk_app p2 q
      rw [h4 (j + (k + 1 - i)) f (by omega) (by omega)] at h5
      cases h5

/-! ### Without the edges that follow from others -/
def shortV (es : E) (n : Nat) : E := es.filter fun e => !(List.range n).any fun c => !(c == e.2) && es.contains (e.1, c) && decide (0 < dist es n c e.2)
theorem rk_mono {es fs : E} (hs : ∀ e ∈ fs, e ∈ es) {a : Nat} : ∀ {k b : Nat}, rk fs k a b = true → rk es k a b = true
  | 0, _, h => h
  | k + 1, b, h => by
    obtain ⟨x, hx, h2⟩ := rk_last h
    exact rk_snoc (rk_mono hs h2) (hs _ hx)
theorem tree_le {es : E} {n k a b : Nat} (hl : Low es n) (ht : Tree es) (h : rk es k a b = true) : k ≤ n := by
  obtain ⟨l, h2, h3, _, h4⟩ := rk_nodes hl h
  rw [← h2]
  refine nodup_low n l h3 ?_
  apply Classical.byContradiction
  intro hn
  obtain ⟨i, j, h6, h7, h8⟩ := not_nodup hn
  rw [h2] at h7
  have p := h4 i j (by omega) h7
  rw [← h8, ht (j - i) _ (by omega)] at p
  cases p
theorem longest {es : E} {n a b : Nat} (hl : Low es n) (ht : Tree es) : ∀ (d k : Nat), n - k ≤ d → rk es k a b = true → ∃ K, k ≤ K ∧ rk es K a b = true ∧ ∀ j, K < j → rk es j a b = false
  | 0, k, hd, h => by
    have := tree_le hl ht h
    refine ⟨k, Nat.le_refl _, h, fun j hj => ?_⟩
    cases hr : rk es j a b with
    | false => rfl
    | true => have := tree_le hl ht hr; omega
  | d + 1, k, hd, h => by
    by_cases hx : ∃ j, k < j ∧ rk es j a b = true
    · obtain ⟨j, hj, hr⟩ := hx
      obtain ⟨K, h1, h2, h3⟩ := longest hl ht d j (by omega) hr
      exact ⟨K, by omega, h2, h3⟩
    · refine ⟨k, Nat.le_refl _, h, fun j hj => ?_⟩
      cases hr : rk es j a b with
      | false => rfl
      | true => exact absurd ⟨j, hj, hr⟩ hx
theorem short_sub {es : E} {n : Nat} : ∀ e ∈ shortV es n, e ∈ es := fun e he => (List.mem_filter.1 he).1
/-- An edge that is left out follows from others. -/
theorem short_not {es : E} {n x y : Nat} (hl : Low es n) (he : (x, y) ∈ es) (hn : (x, y) ∉ shortV es n) : ∃ c k, c ≠ y ∧ (x, c) ∈ es ∧ 1 ≤ k ∧ rk es k c y = true := by
  unfold shortV at hn
  rw [List.mem_filter] at hn
  have h : ((List.range n).any fun c => !(c == y) && es.contains (x, c) && decide (0 < dist es n c y)) = true := by
    cases hh : ((List.range n).any fun c => !(c == y) && es.contains (x, c) && decide (0 < dist es n c y)) with
    | true => rfl
    | false => exact absurd ⟨he, by simp only [hh]; rfl⟩ hn
  rw [List.any_eq_true] at h
  obtain ⟨c, _, h2⟩ := h
  simp only [Bool.and_eq_true, Bool.not_eq_true', beq_eq_false_iff_ne, List.contains_iff_mem, decide_eq_true_eq] at h2
  obtain ⟨k, hk, hr⟩ := (dist_pos hl (a := c) (b := y)).1 (by omega)
  exact ⟨c, k, h2.1.1, h2.1.2, hk, hr⟩
theorem short_way {es : E} {n a b K : Nat} (hl : Low es n) (hK : ∀ j, K < j → rk es j a b = false) : ∀ i x, i ≤ K → rk es i a x = true → rk es (K - i) x b = true → rk (shortV es n) i a x = true
  | 0, x, _, h, _ => h
  | i + 1, x, hi, h, h2 => by
    obtain ⟨y, hy, h3⟩ := rk_last h
    have h4 : rk es (K - i) y b = true := by
      rw [show K - i = (K - (i + 1)) + 1 by omega]
      exact rk_cons hy h2
    refine rk_snoc (short_way hl hK i y (by omega) h3 h4) ?_
    apply Classical.byContradiction
    intro hn
    obtain ⟨c, m, _, hc, hm, hr⟩ := short_not hl hy hn
    have h5 := rk_app h3 (rk_cons hc (rk_app hr h2))
    rw [hK (i + (m + (K - (i + 1)) + 1)) (by omega)] at h5
    cases h5
/-- All that could be reached still can. -/
theorem short_reach {es : E} {n a b : Nat} (hl : Low es n) (ht : Tree es) : (∃ k, 1 ≤ k ∧ rk (shortV es n) k a b = true) ↔ ∃ k, 1 ≤ k ∧ rk es k a b = true := by
  constructor
  · rintro ⟨k, hk, h⟩
    exact ⟨k, hk, rk_mono short_sub h⟩
  · rintro ⟨k, hk, h⟩
    obtain ⟨K, h1, h2, h3⟩ := longest hl ht (n - k) k (Nat.le_refl _) h
    exact ⟨K, by omega, short_way hl h3 K b (Nat.le_refl _) h2 (by rw [Nat.sub_self]; simp [rk])⟩
theorem Low.sub {es fs : E} {n : Nat} (h : Low es n) (hs : ∀ e ∈ fs, e ∈ es) : Low fs n := fun e he => h e (hs e he)
theorem Tree.sub {es fs : E} (h : Tree es) (hs : ∀ e ∈ fs, e ∈ es) : Tree fs := fun k a hk => by
  cases hr : rk fs k a a with
  | false => rfl
  | true => have := rk_mono hs hr; rw [h k a hk] at this; cases this
/-- Once more changes nothing. -/
theorem short_again {es : E} {n : Nat} (hl : Low es n) (_ht : Tree es) : shortV (shortV es n) n = shortV es n := by
  show (shortV es n).filter (fun e => !(List.range n).any fun c => !(c == e.2) && (shortV es n).contains (e.1, c) && decide (0 < dist (shortV es n) n c e.2)) = shortV es n
  rw [List.filter_eq_self]
  rintro ⟨x, y⟩ he
  have he2 := he
  unfold shortV at he2
  rw [List.mem_filter] at he2
  obtain ⟨h1, h2⟩ := he2
  cases hh : ((List.range n).any fun c => !(c == (x, y).2) && (shortV es n).contains ((x, y).1, c) && decide (0 < dist (shortV es n) n c (x, y).2)) with
  | false => rfl
  | true =>
    exfalso
    rw [List.any_eq_true] at hh
    obtain ⟨c, hc, h3⟩ := hh
    simp only [Bool.and_eq_true, Bool.not_eq_true', beq_eq_false_iff_ne, List.contains_iff_mem, decide_eq_true_eq] at h3
    have hl2 := hl.sub (short_sub (es := es) (n := n))
    obtain ⟨k, hk, hr⟩ := (dist_pos hl2 (a := c) (b := y)).1 (by omega)
    have hr2 := rk_mono short_sub hr
    have h4 : 0 < dist es n c y := by
      rcases dist_cases es n c y hl with ⟨_, p⟩ | ⟨j, p1, _, p2, _, _⟩
      · rw [p k hk] at hr2; cases hr2
      · rw [p2]; omega
    have h5 : ((List.range n).any fun c => !(c == y) && es.contains (x, c) && decide (0 < dist es n c y)) = true := by
      rw [List.any_eq_true]
      exact ⟨c, hc, by simp [h3.1.1, short_sub _ h3.1.2, h4]⟩
    simp only [h5] at h2
    cases h2

/-! ### What is told of a graph -/
def aheadV (es : E) (n b : Nat) : List Nat := (List.range n).filter fun a => es.contains (a, b)
def behindV (es : E) (n a : Nat) : List Nat := (List.range n).filter fun b => es.contains (a, b)
def reachV (es : E) (n a : Nat) : List Nat := (List.range n).filter fun b => decide (0 ≤ dist es n a b)
theorem mem_ahead {es : E} {n a b : Nat} (hl : Low es n) : a ∈ aheadV es n b ↔ (a, b) ∈ es := by
  unfold aheadV
  rw [List.mem_filter, List.contains_iff_mem, List.mem_range]
  exact ⟨fun h => h.2, fun h => ⟨(hl _ h).1, h⟩⟩
theorem mem_behind {es : E} {n a b : Nat} (hl : Low es n) : b ∈ behindV es n a ↔ (a, b) ∈ es := by
  unfold behindV
  rw [List.mem_filter, List.contains_iff_mem, List.mem_range]
  exact ⟨fun h => h.2, fun h => ⟨(hl _ h).2, h⟩⟩
theorem mem_reach {es : E} {n a b : Nat} (hl : Low es n) : b ∈ reachV es n a ↔ ∃ k, 1 ≤ k ∧ rk es k a b = true := by
  unfold reachV
  rw [List.mem_filter, List.mem_range, decide_eq_true_eq, dist_pos hl]
  refine ⟨fun h => h.2, fun h => ⟨?_, h⟩⟩
  obtain ⟨k, hk, hr⟩ := h
  obtain ⟨j, rfl⟩ : ∃ j, k = j + 1 := ⟨k - 1, by omega⟩
  exact (rk_low hl hr).2
theorem reach_trans {es : E} {n a b c : Nat} (hl : Low es n) (h : b ∈ reachV es n a) (h2 : c ∈ reachV es n b) : c ∈ reachV es n a := by
  rw [mem_reach hl] at *
  obtain ⟨j, hj, h3⟩ := h
  obtain ⟨k, hk, h4⟩ := h2
  exact ⟨j + k, by omega, rk_app h3 h4⟩
theorem reach_edge {es : E} {n a b : Nat} (hl : Low es n) (h : (a, b) ∈ es) : b ∈ reachV es n a := (mem_reach hl).2 ⟨1, Nat.le_refl _, rk_one.2 h⟩
theorem reach_short {es : E} {n a : Nat} (hl : Low es n) (ht : Tree es) : reachV (shortV es n) n a = reachV es n a := by
  unfold reachV
  apply List.filter_congr
  intro b _
  have h : 0 ≤ dist (shortV es n) n a b ↔ 0 ≤ dist es n a b := by rw [dist_pos (hl.sub short_sub), dist_pos hl]; exact short_reach hl ht
  exact decide_eq_decide.2 h
theorem filter_range (n : Nat) (p : Nat → Bool) : ∀ i, i + 1 < ((List.range n).filter p).length → ((List.range n).filter p).getD i 0 < ((List.range n).filter p).getD (i + 1) 0 := fun i hi => by
  have h := (List.pairwise_lt_range (n := n)).filter p
  rw [List.getD_eq_getElem?_getD, List.getD_eq_getElem?_getD, List.getElem?_eq_getElem (by omega), List.getElem?_eq_getElem hi]
  exact List.pairwise_iff_getElem.1 h i (i + 1) (by omega) hi (by omega)
end Go.Proofs.Ytgeefkfolejbnaa.Gr
