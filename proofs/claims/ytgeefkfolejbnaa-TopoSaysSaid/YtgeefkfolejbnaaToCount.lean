/-
  Levels and numbers of paths in plain words.
-/
import Derived.Test.YtgeefkfolejbnaaToPlain
namespace Go.Proofs.Ytgeefkfolejbnaa.To
open Gr
/-- Where no node reaches itself, a way has fewer edges than there are nodes. -/
theorem tree_lt {es : E} {n k a b : Nat} (hl : Low es n) (ht : Tree es) (h : rk es (k + 1) a b = true) : k + 1 < n := by
  obtain ⟨l, h2, h3, h5, h4⟩ := rk_nodes hl h
  have ha := (rk_low hl h).1
  have hn : (a :: l).Nodup := by
    apply Classical.byContradiction
    intro hn
    obtain ⟨i, j, h6, h7, h8⟩ := not_nodup hn
    obtain ⟨j, rfl⟩ : ∃ j', j = j' + 1 := ⟨j - 1, by omega⟩
    simp only [List.length_cons] at h7
    have hj : j < k + 1 := by omega
    rw [List.getD_cons_succ] at h8
    cases i with
    | zero =>
      rw [List.getD_cons_zero] at h8
      have p := (h5 j hj).1
      rw [← h8, ht (j + 1) _ (by omega)] at p
      cases p
    | succ i =>
      rw [List.getD_cons_succ] at h8
      have p := h4 i j (by omega) hj
      rw [← h8, ht (j - i) _ (by omega)] at p
      cases p
  have := nodup_low n (a :: l) (fun x hx => by
    rcases List.mem_cons.1 hx with rfl | hx
    · exact ha
    · exact h3 x hx) hn
  simp only [List.length_cons] at this
  omega
/-! ### Levels -/
/-- One more than the greatest, nought of nothing. -/
def mx (f : Nat → Nat) : List Nat → Nat
  | [] => 0
  | a :: r => max (f a + 1) (mx f r)
theorem mx_le {f : Nat → Nat} {j : Nat} : ∀ {l : List Nat}, j ≤ mx f l ↔ j = 0 ∨ ∃ a, a ∈ l ∧ j ≤ f a + 1
  | [] => by simp [mx]
  | a :: r => by
    unfold mx
    rw [show j ≤ max (f a + 1) (mx f r) ↔ j ≤ f a + 1 ∨ j ≤ mx f r by omega, mx_le (l := r)]
    constructor
    · rintro (h | h | ⟨b, h1, h2⟩)
      · exact .inr ⟨a, by simp, h⟩
      · exact .inl h
      · exact .inr ⟨b, List.mem_cons_of_mem _ h1, h2⟩
    · rintro (h | ⟨b, h1, h2⟩)
      · exact .inr (.inl h)
      · rcases List.mem_cons.1 h1 with rfl | h1
        · exact .inl h2
        · exact .inr (.inr ⟨b, h1, h2⟩)
theorem mx_snoc (f : Nat → Nat) : ∀ (l : List Nat) (a : Nat), mx f (l ++ [a]) = max (mx f l) (f a + 1)
  | [], a => by simp [mx]
  | b :: r, a => by
    show max (f b + 1) (mx f (r ++ [a])) = max (max (f b + 1) (mx f r)) (f a + 1)
    rw [mx_snoc f r a]; omega
theorem mx_same {f g : Nat → Nat} {l : List Nat} (h : ∀ a ∈ l, f a = g a) : mx f l = mx g l := by
  induction l with
  | nil => rfl
  | cons a r ih =>
    unfold mx
    rw [h a (by simp), ih fun b hb => h b (List.mem_cons_of_mem _ hb)]
theorem eq_of_le {a b : Nat} (h : ∀ j, j ≤ a ↔ j ≤ b) : a = b := by
  have h1 := (h a).1 (Nat.le_refl _)
  have h2 := (h b).2 (Nat.le_refl _)
  omega
def lvK (es : E) (n : Nat) : Nat → Nat → Nat
  | 0, _ => 0
  | k + 1, x => mx (lvK es n k) (aheadV es n x)
def lev (es : E) (n x : Nat) : Nat := lvK es n n x
theorem lvK_iff {es : E} {n : Nat} (hl : Low es n) : ∀ (k j x : Nat), j ≤ lvK es n k x ↔ j ≤ k ∧ ∃ a, rk es j a x = true
  | 0, j, x => by
    unfold lvK
    constructor
    · intro h; obtain rfl : j = 0 := by omega
      exact ⟨Nat.le_refl _, x, by simp [rk]⟩
    · intro h; exact h.1
  | k + 1, j, x => by
    unfold lvK
    rw [mx_le]
    cases j with
    | zero => exact ⟨fun _ => ⟨Nat.zero_le _, x, by simp [rk]⟩, fun _ => .inl rfl⟩
    | succ i =>
      constructor
      · rintro (h | ⟨a, h1, h2⟩)
        · omega
        · obtain ⟨h3, b, h4⟩ := (lvK_iff hl k i a).1 (by omega)
          exact ⟨by omega, b, rk_snoc h4 ((mem_ahead hl).1 h1)⟩
      · rintro ⟨h1, b, h2⟩
        obtain ⟨a, h3, h4⟩ := rk_last h2
        have := (lvK_iff hl k i a).2 ⟨by omega, b, h4⟩
        exact .inr ⟨a, (mem_ahead hl).2 h3, by omega⟩
theorem lev_iff {es : E} {n : Nat} (hl : Low es n) (ht : Tree es) (j x : Nat) : j ≤ lev es n x ↔ ∃ a, rk es j a x = true := by
  unfold lev
  rw [lvK_iff hl]
  exact ⟨fun h => h.2, fun ⟨a, h⟩ => ⟨tree_le hl ht h, a, h⟩⟩
/-- Each level is one more than the greatest of the levels straight ahead. -/
theorem lev_eq {es : E} {n : Nat} (hl : Low es n) (ht : Tree es) (x : Nat) : lev es n x = mx (lev es n) (aheadV es n x) := by
  refine eq_of_le fun j => ?_
  rw [lev_iff hl ht, mx_le]
  cases j with
  | zero => exact ⟨fun _ => .inl rfl, fun _ => ⟨x, by simp [rk]⟩⟩
  | succ i =>
    constructor
    · rintro ⟨b, h⟩
      obtain ⟨a, h1, h2⟩ := rk_last h
      have := (lev_iff hl ht i a).2 ⟨b, h2⟩
      exact .inr ⟨a, (mem_ahead hl).2 h1, by omega⟩
    · rintro (h | ⟨a, h1, h2⟩)
      · omega
      · obtain ⟨b, h3⟩ := (lev_iff hl ht i a).1 (by omega)
        exact ⟨b, rk_snoc h3 ((mem_ahead hl).1 h1)⟩
theorem lev_lt {es : E} {n x : Nat} (hl : Low es n) (ht : Tree es) (hx : x < n) : lev es n x < n := by
  cases hj : lev es n x with
  | zero => omega
  | succ k =>
    obtain ⟨a, h⟩ := (lev_iff hl ht (k + 1) x).1 (by omega)
    exact tree_lt hl ht h
theorem lev_short {es : E} {n : Nat} (hl : Low es n) (ht : Tree es) (x : Nat) : lev (shortV es n) n x = lev es n x := by
  have hl2 : Low (shortV es n) n := hl.sub short_sub
  have ht2 : Tree (shortV es n) := ht.sub short_sub
  refine eq_of_le fun j => ?_
  rw [lev_iff hl2 ht2]
  constructor
  · rintro ⟨a, h⟩
    exact (lev_iff hl ht j x).2 ⟨a, rk_mono short_sub h⟩
  · intro h
    obtain ⟨a, h1⟩ := (lev_iff hl ht (lev es n x) x).1 (Nat.le_refl _)
    have h2 := short_way hl (K := lev es n x) (a := a) (b := x) (fun i hi => by
      cases hr : rk es i a x with
      | false => rfl
      | true => have := (lev_iff hl ht i x).2 ⟨a, hr⟩; omega) (lev es n x) x (Nat.le_refl _) h1 (by rw [Nat.sub_self]; simp [rk])
    rw [show lev es n x = (lev es n x - j) + j by omega] at h2
    obtain ⟨c, _, h3⟩ := rk_split h2
    exact ⟨c, h3⟩
theorem lev_nil (n x : Nat) : lev [] n x = 0 := by
  unfold lev
  cases n with
  | zero => rfl
  | succ n =>
    show mx (lvK [] (n + 1) n) (aheadV [] (n + 1) x) = 0
    rw [show aheadV [] (n + 1) x = [] by simp [aheadV]]
    rfl
/-- The nodes of the longest path. -/
def longV (es : E) (n : Nat) : Nat := mx (lev es n) (List.range n)
theorem long_short {es : E} {n : Nat} (hl : Low es n) (ht : Tree es) : longV (shortV es n) n = longV es n := mx_same fun x _ => lev_short hl ht x
theorem long_le {es : E} {n : Nat} (hl : Low es n) (ht : Tree es) : longV es n ≤ n := by
  unfold longV
  rcases (mx_le (j := mx (lev es n) (List.range n))).1 (Nat.le_refl _) with h | ⟨a, h1, h2⟩
  · omega
  · have := lev_lt hl ht (x := a) (by simpa using h1)
    omega
/-! ### Sums -/
def sumTo (f : Nat → Nat) : Nat → Nat
  | 0 => 0
  | k + 1 => sumTo f k + f k
theorem sumTo_head (f : Nat → Nat) : ∀ k, sumTo f (k + 1) = f 0 + sumTo (fun i => f (i + 1)) k
  | 0 => by simp [sumTo]
  | k + 1 => by
    show sumTo f (k + 1) + f (k + 1) = f 0 + (sumTo (fun i => f (i + 1)) k + f (k + 1))
    rw [sumTo_head f k]; omega
theorem sumTo_same {f g : Nat → Nat} : ∀ {k : Nat}, (∀ i, i < k → f i = g i) → sumTo f k = sumTo g k
  | 0, _ => rfl
  | k + 1, h => by
    show sumTo f k + f k = sumTo g k + g k
    rw [sumTo_same fun i hi => h i (by omega), h k (by omega)]
theorem sumTo_zero : ∀ (k : Nat), sumTo (fun _ => 0) k = 0
  | 0 => rfl
  | k + 1 => sumTo_zero k
theorem sumTo_le {f : Nat → Nat} {B : Nat} : ∀ {k : Nat}, (∀ i, i < k → f i ≤ B) → sumTo f k ≤ k * B
  | 0, _ => by simp [sumTo]
  | k + 1, h => by
    have h1 := sumTo_le (k := k) fun i hi => h i (by omega)
    have h2 := h k (by omega)
    rw [Nat.add_mul, Nat.one_mul]
    show sumTo f k + f k ≤ _
    omega
theorem sumTo_pos {f : Nat → Nat} : ∀ {k : Nat}, 0 < sumTo f k ↔ ∃ i, i < k ∧ 0 < f i
  | 0 => by simp [sumTo]
  | k + 1 => by
    show 0 < sumTo f k + f k ↔ _
    constructor
    · intro h
      by_cases h0 : 0 < f k
      · exact ⟨k, by omega, h0⟩
      · obtain ⟨i, h1, h2⟩ := sumTo_pos.1 (show 0 < sumTo f k by omega)
        exact ⟨i, by omega, h2⟩
    · rintro ⟨i, h1, h2⟩
      rcases Nat.lt_or_ge i k with h | h
      · have := sumTo_pos.2 ⟨i, h, h2⟩; omega
      · obtain rfl : i = k := by omega
        omega
/-- The sum over a row of nodes. -/
def sm (f : Nat → Nat) : List Nat → Nat
  | [] => 0
  | a :: r => f a + sm f r
theorem sm_same {f g : Nat → Nat} {l : List Nat} (h : ∀ a ∈ l, f a = g a) : sm f l = sm g l := by
  induction l with
  | nil => rfl
  | cons a r ih =>
    unfold sm
    rw [h a (by simp), ih fun b hb => h b (List.mem_cons_of_mem _ hb)]
theorem sm_snoc (f : Nat → Nat) : ∀ (l : List Nat) (a : Nat), sm f (l ++ [a]) = sm f l + f a
  | [], a => by simp [sm]
  | b :: r, a => by
    show f b + sm f (r ++ [a]) = f b + sm f r + f a
    rw [sm_snoc f r a]; omega
theorem sm_add (f g : Nat → Nat) : ∀ (l : List Nat), sm (fun x => f x + g x) l = sm f l + sm g l
  | [] => rfl
  | a :: r => by
    show f a + g a + sm (fun x => f x + g x) r = f a + sm f r + (g a + sm g r)
    rw [sm_add f g r]; omega
theorem sm_zero : ∀ (l : List Nat), sm (fun _ => 0) l = 0
  | [] => rfl
  | _ :: r => by show 0 + sm (fun _ => 0) r = 0; rw [sm_zero r]
theorem sm_pos {f : Nat → Nat} : ∀ {l : List Nat}, 0 < sm f l ↔ ∃ a, a ∈ l ∧ 0 < f a
  | [] => by simp [sm]
  | a :: r => by
    show 0 < f a + sm f r ↔ _
    constructor
    · intro h
      by_cases h0 : 0 < f a
      · exact ⟨a, by simp, h0⟩
      · obtain ⟨b, h1, h2⟩ := sm_pos.1 (show 0 < sm f r by omega)
        exact ⟨b, List.mem_cons_of_mem _ h1, h2⟩
    · rintro ⟨b, h1, h2⟩
      rcases List.mem_cons.1 h1 with rfl | h1
      · omega
      · have := sm_pos.2 ⟨b, h1, h2⟩; omega
theorem sm_le {f : Nat → Nat} {B : Nat} : ∀ {l : List Nat}, (∀ a ∈ l, f a ≤ B) → sm f l ≤ l.length * B
  | [], _ => by simp [sm]
  | a :: r, h => by
    have h1 := sm_le (l := r) fun b hb => h b (List.mem_cons_of_mem _ hb)
    have h2 := h a (by simp)
    rw [List.length_cons, Nat.add_mul, Nat.one_mul]
    show f a + sm f r ≤ _
    omega
theorem sm_swap (f : Nat → Nat → Nat) (k : List Nat) : ∀ (l : List Nat), sm (fun x => sm (fun y => f x y) k) l = sm (fun y => sm (fun x => f x y) l) k
  | [] => by
    show 0 = sm (fun _ => 0) k
    rw [sm_zero]
  | a :: r => by
    show sm (fun y => f a y) k + sm (fun x => sm (fun y => f x y) k) r = sm (fun y => f a y + sm (fun x => f x y) r) k
    rw [sm_swap f k r, sm_add]
theorem sm_sumTo (f : Nat → Nat → Nat) (l : List Nat) : ∀ (k : Nat), sumTo (fun i => sm (fun x => f i x) l) k = sm (fun x => sumTo (fun i => f i x) k) l
  | 0 => by
    show 0 = sm (fun _ => 0) l
    rw [sm_zero]
  | k + 1 => by
    show sumTo (fun i => sm (fun x => f i x) l) k + sm (fun x => f k x) l = sm (fun x => sumTo (fun i => f i x) k + f k x) l
    rw [sm_sumTo f l k, sm_add]
theorem sm_one (a : Nat) : ∀ (l : List Nat), l.Nodup → sm (fun c => if a = c then 1 else 0) l = if a ∈ l then 1 else 0
  | [], _ => rfl
  | b :: r, h => by
    obtain ⟨h1, h2⟩ := List.nodup_cons.1 h
    show (if a = b then 1 else 0) + sm (fun c => if a = c then 1 else 0) r = _
    rw [sm_one a r h2]
    by_cases hab : a = b
    · subst hab
      rw [if_pos rfl, if_neg h1, if_pos (by simp)]
    · rw [if_neg hab]
      by_cases hr : a ∈ r
      · rw [if_pos hr, if_pos (by simp [hr])]
      · rw [if_neg hr, if_neg (by simp [hab, hr])]
/-! ### Paths -/
/-- The number of ways of k edges from a to b. -/
def ww (es : E) (n : Nat) : Nat → Nat → Nat → Nat
  | 0, a, b => if a = b then 1 else 0
  | k + 1, a, b => sm (fun x => ww es n k a x) (aheadV es n b)
theorem ww_pos {es : E} {n : Nat} (hl : Low es n) : ∀ {k a b : Nat}, 0 < ww es n k a b ↔ rk es k a b = true
  | 0, a, b => by
    unfold ww
    by_cases h : a = b
    · simp [rk, h]
    · simp [rk, h]
  | k + 1, a, b => by
    unfold ww
    rw [sm_pos]
    constructor
    · rintro ⟨x, h1, h2⟩
      exact rk_snoc ((ww_pos hl).1 h2) ((mem_ahead hl).1 h1)
    · intro h
      obtain ⟨x, h1, h2⟩ := rk_last h
      exact ⟨x, (mem_ahead hl).2 h1, (ww_pos hl).2 h2⟩
theorem ww_none {es : E} {n k a b : Nat} (hl : Low es n) (h : rk es k a b = false) : ww es n k a b = 0 := by
  apply Classical.byContradiction
  intro hn
  have := (ww_pos hl).1 (show 0 < ww es n k a b by omega)
  rw [h] at this; cases this
theorem nodup_ahead (es : E) (n x : Nat) : (aheadV es n x).Nodup := List.nodup_range.sublist List.filter_sublist
theorem nodup_behind (es : E) (n x : Nat) : (behindV es n x).Nodup := List.nodup_range.sublist List.filter_sublist
theorem ww_head {es : E} {n : Nat} (hl : Low es n) : ∀ (k a b : Nat), ww es n (k + 1) a b = sm (fun c => ww es n k c b) (behindV es n a)
  | 0, a, b => by
    show sm (fun x => if a = x then 1 else 0) (aheadV es n b) = sm (fun c => if c = b then 1 else 0) (behindV es n a)
    rw [sm_one a _ (nodup_ahead es n b), sm_same (g := fun c => if b = c then 1 else 0) (l := behindV es n a) (fun c _ => by simp only [eq_comm]), sm_one b _ (nodup_behind es n a)]
    by_cases h : (a, b) ∈ es
    · rw [if_pos ((mem_ahead hl).2 h), if_pos ((mem_behind hl).2 h)]
    · rw [if_neg fun h2 => h ((mem_ahead hl).1 h2), if_neg fun h2 => h ((mem_behind hl).1 h2)]
  | k + 1, a, b => by
    show sm (fun x => ww es n (k + 1) a x) (aheadV es n b) = sm (fun c => sm (fun x => ww es n k c x) (aheadV es n b)) (behindV es n a)
    rw [sm_same (g := fun x => sm (fun c => ww es n k c x) (behindV es n a)) (fun x _ => ww_head hl k a x), sm_swap]
/-- The number of paths from a to b. -/
def pathsV (es : E) (n a b : Nat) : Nat := sumTo (fun k => ww es n k a b) n
theorem paths_tail {es : E} {n a b : Nat} (hl : Low es n) (ht : Tree es) (hn : 0 < n) : pathsV es n a b = (if a = b then 1 else 0) + sm (fun c => pathsV es n a c) (aheadV es n b) := by
  obtain ⟨m, rfl⟩ : ∃ m, n = m + 1 := ⟨n - 1, by omega⟩
  unfold pathsV
  rw [sumTo_head]
  show (if a = b then 1 else 0) + sumTo (fun i => sm (fun x => ww es (m + 1) i a x) (aheadV es (m + 1) b)) m = _
  rw [sm_sumTo]
  congr 1
  refine sm_same fun c hc => ?_
  show _ = sumTo (fun k => ww es (m + 1) k a c) m + ww es (m + 1) m a c
  have h0 : rk es m a c = false := by
    cases hr : rk es m a c with
    | false => rfl
    | true =>
      have := tree_lt hl ht (rk_snoc hr ((mem_ahead hl).1 hc))
      omega
  rw [ww_none hl h0]
  rfl
theorem paths_head {es : E} {n a b : Nat} (hl : Low es n) (ht : Tree es) (hn : 0 < n) : pathsV es n a b = (if a = b then 1 else 0) + sm (fun c => pathsV es n c b) (behindV es n a) := by
  obtain ⟨m, rfl⟩ : ∃ m, n = m + 1 := ⟨n - 1, by omega⟩
  unfold pathsV
  rw [sumTo_head, sumTo_same (g := fun i => sm (fun c => ww es (m + 1) i c b) (behindV es (m + 1) a)) (fun i _ => ww_head hl i a b), sm_sumTo]
  congr 1
  refine sm_same fun c hc => ?_
  show _ = sumTo (fun k => ww es (m + 1) k c b) m + ww es (m + 1) m c b
  have h0 : rk es m c b = false := by
    cases hr : rk es m c b with
    | false => rfl
    | true =>
      have := tree_lt hl ht (rk_cons ((mem_behind hl).1 hc) hr)
      omega
  rw [ww_none hl h0]
  rfl
theorem paths_self {es : E} {n a : Nat} (hl : Low es n) (ht : Tree es) (hn : 0 < n) : pathsV es n a a = 1 := by
  obtain ⟨m, rfl⟩ : ∃ m, n = m + 1 := ⟨n - 1, by omega⟩
  unfold pathsV
  rw [sumTo_head, sumTo_same (g := fun _ => 0) (fun i _ => ww_none hl (ht (i + 1) a (by omega))), sumTo_zero]
  simp [ww]
theorem paths_pos {es : E} {n a b : Nat} (hl : Low es n) (ht : Tree es) (hab : a ≠ b) : 0 < pathsV es n a b ↔ b ∈ reachV es n a := by
  unfold pathsV
  rw [sumTo_pos, mem_reach hl]
  constructor
  · rintro ⟨k, h1, h2⟩
    have h3 := (ww_pos hl).1 h2
    refine ⟨k, ?_, h3⟩
    cases k with
    | zero => simp [rk] at h3; exact absurd h3 hab
    | succ k => omega
  · rintro ⟨k, h1, h2⟩
    obtain ⟨j, rfl⟩ : ∃ j, k = j + 1 := ⟨k - 1, by omega⟩
    exact ⟨j + 1, tree_lt hl ht h2, (ww_pos hl).2 h2⟩
theorem ahead_len (es : E) (n x : Nat) : (aheadV es n x).length ≤ n := by
  have := List.length_filter_le (fun a => es.contains (a, x)) (List.range n)
  rwa [List.length_range] at this
theorem behind_len (es : E) (n x : Nat) : (behindV es n x).length ≤ n := by
  have := List.length_filter_le (fun b => es.contains (x, b)) (List.range n)
  rwa [List.length_range] at this
theorem ww_le {es : E} {n : Nat} (hn : n ≤ 16) : ∀ (k a b : Nat), ww es n (k + 1) a b ≤ 16 ^ k
  | 0, a, b => by
    show sm (fun x => if a = x then 1 else 0) (aheadV es n b) ≤ 1
    rw [sm_one a _ (nodup_ahead es n b)]
    split <;> omega
  | k + 1, a, b => by
    show sm (fun x => ww es n (k + 1) a x) (aheadV es n b) ≤ 16 ^ (k + 1)
    refine Nat.le_trans (sm_le fun x _ => ww_le hn k a x) ?_
    rw [Nat.pow_succ, Nat.mul_comm]
    exact Nat.mul_le_mul_left _ (Nat.le_trans (ahead_len es n b) hn)
theorem paths_le {es : E} {n a b : Nat} (hl : Low es n) (ht : Tree es) (hn : n ≤ 16) : pathsV es n a b ≤ 1152921504606846976 := by
  have h : pathsV es n a b ≤ n * 16 ^ 14 := sumTo_le fun k hk => by
    cases k with
    | zero =>
      show (if a = b then 1 else 0) ≤ 16 ^ 14
      split <;> decide
    | succ k =>
      cases hr : rk es (k + 1) a b with
      | false => rw [ww_none hl hr]; exact Nat.zero_le _
      | true =>
        have := tree_lt hl ht hr
        exact Nat.le_trans (ww_le hn k a b) (Nat.pow_le_pow_right (by decide) (by omega))
  have h2 : n * 16 ^ 14 ≤ 16 * 16 ^ 14 := Nat.mul_le_mul_right _ hn
  exact Nat.le_trans h (Nat.le_trans h2 (by decide))
end Go.Proofs.Ytgeefkfolejbnaa.To
