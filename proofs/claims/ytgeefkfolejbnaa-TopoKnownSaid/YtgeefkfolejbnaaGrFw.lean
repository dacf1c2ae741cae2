/-
  Graphs over signed numbers: which are valid, and the program's table of distances (every middle node in turn), which tells the distance.
-/
import Derived.Test.YtgeefkfolejbnaaGrPlain
namespace Go.Proofs.Ytgeefkfolejbnaa.Gr
abbrev EI := List (Int × Int)
structure Good (n : Int) (es : EI) : Prop where
  n0 : 0 ≤ n
  n16 : n ≤ 16
  edge : ∀ e ∈ es, 0 ≤ e.1 ∧ e.1 < n ∧ 0 ≤ e.2 ∧ e.2 < n ∧ e.1 ≠ e.2
  once : es.Nodup
def goodV (n : Int) (es : EI) : Bool := decide (0 ≤ n ∧ n ≤ 16 ∧ (∀ e ∈ es, 0 ≤ e.1 ∧ e.1 < n ∧ 0 ≤ e.2 ∧ e.2 < n ∧ e.1 ≠ e.2) ∧ es.Nodup)
theorem goodV_iff {n : Int} {es : EI} : goodV n es = true ↔ Good n es := by
  unfold goodV
  rw [decide_eq_true_eq]
  exact ⟨fun h => ⟨h.1, h.2.1, h.2.2.1, h.2.2.2⟩, fun h => ⟨h.n0, h.n16, h.edge, h.once⟩⟩
theorem goodV_no {n : Int} {es : EI} (h : ¬ Good n es) : goodV n es = false := by
  cases hg : goodV n es with
  | false => rfl
  | true => exact absurd (goodV_iff.1 hg) h
def nat (es : EI) : E := es.map fun e => (e.1.toNat, e.2.toNat)
theorem Good.low {n : Int} {es : EI} (h : Good n es) : Low (nat es) n.toNat := fun e he => by
  obtain ⟨x, hx, rfl⟩ := List.mem_map.1 he
  have := h.edge x hx
  exact ⟨by show x.1.toNat < _; omega, by show x.2.toNat < _; omega⟩
theorem mem_nat {es : EI} (h : ∀ e ∈ es, 0 ≤ e.1 ∧ 0 ≤ e.2) (a b : Nat) : (a, b) ∈ nat es ↔ ((a : Int), (b : Int)) ∈ es := by
  unfold nat
  rw [List.mem_map]
  constructor
  · rintro ⟨⟨x, y⟩, hx, e⟩
    injection e with e1 e2
    have := h _ hx
    simp only at e1 e2 this
    have h1 : x = (a : Int) := by omega
    have h2 : y = (b : Int) := by omega
    rw [← h1, ← h2]; exact hx
  · intro hx
    exact ⟨_, hx, by simp⟩
theorem Good.mem {n : Int} {es : EI} (h : Good n es) (a b : Nat) : (a, b) ∈ nat es ↔ ((a : Int), (b : Int)) ∈ es := mem_nat (fun e he => ⟨(h.edge e he).1, (h.edge e he).2.2.1⟩) a b
theorem Good.ne {n : Int} {es : EI} (h : Good n es) {a : Nat} : (a, a) ∉ nat es := fun hm => (h.edge _ ((h.mem a a).1 hm)).2.2.2.2 rfl
theorem Good.sub {n : Int} {es fs : EI} (h : Good n es) (hs : fs.Sublist es) : Good n fs := ⟨h.n0, h.n16, fun e he => h.edge e (hs.subset he), h.once.sublist hs⟩

/-! ### The table -/
def F0 (es : EI) : Int → Int → Option Int := fun a b => if (a, b) ∈ es then some 1 else none
def best (k x y : Option Int) : Option Int := match x, y with
  | some p, some q => match k with
    | some r => if p + q < r then some (p + q) else some r
    | none => some (p + q)
  | _, _ => k
def step (F : Int → Int → Option Int) (m : Int) : Int → Int → Option Int := fun a b => best (F a b) (F a m) (F m b)
def fw (es : EI) : Nat → Int → Int → Option Int
  | 0 => F0 es
  | m + 1 => step (fw es m) m
theorem best_none_l (k y : Option Int) : best k none y = k := rfl
theorem best_none_r (k x : Option Int) : best k x none = k := by cases x <;> rfl
theorem best_same_l {k : Option Int} {y : Option Int} (hy : ∀ q, y = some q → 0 < q) : best k k y = k := by
  cases k with
  | none => rfl
  | some r =>
    cases y with
    | none => rfl
    | some q =>
      show (if r + q < r then some (r + q) else some r) = some r
      rw [if_neg (by have := hy q rfl; omega)]
theorem best_same_r {k : Option Int} {x : Option Int} (hx : ∀ q, x = some q → 0 < q) : best k x k = k := by
  cases k with
  | none => cases x <;> rfl
  | some r =>
    cases x with
    | none => rfl
    | some q =>
      show (if q + r < r then some (q + r) else some r) = some r
      rw [if_neg (by have := hx q rfl; omega)]
structure Rng (n P : Int) (F : Int → Int → Option Int) : Prop where
  rng : ∀ a b k, F a b = some k → 0 ≤ a ∧ a < n ∧ 0 ≤ b ∧ b < n ∧ 1 ≤ k ∧ k ≤ P
theorem Rng.row {n P : Int} {F : Int → Int → Option Int} (h : Rng n P F) {m : Int} (a : Int) : step F m a m = F a m := by
  unfold step
  exact best_same_l fun q hq => by have := h.rng _ _ _ hq; omega
theorem Rng.col {n P : Int} {F : Int → Int → Option Int} (h : Rng n P F) {m : Int} (b : Int) : step F m m b = F m b := by
  unfold step
  exact best_same_r fun q hq => by have := h.rng _ _ _ hq; omega
theorem best_cases (k x y : Option Int) : best k x y = k ∨ ∃ p q, x = some p ∧ y = some q ∧ best k x y = some (p + q) := by
  cases x with
  | none => exact .inl rfl
  | some p =>
    cases y with
    | none => exact .inl rfl
    | some q =>
      cases k with
      | none => exact .inr ⟨p, q, rfl, rfl, rfl⟩
      | some r =>
        by_cases h : p + q < r
        · exact .inr ⟨p, q, rfl, rfl, by show (if p + q < r then some (p + q) else some r) = _; rw [if_pos h]⟩
        · exact .inl (by show (if p + q < r then some (p + q) else some r) = _; rw [if_neg h])
theorem best_le (k : Option Int) {p q : Int} : ∃ v, best k (some p) (some q) = some v ∧ v ≤ p + q := by
  cases k with
  | none => exact ⟨_, rfl, Int.le_refl _⟩
  | some r =>
    by_cases h : p + q < r
    · exact ⟨p + q, by show (if p + q < r then some (p + q) else some r) = _; rw [if_pos h], Int.le_refl _⟩
    · exact ⟨r, by show (if p + q < r then some (p + q) else some r) = _; rw [if_neg h], by omega⟩
theorem best_old {k : Int} (x y : Option Int) : ∃ v, best (some k) x y = some v ∧ v ≤ k := by
  rcases best_cases (some k) x y with h | ⟨p, q, rfl, rfl, h⟩
  · exact ⟨k, h, Int.le_refl _⟩
  · refine ⟨p + q, h, ?_⟩
    have h2 : (if p + q < k then some (p + q) else some k) = some (p + q) := h
    split at h2
    · omega
    · injection h2 with h2; omega
theorem Rng.step {n P : Int} {F : Int → Int → Option Int} (h : Rng n P F) (hP : 0 ≤ P) (m : Int) : Rng n (2 * P) (step F m) := ⟨fun a b k hk => by
  rcases best_cases (F a b) (F a m) (F m b) with h1 | ⟨p, q, h1, h2, h3⟩
  · have := h.rng a b k (h1.symm.trans hk)
    omega
  · have p1 := h.rng _ _ _ h1
    have p2 := h.rng _ _ _ h2
    have e : some k = some (p + q) := hk.symm.trans h3
    injection e with e
    omega⟩
theorem Good.rng0 {n : Int} {es : EI} (h : Good n es) : Rng n 1 (F0 es) := ⟨fun a b k hk => by
  unfold F0 at hk
  split at hk
  · next hm =>
    injection hk with hk
    have := h.edge _ hm
    simp only at this
    omega
  · cases hk⟩
theorem Good.rng {n : Int} {es : EI} (h : Good n es) : ∀ m : Nat, Rng n (2 ^ m) (fw es m)
  | 0 => h.rng0
  | m + 1 => by
    have := (h.rng m).step (Int.le_of_lt (Int.pow_pos (by decide))) m
    rw [Int.pow_succ, Int.mul_comm]
    exact this
theorem pow16 {m : Nat} (h : m ≤ 16) : (2 : Int) ^ m ≤ 65536 := by
  have : (2 : Nat) ^ m ≤ 2 ^ 16 := Nat.pow_le_pow_right (by decide) h
  have e : ((2 ^ m : Nat) : Int) = (2 : Int) ^ m := by simp
  rw [← e]; omega
theorem Good.big {n : Int} {es : EI} (h : Good n es) (m : Nat) (hm : m ≤ 16) : Rng n 65536 (fw es m) := ⟨fun a b k hk => by
  have h1 := (h.rng m).rng a b k hk
  have := pow16 hm
  omega⟩

/-! ### What it tells -/
theorem Good.way {n : Int} {es : EI} (h : Good n es) : ∀ (m : Nat) (a b k : Int), fw es m a b = some k → rk (nat es) k.toNat a.toNat b.toNat = true
  | 0, a, b, k, hk => by
    have hk' : F0 es a b = some k := hk
    unfold F0 at hk'
    split at hk'
    · next hm =>
      injection hk' with hk'
      subst hk'
      refine rk_one.2 ?_
      exact List.mem_map.2 ⟨(a, b), hm, rfl⟩
    · cases hk'
  | m + 1, a, b, k, hk => by
    have hk' : best (fw es m a b) (fw es m a m) (fw es m m b) = some k := hk
    rcases best_cases (fw es m a b) (fw es m a m) (fw es m m b) with h1 | ⟨p, q, h1, h2, h3⟩
    · exact h.way m a b k (h1.symm.trans hk')
    · have p1 := (h.rng m).rng _ _ _ h1
      have p2 := (h.rng m).rng _ _ _ h2
      have r := rk_app (h.way m _ _ _ h1) (h.way m _ _ _ h2)
      have e : some k = some (p + q) := hk'.symm.trans h3
      injection e with e
      subst e
      rw [show (p + q).toNat = p.toNat + q.toNat by omega]
      exact r
/-- A way whose nodes in between are below m. -/
inductive Via (es : E) (m : Nat) : Nat → Nat → Nat → Prop
  | one {a b : Nat} (h : (a, b) ∈ es) : Via es m 1 a b
  | more {k a x b : Nat} (h : Via es m k a x) (hx : x < m) (he : (x, b) ∈ es) : Via es m (k + 1) a b
theorem Via.split {es : E} {m k a b : Nat} (h : Via es (m + 1) k a b) : Via es m k a b ∨ ∃ i j, i + j ≤ k ∧ Via es m i a m ∧ Via es m j m b := by
  induction h with
  | one h => exact .inl (.one h)
  | more h hx he ih =>
    rename_i k a x b
    rcases ih with ih | ⟨i, j, hij, h1, h2⟩
    · by_cases hxm : x = m
      · subst hxm
        exact .inr ⟨k, 1, Nat.le_refl _, ih, .one he⟩
      · exact .inl (.more ih (by omega) he)
    · by_cases hxm : x = m
      · subst hxm
        exact .inr ⟨i, 1, by
          have : 1 ≤ j := by cases h2 <;> omega
          omega, h1, .one he⟩
      · exact .inr ⟨i, j + 1, by omega, h1, .more h2 (by omega) he⟩
theorem Via.of_rk {es : E} {n a : Nat} (hl : Low es n) : ∀ {k b : Nat}, rk es (k + 1) a b = true → Via es n (k + 1) a b
  | 0, b, h => .one (rk_one.1 h)
  | k + 1, b, h => by
    obtain ⟨x, hx, h2⟩ := rk_last h
    exact .more (Via.of_rk hl h2) (hl _ hx).1 hx
theorem Good.via {n : Int} {es : EI} (h : Good n es) : ∀ (m k a b : Nat), Via (nat es) m k a b → ∃ v : Int, fw es m a b = some v ∧ v ≤ k
  | 0, k, a, b, hv => by
    have hone : k = 1 ∧ (a, b) ∈ nat es := by
      cases hv with
      | one h => exact ⟨rfl, h⟩
      | more _ hx _ => omega
    obtain ⟨rfl, hm⟩ := hone
    exact ⟨1, by show F0 es a b = _; unfold F0; rw [if_pos ((h.mem a b).1 hm)], by omega⟩
  | m + 1, k, a, b, hv => by
    show ∃ v : Int, best (fw es m a b) (fw es m a m) (fw es m m b) = some v ∧ v ≤ k
    rcases hv.split with h1 | ⟨i, j, hij, h1, h2⟩
    · obtain ⟨v, e, hle⟩ := h.via m k a b h1
      rw [e]
      obtain ⟨u, e2, hle2⟩ := best_old (k := v) (fw es m a m) (fw es m m b)
      exact ⟨u, e2, by omega⟩
    · obtain ⟨p, e1, hp⟩ := h.via m i a m h1
      obtain ⟨q, e2, hq⟩ := h.via m j m b h2
      rw [e1, e2]
      obtain ⟨u, e3, hle⟩ := best_le (fw es m a b) (p := p) (q := q)
      exact ⟨u, e3, by omega⟩
/-- The finished table. -/
def fin (n : Int) (es : EI) : Int → Int → Option Int := fw es n.toNat
theorem Good.fin_rng {n : Int} {es : EI} (h : Good n es) : Rng n 65536 (fin n es) := h.big _ (by have := h.n16; omega)
theorem Good.fin_some {n : Int} {es : EI} (h : Good n es) (a b : Nat) (k : Int) : fin n es a b = some k ↔ 1 ≤ k ∧ rk (nat es) k.toNat a b = true ∧ ∀ j : Nat, 1 ≤ j → (j : Int) < k → rk (nat es) j a b = false := by
  have up : ∀ v : Int, fin n es a b = some v → 1 ≤ v ∧ rk (nat es) v.toNat a b = true := fun v hv => by
    have h1 := h.fin_rng.rng _ _ _ hv
    have h2 := h.way _ _ _ _ hv
    simp only [Int.toNat_natCast] at h2
    exact ⟨by omega, h2⟩
  have down : ∀ j : Nat, 1 ≤ j → rk (nat es) j a b = true → ∃ v : Int, fin n es a b = some v ∧ v ≤ j := fun j hj hr => by
    obtain ⟨i, rfl⟩ : ∃ i, j = i + 1 := ⟨j - 1, by omega⟩
    exact h.via _ _ _ _ (Via.of_rk h.low hr)
  constructor
  · intro hk
    obtain ⟨h1, h2⟩ := up k hk
    refine ⟨h1, h2, fun j hj hlt => ?_⟩
    cases hr : rk (nat es) j a b with
    | false => rfl
    | true =>
      obtain ⟨v, e, hv⟩ := down j hj hr
      rw [hk] at e
      injection e with e
      omega
  · rintro ⟨h1, h2, h3⟩
    obtain ⟨v, e, hv⟩ := down k.toNat (by omega) h2
    obtain ⟨v1, v2⟩ := up v e
    rw [e]
    congr 1
    rcases Int.lt_or_le v k with hlt | hle
    · rw [h3 v.toNat (by omega) (by omega)] at v2; cases v2
    · omega
theorem Good.fin_none {n : Int} {es : EI} (h : Good n es) (a b : Nat) : fin n es a b = none ↔ ∀ k, 1 ≤ k → rk (nat es) k a b = false := by
  constructor
  · intro hn k hk
    cases hr : rk (nat es) k a b with
    | false => rfl
    | true =>
      obtain ⟨i, rfl⟩ : ∃ i, k = i + 1 := ⟨k - 1, by omega⟩
      obtain ⟨v, e, _⟩ := h.via _ _ _ _ (Via.of_rk h.low hr)
      have e' : fin n es a b = some v := e
      rw [hn] at e'; cases e'
  · intro hn
    cases hf : fin n es a b with
    | none => rfl
    | some v =>
      obtain ⟨h1, h2, _⟩ := (h.fin_some a b v).1 hf
      rw [hn v.toNat (by omega)] at h2; cases h2
/-- The table tells the distance. -/
theorem Good.fin_dist {n : Int} {es : EI} (h : Good n es) (a b : Nat) : fin n es a b = if dist (nat es) n.toNat a b < 0 then none else some (dist (nat es) n.toNat a b) := by
  rcases dist_cases (nat es) n.toNat a b h.low with ⟨h1, h2⟩ | ⟨k, k1, _, h1, h2, h3⟩
  · rw [h1, if_pos (by decide)]
    exact (h.fin_none a b).2 h2
  · rw [h1, if_neg (by omega)]
    exact (h.fin_some a b k).2 ⟨by omega, by rw [Int.toNat_natCast]; exact h2, fun j hj hlt => h3 j hj (by omega)⟩
theorem Good.fin_isSome {n : Int} {es : EI} (h : Good n es) (a b : Nat) : (fin n es a b).isSome = decide (0 ≤ dist (nat es) n.toNat a b) := by
  rw [h.fin_dist]
  split
  · next hx => rw [decide_eq_false (by omega)]; rfl
  · next hx => rw [decide_eq_true (by omega)]; rfl
theorem Good.fin_one {n : Int} {es : EI} (h : Good n es) (a b : Nat) : ((fin n es a b).getD 0 == 1) = (nat es).contains (a, b) := by
  rw [Bool.eq_iff_iff, beq_iff_eq, List.contains_iff_mem]
  constructor
  · intro e
    cases hf : fin n es a b with
    | none => rw [hf] at e; cases e
    | some v =>
      rw [hf] at e
      have e : v = 1 := e
      subst e
      exact rk_one.1 ((h.fin_some a b 1).1 hf).2.1
  · intro hm
    rw [(h.fin_some a b 1).2 ⟨Int.le_refl _, rk_one.2 hm, fun j hj hlt => by omega⟩]
    rfl
theorem Good.fin_out {n : Int} {es : EI} (h : Good n es) (a b : Int) (ho : ¬ (0 ≤ a ∧ a < n ∧ 0 ≤ b ∧ b < n)) : fin n es a b = none := by
  cases hf : fin n es a b with
  | none => rfl
  | some v => have := h.fin_rng.rng _ _ _ hf; exact absurd ⟨this.1, this.2.1, this.2.2.1, this.2.2.2.1⟩ ho

/-! ### As the loops write it -/
/-- Rows below f done. -/
def partV (F : Int → Int → Option Int) (m f : Int) : Int → Int → Option Int := fun x y => if 0 ≤ x ∧ x < f then step F m x y else F x y
/-- In row fr, columns below t done. -/
def rowV (F : Int → Int → Option Int) (fr m th t : Int) : Int → Int → Option Int := fun x y => if x = fr ∧ 0 ≤ y ∧ y < t then best (F x y) (some th) (F m y) else F x y
theorem part_zero (F : Int → Int → Option Int) (m a b : Int) : partV F m 0 a b = F a b := by
  unfold partV
  rw [if_neg (by omega)]
theorem part_all {n P : Int} {F : Int → Int → Option Int} (h : Rng n P F) (m a b : Int) : partV F m n a b = step F m a b := by
  unfold partV
  split
  · rfl
  · next hx =>
    unfold step
    cases hf : F a m with
    | none => rfl
    | some v => have := h.rng _ _ _ hf; omega
theorem part_at (F : Int → Int → Option Int) (m f y : Int) : partV F m f f y = F f y := by
  unfold partV
  rw [if_neg (by omega)]
theorem part_mid {n P : Int} {F : Int → Int → Option Int} (h : Rng n P F) (m f y : Int) : partV F m f m y = F m y := by
  unfold partV
  split
  · exact h.col y
  · rfl
theorem part_next_none {F : Int → Int → Option Int} {m f : Int} (hf : F f m = none) (a b : Int) (h0 : 0 ≤ f) : partV F m (f + 1) a b = partV F m f a b := by
  unfold partV
  by_cases ha : 0 ≤ a ∧ a < f
  · rw [if_pos ha, if_pos (by omega)]
  · rw [if_neg ha]
    split
    · obtain rfl : a = f := by omega
      unfold step
      rw [hf]; rfl
    · rfl
theorem part_next_some {n P : Int} {F : Int → Int → Option Int} (h : Rng n P F) {m f th : Int} (hf : F f m = some th) (h0 : 0 ≤ f) (a b : Int) : partV F m (f + 1) a b = rowV (partV F m f) f m th n a b := by
  unfold rowV
  by_cases ha : a = f
  · subst ha
    rw [part_at, part_mid h]
    have e : partV F m (a + 1) a b = best (F a b) (some th) (F m b) := by
      unfold partV
      rw [if_pos (by omega)]
      unfold step
      rw [hf]
    rw [e]
    split
    · rfl
    · next hx =>
      cases hm : F m b with
      | none => exact best_none_r _ _
      | some v => have := h.rng _ _ _ hm; omega
  · rw [if_neg (by omega)]
    unfold partV
    by_cases h2 : 0 ≤ a ∧ a < f
    · rw [if_pos h2, if_pos (by omega)]
    · rw [if_neg h2, if_neg (by omega)]
theorem part_rng {n P : Int} {F : Int → Int → Option Int} (h : Rng n P F) (hP : 0 ≤ P) (m f : Int) : Rng n (2 * P) (partV F m f) := ⟨fun a b k hk => by
  unfold partV at hk
  split at hk
  · exact (h.step hP m).rng a b k hk
  · have := h.rng a b k hk
    omega⟩
theorem row_zero (F : Int → Int → Option Int) (fr m th a b : Int) : rowV F fr m th 0 a b = F a b := by
  unfold rowV
  rw [if_neg (by omega)]
theorem row_at (F : Int → Int → Option Int) (fr m th t x : Int) : rowV F fr m th t x t = F x t := by
  unfold rowV
  rw [if_neg (by omega)]
theorem row_next_keep {F : Int → Int → Option Int} {fr m th t : Int} (hk : best (F fr t) (some th) (F m t) = F fr t) (a b : Int) (h0 : 0 ≤ t) : rowV F fr m th (t + 1) a b = rowV F fr m th t a b := by
  unfold rowV
  by_cases h : a = fr ∧ 0 ≤ b ∧ b < t
  · rw [if_pos h, if_pos (by omega)]
  · rw [if_neg h]
    split
    · next hx =>
      obtain rfl : b = t := by omega
      rw [hx.1]; exact hk
    · rfl
theorem row_next_put {F : Int → Int → Option Int} {fr m th t v : Int} (hk : best (F fr t) (some th) (F m t) = some v) (a b : Int) (h0 : 0 ≤ t) : rowV F fr m th (t + 1) a b = if a = fr ∧ b = t then some v else rowV F fr m th t a b := by
  unfold rowV
  by_cases h : a = fr ∧ b = t
  · obtain ⟨rfl, rfl⟩ := h
    rw [if_pos ⟨rfl, h0, by omega⟩, if_pos ⟨rfl, rfl⟩]
    exact hk
  · rw [if_neg h]
    by_cases h2 : a = fr ∧ 0 ≤ b ∧ b < t
    · rw [if_pos h2, if_pos (by omega)]
    · rw [if_neg h2, if_neg (by omega)]
end Go.Proofs.Ytgeefkfolejbnaa.Gr
