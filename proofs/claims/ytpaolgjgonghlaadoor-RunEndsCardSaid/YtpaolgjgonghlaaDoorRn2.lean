/-
  Part 2 of the texts behind the law: GrFw, GrVals, GrLawsP, ToPlain, ToCount, ToVals, BkPlain, KSrc, FourKit.
-/
import Derived.Test.YtpaolgjgonghlaaDoorRn1
/-
  Graphs over signed numbers: which are valid, and the program's table of distances (every middle node in turn), which tells the distance.
-/
namespace Go.Proofs.YtpaolgjgonghlaaDoor.Gr
abbrev EI := List (Int × Int)
structure Good (n : Int) (es : EI) : Prop where
  n0 : 0 ≤ n
  n16 : n ≤ 16
  edge : ∀ e ∈ es, 0 ≤ e.1 ∧ e.1 < n ∧ 0 ≤ e.2 ∧ e.2 < n ∧ e.1 ≠ e.2
  once : es.Nodup
def goodV (n : Int) (es : EI) : Bool := decide (0 ≤ n ∧ n ≤ 16 ∧ (∀ e ∈ es, 0 ≤ e.1 ∧ e.1 < n ∧ 0 ≤ e.2 ∧ e.2 < n ∧ e.1 ≠ e.2) ∧ es.Nodup)
theorem goodV_iff {n : Int} {es : EI} : goodV n es = true ↔ Good n es := by
  unfold goodV
  rw [decide_eq_true_eq]
  exact ⟨fun h => ⟨h.1, h.2.1, h.2.2.1, h.2.2.2⟩, fun h => ⟨h.n0, h.n16, h.edge, h.once⟩⟩
theorem goodV_no {n : Int} {es : EI} (h : ¬ Good n es) : goodV n es = false := by
  cases hg : goodV n es with
  | false => rfl
  | true => exact absurd (goodV_iff.1 hg) h
def nat (es : EI) : E := es.map fun e => (e.1.toNat, e.2.toNat)
theorem Good.low {n : Int} {es : EI} (h : Good n es) : Low (nat es) n.toNat := fun e he => by
  obtain ⟨x, hx, rfl⟩ := List.mem_map.1 he
  have := h.edge x hx
  exact ⟨by show x.1.toNat < _; omega, by show x.2.toNat < _; omega⟩
theorem mem_nat {es : EI} (h : ∀ e ∈ es, 0 ≤ e.1 ∧ 0 ≤ e.2) (a b : Nat) : (a, b) ∈ nat es ↔ ((a : Int), (b : Int)) ∈ es := by
  unfold nat
  rw [List.mem_map]
  constructor
  · rintro ⟨⟨x, y⟩, hx, e⟩
    injection e with e1 e2
    have := h _ hx
    simp only at e1 e2 this
    have h1 : x = (a : Int) := by omega
    have h2 : y = (b : Int) := by omega
    rw [← h1, ← h2]; exact hx
  · intro hx
    exact ⟨_, hx, by simp⟩
theorem Good.mem {n : Int} {es : EI} (h : Good n es) (a b : Nat) : (a, b) ∈ nat es ↔ ((a : Int), (b : Int)) ∈ es := mem_nat (fun e he => ⟨(h.edge e he).1, (h.edge e he).2.2.1⟩) a b
theorem Good.ne {n : Int} {es : EI} (h : Good n es) {a : Nat} : (a, a) ∉ nat es := fun hm => (h.edge _ ((h.mem a a).1 hm)).2.2.2.2 rfl
theorem Good.sub {n : Int} {es fs : EI} (h : Good n es) (hs : fs.Sublist es) : Good n fs := ⟨h.n0, h.n16, fun e he => h.edge e (hs.subset he), h.once.sublist hs⟩

/-! ### The table -/
def F0 (es : EI) : Int → Int → Option Int := fun a b => if (a, b) ∈ es then some 1 else none
def best (k x y : Option Int) : Option Int := match x, y with
  | some p, some q => match k with
    | some r => if p + q < r then some (p + q) else some r
    | none => some (p + q)
  | _, _ => k
def step (F : Int → Int → Option Int) (m : Int) : Int → Int → Option Int := fun a b => best (F a b) (F a m) (F m b)
def fw (es : EI) : Nat → Int → Int → Option Int
  | 0 => F0 es
  | m + 1 => step (fw es m) m
theorem best_none_l (k y : Option Int) : best k none y = k := rfl
theorem best_none_r (k x : Option Int) : best k x none = k := by cases x <;> rfl
theorem best_same_l {k : Option Int} {y : Option Int} (hy : ∀ q, y = some q → 0 < q) : best k k y = k := by
  cases k with
  | none => rfl
  | some r =>
    cases y with
    | none => rfl
    | some q =>
      show (if r + q < r then some (r + q) else some r) = some r
      rw [if_neg (by have := hy q rfl; omega)]
theorem best_same_r {k : Option Int} {x : Option Int} (hx : ∀ q, x = some q → 0 < q) : best k x k = k := by
  cases k with
  | none => cases x <;> rfl
  | some r =>
    cases x with
    | none => rfl
    | some q =>
      show (if q + r < r then some (q + r) else some r) = some r
      rw [if_neg (by have := hx q rfl; omega)]
structure Rng (n P : Int) (F : Int → Int → Option Int) : Prop where
  rng : ∀ a b k, F a b = some k → 0 ≤ a ∧ a < n ∧ 0 ≤ b ∧ b < n ∧ 1 ≤ k ∧ k ≤ P
theorem Rng.row {n P : Int} {F : Int → Int → Option Int} (h : Rng n P F) {m : Int} (a : Int) : step F m a m = F a m := by
  unfold step
  exact best_same_l fun q hq => by have := h.rng _ _ _ hq; omega
theorem Rng.col {n P : Int} {F : Int → Int → Option Int} (h : Rng n P F) {m : Int} (b : Int) : step F m m b = F m b := by
  unfold step
  exact best_same_r fun q hq => by have := h.rng _ _ _ hq; omega
theorem best_cases (k x y : Option Int) : best k x y = k ∨ ∃ p q, x = some p ∧ y = some q ∧ best k x y = some (p + q) := by
  cases x with
  | none => exact .inl rfl
  | some p =>
    cases y with
    | none => exact .inl rfl
    | some q =>
      cases k with
      | none => exact .inr ⟨p, q, rfl, rfl, rfl⟩
      | some r =>
        by_cases h : p + q < r
        · exact .inr ⟨p, q, rfl, rfl, by show (if p + q < r then some (p + q) else some r) = _; rw [if_pos h]⟩
        · exact .inl (by show (if p + q < r then some (p + q) else some r) = _; rw [if_neg h])
theorem best_le (k : Option Int) {p q : Int} : ∃ v, best k (some p) (some q) = some v ∧ v ≤ p + q := by
  cases k with
  | none => exact ⟨_, rfl, Int.le_refl _⟩
  | some r =>
    by_cases h : p + q < r
    · exact ⟨p + q, by show (if p + q < r then some (p + q) else some r) = _; rw [if_pos h], Int.le_refl _⟩
    · exact ⟨r, by show (if p + q < r then some (p + q) else some r) = _; rw [if_neg h], by omega⟩
theorem best_old {k : Int} (x y : Option Int) : ∃ v, best (some k) x y = some v ∧ v ≤ k := by
  rcases best_cases (some k) x y with h | ⟨p, q, rfl, rfl, h⟩
  · exact ⟨k, h, Int.le_refl _⟩
  · refine ⟨p + q, h, ?_⟩
    have h2 : (if p + q < k then some (p + q) else some k) = some (p + q) := h
    split at h2
    · omega
    · injection h2 with h2; omega
theorem Rng.step {n P : Int} {F : Int → Int → Option Int} (h : Rng n P F) (hP : 0 ≤ P) (m : Int) : Rng n (2 * P) (step F m) := ⟨fun a b k hk => by
  rcases best_cases (F a b) (F a m) (F m b) with h1 | ⟨p, q, h1, h2, h3⟩
  · have := h.rng a b k (h1.symm.trans hk)
    omega
  · have p1 := h.rng _ _ _ h1
    have p2 := h.rng _ _ _ h2
    have e : some k = some (p + q) := hk.symm.trans h3
    injection e with e
    omega⟩
theorem Good.rng0 {n : Int} {es : EI} (h : Good n es) : Rng n 1 (F0 es) := ⟨fun a b k hk => by
  unfold F0 at hk
  split at hk
  · next hm =>
    injection hk with hk
    have := h.edge _ hm
    simp only at this
    omega
  · cases hk⟩
theorem Good.rng {n : Int} {es : EI} (h : Good n es) : ∀ m : Nat, Rng n (2 ^ m) (fw es m)
  | 0 => h.rng0
  | m + 1 => by
    have := (h.rng m).step (Int.le_of_lt (Int.pow_pos (by decide))) m
    rw [Int.pow_succ, Int.mul_comm]
    exact this
theorem pow16 {m : Nat} (h : m ≤ 16) : (2 : Int) ^ m ≤ 65536 := by
  have : (2 : Nat) ^ m ≤ 2 ^ 16 := Nat.pow_le_pow_right (by decide) h
  have e : ((2 ^ m : Nat) : Int) = (2 : Int) ^ m := by simp
  rw [← e]; omega
theorem Good.big {n : Int} {es : EI} (h : Good n es) (m : Nat) (hm : m ≤ 16) : Rng n 65536 (fw es m) := ⟨fun a b k hk => by
  have h1 := (h.rng m).rng a b k hk
  have := pow16 hm
  omega⟩

/-! ### What it tells -/
theorem Good.way {n : Int} {es : EI} (h : Good n es) : ∀ (m : Nat) (a b k : Int), fw es m a b = some k → rk (nat es) k.toNat a.toNat b.toNat = true
  | 0, a, b, k, hk => by
    have hk' : F0 es a b = some k := hk
    unfold F0 at hk'
    split at hk'
    · next hm =>
      injection hk' with hk'
      subst hk'
      refine rk_one.2 ?_
      exact List.mem_map.2 ⟨(a, b), hm, rfl⟩
    · cases hk'
  | m + 1, a, b, k, hk => by
    have hk' : best (fw es m a b) (fw es m a m) (fw es m m b) = some k := hk
    rcases best_cases (fw es m a b) (fw es m a m) (fw es m m b) with h1 | ⟨p, q, h1, h2, h3⟩
    · exact h.way m a b k (h1.symm.trans hk')
    · have p1 := (h.rng m).rng _ _ _ h1
      have p2 := (h.rng m).rng _ _ _ h2
      have r := rk_app (h.way m _ _ _ h1) (h.way m _ _ _ h2)
      have e : some k = some (p + q) := hk'.symm.trans h3
      injection e with e
      subst e
      rw [show (p + q).toNat = p.toNat + q.toNat by omega]
      exact r
/-- A way whose nodes in between are below m. -/
inductive Via (es : E) (m : Nat) : Nat → Nat → Nat → Prop
  | one {a b : Nat} (h : (a, b) ∈ es) : Via es m 1 a b
  | more {k a x b : Nat} (h : Via es m k a x) (hx : x < m) (he : (x, b) ∈ es) : Via es m (k + 1) a b
theorem Via.split {es : E} {m k a b : Nat} (h : Via es (m + 1) k a b) : Via es m k a b ∨ ∃ i j, i + j ≤ k ∧ Via es m i a m ∧ Via es m j m b := by
  induction h with
  | one h => exact .inl (.one h)
  | more h hx he ih =>
    rename_i k a x b
    rcases ih with ih | ⟨i, j, hij, h1, h2⟩
    · by_cases hxm : x = m
      · subst hxm
        exact .inr ⟨k, 1, Nat.le_refl _, ih, .one he⟩
      · exact .inl (.more ih (by omega) he)
    · by_cases hxm : x = m
      · subst hxm
        exact .inr ⟨i, 1, by
          have : 1 ≤ j := by cases h2 <;> omega
          omega, h1, .one he⟩
      · exact .inr ⟨i, j + 1, by omega, h1, .more h2 (by omega) he⟩
theorem Via.of_rk {es : E} {n a : Nat} (hl : Low es n) : ∀ {k b : Nat}, rk es (k + 1) a b = true → Via es n (k + 1) a b
  | 0, b, h => .one (rk_one.1 h)
  | k + 1, b, h => by
    obtain ⟨x, hx, h2⟩ := rk_last h
    exact .more (Via.of_rk hl h2) (hl _ hx).1 hx
theorem Good.via {n : Int} {es : EI} (h : Good n es) : ∀ (m k a b : Nat), Via (nat es) m k a b → ∃ v : Int, fw es m a b = some v ∧ v ≤ k
  | 0, k, a, b, hv => by
    have hone : k = 1 ∧ (a, b) ∈ nat es := by
      cases hv with
      | one h => exact ⟨rfl, h⟩
      | more _ hx _ => omega
    obtain ⟨rfl, hm⟩ := hone
    exact ⟨1, by show F0 es a b = _; unfold F0; rw [if_pos ((h.mem a b).1 hm)], by omega⟩
  | m + 1, k, a, b, hv => by
    show ∃ v : Int, best (fw es m a b) (fw es m a m) (fw es m m b) = some v ∧ v ≤ k
    rcases hv.split with h1 | ⟨i, j, hij, h1, h2⟩
    · obtain ⟨v, e, hle⟩ := h.via m k a b h1
      rw [e]
      obtain ⟨u, e2, hle2⟩ := best_old (k := v) (fw es m a m) (fw es m m b)
      exact ⟨u, e2, by omega⟩
    · obtain ⟨p, e1, hp⟩ := h.via m i a m h1
      obtain ⟨q, e2, hq⟩ := h.via m j m b h2
      rw [e1, e2]
      obtain ⟨u, e3, hle⟩ := best_le (fw es m a b) (p := p) (q := q)
      exact ⟨u, e3, by omega⟩
/-- The finished table. -/
def fin (n : Int) (es : EI) : Int → Int → Option Int := fw es n.toNat
theorem Good.fin_rng {n : Int} {es : EI} (h : Good n es) : Rng n 65536 (fin n es) := h.big _ (by have := h.n16; omega)
theorem Good.fin_some {n : Int} {es : EI} (h : Good n es) (a b : Nat) (k : Int) : fin n es a b = some k ↔ 1 ≤ k ∧ rk (nat es) k.toNat a b = true ∧ ∀ j : Nat, 1 ≤ j → (j : Int) < k → rk (nat es) j a b = false := by
  have up : ∀ v : Int, fin n es a b = some v → 1 ≤ v ∧ rk (nat es) v.toNat a b = true := fun v hv => by
    have h1 := h.fin_rng.rng _ _ _ hv
    have h2 := h.way _ _ _ _ hv
    simp only [Int.toNat_natCast] at h2
    exact ⟨by omega, h2⟩
  have down : ∀ j : Nat, 1 ≤ j → rk (nat es) j a b = true → ∃ v : Int, fin n es a b = some v ∧ v ≤ j := fun j hj hr => by
    obtain ⟨i, rfl⟩ : ∃ i, j = i + 1 := ⟨j - 1, by omega⟩
    exact h.via _ _ _ _ (Via.of_rk h.low hr)
  constructor
  · intro hk
    obtain ⟨h1, h2⟩ := up k hk
    refine ⟨h1, h2, fun j hj hlt => ?_⟩
    cases hr : rk (nat es) j a b with
    | false => rfl
    | true =>
      obtain ⟨v, e, hv⟩ := down j hj hr
      rw [hk] at e
      injection e with e
      omega
  · rintro ⟨h1, h2, h3⟩
    obtain ⟨v, e, hv⟩ := down k.toNat (by omega) h2
    obtain ⟨v1, v2⟩ := up v e
    rw [e]
    congr 1
    rcases Int.lt_or_le v k with hlt | hle
    · rw [h3 v.toNat (by omega) (by omega)] at v2; cases v2
    · omega
theorem Good.fin_none {n : Int} {es : EI} (h : Good n es) (a b : Nat) : fin n es a b = none ↔ ∀ k, 1 ≤ k → rk (nat es) k a b = false := by
  constructor
  · intro hn k hk
    cases hr : rk (nat es) k a b with
    | false => rfl
    | true =>
      obtain ⟨i, rfl⟩ : ∃ i, k = i + 1 := ⟨k - 1, by omega⟩
      obtain ⟨v, e, _⟩ := h.via _ _ _ _ (Via.of_rk h.low hr)
      have e' : fin n es a b = some v := e
      rw [hn] at e'; cases e'
  · intro hn
    cases hf : fin n es a b with
    | none => rfl
    | some v =>
      obtain ⟨h1, h2, _⟩ := (h.fin_some a b v).1 hf
      rw [hn v.toNat (by omega)] at h2; cases h2
/-- The table tells the distance. -/
theorem Good.fin_dist {n : Int} {es : EI} (h : Good n es) (a b : Nat) : fin n es a b = if dist (nat es) n.toNat a b < 0 then none else some (dist (nat es) n.toNat a b) := by
  rcases dist_cases (nat es) n.toNat a b h.low with ⟨h1, h2⟩ | ⟨k, k1, _, h1, h2, h3⟩
  · rw [h1, if_pos (by decide)]
    exact (h.fin_none a b).2 h2
  · rw [h1, if_neg (by omega)]
    exact (h.fin_some a b k).2 ⟨by omega, by rw [Int.toNat_natCast]; exact h2, fun j hj hlt => h3 j hj (by omega)⟩
theorem Good.fin_isSome {n : Int} {es : EI} (h : Good n es) (a b : Nat) : (fin n es a b).isSome = decide (0 ≤ dist (nat es) n.toNat a b) := by
  rw [h.fin_dist]
  split
  · next hx => rw [decide_eq_false (by omega)]; rfl
  · next hx => rw [decide_eq_true (by omega)]; rfl
theorem Good.fin_one {n : Int} {es : EI} (h : Good n es) (a b : Nat) : ((fin n es a b).getD 0 == 1) = (nat es).contains (a, b) := by
  rw [Bool.eq_iff_iff, beq_iff_eq, List.contains_iff_mem]
  constructor
  · intro e
    cases hf : fin n es a b with
    | none => rw [hf] at e; cases e
    | some v =>
      rw [hf] at e
      have e : v = 1 := e
      subst e
      exact rk_one.1 ((h.fin_some a b 1).1 hf).2.1
  · intro hm
    rw [(h.fin_some a b 1).2 ⟨Int.le_refl _, rk_one.2 hm, fun j hj hlt => by omega⟩]
    rfl
theorem Good.fin_out {n : Int} {es : EI} (h : Good n es) (a b : Int) (ho : ¬ (0 ≤ a ∧ a < n ∧ 0 ≤ b ∧ b < n)) : fin n es a b = none := by
  cases hf : fin n es a b with
  | none => rfl
  | some v => have := h.fin_rng.rng _ _ _ hf; exact absurd ⟨this.1, this.2.1, this.2.2.1, this.2.2.2.1⟩ ho

/-! ### As the loops write it -/
/-- Rows below f done. -/
def partV (F : Int → Int → Option Int) (m f : Int) : Int → Int → Option Int := fun x y => if 0 ≤ x ∧ x < f then step F m x y else F x y
/-- In row fr, columns below t done. -/
def rowV (F : Int → Int → Option Int) (fr m th t : Int) : Int → Int → Option Int := fun x y => if x = fr ∧ 0 ≤ y ∧ y < t then best (F x y) (some th) (F m y) else F x y
theorem part_zero (F : Int → Int → Option Int) (m a b : Int) : partV F m 0 a b = F a b := by
  unfold partV
  rw [if_neg (by omega)]
theorem part_all {n P : Int} {F : Int → Int → Option Int} (h : Rng n P F) (m a b : Int) : partV F m n a b = step F m a b := by
  unfold partV
  split
  · rfl
  · next hx =>
    unfold step
    cases hf : F a m with
    | none => rfl
    | some v => have := h.rng _ _ _ hf; omega
theorem part_at (F : Int → Int → Option Int) (m f y : Int) : partV F m f f y = F f y := by
  unfold partV
  rw [if_neg (by omega)]
theorem part_mid {n P : Int} {F : Int → Int → Option Int} (h : Rng n P F) (m f y : Int) : partV F m f m y = F m y := by
  unfold partV
  split
  · exact h.col y
  · rfl
theorem part_next_none {F : Int → Int → Option Int} {m f : Int} (hf : F f m = none) (a b : Int) (h0 : 0 ≤ f) : partV F m (f + 1) a b = partV F m f a b := by
  unfold partV
  by_cases ha : 0 ≤ a ∧ a < f
  · rw [if_pos ha, if_pos (by omega)]
  · rw [if_neg ha]
    split
    · obtain rfl : a = f := by omega
      unfold step
      rw [hf]; rfl
    · rfl
theorem part_next_some {n P : Int} {F : Int → Int → Option Int} (h : Rng n P F) {m f th : Int} (hf : F f m = some th) (h0 : 0 ≤ f) (a b : Int) : partV F m (f + 1) a b = rowV (partV F m f) f m th n a b := by
  unfold rowV
  by_cases ha : a = f
  · subst ha
    rw [part_at, part_mid h]
    have e : partV F m (a + 1) a b = best (F a b) (some th) (F m b) := by
      unfold partV
      rw [if_pos (by omega)]
      unfold step
      rw [hf]
    rw [e]
    split
    · rfl
    · next hx =>
      cases hm : F m b with
      | none => exact best_none_r _ _
      | some v => have := h.rng _ _ _ hm; omega
  · rw [if_neg (by omega)]
    unfold partV
    by_cases h2 : 0 ≤ a ∧ a < f
    · rw [if_pos h2, if_pos (by omega)]
    · rw [if_neg h2, if_neg (by omega)]
theorem part_rng {n P : Int} {F : Int → Int → Option Int} (h : Rng n P F) (hP : 0 ≤ P) (m f : Int) : Rng n (2 * P) (partV F m f) := ⟨fun a b k hk => by
  unfold partV at hk
  split at hk
  · exact (h.step hP m).rng a b k hk
  · have := h.rng a b k hk
    omega⟩
theorem row_zero (F : Int → Int → Option Int) (fr m th a b : Int) : rowV F fr m th 0 a b = F a b := by
  unfold rowV
  rw [if_neg (by omega)]
theorem row_at (F : Int → Int → Option Int) (fr m th t x : Int) : rowV F fr m th t x t = F x t := by
  unfold rowV
  rw [if_neg (by omega)]
theorem row_next_keep {F : Int → Int → Option Int} {fr m th t : Int} (hk : best (F fr t) (some th) (F m t) = F fr t) (a b : Int) (h0 : 0 ≤ t) : rowV F fr m th (t + 1) a b = rowV F fr m th t a b := by
  unfold rowV
  by_cases h : a = fr ∧ 0 ≤ b ∧ b < t
  · rw [if_pos h, if_pos (by omega)]
  · rw [if_neg h]
    split
    · next hx =>
      obtain rfl : b = t := by omega
      rw [hx.1]; exact hk
    · rfl
theorem row_next_put {F : Int → Int → Option Int} {fr m th t v : Int} (hk : best (F fr t) (some th) (F m t) = some v) (a b : Int) (h0 : 0 ≤ t) : rowV F fr m th (t + 1) a b = if a = fr ∧ b = t then some v else rowV F fr m th t a b := by
  unfold rowV
  by_cases h : a = fr ∧ b = t
  · obtain ⟨rfl, rfl⟩ := h
    rw [if_pos ⟨rfl, h0, by omega⟩, if_pos ⟨rfl, rfl⟩]
    exact hk
  · rw [if_neg h]
    by_cases h2 : a = fr ∧ 0 ≤ b ∧ b < t
    · rw [if_pos h2, if_pos (by omega)]
    · rw [if_neg h2, if_neg (by omega)]
end Go.Proofs.YtpaolgjgonghlaaDoor.Gr
/-
  What each call of package graph answers, over signed numbers: of the program's loops and of the reference's.
-/
namespace Go.Proofs.YtpaolgjgonghlaaDoor.Gr
def ints (l : List Nat) : List Int := l.map Int.ofNat
theorem ints_len (l : List Nat) : (ints l).length = l.length := by simp [ints]
theorem ints_get (l : List Nat) (i : Nat) : (ints l).getD i 0 = ((l.getD i 0 : Nat) : Int) := by
  unfold ints
  rw [List.getD_eq_getElem?_getD, List.getElem?_map, List.getD_eq_getElem?_getD]
  cases l[i]? <;> rfl
theorem ints_app (l k : List Nat) : ints (l ++ k) = ints l ++ ints k := by simp [ints]
def aheadI (n : Int) (es : EI) (v : Int) : List Int := if goodV n es then ints ((List.range n.toNat).filter fun a => es.contains ((a : Int), v)) else []
def behindI (n : Int) (es : EI) (v : Int) : List Int := if goodV n es then ints ((List.range n.toNat).filter fun b => es.contains (v, (b : Int))) else []
def reachI (n : Int) (es : EI) (v : Int) : List Int := if goodV n es then ints ((List.range n.toNat).filter fun b => (fin n es v b).isSome) else []
def cycleI (n : Int) (es : EI) : List Int := if goodV n es then ints (cycleV (nat es) n.toNat) else []
def keepI (n : Int) (es : EI) (e : Int × Int) : Bool := !(List.range n.toNat).any fun c => (fin n es e.1 c).isSome && (fin n es c e.2).isSome
def shortI (n : Int) (es : EI) : EI := if goodV n es && (cycleI n es).isEmpty then es.filter (keepI n es) else es

theorem range_snoc (k : Nat) (p : Nat → Bool) : (List.range (k + 1)).filter p = (List.range k).filter p ++ (if p k then [k] else []) := by
  rw [List.range_succ, List.filter_append]
  congr 1
  cases h : p k <;> simp [h]

/-! ### The least node on a shortest cycle -/
def lc (F : Int → Int → Option Int) : Nat → Int × Int × Bool
  | 0 => (0, 0, false)
  | k + 1 => match F k k with
    | some own => if !(lc F k).2.2 || decide (own < (lc F k).2.1) then ((k : Int), own, true) else lc F k
    | none => lc F k
theorem lc_spec (F : Int → Int → Option Int) : ∀ k : Nat, (lc F k = (0, 0, false) ∧ ∀ i : Nat, i < k → F i i = none) ∨
    ∃ f : Nat, f < k ∧ ∃ v, F f f = some v ∧ lc F k = ((f : Int), v, true) ∧ (∀ i : Nat, i < f → ∀ u, F i i = some u → v < u) ∧ ∀ i : Nat, i < k → ∀ u, F i i = some u → v ≤ u
  | 0 => .inl ⟨rfl, fun i hi => by omega⟩
  | k + 1 => by
    have ih := lc_spec F k
    cases hk : F k k with
    | none =>
      have e : lc F (k + 1) = lc F k := by
        show (match F k k with | some own => if !(lc F k).2.2 || decide (own < (lc F k).2.1) then ((k : Int), own, true) else lc F k | none => lc F k) = _
        rw [hk]
      rw [e]
      rcases ih with ⟨h1, h2⟩ | ⟨f, h1, v, h2, h3, h4, h5⟩
      · refine .inl ⟨h1, fun i hi => ?_⟩
        by_cases hik : i = k
        · subst hik; exact hk
        · exact h2 i (by omega)
      · refine .inr ⟨f, by omega, v, h2, h3, h4, fun i hi u hu => ?_⟩
        by_cases hik : i = k
        · subst hik; rw [hk] at hu; cases hu
        · exact h5 i (by omega) u hu
    | some own =>
      have e : lc F (k + 1) = if !(lc F k).2.2 || decide (own < (lc F k).2.1) then ((k : Int), own, true) else lc F k := by
        show (match F k k with | some own => if !(lc F k).2.2 || decide (own < (lc F k).2.1) then ((k : Int), own, true) else lc F k | none => lc F k) = _
        rw [hk]
      rw [e]
      rcases ih with ⟨h1, h2⟩ | ⟨f, h1, v, h2, h3, h4, h5⟩
      · rw [h1]
        refine .inr ⟨k, by omega, own, hk, rfl, fun i hi u hu => ?_, fun i hi u hu => ?_⟩
        · rw [h2 i hi] at hu; cases hu
        · by_cases hik : i = k
          · subst hik; rw [hk] at hu; injection hu with hu; omega
          · rw [h2 i (by omega)] at hu; cases hu
      · rw [h3]
        by_cases hlt : own < v
        · rw [if_pos (by simp [hlt])]
          refine .inr ⟨k, by omega, own, hk, rfl, fun i hi u hu => ?_, fun i hi u hu => ?_⟩
          · have := h5 i hi u hu; omega
          · by_cases hik : i = k
            · subst hik; rw [hk] at hu; injection hu with hu; omega
            · have := h5 i (by omega) u hu; omega
        · rw [if_neg (by simp; omega)]
          refine .inr ⟨f, by omega, v, h2, rfl, h4, fun i hi u hu => ?_⟩
          by_cases hik : i = k
          · subst hik; rw [hk] at hu; injection hu with hu; omega
          · exact h5 i (by omega) u hu
/-- No cycle: the table's diagonal is empty. -/
theorem Good.lc_none {n : Int} {es : EI} (h : Good n es) : (lc (fin n es) n.toNat).2.2 = false ↔ cycleV (nat es) n.toNat = [] := by
  rw [cycle_none h.low]
  rcases lc_spec (fin n es) n.toNat with ⟨h1, h2⟩ | ⟨f, h1, v, h2, h3, _, _⟩
  · rw [h1]
    refine ⟨fun _ k a hk => ?_, fun _ => rfl⟩
    cases hr : rk (nat es) k a a with
    | false => rfl
    | true =>
      obtain ⟨j, rfl⟩ : ∃ j, k = j + 1 := ⟨k - 1, by omega⟩
      have ha := (rk_low h.low hr).1
      rw [(h.fin_none a a).1 (h2 a ha) (j + 1) hk] at hr
      cases hr
  · rw [h3]
    refine ⟨(fun hx => by cases hx), fun ht => ?_⟩
    obtain ⟨v1, v2, _⟩ := (h.fin_some f f v).1 h2
    rw [ht v.toNat f (by omega)] at v2; cases v2
theorem Good.lc_some {n : Int} {es : EI} (h : Good n es) (hb : (lc (fin n es) n.toNat).2.2 = true) : ∃ f k : Nat, f < n.toNat ∧ k < n.toNat ∧ lc (fin n es) n.toNat = ((f : Int), (k : Int) + 1, true) ∧ cycleV (nat es) n.toNat = f :: grow (nat es) n.toNat f k f ∧ rk (nat es) (k + 1) f f = true ∧ ∀ j a, 1 ≤ j → j ≤ k → rk (nat es) j a a = false := by
  rcases lc_spec (fin n es) n.toNat with ⟨h1, _⟩ | ⟨f, h1, v, h2, h3, h4, h5⟩
  · rw [h1] at hb; cases hb
  · obtain ⟨v1, v2, v3⟩ := (h.fin_some f f v).1 h2
    obtain ⟨k, hk⟩ : ∃ k : Nat, v = (k : Int) + 1 := ⟨v.toNat - 1, by omega⟩
    subst hk
    have e1 : ((k : Int) + 1).toNat = k + 1 := by omega
    rw [e1] at v2
    have mini : ∀ j a, 1 ≤ j → j ≤ k → rk (nat es) j a a = false := fun j a hj hjk => by
      cases hr : rk (nat es) j a a with
      | false => rfl
      | true =>
        obtain ⟨i, rfl⟩ : ∃ i, j = i + 1 := ⟨j - 1, by omega⟩
        have ha := (rk_low h.low hr).1
        cases hf : fin n es a a with
        | none => rw [(h.fin_none a a).1 hf (i + 1) hj] at hr; cases hr
        | some u =>
          have hu := h5 a ha u hf
          obtain ⟨_, _, u3⟩ := (h.fin_some a a u).1 hf
          rw [u3 (i + 1) hj (by omega)] at hr; cases hr
    have hkn : k < n.toNat := by
      rcases dist_cases (nat es) n.toNat f f h.low with ⟨_, p⟩ | ⟨j, j1, j2, _, j3, j4⟩
      · rw [p (k + 1) (by omega)] at v2; cases v2
      · rcases Nat.lt_or_ge k j with hx | hx
        · omega
        · rw [mini j f j1 hx] at j3; cases j3
    have hbest : bestV (nat es) n.toNat = some k := by
      unfold bestV
      rw [List.find?_range_eq_some]
      refine ⟨?_, by simpa using hkn, fun j hj => ?_⟩
      · rw [List.any_eq_true]; exact ⟨f, by simpa using h1, v2⟩
      · simp only [Bool.not_eq_true']
        rw [List.any_eq_false]
        intro a _
        rw [mini (j + 1) a (by omega) (by omega)]; decide
    have hfind : (List.range n.toNat).find? (fun a => rk (nat es) (k + 1) a a) = some f := by
      rw [List.find?_range_eq_some]
      refine ⟨v2, by simpa using h1, fun j hj => ?_⟩
      cases hr : rk (nat es) (k + 1) j j with
      | false => rfl
      | true =>
        exfalso
        cases hf : fin n es j j with
        | none => rw [(h.fin_none j j).1 hf (k + 1) (by omega)] at hr; cases hr
        | some u =>
          have h6 := h4 j hj u hf
          obtain ⟨_, _, u3⟩ := (h.fin_some j j u).1 hf
          rw [u3 (k + 1) (by omega) (by omega)] at hr; cases hr
    refine ⟨f, k, h1, hkn, h3, ?_, v2, mini⟩
    unfold cycleV
    rw [hbest]
    show (match (List.range n.toNat).find? (fun a => rk (nat es) (k + 1) a a) with | none => [] | some f => f :: grow (nat es) n.toNat f k f) = _
    rw [hfind]

/-! ### The next node on the way back -/
/-- The test of both sides: an edge, and just so many edges left. -/
def nextP (n : Int) (es : EI) (x fr r : Int) (c : Nat) : Bool := ((fin n es x c).getD 0 == 1) && ((fin n es c fr).getD 0 == r)
theorem Good.next {n : Int} {es : EI} (h : Good n es) {k m i x fr : Nat} (hk : i + m + 1 = k) (hm : ∀ j a, 1 ≤ j → j ≤ k → rk (nat es) j a a = false) (hx : rk (nat es) i fr x = true) (c : Nat) :
    nextP n es x fr ((m : Int) + 1) c = ((nat es).contains (x, c) && rk (nat es) (m + 1) c fr) := by
  unfold nextP
  rw [h.fin_one]
  cases hc : (nat es).contains (x, c) with
  | false => rfl
  | true =>
    rw [Bool.true_and, Bool.true_and, Bool.eq_iff_iff, beq_iff_eq]
    constructor
    · intro e
      cases hf : fin n es c fr with
      | none => rw [hf] at e; simp only [Option.getD_none] at e; omega
      | some v =>
        rw [hf] at e
        have e : v = (m : Int) + 1 := e
        subst e
        have := ((h.fin_some c fr _).1 hf).2.1
        rwa [show ((m : Int) + 1).toNat = m + 1 by omega] at this
    · intro hr
      have he : (x, c) ∈ nat es := by simpa using hc
      rw [(h.fin_some c fr ((m : Int) + 1)).2 ⟨by omega, by rw [show ((m : Int) + 1).toNat = m + 1 by omega]; exact hr, fun j hj hlt => ?_⟩]
      · rfl
      · cases hj2 : rk (nat es) j c fr with
        | false => rfl
        | true =>
          have := rk_app hx (rk_cons he hj2)
          rw [hm (i + (j + 1)) fr (by omega) (by omega)] at this; cases this
/-- The first that passes the test; 'to' if none does. -/
def wayV (n : Int) (es : EI) (x to r : Int) : Int := match (List.range n.toNat).find? (nextP n es x to r) with
  | some c => (c : Int)
  | none => to
theorem Good.grow_step {n : Int} {es : EI} (h : Good n es) {k m i x fr : Nat} (hk : i + m + 1 = k) (hm : ∀ j a, 1 ≤ j → j ≤ k → rk (nat es) j a a = false) (hx : rk (nat es) i fr x = true) (hr : rk (nat es) (m + 2) x fr = true) :
    ∃ b, grow (nat es) n.toNat fr (m + 1) x = b :: grow (nat es) n.toNat fr m b ∧ wayV n es x fr ((m : Int) + 1) = (b : Int) ∧ (List.range n.toNat).find? (nextP n es x fr ((m : Int) + 1)) = some b ∧ rk (nat es) (i + 1) fr b = true ∧ rk (nat es) (m + 1) b fr = true ∧ b < n.toNat := by
  obtain ⟨b, hf, he, hb, hbn, _⟩ := grow_next h.low hr
  have e1 : (List.range n.toNat).find? (nextP n es x fr ((m : Int) + 1)) = some b := by
    rw [← hf]
    congr 1
    funext c
    exact h.next hk hm hx c
  refine ⟨b, ?_, ?_, e1, rk_snoc hx he, hb, hbn⟩
  · show (match (List.range n.toNat).find? (fun b => (nat es).contains (x, b) && rk (nat es) (m + 1) b fr) with | some b => b :: grow (nat es) n.toNat fr m b | none => []) = _
    rw [hf]
  · unfold wayV
    rw [e1]

/-! ### The transitive reduction -/
theorem nat_filter (es : EI) (p : Int × Int → Bool) (q : Nat × Nat → Bool) (h : ∀ e ∈ es, p e = q (e.1.toNat, e.2.toNat)) : nat (es.filter p) = (nat es).filter q := by
  unfold nat
  rw [List.filter_map]
  congr 1
  apply List.filter_congr
  intro e he
  exact h e he
theorem Good.keep {n : Int} {es : EI} (h : Good n es) (ht : Tree (nat es)) (x y : Nat) (he : (x, y) ∈ nat es) : keepI n es ((x : Int), (y : Int)) = !(List.range n.toNat).any fun c => !(c == y) && (nat es).contains (x, c) && decide (0 < dist (nat es) n.toNat c y) := by
  unfold keepI
  congr 1
  rw [Bool.eq_iff_iff, List.any_eq_true, List.any_eq_true]
  constructor
  · rintro ⟨c, hc, h2⟩
    simp only [Bool.and_eq_true] at h2
    rw [h.fin_isSome, h.fin_isSome, decide_eq_true_eq, decide_eq_true_eq, dist_pos h.low, dist_pos h.low] at h2
    obtain ⟨⟨j, hj, r1⟩, k, hk, r2⟩ := h2
    obtain ⟨j', rfl⟩ : ∃ j', j = j' + 1 := ⟨j - 1, by omega⟩
    obtain ⟨d, hd, r3⟩ := rk_head r1
    have r4 := rk_app r3 r2
    refine ⟨d, by simpa using (h.low _ hd).2, ?_⟩
    have hdy : d ≠ y := by
      rintro rfl
      rw [ht (j' + k) d (by omega)] at r4; cases r4
    have hpos : 0 < dist (nat es) n.toNat d y := by
      rcases dist_cases (nat es) n.toNat d y h.low with ⟨_, p⟩ | ⟨i, i1, _, i2, _⟩
      · rw [p (j' + k) (by omega)] at r4; cases r4
      · rw [i2]; omega
    simp [hdy, hd, hpos]
  · rintro ⟨c, hc, h2⟩
    simp only [Bool.and_eq_true, Bool.not_eq_true', beq_eq_false_iff_ne, List.contains_iff_mem, decide_eq_true_eq] at h2
    refine ⟨c, hc, ?_⟩
    rw [h.fin_isSome, h.fin_isSome, decide_eq_true (p := 0 ≤ dist (nat es) n.toNat c y) (by omega), Bool.and_true, decide_eq_true_eq, dist_pos h.low]
    exact ⟨1, Nat.le_refl _, rk_one.2 h2.1.2⟩
theorem Good.keep_int {n : Int} {es : EI} (h : Good n es) (ht : Tree (nat es)) (e : Int × Int) (he : e ∈ es) : keepI n es e = !(List.range n.toNat).any fun c => !(c == e.2.toNat) && (nat es).contains (e.1.toNat, c) && decide (0 < dist (nat es) n.toNat c e.2.toNat) := by
  have hb := h.edge e he
  have := h.keep ht e.1.toNat e.2.toNat (List.mem_map.2 ⟨e, he, rfl⟩)
  rw [Int.toNat_of_nonneg hb.1, Int.toNat_of_nonneg hb.2.2.1] at this
  exact this
theorem Good.short {n : Int} {es : EI} (h : Good n es) (ht : Tree (nat es)) : nat (es.filter (keepI n es)) = shortV (nat es) n.toNat :=
  nat_filter es _ _ fun e he => h.keep_int ht e he
theorem cycleI_good {n : Int} {es : EI} (h : Good n es) : cycleI n es = ints (cycleV (nat es) n.toNat) := by unfold cycleI; rw [if_pos (goodV_iff.2 h)]
theorem cycleI_nil {n : Int} {es : EI} (h : Good n es) : (cycleI n es).isEmpty = true ↔ Tree (nat es) := by
  rw [cycleI_good h, ← cycle_none h.low]
  unfold ints
  rw [List.isEmpty_iff, List.map_eq_nil_iff]
theorem shortI_tree {n : Int} {es : EI} (h : Good n es) (ht : Tree (nat es)) : shortI n es = es.filter (keepI n es) := by
  unfold shortI
  rw [goodV_iff.2 h, (cycleI_nil h).2 ht]
  rfl
theorem shortI_cycle {n : Int} {es : EI} (h : Good n es) (ht : ¬ Tree (nat es)) : shortI n es = es := by
  unfold shortI
  rw [goodV_iff.2 h]
  cases hc : (cycleI n es).isEmpty with
  | false => rfl
  | true => exact absurd ((cycleI_nil h).1 hc) ht
theorem shortI_bad {n : Int} {es : EI} (h : goodV n es = false) : shortI n es = es := by unfold shortI; rw [h]; rfl

/-! ### A sorted list without repeats is a filtered range -/
theorem sorted_range {l : List Int} {n : Nat} {p : Nat → Bool} (hs : l.Pairwise fun x y => x ≤ y) (hn : l.Nodup) (hm : ∀ x, x ∈ l ↔ ∃ k : Nat, k < n ∧ x = (k : Int) ∧ p k = true) : l = ints ((List.range n).filter p) := by
  have hlt : l.Pairwise fun x y => x < y := by
    have : l.Pairwise fun x y => x ≤ y ∧ x ≠ y := List.Pairwise.and hs hn
    exact this.imp fun h => by omega
  have hr : (ints ((List.range n).filter p)).Pairwise fun x y => x < y := by
    unfold ints
    rw [List.pairwise_map]
    exact ((List.pairwise_lt_range (n := n)).filter p).imp fun {a b} h => by show (a : Int) < (b : Int); omega
  have hmem : ∀ x, x ∈ l ↔ x ∈ ints ((List.range n).filter p) := fun x => by
    rw [hm]
    unfold ints
    rw [List.mem_map]
    constructor
    · rintro ⟨k, h1, rfl, h2⟩
      exact ⟨k, List.mem_filter.2 ⟨List.mem_range.2 h1, h2⟩, rfl⟩
    · rintro ⟨k, h1, rfl⟩
      exact ⟨k, List.mem_range.1 (List.mem_filter.1 h1).1, rfl, (List.mem_filter.1 h1).2⟩
  exact (List.perm_ext_iff_of_nodup (hlt.imp fun h => by omega) (hr.imp fun h => by omega)).2 hmem |>.eq_of_pairwise (fun a b _ _ h1 h2 => by omega) hlt hr
end Go.Proofs.YtpaolgjgonghlaaDoor.Gr
/-
  What the laws ask, in plain words: the lists that the calls answer, node by node.
-/
namespace Go.Proofs.YtpaolgjgonghlaaDoor.Gr
theorem reachI_eq {es : EI} {N : Nat} (h : Good N es) (a : Nat) : reachI N es a = ints (reachV (nat es) N a) := by
  unfold reachI reachV
  rw [if_pos (goodV_iff.2 h), Int.toNat_natCast]
  congr 1
  apply List.filter_congr
  intro b _
  rw [h.fin_isSome, Int.toNat_natCast]
theorem contains_nat {es : EI} {n : Int} (h : Good n es) (a b : Nat) : (nat es).contains (a, b) = es.contains ((a : Int), (b : Int)) := by
  rw [Bool.eq_iff_iff, List.contains_iff_mem, List.contains_iff_mem, h.mem]
theorem behindI_eq {es : EI} {N : Nat} (h : Good N es) (a : Nat) : behindI N es a = ints (behindV (nat es) N a) := by
  unfold behindI behindV
  rw [if_pos (goodV_iff.2 h), Int.toNat_natCast]
  congr 1
  apply List.filter_congr
  intro b _
  rw [contains_nat h]
theorem aheadI_eq {es : EI} {N : Nat} (h : Good N es) (b : Nat) : aheadI N es b = ints (aheadV (nat es) N b) := by
  unfold aheadI aheadV
  rw [if_pos (goodV_iff.2 h), Int.toNat_natCast]
  congr 1
  apply List.filter_congr
  intro a _
  rw [contains_nat h]
theorem ints_at (l : List Nat) (i : Nat) (hi : i < l.length) : ∃ z : Nat, (ints l).getD i 0 = (z : Int) ∧ z ∈ l ∧ l.getD i 0 = z := by
  refine ⟨l.getD i 0, ints_get l i, ?_, rfl⟩
  rw [List.getD_eq_getElem?_getD, List.getElem?_eq_getElem hi]
  exact List.getElem_mem hi
theorem low_nat {es : EI} {N : Nat} (h : Good N es) : Low (nat es) N := by
  have := h.low
  rwa [Int.toNat_natCast] at this
theorem reach_lt {es : E} {n a b : Nat} (h : b ∈ reachV es n a) : b < n := by
  unfold reachV at h
  exact List.mem_range.1 (List.mem_filter.1 h).1
theorem reach_asc (es : E) (n a : Nat) (i : Nat) (hi : i + 1 < (reachV es n a).length) : (reachV es n a).getD i 0 < (reachV es n a).getD (i + 1) 0 := filter_range n _ i hi
theorem ints_contains (l : List Nat) (z : Nat) : (ints l).contains (z : Int) = decide (z ∈ l) := by
  rw [Bool.eq_iff_iff, List.contains_iff_mem, decide_eq_true_eq]
  unfold ints
  rw [List.mem_map]
  constructor
  · rintro ⟨k, hk, e⟩
    have e : (k : Int) = (z : Int) := e
    have : k = z := by omega
    rw [← this]; exact hk
  · intro h
    exact ⟨z, h, rfl⟩
end Go.Proofs.YtpaolgjgonghlaaDoor.Gr
/-
  Topological orders in plain words: the order that puts the least possible node at each place, levels, the number of paths; what is told of them.
-/
namespace Go.Proofs.YtpaolgjgonghlaaDoor.To
open Gr
/-! ### Orders -/
def ready (es : E) (n : Nat) (l : List Nat) (x : Nat) : Bool := !l.contains x && (aheadV es n x).all fun a => l.contains a
def next (es : E) (n : Nat) (l : List Nat) : Option Nat := (List.range n).find? (ready es n l)
def orderK (es : E) (n : Nat) : Nat → List Nat → Option (List Nat)
  | 0, l => some l
  | k + 1, l => match next es n l with
    | none => none
    | some x => orderK es n k (l ++ [x])
def orderV (es : E) (n : Nat) : Option (List Nat) := orderK es n n []
/-- A first part of an order: no node twice, each behind all that it wants. -/
structure Ord (es : E) (n : Nat) (l : List Nat) : Prop where
  once : l.Nodup
  low : ∀ x ∈ l, x < n
  behind : ∀ i, i < l.length → ∀ a, (a, l.getD i 0) ∈ es → a ∈ l.take i
theorem Ord.nil (es : E) (n : Nat) : Ord es n [] := ⟨List.nodup_nil, fun x h => by simp at h, fun i h => by simp at h⟩
theorem ready_iff {es : E} {n : Nat} (hl : Low es n) (l : List Nat) (x : Nat) : ready es n l x = true ↔ x ∉ l ∧ ∀ a, (a, x) ∈ es → a ∈ l := by
  unfold ready
  rw [Bool.and_eq_true, Bool.not_eq_true', List.all_eq_true]
  constructor
  · rintro ⟨h1, h2⟩
    refine ⟨fun h => (by rw [List.contains_iff_mem.2 h] at h1; cases h1), fun a ha => List.contains_iff_mem.1 (h2 a ((mem_ahead hl).2 ha))⟩
  · rintro ⟨h1, h2⟩
    refine ⟨?_, fun a ha => List.contains_iff_mem.2 (h2 a ((mem_ahead hl).1 ha))⟩
    cases hc : l.contains x with
    | false => rfl
    | true => exact absurd (List.contains_iff_mem.1 hc) h1
theorem next_some {es : E} {n x : Nat} {l : List Nat} (h : next es n l = some x) : x < n ∧ ready es n l x = true ∧ ∀ y, y < x → ready es n l y = false := by
  unfold next at h
  rw [List.find?_eq_some_iff_getElem] at h
  obtain ⟨h1, i, hi, h2, h3⟩ := h
  rw [List.getElem_range] at h2
  subst h2
  rw [List.length_range] at hi
  refine ⟨hi, h1, fun y hy => ?_⟩
  have := h3 y hy
  rw [List.getElem_range] at this
  simpa using this
theorem next_eq {es : E} {n x : Nat} {l : List Nat} (hx : x < n) (h : ready es n l x = true) (hm : ∀ y, y < x → ready es n l y = false) : next es n l = some x := by
  unfold next
  rw [List.find?_eq_some_iff_getElem]
  refine ⟨h, x, by simpa using hx, by rw [List.getElem_range], fun y hy => ?_⟩
  rw [List.getElem_range, hm y hy]; rfl
theorem next_none {es : E} {n : Nat} {l : List Nat} : next es n l = none ↔ ∀ y, y < n → ready es n l y = false := by
  unfold next
  rw [List.find?_eq_none]
  constructor
  · intro h y hy
    have := h y (by simpa using hy)
    simpa using this
  · intro h y hy
    rw [h y (by simpa using hy)]; simp
theorem Ord.next {es : E} {n x : Nat} {l : List Nat} (hl : Low es n) (h : Ord es n l) (hx : x < n) (hr : ready es n l x = true) : Ord es n (l ++ [x]) := by
  obtain ⟨h1, h2⟩ := (ready_iff hl l x).1 hr
  refine ⟨List.nodup_append.2 ⟨h.once, by simp, fun a ha b hb hab => by simp at hb; subst hb; subst hab; exact h1 ha⟩, fun y hy => ?_, fun i hi a ha => ?_⟩
  · rcases List.mem_append.1 hy with hy | hy
    · exact h.low y hy
    · simp at hy; subst hy; exact hx
  · rcases Nat.lt_or_ge i l.length with hlt | hge
    · rw [List.getD_eq_getElem?_getD, List.getElem?_append_left hlt, ← List.getD_eq_getElem?_getD] at ha
      rw [List.take_append_of_le_length (by omega)]
      exact h.behind i hlt a ha
    · have hie : i = l.length := by simp at hi; omega
      subst hie
      rw [List.getD_eq_getElem?_getD, List.getElem?_append_right (by omega)] at ha
      simp at ha
      rw [List.take_append_of_le_length (by omega), List.take_length]
      exact h2 a ha
/-- Where no node reaches itself, some node is ready while any is left. -/
theorem Ord.more {es : E} {n : Nat} {l : List Nat} (hl : Low es n) (ht : Tree es) (_h : Ord es n l) (hn : ∃ x, x < n ∧ x ∉ l) : ∃ x, To.next es n l = some x := by
  cases hx : To.next es n l with
  | some x => exact ⟨x, rfl⟩
  | none =>
    exfalso
    rw [next_none] at hx
    have hp : ∀ x, x < n → x ∉ l → ∃ a, a < n ∧ a ∉ l ∧ (a, x) ∈ es := fun x hxn hxl => by
      apply Classical.byContradiction
      intro hno
      have hr : ready es n l x = true := (ready_iff hl l x).2 ⟨hxl, fun a ha => by
        apply Classical.byContradiction
        intro hal
        exact hno ⟨a, (hl _ ha).1, hal, ha⟩⟩
      rw [hx x hxn] at hr
      cases hr
    have hall : ∀ k, ∃ a b, a < n ∧ a ∉ l ∧ rk es k a b = true := fun k => by
      induction k with
      | zero => obtain ⟨x, h1, h2⟩ := hn; exact ⟨x, x, h1, h2, by simp [rk]⟩
      | succ k ih =>
        obtain ⟨a, b, h1, h2, h3⟩ := ih
        obtain ⟨c, h4, h5, h6⟩ := hp a h1 h2
        exact ⟨c, b, h4, h5, rk_cons h6 h3⟩
    obtain ⟨a, b, _, _, h⟩ := hall (n + 1)
    have := tree_le hl ht h
    omega
theorem nodup_full {n : Nat} {l : List Nat} (ho : l.Nodup) (hlo : ∀ x ∈ l, x < n) (hn : l.length = n) : ∀ x, x < n → x ∈ l := fun x hx => by
  apply Classical.byContradiction
  intro hno
  have := nodup_low n (x :: l) (fun y hy => by
    rcases List.mem_cons.1 hy with rfl | hy
    · exact hx
    · exact hlo y hy) (List.nodup_cons.2 ⟨hno, ho⟩)
  simp at this
  omega
theorem all_long : ∀ (n : Nat) (l : List Nat), (∀ x, x < n → x ∈ l) → n ≤ l.length
  | 0, l, _ => Nat.zero_le _
  | n + 1, l, h => by
    have hm := h n (Nat.lt_succ_self n)
    have h1 := all_long n (l.erase n) fun x hx => (List.mem_erase_of_ne (by omega)).2 (h x (by omega))
    rw [List.length_erase_of_mem hm] at h1
    have := List.length_pos_of_mem hm
    omega
theorem some_left {n : Nat} {l : List Nat} (hn : l.length < n) : ∃ x, x < n ∧ x ∉ l := by
  apply Classical.byContradiction
  intro hno
  have hall : ∀ x, x < n → x ∈ l := fun x hx => by
    apply Classical.byContradiction
    intro h
    exact hno ⟨x, hx, h⟩
  have := all_long n l hall
  omega
theorem orderK_tree {es : E} {n : Nat} (hl : Low es n) (ht : Tree es) : ∀ (k : Nat) (l : List Nat), Ord es n l → l.length + k = n → ∃ o, orderK es n k l = some o ∧ Ord es n o ∧ o.length = n
  | 0, l, h, hk => ⟨l, rfl, h, by omega⟩
  | k + 1, l, h, hk => by
    obtain ⟨x, hx⟩ := h.more hl ht (some_left (by omega))
    obtain ⟨h1, h2, _⟩ := next_some hx
    obtain ⟨o, h3, h4, h5⟩ := orderK_tree hl ht k (l ++ [x]) (h.next hl h1 h2) (by simp; omega)
    exact ⟨o, by unfold orderK; rw [hx]; exact h3, h4, h5⟩
theorem orderK_ord {es : E} {n : Nat} (hl : Low es n) : ∀ (k : Nat) (l o : List Nat), Ord es n l → l.length + k = n → orderK es n k l = some o → Ord es n o ∧ o.length = n
  | 0, l, o, h, hk, e => by
    unfold orderK at e
    injection e with e
    subst e
    exact ⟨h, by omega⟩
  | k + 1, l, o, h, hk, e => by
    unfold orderK at e
    cases hx : To.next es n l with
    | none => rw [hx] at e; cases e
    | some x =>
      rw [hx] at e
      obtain ⟨h1, h2, _⟩ := next_some hx
      exact orderK_ord hl k (l ++ [x]) o (h.next hl h1 h2) (by simp; omega) e
/-- A whole order: each node stands in it, behind all that it wants. -/
theorem Ord.pos {es : E} {n : Nat} {l : List Nat} (h : Ord es n l) {a b : Nat} (he : (a, b) ∈ es) (hb : b ∈ l) : a ∈ l ∧ l.idxOf a < l.idxOf b := by
  have hi := List.idxOf_lt_length_iff.2 hb
  have hg : l.getD (l.idxOf b) 0 = b := by
    rw [List.getD_eq_getElem?_getD, List.getElem?_eq_getElem hi]
    exact List.getElem_idxOf hi
  have hm := h.behind (l.idxOf b) hi a (by rw [hg]; exact he)
  obtain ⟨j, hj, e⟩ := List.getElem_of_mem hm
  rw [List.length_take] at hj
  rw [List.getElem_take] at e
  refine ⟨e ▸ List.getElem_mem _, ?_⟩
  have : l.idxOf a ≤ j := by
    rw [← e]
    rw [h.once.idxOf_getElem]
    exact Nat.le_refl _
  omega
theorem Ord.way {es : E} {n : Nat} {l : List Nat} (h : Ord es n l) {a : Nat} : ∀ {k b : Nat}, rk es (k + 1) a b = true → b ∈ l → a ∈ l ∧ l.idxOf a < l.idxOf b
  | 0, b, hr, hb => h.pos (rk_one.1 hr) hb
  | k + 1, b, hr, hb => by
    obtain ⟨x, hx, h2⟩ := rk_last hr
    obtain ⟨h3, h4⟩ := h.pos hx hb
    obtain ⟨h5, h6⟩ := h.way h2 h3
    exact ⟨h5, by omega⟩
theorem Ord.tree {es : E} {n : Nat} {l : List Nat} (hl : Low es n) (h : Ord es n l) (hn : l.length = n) : Tree es := fun k a hk => by
  cases hr : rk es k a a with
  | false => rfl
  | true =>
    obtain ⟨j, rfl⟩ : ∃ j, k = j + 1 := ⟨k - 1, by omega⟩
    have ha := (rk_low hl hr).1
    have := (h.way hr (nodup_full h.once h.low hn a ha)).2
    omega
theorem order_some {es : E} {n : Nat} (hl : Low es n) (ht : Tree es) : ∃ o, orderV es n = some o ∧ Ord es n o ∧ o.length = n := orderK_tree hl ht n [] (Ord.nil es n) (by simp)
theorem order_ord {es : E} {n : Nat} (hl : Low es n) {o : List Nat} (h : orderV es n = some o) : Ord es n o ∧ o.length = n := orderK_ord hl n [] o (Ord.nil es n) (by simp) h
theorem order_tree {es : E} {n : Nat} (hl : Low es n) {o : List Nat} (h : orderV es n = some o) : Tree es := (order_ord hl h).1.tree hl (order_ord hl h).2
theorem order_none {es : E} {n : Nat} (hl : Low es n) : orderV es n = none ↔ ¬ Tree es := by
  constructor
  · intro h ht
    obtain ⟨o, h2, _⟩ := order_some hl ht
    rw [h] at h2; cases h2
  · intro h
    cases ho : orderV es n with
    | none => rfl
    | some o => exact absurd (order_tree hl ho) h
end Go.Proofs.YtpaolgjgonghlaaDoor.To
/-
  Levels and numbers of paths in plain words.
-/
namespace Go.Proofs.YtpaolgjgonghlaaDoor.To
open Gr
/-- Where no node reaches itself, a way has fewer edges than there are nodes. -/
theorem tree_lt {es : E} {n k a b : Nat} (hl : Low es n) (ht : Tree es) (h : rk es (k + 1) a b = true) : k + 1 < n := by
  obtain ⟨l, h2, h3, h5, h4⟩ := rk_nodes hl h
  have ha := (rk_low hl h).1
  have hn : (a :: l).Nodup := by
    apply Classical.byContradiction
    intro hn
    obtain ⟨i, j, h6, h7, h8⟩ := not_nodup hn
    obtain ⟨j, rfl⟩ : ∃ j', j = j' + 1 := ⟨j - 1, by omega⟩
    simp only [List.length_cons] at h7
    have hj : j < k + 1 := by omega
    rw [List.getD_cons_succ] at h8
    cases i with
    | zero =>
      rw [List.getD_cons_zero] at h8
      have p := (h5 j hj).1
      rw [← h8, ht (j + 1) _ (by omega)] at p
      cases p
    | succ i =>
      rw [List.getD_cons_succ] at h8
      have p := h4 i j (by omega) hj
      rw [← h8, ht (j - i) _ (by omega)] at p
      cases p
  have := nodup_low n (a :: l) (fun x hx => by
    rcases List.mem_cons.1 hx with rfl | hx
    · exact ha
    · exact h3 x hx) hn
  simp only [List.length_cons] at this
  omega
/-! ### Levels -/
/-- One more than the greatest, nought of nothing. -/
def mx (f : Nat → Nat) : List Nat → Nat
  | [] => 0
  | a :: r => max (f a + 1) (mx f r)
theorem mx_le {f : Nat → Nat} {j : Nat} : ∀ {l : List Nat}, j ≤ mx f l ↔ j = 0 ∨ ∃ a, a ∈ l ∧ j ≤ f a + 1
  | [] => by simp [mx]
  | a :: r => by
    unfold mx
    rw [show j ≤ max (f a + 1) (mx f r) ↔ j ≤ f a + 1 ∨ j ≤ mx f r by omega, mx_le (l := r)]
    constructor
    · rintro (h | h | ⟨b, h1, h2⟩)
      · exact .inr ⟨a, by simp, h⟩
      · exact .inl h
      · exact .inr ⟨b, List.mem_cons_of_mem _ h1, h2⟩
    · rintro (h | ⟨b, h1, h2⟩)
      · exact .inr (.inl h)
      · rcases List.mem_cons.1 h1 with rfl | h1
        · exact .inl h2
        · exact .inr (.inr ⟨b, h1, h2⟩)
theorem mx_snoc (f : Nat → Nat) : ∀ (l : List Nat) (a : Nat), mx f (l ++ [a]) = max (mx f l) (f a + 1)
  | [], a => by simp [mx]
  | b :: r, a => by
    show max (f b + 1) (mx f (r ++ [a])) = max (max (f b + 1) (mx f r)) (f a + 1)
    rw [mx_snoc f r a]; omega
theorem mx_same {f g : Nat → Nat} {l : List Nat} (h : ∀ a ∈ l, f a = g a) : mx f l = mx g l := by
  induction l with
  | nil => rfl
  | cons a r ih =>
    unfold mx
    rw [h a (by simp), ih fun b hb => h b (List.mem_cons_of_mem _ hb)]
theorem eq_of_le {a b : Nat} (h : ∀ j, j ≤ a ↔ j ≤ b) : a = b := by
  have h1 := (h a).1 (Nat.le_refl _)
  have h2 := (h b).2 (Nat.le_refl _)
  omega
def lvK (es : E) (n : Nat) : Nat → Nat → Nat
  | 0, _ => 0
  | k + 1, x => mx (lvK es n k) (aheadV es n x)
def lev (es : E) (n x : Nat) : Nat := lvK es n n x
theorem lvK_iff {es : E} {n : Nat} (hl : Low es n) : ∀ (k j x : Nat), j ≤ lvK es n k x ↔ j ≤ k ∧ ∃ a, rk es j a x = true
  | 0, j, x => by
    unfold lvK
    constructor
    · intro h; obtain rfl : j = 0 := by omega
      exact ⟨Nat.le_refl _, x, by simp [rk]⟩
    · intro h; exact h.1
  | k + 1, j, x => by
    unfold lvK
    rw [mx_le]
    cases j with
    | zero => exact ⟨fun _ => ⟨Nat.zero_le _, x, by simp [rk]⟩, fun _ => .inl rfl⟩
    | succ i =>
      constructor
      · rintro (h | ⟨a, h1, h2⟩)
        · omega
        · obtain ⟨h3, b, h4⟩ := (lvK_iff hl k i a).1 (by omega)
          exact ⟨by omega, b, rk_snoc h4 ((mem_ahead hl).1 h1)⟩
      · rintro ⟨h1, b, h2⟩
        obtain ⟨a, h3, h4⟩ := rk_last h2
        have := (lvK_iff hl k i a).2 ⟨by omega, b, h4⟩
        exact .inr ⟨a, (mem_ahead hl).2 h3, by omega⟩
theorem lev_iff {es : E} {n : Nat} (hl : Low es n) (ht : Tree es) (j x : Nat) : j ≤ lev es n x ↔ ∃ a, rk es j a x = true := by
  unfold lev
  rw [lvK_iff hl]
  exact ⟨fun h => h.2, fun ⟨a, h⟩ => ⟨tree_le hl ht h, a, h⟩⟩
/-- Each level is one more than the greatest of the levels straight ahead. -/
theorem lev_eq {es : E} {n : Nat} (hl : Low es n) (ht : Tree es) (x : Nat) : lev es n x = mx (lev es n) (aheadV es n x) := by
  refine eq_of_le fun j => ?_
  rw [lev_iff hl ht, mx_le]
  cases j with
  | zero => exact ⟨fun _ => .inl rfl, fun _ => ⟨x, by simp [rk]⟩⟩
  | succ i =>
    constructor
    · rintro ⟨b, h⟩
      obtain ⟨a, h1, h2⟩ := rk_last h
      have := (lev_iff hl ht i a).2 ⟨b, h2⟩
      exact .inr ⟨a, (mem_ahead hl).2 h1, by omega⟩
    · rintro (h | ⟨a, h1, h2⟩)
      · omega
      · obtain ⟨b, h3⟩ := (lev_iff hl ht i a).1 (by omega)
        exact ⟨b, rk_snoc h3 ((mem_ahead hl).1 h1)⟩
theorem lev_lt {es : E} {n x : Nat} (hl : Low es n) (ht : Tree es) (hx : x < n) : lev es n x < n := by
  cases hj : lev es n x with
  | zero => omega
  | succ k =>
    obtain ⟨a, h⟩ := (lev_iff hl ht (k + 1) x).1 (by omega)
    exact tree_lt hl ht h
theorem lev_short {es : E} {n : Nat} (hl : Low es n) (ht : Tree es) (x : Nat) : lev (shortV es n) n x = lev es n x := by
  have hl2 : Low (shortV es n) n := hl.sub short_sub
  have ht2 : Tree (shortV es n) := ht.sub short_sub
  refine eq_of_le fun j => ?_
  rw [lev_iff hl2 ht2]
  constructor
  · rintro ⟨a, h⟩
    exact (lev_iff hl ht j x).2 ⟨a, rk_mono short_sub h⟩
  · intro h
    obtain ⟨a, h1⟩ := (lev_iff hl ht (lev es n x) x).1 (Nat.le_refl _)
    have h2 := short_way hl (K := lev es n x) (a := a) (b := x) (fun i hi => by
      cases hr : rk es i a x with
      | false => rfl
      | true => have := (lev_iff hl ht i x).2 ⟨a, hr⟩; omega) (lev es n x) x (Nat.le_refl _) h1 (by rw [Nat.sub_self]; simp [rk])
    rw [show lev es n x = (lev es n x - j) + j by omega] at h2
    obtain ⟨c, _, h3⟩ := rk_split h2
    exact ⟨c, h3⟩
theorem lev_nil (n x : Nat) : lev [] n x = 0 := by
  unfold lev
  cases n with
  | zero => rfl
  | succ n =>
    show mx (lvK [] (n + 1) n) (aheadV [] (n + 1) x) = 0
    rw [show aheadV [] (n + 1) x = [] by simp [aheadV]]
    rfl
/-- The nodes of the longest path. -/
def longV (es : E) (n : Nat) : Nat := mx (lev es n) (List.range n)
theorem long_short {es : E} {n : Nat} (hl : Low es n) (ht : Tree es) : longV (shortV es n) n = longV es n := mx_same fun x _ => lev_short hl ht x
theorem long_le {es : E} {n : Nat} (hl : Low es n) (ht : Tree es) : longV es n ≤ n := by
  unfold longV
  rcases (mx_le (j := mx (lev es n) (List.range n))).1 (Nat.le_refl _) with h | ⟨a, h1, h2⟩
  · omega
  · have := lev_lt hl ht (x := a) (by simpa using h1)
    omega
/-! ### Sums -/
def sumTo (f : Nat → Nat) : Nat → Nat
  | 0 => 0
  | k + 1 => sumTo f k + f k
theorem sumTo_head (f : Nat → Nat) : ∀ k, sumTo f (k + 1) = f 0 + sumTo (fun i => f (i + 1)) k
  | 0 => by simp [sumTo]
  | k + 1 => by
    show sumTo f (k + 1) + f (k + 1) = f 0 + (sumTo (fun i => f (i + 1)) k + f (k + 1))
    rw [sumTo_head f k]; omega
theorem sumTo_same {f g : Nat → Nat} : ∀ {k : Nat}, (∀ i, i < k → f i = g i) → sumTo f k = sumTo g k
  | 0, _ => rfl
  | k + 1, h => by
    show sumTo f k + f k = sumTo g k + g k
    rw [sumTo_same fun i hi => h i (by omega), h k (by omega)]
theorem sumTo_zero : ∀ (k : Nat), sumTo (fun _ => 0) k = 0
  | 0 => rfl
  | k + 1 => sumTo_zero k
theorem sumTo_le {f : Nat → Nat} {B : Nat} : ∀ {k : Nat}, (∀ i, i < k → f i ≤ B) → sumTo f k ≤ k * B
  | 0, _ => by simp [sumTo]
  | k + 1, h => by
    have h1 := sumTo_le (k := k) fun i hi => h i (by omega)
    have h2 := h k (by omega)
    rw [Nat.add_mul, Nat.one_mul]
    show sumTo f k + f k ≤ _
    omega
theorem sumTo_pos {f : Nat → Nat} : ∀ {k : Nat}, 0 < sumTo f k ↔ ∃ i, i < k ∧ 0 < f i
  | 0 => by simp [sumTo]
  | k + 1 => by
    show 0 < sumTo f k + f k ↔ _
    constructor
    · intro h
      by_cases h0 : 0 < f k
      · exact ⟨k, by omega, h0⟩
      · obtain ⟨i, h1, h2⟩ := sumTo_pos.1 (show 0 < sumTo f k by omega)
        exact ⟨i, by omega, h2⟩
    · rintro ⟨i, h1, h2⟩
      rcases Nat.lt_or_ge i k with h | h
      · have := sumTo_pos.2 ⟨i, h, h2⟩; omega
      · obtain rfl : i = k := by omega
        omega
/-- The sum over a row of nodes. -/
def sm (f : Nat → Nat) : List Nat → Nat
  | [] => 0
  | a :: r => f a + sm f r
theorem sm_same {f g : Nat → Nat} {l : List Nat} (h : ∀ a ∈ l, f a = g a) : sm f l = sm g l := by
  induction l with
  | nil => rfl
  | cons a r ih =>
    unfold sm
    rw [h a (by simp), ih fun b hb => h b (List.mem_cons_of_mem _ hb)]
theorem sm_snoc (f : Nat → Nat) : ∀ (l : List Nat) (a : Nat), sm f (l ++ [a]) = sm f l + f a
  | [], a => by simp [sm]
  | b :: r, a => by
    show f b + sm f (r ++ [a]) = f b + sm f r + f a
    rw [sm_snoc f r a]; omega
theorem sm_add (f g : Nat → Nat) : ∀ (l : List Nat), sm (fun x => f x + g x) l = sm f l + sm g l
  | [] => rfl
  | a :: r => by
    show f a + g a + sm (fun x => f x + g x) r = f a + sm f r + (g a + sm g r)
    rw [sm_add f g r]; omega
theorem sm_zero : ∀ (l : List Nat), sm (fun _ => 0) l = 0
  | [] => rfl
  | _ :: r => by show 0 + sm (fun _ => 0) r = 0; rw [sm_zero r]
theorem sm_pos {f : Nat → Nat} : ∀ {l : List Nat}, 0 < sm f l ↔ ∃ a, a ∈ l ∧ 0 < f a
  | [] => by simp [sm]
  | a :: r => by
    show 0 < f a + sm f r ↔ _
    constructor
    · intro h
      by_cases h0 : 0 < f a
      · exact ⟨a, by simp, h0⟩
      · obtain ⟨b, h1, h2⟩ := sm_pos.1 (show 0 < sm f r by omega)
        exact ⟨b, List.mem_cons_of_mem _ h1, h2⟩
    · rintro ⟨b, h1, h2⟩
      rcases List.mem_cons.1 h1 with rfl | h1
      · omega
      · have := sm_pos.2 ⟨b, h1, h2⟩; omega
theorem sm_le {f : Nat → Nat} {B : Nat} : ∀ {l : List Nat}, (∀ a ∈ l, f a ≤ B) → sm f l ≤ l.length * B
  | [], _ => by simp [sm]
  | a :: r, h => by
    have h1 := sm_le (l := r) fun b hb => h b (List.mem_cons_of_mem _ hb)
    have h2 := h a (by simp)
    rw [List.length_cons, Nat.add_mul, Nat.one_mul]
    show f a + sm f r ≤ _
    omega
theorem sm_swap (f : Nat → Nat → Nat) (k : List Nat) : ∀ (l : List Nat), sm (fun x => sm (fun y => f x y) k) l = sm (fun y => sm (fun x => f x y) l) k
  | [] => by
    show 0 = sm (fun _ => 0) k
    rw [sm_zero]
  | a :: r => by
    show sm (fun y => f a y) k + sm (fun x => sm (fun y => f x y) k) r = sm (fun y => f a y + sm (fun x => f x y) r) k
    rw [sm_swap f k r, sm_add]
theorem sm_sumTo (f : Nat → Nat → Nat) (l : List Nat) : ∀ (k : Nat), sumTo (fun i => sm (fun x => f i x) l) k = sm (fun x => sumTo (fun i => f i x) k) l
  | 0 => by
    show 0 = sm (fun _ => 0) l
    rw [sm_zero]
  | k + 1 => by
    show sumTo (fun i => sm (fun x => f i x) l) k + sm (fun x => f k x) l = sm (fun x => sumTo (fun i => f i x) k + f k x) l
    rw [sm_sumTo f l k, sm_add]
theorem sm_one (a : Nat) : ∀ (l : List Nat), l.Nodup → sm (fun c => if a = c then 1 else 0) l = if a ∈ l then 1 else 0
  | [], _ => rfl
  | b :: r, h => by
    obtain ⟨h1, h2⟩ := List.nodup_cons.1 h
    show (if a = b then 1 else 0) + sm (fun c => if a = c then 1 else 0) r = _
    rw [sm_one a r h2]
    by_cases hab : a = b
    · subst hab
      rw [if_pos rfl, if_neg h1, if_pos (by simp)]
    · rw [if_neg hab]
      by_cases hr : a ∈ r
      · rw [if_pos hr, if_pos (by simp [hr])]
      · rw [if_neg hr, if_neg (by simp [hab, hr])]
/-! ### Paths -/
/-- The number of ways of k edges from a to b. -/
def ww (es : E) (n : Nat) : Nat → Nat → Nat → Nat
  | 0, a, b => if a = b then 1 else 0
  | k + 1, a, b => sm (fun x => ww es n k a x) (aheadV es n b)
theorem ww_pos {es : E} {n : Nat} (hl : Low es n) : ∀ {k a b : Nat}, 0 < ww es n k a b ↔ rk es k a b = true
  | 0, a, b => by
    unfold ww
    by_cases h : a = b
    · simp [rk, h]
    · simp [rk, h]
  | k + 1, a, b => by
    unfold ww
    rw [sm_pos]
    constructor
    · rintro ⟨x, h1, h2⟩
      exact rk_snoc ((ww_pos hl).1 h2) ((mem_ahead hl).1 h1)
    · intro h
      obtain ⟨x, h1, h2⟩ := rk_last h
      exact ⟨x, (mem_ahead hl).2 h1, (ww_pos hl).2 h2⟩
theorem ww_none {es : E} {n k a b : Nat} (hl : Low es n) (h : rk es k a b = false) : ww es n k a b = 0 := by
  apply Classical.byContradiction
  intro hn
  have := (ww_pos hl).1 (show 0 < ww es n k a b by omega)
  rw [h] at this; cases this
theorem nodup_ahead (es : E) (n x : Nat) : (aheadV es n x).Nodup := List.nodup_range.sublist List.filter_sublist
theorem nodup_behind (es : E) (n x : Nat) : (behindV es n x).Nodup := List.nodup_range.sublist List.filter_sublist
theorem ww_head {es : E} {n : Nat} (hl : Low es n) : ∀ (k a b : Nat), ww es n (k + 1) a b = sm (fun c => ww es n k c b) (behindV es n a)
  | 0, a, b => by
    show sm (fun x => if a = x then 1 else 0) (aheadV es n b) = sm (fun c => if c = b then 1 else 0) (behindV es n a)
    rw [sm_one a _ (nodup_ahead es n b), sm_same (g := fun c => if b = c then 1 else 0) (l := behindV es n a) (fun c _ => by simp only [eq_comm]), sm_one b _ (nodup_behind es n a)]
    by_cases h : (a, b) ∈ es
    · rw [if_pos ((mem_ahead hl).2 h), if_pos ((mem_behind hl).2 h)]
    · rw [if_neg fun h2 => h ((mem_ahead hl).1 h2), if_neg fun h2 => h ((mem_behind hl).1 h2)]
  | k + 1, a, b => by
    show sm (fun x => ww es n (k + 1) a x) (aheadV es n b) = sm (fun c => sm (fun x => ww es n k c x) (aheadV es n b)) (behindV es n a)
    rw [sm_same (g := fun x => sm (fun c => ww es n k c x) (behindV es n a)) (fun x _ => ww_head hl k a x), sm_swap]
/-- The number of paths from a to b. -/
def pathsV (es : E) (n a b : Nat) : Nat := sumTo (fun k => ww es n k a b) n
theorem paths_tail {es : E} {n a b : Nat} (hl : Low es n) (ht : Tree es) (hn : 0 < n) : pathsV es n a b = (if a = b then 1 else 0) + sm (fun c => pathsV es n a c) (aheadV es n b) := by
  obtain ⟨m, rfl⟩ : ∃ m, n = m + 1 := ⟨n - 1, by omega⟩
  unfold pathsV
  rw [sumTo_head]
  show (if a = b then 1 else 0) + sumTo (fun i => sm (fun x => ww es (m + 1) i a x) (aheadV es (m + 1) b)) m = _
  rw [sm_sumTo]
  congr 1
  refine sm_same fun c hc => ?_
  show _ = sumTo (fun k => ww es (m + 1) k a c) m + ww es (m + 1) m a c
  have h0 : rk es m a c = false := by
    cases hr : rk es m a c with
    | false => rfl
    | true =>
      have := tree_lt hl ht (rk_snoc hr ((mem_ahead hl).1 hc))
      omega
  rw [ww_none hl h0]
  rfl
theorem paths_head {es : E} {n a b : Nat} (hl : Low es n) (ht : Tree es) (hn : 0 < n) : pathsV es n a b = (if a = b then 1 else 0) + sm (fun c => pathsV es n c b) (behindV es n a) := by
  obtain ⟨m, rfl⟩ : ∃ m, n = m + 1 := ⟨n - 1, by omega⟩
  unfold pathsV
  rw [sumTo_head, sumTo_same (g := fun i => sm (fun c => ww es (m + 1) i c b) (behindV es (m + 1) a)) (fun i _ => ww_head hl i a b), sm_sumTo]
  congr 1
  refine sm_same fun c hc => ?_
  show _ = sumTo (fun k => ww es (m + 1) k c b) m + ww es (m + 1) m c b
  have h0 : rk es m c b = false := by
    cases hr : rk es m c b with
    | false => rfl
    | true =>
      have := tree_lt hl ht (rk_cons ((mem_behind hl).1 hc) hr)
      omega
  rw [ww_none hl h0]
  rfl
theorem paths_self {es : E} {n a : Nat} (hl : Low es n) (ht : Tree es) (hn : 0 < n) : pathsV es n a a = 1 := by
  obtain ⟨m, rfl⟩ : ∃ m, n = m + 1 := ⟨n - 1, by omega⟩
  unfold pathsV
  rw [sumTo_head, sumTo_same (g := fun _ => 0) (fun i _ => ww_none hl (ht (i + 1) a (by omega))), sumTo_zero]
  simp [ww]
theorem paths_pos {es : E} {n a b : Nat} (hl : Low es n) (ht : Tree es) (hab : a ≠ b) : 0 < pathsV es n a b ↔ b ∈ reachV es n a := by
  unfold pathsV
  rw [sumTo_pos, mem_reach hl]
  constructor
  · rintro ⟨k, h1, h2⟩
    have h3 := (ww_pos hl).1 h2
    refine ⟨k, ?_, h3⟩
    cases k with
    | zero => simp [rk] at h3; exact absurd h3 hab
    | succ k => omega
  · rintro ⟨k, h1, h2⟩
    obtain ⟨j, rfl⟩ : ∃ j, k = j + 1 := ⟨k - 1, by omega⟩
    exact ⟨j + 1, tree_lt hl ht h2, (ww_pos hl).2 h2⟩
theorem ahead_len (es : E) (n x : Nat) : (aheadV es n x).length ≤ n := by
  have := List.length_filter_le (fun a => es.contains (a, x)) (List.range n)
  rwa [List.length_range] at this
theorem behind_len (es : E) (n x : Nat) : (behindV es n x).length ≤ n := by
  have := List.length_filter_le (fun b => es.contains (x, b)) (List.range n)
  rwa [List.length_range] at this
theorem ww_le {es : E} {n : Nat} (hn : n ≤ 16) : ∀ (k a b : Nat), ww es n (k + 1) a b ≤ 16 ^ k
  | 0, a, b => by
    show sm (fun x => if a = x then 1 else 0) (aheadV es n b) ≤ 1
    rw [sm_one a _ (nodup_ahead es n b)]
    split <;> omega
  | k + 1, a, b => by
    show sm (fun x => ww es n (k + 1) a x) (aheadV es n b) ≤ 16 ^ (k + 1)
    refine Nat.le_trans (sm_le fun x _ => ww_le hn k a x) ?_
    rw [Nat.pow_succ, Nat.mul_comm]
    exact Nat.mul_le_mul_left _ (Nat.le_trans (ahead_len es n b) hn)
theorem paths_le {es : E} {n a b : Nat} (hl : Low es n) (ht : Tree es) (hn : n ≤ 16) : pathsV es n a b ≤ 1152921504606846976 := by
  have h : pathsV es n a b ≤ n * 16 ^ 14 := sumTo_le fun k hk => by
    cases k with
    | zero =>
      show (if a = b then 1 else 0) ≤ 16 ^ 14
      split <;> decide
    | succ k =>
      cases hr : rk es (k + 1) a b with
      | false => rw [ww_none hl hr]; exact Nat.zero_le _
      | true =>
        have := tree_lt hl ht hr
        exact Nat.le_trans (ww_le hn k a b) (Nat.pow_le_pow_right (by decide) (by omega))
  have h2 : n * 16 ^ 14 ≤ 16 * 16 ^ 14 := Nat.mul_le_mul_right _ hn
  exact Nat.le_trans h (Nat.le_trans h2 (by decide))
end Go.Proofs.YtpaolgjgonghlaaDoor.To
/-
  What the functions of package topo answer, over signed numbers; what the laws ask of that.
-/
namespace Go.Proofs.YtpaolgjgonghlaaDoor.To
open Gr
def okI (n : Int) (es : EI) : Bool := goodV n es && (orderV (nat es) n.toNat).isSome
def orderI (n : Int) (es : EI) : Option (List Int) := if goodV n es then (orderV (nat es) n.toNat).map ints else none
def levelsI (n : Int) (es : EI) : Option (List Int) := if okI n es then some (ints ((List.range n.toNat).map (lev (nat es) n.toNat))) else none
def pathsI (n : Int) (es : EI) (a b : Int) : Option Nat := if okI n es && decide (0 ≤ a ∧ a < n ∧ 0 ≤ b ∧ b < n) then some (pathsV (nat es) n.toNat a.toNat b.toNat) else none
def longI (n : Int) (es : EI) : Int := if okI n es then (longV (nat es) n.toNat : Int) else 0
/-- The node at place i is one, stands nowhere ahead, and all that it wants does. -/
def placeI (n : Int) (es : EI) (l : List Int) (i : Nat) : Bool := decide (0 ≤ l.getD i 0 ∧ l.getD i 0 < n) && !(l.take i).contains (l.getD i 0) && (aheadI n es (l.getD i 0)).all fun a => (l.take i).contains a
def isI (n : Int) (es : EI) (l : List Int) : Bool := okI n es && decide ((l.length : Int) = n) && (List.range l.length).all (placeI n es l)
theorem okI_iff {n : Int} {es : EI} : okI n es = true ↔ Gr.Good n es ∧ Tree (nat es) := by
  unfold okI
  rw [Bool.and_eq_true, goodV_iff]
  constructor
  · rintro ⟨h, h2⟩
    obtain ⟨o, ho⟩ := Option.isSome_iff_exists.1 h2
    exact ⟨h, order_tree h.low ho⟩
  · rintro ⟨h, h2⟩
    obtain ⟨o, ho, _⟩ := order_some h.low h2
    exact ⟨h, by rw [ho]; rfl⟩
theorem orderI_some (n : Int) (es : EI) : (orderI n es).isSome = okI n es := by
  unfold orderI okI
  cases goodV n es with
  | false => rfl
  | true => simp
theorem levelsI_some (n : Int) (es : EI) : (levelsI n es).isSome = okI n es := by
  unfold levelsI
  cases okI n es with
  | false => rfl
  | true => rfl
theorem orderI_bad {n : Int} {es : EI} (h : goodV n es = false) : orderI n es = none := by unfold orderI; rw [h]; rfl
theorem orderI_no {n : Int} {es : EI} (h : okI n es = false) : orderI n es = none := by
  have := orderI_some n es
  rw [h] at this
  exact Option.not_isSome_iff_eq_none.1 (by rw [this]; simp)
theorem levelsI_no {n : Int} {es : EI} (h : okI n es = false) : levelsI n es = none := by unfold levelsI; rw [h]; rfl
theorem levelsI_yes {n : Int} {es : EI} (h : okI n es = true) : levelsI n es = some (ints ((List.range n.toNat).map (lev (nat es) n.toNat))) := by unfold levelsI; rw [h]; rfl
theorem orderI_yes {n : Int} {es : EI} (h : okI n es = true) : ∃ o, orderV (nat es) n.toNat = some o ∧ orderI n es = some (ints o) ∧ Ord (nat es) n.toNat o ∧ o.length = n.toNat := by
  obtain ⟨h1, h2⟩ := okI_iff.1 h
  obtain ⟨o, h3, h4, h5⟩ := order_some h1.low h2
  exact ⟨o, h3, by unfold orderI; rw [goodV_iff.2 h1, h3]; rfl, h4, h5⟩
theorem pathsI_yes {n : Int} {es : EI} {a b : Int} (h : okI n es = true) (hr : 0 ≤ a ∧ a < n ∧ 0 ≤ b ∧ b < n) : pathsI n es a b = some (pathsV (nat es) n.toNat a.toNat b.toNat) := by
  unfold pathsI; rw [h, decide_eq_true hr]; rfl
theorem pathsI_no {n : Int} {es : EI} {a b : Int} (h : okI n es = false) : pathsI n es a b = none := by unfold pathsI; rw [h]; rfl
theorem pathsI_out {n : Int} {es : EI} {a b : Int} (h : ¬ (0 ≤ a ∧ a < n ∧ 0 ≤ b ∧ b < n)) : pathsI n es a b = none := by unfold pathsI; rw [decide_eq_false h, Bool.and_false]; rfl
theorem pathsI_some {n : Int} {es : EI} {a b : Int} {p : Nat} (h : pathsI n es a b = some p) : okI n es = true ∧ (0 ≤ a ∧ a < n ∧ 0 ≤ b ∧ b < n) ∧ p = pathsV (nat es) n.toNat a.toNat b.toNat := by
  by_cases h1 : okI n es = true
  · by_cases h2 : 0 ≤ a ∧ a < n ∧ 0 ≤ b ∧ b < n
    · rw [pathsI_yes h1 h2] at h
      injection h with h
      exact ⟨h1, h2, h.symm⟩
    · rw [pathsI_out h2] at h; cases h
  · rw [pathsI_no (by simpa using h1)] at h; cases h
/-! ### What TopoOrders asks -/
theorem ok_cycle {n : Int} {es : EI} (h : Gr.Good n es) : okI n es = (cycleI n es).isEmpty := by
  rw [Bool.eq_iff_iff, okI_iff, cycleI_nil h]
  exact ⟨fun x => x.2, fun x => ⟨h, x⟩⟩
theorem ints_getD (l : List Nat) (i : Nat) : (ints l).getD i 0 = ((l.getD i 0 : Nat) : Int) := ints_get l i
theorem ints_take (l : List Nat) (i : Nat) : (ints l).take i = ints (l.take i) := by unfold ints; rw [List.map_take]
theorem good_nn {n : Int} {es : EI} (h : Gr.Good n es) : ((n.toNat : Nat) : Int) = n := Int.toNat_of_nonneg h.n0
theorem is_order {n : Int} {es : EI} {o : List Nat} (h : okI n es = true) (ho : Ord (nat es) n.toNat o) (hn : o.length = n.toNat) : isI n es (ints o) = true := by
  obtain ⟨hg, ht⟩ := okI_iff.1 h
  have hN := good_nn hg
  unfold isI
  rw [h, decide_eq_true (by rw [ints_len, hn]; exact hN), Bool.true_and, Bool.true_and, List.all_eq_true]
  intro i hi
  rw [List.mem_range, ints_len] at hi
  have hm : o.getD i 0 ∈ o := by rw [List.getD_eq_getElem?_getD, List.getElem?_eq_getElem hi]; exact List.getElem_mem hi
  have hlo := ho.low _ hm
  unfold placeI
  rw [ints_getD, ints_take]
  rw [decide_eq_true ⟨by omega, by omega⟩, Bool.true_and, ints_contains, Bool.and_eq_true]
  constructor
  · rw [Bool.not_eq_true', decide_eq_false]
    intro hx
    obtain ⟨j, hj, e⟩ := List.getElem_of_mem hx
    rw [List.length_take] at hj
    rw [List.getElem_take] at e
    have e2 : o[j] = o[i] := by rw [e, List.getD_eq_getElem?_getD, List.getElem?_eq_getElem hi]; rfl
    have e3 : o.idxOf o[j] = o.idxOf o[i] := by rw [e2]
    rw [ho.once.idxOf_getElem, ho.once.idxOf_getElem] at e3
    omega
  · rw [List.all_eq_true]
    intro a ha
    rw [show n = ((n.toNat : Nat) : Int) from hN.symm] at ha
    have hg2 : Gr.Good ((n.toNat : Nat) : Int) es := by rw [hN]; exact hg
    rw [aheadI_eq hg2] at ha
    obtain ⟨z, hz, rfl⟩ := List.mem_map.1 ha
    show (ints (o.take i)).contains ((z : Nat) : Int) = true
    rw [ints_contains, decide_eq_true_eq]
    exact ho.behind i hi z ((mem_ahead hg.low).1 hz)
theorem lev_get {n : Int} (es : EI) {k : Nat} (hk : k < n.toNat) : (ints ((List.range n.toNat).map (lev (nat es) n.toNat))).getD k 0 = (lev (nat es) n.toNat k : Int) := by
  rw [ints_getD, List.getD_eq_getElem?_getD, List.getElem?_map, List.getElem?_range hk]
  rfl
theorem lev_len (n : Int) (es : EI) : (ints ((List.range n.toNat).map (lev (nat es) n.toNat))).length = n.toNat := by rw [ints_len, List.length_map, List.length_range]
/-! ### What TopoLong asks -/
theorem shortI_ok {n : Int} {es : EI} (h : okI n es = true) : okI n (shortI n es) = true ∧ nat (shortI n es) = shortV (nat es) n.toNat := by
  obtain ⟨hg, ht⟩ := okI_iff.1 h
  rw [shortI_tree hg ht]
  have hs : nat (es.filter (keepI n es)) = shortV (nat es) n.toNat := hg.short ht
  refine ⟨okI_iff.2 ⟨hg.sub List.filter_sublist, ?_⟩, hs⟩
  rw [hs]
  exact ht.sub short_sub
theorem long_shortI {n : Int} {es : EI} (h : okI n es = true) : longI n (shortI n es) = longI n es := by
  obtain ⟨hg, ht⟩ := okI_iff.1 h
  obtain ⟨h1, h2⟩ := shortI_ok h
  unfold longI
  rw [h, h1, h2, long_short hg.low ht]
theorem longI_yes {n : Int} {es : EI} (h : okI n es = true) : longI n es = (mx (lev (nat es) n.toNat) (List.range n.toNat) : Nat) := by unfold longI; rw [h]; rfl
theorem longI_no {n : Int} {es : EI} (h : okI n es = false) : longI n es = 0 := by unfold longI; rw [h]; rfl
theorem long_nil {n : Int} (hn : n.toNat ≠ 0) : mx (lev (nat []) n.toNat) (List.range n.toNat) = 1 := by
  refine eq_of_le fun j => ?_
  rw [mx_le]
  constructor
  · rintro (h | ⟨a, _, h⟩)
    · omega
    · rw [show nat [] = [] from rfl, lev_nil] at h; omega
  · intro h
    rcases Nat.eq_zero_or_pos j with h0 | h0
    · exact .inl h0
    · exact .inr ⟨0, by simp; omega, by omega⟩
end Go.Proofs.YtpaolgjgonghlaaDoor.To
/-
  Waiting in plain words: how long ahead of a try, in all, and how many tries fit.
-/
namespace Go.Proofs.YtpaolgjgonghlaaDoor.Bk
def M : Nat := 2147483647
/-- How long ahead of try k (from 1 on). -/
def dl (b k : Nat) : Nat := min 64000 (b * 2 ^ (k - 1))
def tot (b : Nat) : Nat → Nat
  | 0 => 0
  | n + 1 => tot b n + dl b (n + 1)
theorem pow_pos2 (k : Nat) : 1 ≤ 2 ^ k := Nat.one_le_two_pow
theorem dl_pos {b : Nat} (hb : 1 ≤ b) (k : Nat) : 1 ≤ dl b k := by
  have h : 1 * 1 ≤ b * 2 ^ (k - 1) := Nat.mul_le_mul hb (pow_pos2 _)
  unfold dl
  omega
theorem dl_le (b k : Nat) : dl b k ≤ 64000 := Nat.min_le_left _ _
theorem dl_top {b k : Nat} (h : 64000 ≤ b * 2 ^ (k - 1)) : dl b k = 64000 := Nat.min_eq_left h
theorem dl_low {b k : Nat} (h : b * 2 ^ (k - 1) ≤ 64000) : dl b k = b * 2 ^ (k - 1) := Nat.min_eq_right h
theorem dl_next (b : Nat) {k : Nat} (hk : 1 ≤ k) : dl b (k + 1) = min 64000 (2 * dl b k) := by
  obtain ⟨j, rfl⟩ : ∃ j, k = j + 1 := ⟨k - 1, by omega⟩
  unfold dl
  rw [Nat.add_sub_cancel, Nat.add_sub_cancel, Nat.pow_succ, ← Nat.mul_assoc]
  generalize b * 2 ^ j = x
  omega
theorem dl_step (b k : Nat) : dl b k ≤ dl b (k + 1) := by
  cases k with
  | zero => exact Nat.le_refl _
  | succ j =>
    rw [dl_next b (k := j + 1) (by omega)]
    have := dl_le b (j + 1)
    omega
theorem dl_mono (b : Nat) {k l : Nat} (h : k ≤ l) : dl b k ≤ dl b l := by
  induction l with
  | zero => rw [Nat.le_zero.1 h]; exact Nat.le_refl _
  | succ l ih =>
    rcases Nat.lt_or_ge l k with h2 | h2
    · rw [show k = l + 1 by omega]; exact Nat.le_refl _
    · exact Nat.le_trans (ih h2) (dl_step b l)
theorem dl_17 {b k : Nat} (hb : 1 ≤ b) (hk : 17 ≤ k) : dl b k = 64000 := by
  refine Nat.le_antisymm (dl_le _ _) (Nat.le_trans ?_ (dl_mono b hk))
  unfold dl
  have : 1 * 2 ^ 16 ≤ b * 2 ^ (17 - 1) := Nat.mul_le_mul_right _ hb
  omega
theorem dl_base {a b : Nat} (h : a ≤ b) (k : Nat) : dl a k ≤ dl b k := by
  unfold dl
  have := Nat.mul_le_mul_right (2 ^ (k - 1)) h
  omega
theorem tot_step {b : Nat} (hb : 1 ≤ b) (n : Nat) : tot b n < tot b (n + 1) := by
  have := dl_pos hb (n + 1)
  show tot b n < tot b n + dl b (n + 1)
  omega
theorem tot_mono (b : Nat) {n m : Nat} (h : n ≤ m) : tot b n ≤ tot b m := by
  induction m with
  | zero => rw [Nat.le_zero.1 h]; exact Nat.le_refl _
  | succ m ih =>
    rcases Nat.lt_or_ge m n with h2 | h2
    · rw [show n = m + 1 by omega]; exact Nat.le_refl _
    · exact Nat.le_trans (ih h2) (Nat.le_add_right _ _)
theorem tot_lt {b : Nat} (hb : 1 ≤ b) {n m : Nat} (h : n < m) : tot b n < tot b m := Nat.lt_of_lt_of_le (tot_step hb n) (tot_mono b h)
theorem tot_le (b : Nat) : ∀ n, tot b n ≤ 64000 * n
  | 0 => Nat.le_refl _
  | n + 1 => by
    have h1 := tot_le b n
    have h2 := dl_le b (n + 1)
    show tot b n + dl b (n + 1) ≤ _
    omega
theorem tot_ge {b : Nat} (hb : 1 ≤ b) : ∀ n, n ≤ tot b n
  | 0 => Nat.le_refl _
  | n + 1 => by
    have h1 := tot_ge hb n
    have h2 := dl_pos hb (n + 1)
    show n + 1 ≤ tot b n + dl b (n + 1)
    omega
theorem tot_tail {b k : Nat} (h : dl b (k + 1) = 64000) : ∀ {n : Nat}, k ≤ n → tot b n = tot b k + 64000 * (n - k)
  | 0, hn => by obtain rfl : k = 0 := by omega
                rfl
  | n + 1, hn => by
    rcases Nat.lt_or_ge n k with h2 | h2
    · obtain rfl : k = n + 1 := by omega
      rw [Nat.sub_self]; rfl
    · have h3 := tot_tail h h2
      have h4 : dl b (n + 1) = 64000 := Nat.le_antisymm (dl_le _ _) (by rw [← h]; exact dl_mono b (by omega))
      show tot b n + dl b (n + 1) = _
      rw [h3, h4]
      omega
theorem tot_base {a b : Nat} (h : a ≤ b) : ∀ n, tot a n ≤ tot b n
  | 0 => Nat.le_refl _
  | n + 1 => Nat.add_le_add (tot_base h n) (dl_base h (n + 1))
/-! ### How many tries fit -/
def tryK (b w : Nat) : Nat → Nat
  | 0 => 0
  | m + 1 => if tot b (m + 1) ≤ w then m + 1 else tryK b w m
def tryV (b w : Nat) : Nat := tryK b w M
structure IsTry (b w n : Nat) : Prop where
  most : n ≤ M
  fits : tot b n ≤ w
  more : n = M ∨ w < tot b (n + 1)
theorem tryK_le (b w : Nat) : ∀ m, tryK b w m ≤ m
  | 0 => Nat.le_refl _
  | m + 1 => by
    unfold tryK
    split
    · exact Nat.le_refl _
    · exact Nat.le_trans (tryK_le b w m) (Nat.le_succ m)
theorem tryK_fits (b w : Nat) : ∀ m, tot b (tryK b w m) ≤ w
  | 0 => Nat.zero_le _
  | m + 1 => by
    unfold tryK
    split
    · next h => exact h
    · exact tryK_fits b w m
theorem tryK_more (b w : Nat) : ∀ m, tryK b w m = m ∨ w < tot b (tryK b w m + 1)
  | 0 => .inl rfl
  | m + 1 => by
    unfold tryK
    split
    · exact .inl rfl
    · next h =>
      rcases tryK_more b w m with h1 | h1
      · right; rw [h1]; omega
      · exact .inr h1
theorem tryV_is (b w : Nat) : IsTry b w (tryV b w) := ⟨tryK_le b w M, tryK_fits b w M, tryK_more b w M⟩
theorem IsTry.eq {b w n m : Nat} (hb : 1 ≤ b) (h : IsTry b w n) (h2 : IsTry b w m) : n = m := by
  have key : ∀ {n m : Nat}, IsTry b w n → IsTry b w m → ¬ n < m := fun {n m} h h2 hlt => by
    rcases h.more with e | e
    · have := h2.most; omega
    · have h3 := tot_mono b (show n + 1 ≤ m by omega)
      have := h2.fits
      omega
  have _ := hb
  have h3 := key h h2
  have h4 := key h2 h
  omega
theorem tryV_eq {b w n : Nat} (hb : 1 ≤ b) (h : IsTry b w n) : tryV b w = n := (tryV_is b w).eq hb h
theorem try_base {a b w : Nat} (h : a ≤ b) : tryV b w ≤ tryV a w := by
  have h1 := tryV_is a w
  have h2 := tryV_is b w
  rcases h1.more with e | e
  · rw [e]; exact h2.most
  · apply Classical.byContradiction
    intro hn
    have h3 := tot_mono a (show tryV a w + 1 ≤ tryV b w by omega)
    have h4 := tot_base h (tryV b w)
    have := h2.fits
    omega
/-! ### Over signed numbers -/
def delayI (b t : Int) : Int := if b < 1 ∨ t < 1 then 0 else (dl b.toNat t.toNat : Int)
def totalI (b n : Int) : Int := if b < 1 ∨ n < 1 then 0 else (tot b.toNat (min n.toNat M) : Int)
def tryI (b w : Int) : Int := if b < 1 ∨ w < 0 then 0 else (tryV b.toNat w.toNat : Int)
theorem delayI_nat {b t : Nat} (hb : 1 ≤ b) (ht : 1 ≤ t) : delayI b t = (dl b t : Int) := by
  unfold delayI
  rw [if_neg (by omega), Int.toNat_natCast, Int.toNat_natCast]
theorem totalI_nat {b n : Nat} (hb : 1 ≤ b) : totalI b n = (tot b (min n M) : Int) := by
  unfold totalI
  by_cases h : n = 0
  · subst h; rw [if_pos (by omega)]; rfl
  · rw [if_neg (by omega), Int.toNat_natCast, Int.toNat_natCast]
theorem tryI_nat {b w : Nat} (hb : 1 ≤ b) : tryI b w = (tryV b w : Int) := by
  unfold tryI
  rw [if_neg (by omega), Int.toNat_natCast, Int.toNat_natCast]
theorem delayI_rng (b t : Int) : 0 ≤ delayI b t ∧ delayI b t ≤ 64000 := by
  unfold delayI
  split
  · omega
  · have := dl_le b.toNat t.toNat; omega
theorem totalI_rng (b n : Int) : 0 ≤ totalI b n ∧ totalI b n ≤ 137438953408000 := by
  unfold totalI
  split
  · omega
  · have h1 := tot_le b.toNat (min n.toNat M)
    have h2 : min n.toNat M ≤ 2147483647 := Nat.min_le_right _ _
    omega
theorem tryI_rng (b w : Int) : 0 ≤ tryI b w ∧ tryI b w ≤ 2147483647 := by
  unfold tryI
  split
  · omega
  · have := (tryV_is b.toNat w.toNat).most
    unfold M at this
    omega
end Go.Proofs.YtpaolgjgonghlaaDoor.Bk
/-
  Rows of structs of k cells that came in (from whatever address), and one cell of a row of the call's own stored.
  No function of the program is named here.
-/
namespace Go.Proofs.YtpaolgjgonghlaaDoor
open Go.RowKit
/-- The cells of vs lie at A. -/
def Src (w : World) (A : Option Addr) (vs : List (List Value)) : Prop :=
  0 < vs.length → ∃ b off, A = some ⟨b, off, none⟩ ∧ b < w.heap.size ∧ ∀ j u, vs.flatten[j]? = some u → w.cell? ⟨b, off + j, none⟩ = some u
theorem Src.below {w w' : World} {A : Option Addr} {vs : List (List Value)} (h : Src w A vs) (hb : Below w.heap.size w w') : Src w' A vs := fun hn => by
  obtain ⟨b, off, e, hl, hc⟩ := h hn
  exact ⟨b, off, e, Nat.lt_of_lt_of_le hl hb.size, fun j u hu => (hb.cell (p := ⟨b, _, none⟩) hl).trans (hc j u hu)⟩
theorem OwnK.src {w : World} {base : Nat} {T : TypeId} {k : Nat} {A : Option Addr} {cap : Nat} {vs : List (List Value)} (h : OwnK w base T k A cap vs) : Src w A vs := fun hn => by
  obtain ⟨g, rfl, _, hg⟩ := h.shape hn
  refine ⟨g, 0, rfl, hg, fun j u hu => ?_⟩
  have hj := (List.getElem?_eq_some_iff.1 hu).1
  rw [h.2.len] at hj
  rw [Nat.zero_add, World.ownsRow.cellAt h.1 j hj, hu]
theorem flat_pos {us : List (List Value)} {j : Nat} {u : Value} (h : us.flatten[j]? = some u) : 0 < us.length := by
  cases us with
  | nil => cases h
  | cons a r => exact Nat.zero_lt_succ _
theorem Src.cell_ {w : World} {ad : Addr} {us : List (List Value)} (h : Src w (some ad) us) {j : Nat} {u : Value} (hu : us.flatten[j]? = some u) : w.cell? (ad.add j) = some u := by
  obtain ⟨b, off, e, _, hc⟩ := h (flat_pos hu)
  injection e with e
  subst e
  rw [add_off]
  exact hc j u hu
/-- An append of a whole slice, from whatever address. -/
theorem run_appKa {w : World} {base : Nat} {T ST : TypeId} {k : Nat} {A : Option Addr} {cap : Nat} {vs us : List (List Value)} {z : Value} {by_ : Nat} (hST : Tryd.prog.underlying ST = some (.slice T))
    (hI : (Tryd.prog.info? T).map (fun i => (i.zero, i.size, i.bytes)) = some (some z, k, by_)) (hz : z.cells.size = k) (hk : 0 < k) (hby : by_ ≤ 128)
    (h : OwnK w base T k A cap vs) (hbase : base ≤ w.heap.size) {ad : Addr} (hw : Wide k us) (hx : Src w (some ad) us) (c : Nat)
    (hlen : vs.length + us.length ≤ 1000000000) (ty : TypeId) :
    ∃ A' cap' w', (Builtin.append_ #[ST, ST] ty #[.slice A vs.length cap, .slice (some ad) us.length c]).run Tryd.prog w = .ok (.slice A' (vs.length + us.length) cap') w' ∧
      OwnK w' base T k A' cap' (vs ++ us) ∧ w.grownBy w' (Value.slice A vs.length cap).ownBlock ∧ ∀ a, A' = some a → (∃ a0, A = some a0 ∧ a.block = a0.block) ∨ a.block = w.heap.size := by
  obtain ⟨i, hi, hz0, hs, hyb⟩ := info_parts hI
  obtain ⟨v', w', hrun, hown, hg, _, hwh⟩ := run_append_own_at (P := Tryd.prog) (w := w) base ST ty T i z k by_ hST hi hz0 hs hyb hz hk
    _ vs.length _ h.1 ad us.length c us.flatten hw.len (fun j u hu => by
      exact hx.cell_ hu) hw.mem (by unfold maxLen; omega) (by
      have h1 : (vs.length + us.length) * by_ ≤ 1000000000 * 128 := Nat.mul_le_mul hlen hby
      omega) hbase
  obtain ⟨A', cap', rfl⟩ := form_ofK hown
  refine ⟨A', cap', w', hrun, ⟨?_, h.2.app hw⟩, hg, fun a ha => ?_⟩
  · rw [List.flatten_append, List.length_append]
    exact hown
  · subst ha
    rcases hwh with h1 | h1
    · cases A with
      | none => simp [Value.ownBlock] at h1
      | some a0 => simp [Value.ownBlock] at h1; exact .inl ⟨a0, rfl, h1⟩
    · simp [Value.ownBlock] at h1; exact .inr h1
theorem wp_appKa {w : World} {ops : Array Oper} {rest : List Oper} {o : Oper} {a : Act} {Q : Exit → Act → World → Prop} (hgd : o.guard = none) (s t : Operand) {T ST : TypeId}
    (ho : o.op = .call { callee := .builtin .append, args := #[s, t], argTypes := #[ST, ST] })
    {base k : Nat} {A : Option Addr} {n cap : Nat} {vs us : List (List Value)} {z : Value} {by_ : Nat} (hST : Tryd.prog.underlying ST = some (.slice T))
    (hI : (Tryd.prog.info? T).map (fun i => (i.zero, i.size, i.bytes)) = some (some z, k, by_)) (hz : z.cells.size = k) (hk : 0 < k) (hby : by_ ≤ 128)
    (hs : a.eval s = .slice A n cap) (hn : n = vs.length) (h : OwnK w base T k A cap vs) (hbase : base ≤ w.heap.size)
    {ad : Addr} {m c : Nat} (ht : a.eval t = .slice (some ad) m c) (hm : m = us.length) (hw : Wide k us) (hx : Src w (some ad) us)
    (hlen : vs.length + us.length ≤ 1000000000)
    (K : ∀ A' cap' w', OwnK w' base T k A' cap' (vs ++ us) → w.grownBy w' (Value.slice A vs.length cap).ownBlock → (∀ a, A' = some a → (∃ a0, A = some a0 ∧ a.block = a0.block) ∨ a.block = w.heap.size) → wpList Tryd.prog ops Q rest (a.put o.dst (.slice A' (vs.length + us.length) cap')) w') :
    wpList Tryd.prog ops Q (o :: rest) a w := by
  subst hn hm
  obtain ⟨A', cap', w', hrun, h1, h2, h3⟩ := run_appKa hST hI hz hk hby h hbase hw hx c hlen o.type
  refine wpList_plain hgd fun K' hK => ?_
  unfold Oper.wp
  simp [execOp, ho, resolve, invoke, builtin, hs, ht, hrun, Result.andThen]
  exact hK _ _ (K A' cap' w' h1 h2 h3)
/-- A row handed back: of the call's own, nothing of before changed. -/
def RowK (w : World) (T : TypeId) (k n : Nat) (vs : List (List Value)) (e : Ending) (w' : World) : Prop :=
  ∃ A cap, e = .returned (.slice A n cap) ∧ Hid (OwnK w' w.heap.size T k A cap vs) ∧ Hid (Below w.heap.size w w')
theorem flat_set1 (u : Value) : ∀ (vs : List (List Value)) (k i j : Nat), Wide k vs → i < vs.length → j < k → vs.flatten.set (i * k + j) u = (vs.set i ((vs.getD i []).set j u)).flatten
  | [], _, i, _, _, hi, _ => by simp at hi
  | v :: r, k, i, j, hw, hi, hj => by
    have hv := (hw v (by simp)).1
    cases i with
    | zero =>
      rw [Nat.zero_mul, Nat.zero_add, List.flatten_cons, List.set_append_left _ _ (by omega)]
      rfl
    | succ i =>
      have ih := flat_set1 u r k i j (fun x hx => hw x (List.mem_cons_of_mem _ hx)) (by simpa using hi) hj
      rw [List.flatten_cons, List.set_append_right _ _ (by rw [hv, Nat.add_mul]; omega), hv, show (i + 1) * k + j - k = i * k + j by rw [Nat.add_mul]; omega, ih]
      rfl
theorem OwnK.put1 {w : World} {base g cap : Nat} {T : TypeId} {k : Nat} {vs : List (List Value)} (h : OwnK w base T k (some ⟨g, 0, none⟩) cap vs) {i j : Nat} (hi : i < vs.length) (hj : j < k) {u : Value} (hu : u.oneCell' = true) :
    OwnK (w.setCell ⟨g, i * k + j, none⟩ u) base T k (some ⟨g, 0, none⟩) cap (vs.set i ((vs.getD i []).set j u)) := by
  refine ⟨?_, fun v hv => ?_⟩
  · rw [List.length_set, ← flat_set1 u vs k i j h.2 hi hj]
    exact (World.ownsRow.stored h.1 (i * k + j) u).1
  · rcases List.mem_or_eq_of_mem_set hv with hv | rfl
    · exact h.2 v hv
    · have h1 : vs.getD i [] ∈ vs := by
        rw [List.getD_eq_getElem?_getD, List.getElem?_eq_getElem hi]
        exact List.getElem_mem hi
      obtain ⟨h2, h3⟩ := h.2 _ h1
      refine ⟨by rw [List.length_set]; exact h2, fun x hx => ?_⟩
      rcases List.mem_or_eq_of_mem_set hx with hx | rfl
      · exact h3 x hx
      · exact hu
theorem OwnK.thawed {w : World} {base g cap k : Nat} {T : TypeId} {vs : List (List Value)} (h : OwnK w base T k (some ⟨g, 0, none⟩) cap vs) (i : Nat) : w.frozen? ⟨g, i, none⟩ = false := by
  rcases h.1.2 with ⟨e, _⟩ | ⟨g', c', cur, e, hb, hg, r⟩
  · cases e
  · injection e with e1 e2 e3
    injection e1 with e1
    injection e1 with e1
    subst e1
    simp [World.frozen?, hg]
end Go.Proofs.YtpaolgjgonghlaaDoor
/-
  Structs of four cells in boxes: read, stored.
-/
namespace Go.Proofs.YtpaolgjgonghlaaDoor
open Go.RowKit
theorem obj4 {w : World} {g : Nat} {a b c d : Value} {t : TypeId} (h : w.heap[g]? = some (.cells #[a, b, c, d] t (0, 0))) :
    (w.cell? ⟨g, 0, none⟩ = some a ∧ w.cell? ⟨g, 1, none⟩ = some b ∧ w.cell? ⟨g, 2, none⟩ = some c ∧ w.cell? ⟨g, 3, none⟩ = some d) ∧
    (w.frozen? ⟨g, 0, none⟩ = false ∧ w.frozen? ⟨g, 1, none⟩ = false ∧ w.frozen? ⟨g, 2, none⟩ = false ∧ w.frozen? ⟨g, 3, none⟩ = false) :=
  ⟨⟨by simp [World.cell?, h], by simp [World.cell?, h], by simp [World.cell?, h], by simp [World.cell?, h]⟩,
   by simp [World.frozen?, h], by simp [World.frozen?, h], by simp [World.frozen?, h], by simp [World.frozen?, h]⟩
/-- A struct of four cells stored. -/
def S4 (w : World) (g : Nat) (p q r s : Value) : World := (((w.setCell ⟨g, 0, none⟩ p).setCell ⟨g, 1, none⟩ q).setCell ⟨g, 2, none⟩ r).setCell ⟨g, 3, none⟩ s
theorem S4.at_ {w : World} {g : Nat} {a b c d : Value} {t : TypeId} (h : w.heap[g]? = some (.cells #[a, b, c, d] t (0, 0))) (p q r s : Value) : (S4 w g p q r s).heap[g]? = some (.cells #[p, q, r, s] t (0, 0)) :=
  heap_setCell_same _ g 3 _ _ _ (heap_setCell_same _ g 2 _ _ _ (heap_setCell_same _ g 1 _ _ _ (heap_setCell_same w g 0 _ _ _ h)))
theorem S4.else_ (w : World) (g : Nat) (p q r s : Value) {k : Nat} (hk : k ≠ g) : (S4 w g p q r s).heap[k]? = w.heap[k]? :=
  (Below.heap_setCell _ _ _ _ hk).trans ((Below.heap_setCell _ _ _ _ hk).trans ((Below.heap_setCell _ _ _ _ hk).trans (Below.heap_setCell _ _ _ _ hk)))
theorem S4.size_ (w : World) (g : Nat) (p q r s : Value) : (S4 w g p q r s).heap.size = w.heap.size := by simp [S4, World.setCell]
theorem S4.below {a w : World} {B g : Nat} (h : Below B a w) (hg : B ≤ g) (p q r s : Value) : Below B a (S4 w g p q r s) :=
  (((h.setCell (p := ⟨g, 0, none⟩) hg _).setCell (p := ⟨g, 1, none⟩) hg _).setCell (p := ⟨g, 2, none⟩) hg _).setCell (p := ⟨g, 3, none⟩) hg _
/-- A cell of another block, behind four stores (written out, as a walk has them). -/
theorem set4_cell {w : World} {g : Nat} {p q r s : Value} {b o : Nat} {v : Value} (h : b ≠ g) (hc : w.cell? ⟨b, o, none⟩ = some v) :
    ((((w.setCell ⟨g, 0, none⟩ p).setCell ⟨g, 1, none⟩ q).setCell ⟨g, 2, none⟩ r).setCell ⟨g, 3, none⟩ s).cell? ⟨b, o, none⟩ = some v :=
  (World.cell?_of_block (w := w) (S4.else_ w g p q r s h)).trans hc
end Go.Proofs.YtpaolgjgonghlaaDoor
