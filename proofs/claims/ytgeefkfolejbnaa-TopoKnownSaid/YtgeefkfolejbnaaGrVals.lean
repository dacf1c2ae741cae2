/-
  What each call of package graph answers, over signed numbers: of the program's loops and of the reference's.
-/
import Derived.Test.YtgeefkfolejbnaaGrFw
namespace Go.Proofs.Ytgeefkfolejbnaa.Gr
def ints (l : List Nat) : List Int := l.map Int.ofNat
theorem ints_len (l : List Nat) : (ints l).length = l.length := by simp [ints]
theorem ints_get (l : List Nat) (i : Nat) : (ints l).getD i 0 = ((l.getD i 0 : Nat) : Int) := by
  unfold ints
  rw [List.getD_eq_getElem?_getD, List.getElem?_map, List.getD_eq_getElem?_getD]
  cases l[i]? <;> rfl
theorem ints_app (l k : List Nat) : ints (l ++ k) = ints l ++ ints k := by simp [ints]
def aheadI (n : Int) (es : EI) (v : Int) : List Int := if goodV n es then ints ((List.range n.toNat).filter fun a => es.contains ((a : Int), v)) else []
def behindI (n : Int) (es : EI) (v : Int) : List Int := if goodV n es then ints ((List.range n.toNat).filter fun b => es.contains (v, (b : Int))) else []
def reachI (n : Int) (es : EI) (v : Int) : List Int := if goodV n es then ints ((List.range n.toNat).filter fun b => (fin n es v b).isSome) else []
def cycleI (n : Int) (es : EI) : List Int := if goodV n es then ints (cycleV (nat es) n.toNat) else []
def keepI (n : Int) (es : EI) (e : Int × Int) : Bool := !(List.range n.toNat).any fun c => (fin n es e.1 c).isSome && (fin n es c e.2).isSome
def shortI (n : Int) (es : EI) : EI := if goodV n es && (cycleI n es).isEmpty then es.filter (keepI n es) else es

theorem range_snoc (k : Nat) (p : Nat → Bool) : (List.range (k + 1)).filter p = (List.range k).filter p ++ (if p k then [k] else []) := by
  rw [List.range_succ, List.filter_append]
  congr 1
  cases h : p k <;> simp [h]

/-! ### The least node on a shortest cycle -/
def lc (F : Int → Int → Option Int) : Nat → Int × Int × Bool
  | 0 => (0, 0, false)
  | k + 1 => match F k k with
    | some own => if !(lc F k).2.2 || decide (own < (lc F k).2.1) then ((k : Int), own, true) else lc F k
    | none => lc F k
theorem lc_spec (F : Int → Int → Option Int) : ∀ k : Nat, (lc F k = (0, 0, false) ∧ ∀ i : Nat, i < k → F i i = none) ∨
    ∃ f : Nat, f < k ∧ ∃ v, F f f = some v ∧ lc F k = ((f : Int), v, true) ∧ (∀ i : Nat, i < f → ∀ u, F i i = some u → v < u) ∧ ∀ i : Nat, i < k → ∀ u, F i i = some u → v ≤ u
  | 0 => .inl ⟨rfl, fun i hi => by omega⟩
  | k + 1 => by
    have ih := lc_spec F k
    cases hk : F k k with
    | none =>
      have e : lc F (k + 1) = lc F k := by
        show (match F k k with | some own => if !(lc F k).2.2 || decide (own < (lc F k).2.1) then ((k : Int), own, true) else lc F k | none => lc F k) = _
        rw [hk]
      rw [e]
      rcases ih with ⟨h1, h2⟩ | ⟨f, h1, v, h2, h3, h4, h5⟩
      · refine .inl ⟨h1, fun i hi => ?_⟩
        by_cases hik : i = k
        · subst hik; exact hk
        · exact h2 i (by omega)
      · refine .inr ⟨f, by omega, v, h2, h3, h4, fun i hi u hu => ?_⟩
        by_cases hik : i = k
        · subst hik; rw [hk] at hu; cases hu
        · exact h5 i (by omega) u hu
    | some own =>
      have e : lc F (k + 1) = if !(lc F k).2.2 || decide (own < (lc F k).2.1) then ((k : Int), own, true) else lc F k := by
        show (match F k k with | some own => if !(lc F k).2.2 || decide (own < (lc F k).2.1) then ((k : Int), own, true) else lc F k | none => lc F k) = _
        rw [hk]
      rw [e]
      rcases ih with ⟨h1, h2⟩ | ⟨f, h1, v, h2, h3, h4, h5⟩
      · rw [h1]
        refine .inr ⟨k, by omega, own, hk, rfl, fun i hi u hu => ?_, fun i hi u hu => ?_⟩
        · rw [h2 i hi] at hu; cases hu
        · by_cases hik : i = k
          · subst hik; rw [hk] at hu; injection hu with hu; omega
          · rw [h2 i (by omega)] at hu; cases hu
      · rw [h3]
        by_cases hlt : own < v
        · rw [if_pos (by simp [hlt])]
          refine .inr ⟨k, by omega, own, hk, rfl, fun i hi u hu => ?_, fun i hi u hu => ?_⟩
          · have := h5 i hi u hu; omega
          · by_cases hik : i = k
            · subst hik; rw [hk] at hu; injection hu with hu; omega
            · have := h5 i (by omega) u hu; omega
        · rw [if_neg (by simp; omega)]
          refine .inr ⟨f, by omega, v, h2, rfl, h4, fun i hi u hu => ?_⟩
          by_cases hik : i = k
          · subst hik; rw [hk] at hu; injection hu with hu; omega
          · exact h5 i (by omega) u hu
/-- No cycle: the table's diagonal is empty. -/
theorem Good.lc_none {n : Int} {es : EI} (h : Good n es) : (lc (fin n es) n.toNat).2.2 = false ↔ cycleV (nat es) n.toNat = [] := by
  rw [cycle_none h.low]
  rcases lc_spec (fin n es) n.toNat with ⟨h1, h2⟩ | ⟨f, h1, v, h2, h3, _, _⟩
  · rw [h1]
    refine ⟨fun _ k a hk => ?_, fun _ => rfl⟩
    cases hr : rk (nat es) k a a with
    | false => rfl
    | true =>
      obtain ⟨j, rfl⟩ : ∃ j, k = j + 1 := ⟨k - 1, by omega⟩
      have ha := (rk_low h.low hr).1
      rw [(h.fin_none a a).1 (h2 a ha) (j + 1) hk] at hr
      cases hr
  · rw [h3]
    refine ⟨(fun hx => by cases hx), fun ht => ?_⟩
    obtain ⟨v1, v2, _⟩ := (h.fin_some f f v).1 h2
    rw [ht v.toNat f (by omega)] at v2; cases v2
theorem Good.lc_some {n : Int} {es : EI} (h : Good n es) (hb : (lc (fin n es) n.toNat).2.2 = true) : ∃ f k : Nat, f < n.toNat ∧ k < n.toNat ∧ lc (fin n es) n.toNat = ((f : Int), (k : Int) + 1, true) ∧ cycleV (nat es) n.toNat = f :: grow (nat es) n.toNat f k f ∧ rk (nat es) (k + 1) f f = true ∧ ∀ j a, 1 ≤ j → j ≤ k → rk (nat es) j a a = false := by
  rcases lc_spec (fin n es) n.toNat with ⟨h1, _⟩ | ⟨f, h1, v, h2, h3, h4, h5⟩
  · rw [h1] at hb; cases hb
  · obtain ⟨v1, v2, v3⟩ := (h.fin_some f f v).1 h2
    obtain ⟨k, hk⟩ : ∃ k : Nat, v = (k : Int) + 1 := ⟨v.toNat - 1, by omega⟩
    subst hk
    have e1 : ((k : Int) + 1).toNat = k + 1 := by omega
    rw [e1] at v2
    have mini : ∀ j a, 1 ≤ j → j ≤ k → rk (nat es) j a a = false := fun j a hj hjk => by
      cases hr : rk (nat es) j a a with
      | false => rfl
      | true =>
        obtain ⟨i, rfl⟩ : ∃ i, j = i + 1 := ⟨j - 1, by omega⟩
        have ha := (rk_low h.low hr).1
        cases hf : fin n es a a with
        | none => rw [(h.fin_none a a).1 hf (i + 1) hj] at hr; cases hr
        | some u =>
          have hu := h5 a ha u hf
          obtain ⟨_, _, u3⟩ := (h.fin_some a a u).1 hf
          rw [u3 (i + 1) hj (by omega)] at hr; cases hr
    have hkn : k < n.toNat := by
      rcases dist_cases (nat es) n.toNat f f h.low with ⟨_, p⟩ | ⟨j, j1, j2, _, j3, j4⟩
      · rw [p (k + 1) (by omega)] at v2; cases v2
      · rcases Nat.lt_or_ge k j with hx | hx
        · omega
        · rw [mini j f j1 hx] at j3; cases j3
    have hbest : bestV (nat es) n.toNat = some k := by
      unfold bestV
      rw [List.find?_range_eq_some]
      refine ⟨?_, by simpa using hkn, fun j hj => ?_⟩
      · rw [List.any_eq_true]; exact ⟨f, by simpa using h1, v2⟩
      · simp only [Bool.not_eq_true']
        rw [List.any_eq_false]
        intro a _
        rw [mini (j + 1) a (by omega) (by omega)]; decide
    have hfind : (List.range n.toNat).find? (fun a => rk (nat es) (k + 1) a a) = some f := by
      rw [List.find?_range_eq_some]
      refine ⟨v2, by simpa using h1, fun j hj => ?_⟩
      cases hr : rk (nat es) (k + 1) j j with
      | false => rfl
      | true =>
        exfalso
        cases hf : fin n es j j with
        | none => rw [(h.fin_none j j).1 hf (k + 1) (by omega)] at hr; cases hr
        | some u =>
          have h6 := h4 j hj u hf
          obtain ⟨_, _, u3⟩ := (h.fin_some j j u).1 hf
          rw [u3 (k + 1) (by omega) (by omega)] at hr; cases hr
    refine ⟨f, k, h1, hkn, h3, ?_, v2, mini⟩
    unfold cycleV
    rw [hbest]
    show (match (List.range n.toNat).find? (fun a => rk (nat es) (k + 1) a a) with | none => [] | some f => f :: grow (nat es) n.toNat f k f) = _
    rw [hfind]

/-! ### The next node on the way back -/
/-- The test of both sides: an edge, and just so many edges left. -/
def nextP (n : Int) (es : EI) (x fr r : Int) (c : Nat) : Bool := ((fin n es x c).getD 0 == 1) && ((fin n es c fr).getD 0 == r)
theorem Good.next {n : Int} {es : EI} (h : Good n es) {k m i x fr : Nat} (hk : i + m + 1 = k) (hm : ∀ j a, 1 ≤ j → j ≤ k → rk (nat es) j a a = false) (hx : rk (nat es) i fr x = true) (c : Nat) :
    nextP n es x fr ((m : Int) + 1) c = ((nat es).contains (x, c) && rk (nat es) (m + 1) c fr) := by
  unfold nextP
  rw [h.fin_one]
  cases hc : (nat es).contains (x, c) with
  | false => rfl
  | true =>
    rw [Bool.true_and, Bool.true_and, Bool.eq_iff_iff, beq_iff_eq]
    constructor
    · intro e
      cases hf : fin n es c fr with
      | none => rw [hf] at e; simp only [Option.getD_none] at e; omega
      | some v =>
        rw [hf] at e
        have e : v = (m : Int) + 1 := e
        subst e
        have := ((h.fin_some c fr _).1 hf).2.1
        rwa [show ((m : Int) + 1).toNat = m + 1 by omega] at this
    · intro hr
      have he : (x, c) ∈ nat es := by simpa using hc
      rw [(h.fin_some c fr ((m : Int) + 1)).2 ⟨by omega, by rw [show ((m : Int) + 1).toNat = m + 1 by omega]; exact hr, fun j hj hlt => ?_⟩]
      · rfl
      · cases hj2 : rk (nat es) j c fr with
        | false => rfl
        | true =>
          have := rk_app hx (rk_cons he hj2)
          rw [hm (i + (j + 1)) fr (by omega) (by omega)] at this; cases this
/-- The first that passes the test; 'to' if none does. -/
def wayV (n : Int) (es : EI) (x to r : Int) : Int := match (List.range n.toNat).find? (nextP n es x to r) with
  | some c => (c : Int)
  | none => to
theorem Good.grow_step {n : Int} {es : EI} (h : Good n es) {k m i x fr : Nat} (hk : i + m + 1 = k) (hm : ∀ j a, 1 ≤ j → j ≤ k → rk (nat es) j a a = false) (hx : rk (nat es) i fr x = true) (hr : rk (nat es) (m + 2) x fr = true) :
    ∃ b, grow (nat es) n.toNat fr (m + 1) x = b :: grow (nat es) n.toNat fr m b ∧ wayV n es x fr ((m : Int) + 1) = (b : Int) ∧ (List.range n.toNat).find? (nextP n es x fr ((m : Int) + 1)) = some b ∧ rk (nat es) (i + 1) fr b = true ∧ rk (nat es) (m + 1) b fr = true ∧ b < n.toNat := by
  obtain ⟨b, hf, he, hb, hbn, _⟩ := grow_next h.low hr
  have e1 : (List.range n.toNat).find? (nextP n es x fr ((m : Int) + 1)) = some b := by
    rw [← hf]
    congr 1
    funext c
    exact h.next hk hm hx c
  refine ⟨b, ?_, ?_, e1, rk_snoc hx he, hb, hbn⟩
  · show (match (List.range n.toNat).find? (fun b => (nat es).contains (x, b) && rk (nat es) (m + 1) b fr) with | some b => b :: grow (nat es) n.toNat fr m b | none => []) = _
    rw [hf]
  · unfold wayV
    rw [e1]

/-! ### The transitive reduction -/
theorem nat_filter (es : EI) (p : Int × Int → Bool) (q : Nat × Nat → Bool) (h : ∀ e ∈ es, p e = q (e.1.toNat, e.2.toNat)) : nat (es.filter p) = (nat es).filter q := by
  unfold nat
  rw [List.filter_map]
  congr 1
  apply List.filter_congr
  intro e he
  exact h e he
theorem Good.keep {n : Int} {es : EI} (h : Good n es) (ht : Tree (nat es)) (x y : Nat) (he : (x, y) ∈ nat es) : keepI n es ((x : Int), (y : Int)) = !(List.range n.toNat).any fun c => !(c == y) && (nat es).contains (x, c) && decide (0 < dist (nat es) n.toNat c y) := by
  unfold keepI
  congr 1
  rw [Bool.eq_iff_iff, List.any_eq_true, List.any_eq_true]
  constructor
  · rintro ⟨c, hc, h2⟩
    simp only [Bool.and_eq_true] at h2
    rw [h.fin_isSome, h.fin_isSome, decide_eq_true_eq, decide_eq_true_eq, dist_pos h.low, dist_pos h.low] at h2
    obtain ⟨⟨j, hj, r1⟩, k, hk, r2⟩ := h2
    obtain ⟨j', rfl⟩ : ∃ j', j = j' + 1 := ⟨j - 1, by omega⟩
    obtain ⟨d, hd, r3⟩ := rk_head r1
    have r4 := rk_app r3 r2
    refine ⟨d, by simpa using (h.low _ hd).2, ?_⟩
    have hdy : d ≠ y := by
      rintro rfl
      rw [ht (j' + k) d (by omega)] at r4; cases r4
    have hpos : 0 < dist (nat es) n.toNat d y := by
      rcases dist_cases (nat es) n.toNat d y h.low with ⟨_, p⟩ | ⟨i, i1, _, i2, _⟩
      · rw [p (j' + k) (by omega)] at r4; cases r4
      · rw [i2]; omega
    simp [hdy, hd, hpos]
  · rintro ⟨c, hc, h2⟩
    simp only [Bool.and_eq_true, Bool.not_eq_true', beq_eq_false_iff_ne, List.contains_iff_mem, decide_eq_true_eq] at h2
    refine ⟨c, hc, ?_⟩
    rw [h.fin_isSome, h.fin_isSome, decide_eq_true (p := 0 ≤ dist (nat es) n.toNat c y) (by omega), Bool.and_true, decide_eq_true_eq, dist_pos h.low]
    exact ⟨1, Nat.le_refl _, rk_one.2 h2.1.2⟩
theorem Good.keep_int {n : Int} {es : EI} (h : Good n es) (ht : Tree (nat es)) (e : Int × Int) (he : e ∈ es) : keepI n es e = !(List.range n.toNat).any fun c => !(c == e.2.toNat) && (nat es).contains (e.1.toNat, c) && decide (0 < dist (nat es) n.toNat c e.2.toNat) := by
  have hb := h.edge e he
  have := h.keep ht e.1.toNat e.2.toNat (List.mem_map.2 ⟨e, he, rfl⟩)
  rw [Int.toNat_of_nonneg hb.1, Int.toNat_of_nonneg hb.2.2.1] at this
  exact this
theorem Good.short {n : Int} {es : EI} (h : Good n es) (ht : Tree (nat es)) : nat (es.filter (keepI n es)) = shortV (nat es) n.toNat :=
  nat_filter es _ _ fun e he => h.keep_int ht e he
theorem cycleI_good {n : Int} {es : EI} (h : Good n es) : cycleI n es = ints (cycleV (nat es) n.toNat) := by unfold cycleI; rw [if_pos (goodV_iff.2 h)]
theorem cycleI_nil {n : Int} {es : EI} (h : Good n es) : (cycleI n es).isEmpty = true ↔ Tree (nat es) := by
  rw [cycleI_good h, ← cycle_none h.low]
  unfold ints
  rw [List.isEmpty_iff, List.map_eq_nil_iff]
theorem shortI_tree {n : Int} {es : EI} (h : Good n es) (ht : Tree (nat es)) : shortI n es = es.filter (keepI n es) := by
  unfold shortI
  rw [goodV_iff.2 h, (cycleI_nil h).2 ht]
  rfl
theorem shortI_cycle {n : Int} {es : EI} (h : Good n es) (ht : ¬ Tree (nat es)) : shortI n es = es := by
  unfold shortI
  rw [goodV_iff.2 h]
  cases hc : (cycleI n es).isEmpty with
  | false => rfl
  | true => exact absurd ((cycleI_nil h).1 hc) ht
theorem shortI_bad {n : Int} {es : EI} (h : goodV n es = false) : shortI n es = es := by unfold shortI; rw [h]; rfl

/-! ### A sorted list without repeats is a filtered range -/
theorem sorted_range {l : List Int} {n : Nat} {p : Nat → Bool} (hs : l.Pairwise fun x y => x ≤ y) (hn : l.Nodup) (hm : ∀ x, x ∈ l ↔ ∃ k : Nat, k < n ∧ x = (k : Int) ∧ p k = true) : l = ints ((List.range n).filter p) := by
  have hlt : l.Pairwise fun x y => x < y := by
    have : l.Pairwise fun x y => x ≤ y ∧ x ≠ y := List.Pairwise.and hs hn
    exact this.imp fun h => by omega
  have hr : (ints ((List.range n).filter p)).Pairwise fun x y => x < y := by
    unfold ints
    rw [List.pairwise_map]
    exact ((List.pairwise_lt_range (n := n)).filter p).imp fun {a b} h => by show (a : Int) < (b : Int); omega
  have hmem : ∀ x, x ∈ l ↔ x ∈ ints ((List.range n).filter p) := fun x => by
    rw [hm]
    unfold ints
    rw [List.mem_map]
    constructor
    · rintro ⟨k, h1, rfl, h2⟩
      exact ⟨k, List.mem_filter.2 ⟨List.mem_range.2 h1, h2⟩, rfl⟩
    · rintro ⟨k, h1, rfl⟩
      exact ⟨k, List.mem_range.1 (List.mem_filter.1 h1).1, rfl, (List.mem_filter.1 h1).2⟩
  exact (List.perm_ext_iff_of_nodup (hlt.imp fun h => by omega) (hr.imp fun h => by omega)).2 hmem |>.eq_of_pairwise (fun a b _ _ h1 h2 => by omega) hlt hr
end Go.Proofs.Ytgeefkfolejbnaa.Gr
