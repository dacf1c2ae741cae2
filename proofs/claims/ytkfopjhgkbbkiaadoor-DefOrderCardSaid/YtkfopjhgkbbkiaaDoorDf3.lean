/-
  Part 3 of the texts behind the law: GrVals, GrLawsP, ToPlain, ToCount, ToVals, Edges, ToPost.
-/
import Derived.Test.YtkfopjhgkbbkiaaDoorDf2
/-
  What each call of package graph answers, over signed numbers: of the program's loops and of the reference's.
-/
namespace Go.Proofs.YtkfopjhgkbbkiaaDoor.Gr
def ints (l : List Nat) : List Int := l.map Int.ofNat
theorem ints_len (l : List Nat) : (ints l).length = l.length := by simp [ints]
theorem ints_get (l : List Nat) (i : Nat) : (ints l).getD i 0 = ((l.getD i 0 : Nat) : Int) := by
  unfold ints
  rw [List.getD_eq_getElem?_getD, List.getElem?_map, List.getD_eq_getElem?_getD]
  cases l[i]? <;> rfl
theorem ints_app (l k : List Nat) : ints (l ++ k) = ints l ++ ints k := by simp [ints]
def aheadI (n : Int) (es : EI) (v : Int) : List Int := if goodV n es then ints ((List.range n.toNat).filter fun a => es.contains ((a : Int), v)) else []
def behindI (n : Int) (es : EI) (v : Int) : List Int := if goodV n es then ints ((List.range n.toNat).filter fun b => es.contains (v, (b : Int))) else []
def reachI (n : Int) (es : EI) (v : Int) : List Int := if goodV n es then ints ((List.range n.toNat).filter fun b => (fin n es v b).isSome) else []
def cycleI (n : Int) (es : EI) : List Int := if goodV n es then ints (cycleV (nat es) n.toNat) else []
def keepI (n : Int) (es : EI) (e : Int × Int) : Bool := !(List.range n.toNat).any fun c => (fin n es e.1 c).isSome && (fin n es c e.2).isSome
def shortI (n : Int) (es : EI) : EI := if goodV n es && (cycleI n es).isEmpty then es.filter (keepI n es) else es

theorem range_snoc (k : Nat) (p : Nat → Bool) : (List.range (k + 1)).filter p = (List.range k).filter p ++ (if p k then [k] else []) := by
  rw [List.range_succ, List.filter_append]
  congr 1
  cases h : p k <;> simp [h]

/-! ### The least node on a shortest cycle -/
def lc (F : Int → Int → Option Int) : Nat → Int × Int × Bool
  | 0 => (0, 0, false)
  | k + 1 => match F k k with
    | some own => if !(lc F k).2.2 || decide (own < (lc F k).2.1) then ((k : Int), own, true) else lc F k
    | none => lc F k
theorem lc_spec (F : Int → Int → Option Int) : ∀ k : Nat, (lc F k = (0, 0, false) ∧ ∀ i : Nat, i < k → F i i = none) ∨
    ∃ f : Nat, f < k ∧ ∃ v, F f f = some v ∧ lc F k = ((f : Int), v, true) ∧ (∀ i : Nat, i < f → ∀ u, F i i = some u → v < u) ∧ ∀ i : Nat, i < k → ∀ u, F i i = some u → v ≤ u
  | 0 => .inl ⟨rfl, fun i hi => by omega⟩
  | k + 1 => by
    have ih := lc_spec F k
    cases hk : F k k with
    | none =>
      have e : lc F (k + 1) = lc F k := by
        show (match F k k with | some own => if !(lc F k).2.2 || decide (own < (lc F k).2.1) then ((k : Int), own, true) else lc F k | none => lc F k) = _
        rw [hk]
      rw [e]
      rcases ih with ⟨h1, h2⟩ | ⟨f, h1, v, h2, h3, h4, h5⟩
      · refine .inl ⟨h1, fun i hi => ?_⟩
        by_cases hik : i = k
        · subst hik; exact hk
        · exact h2 i (by omega)
      · refine .inr ⟨f, by omega, v, h2, h3, h4, fun i hi u hu => ?_⟩
        by_cases hik : i = k
        · subst hik; rw [hk] at hu; cases hu
        · exact h5 i (by omega) u hu
    | some own =>
      have e : lc F (k + 1) = if !(lc F k).2.2 || decide (own < (lc F k).2.1) then ((k : Int), own, true) else lc F k := by
        show (match F k k with | some own => if !(lc F k).2.2 || decide (own < (lc F k).2.1) then ((k : Int), own, true) else lc F k | none => lc F k) = _
        rw [hk]
      rw [e]
      rcases ih with ⟨h1, h2⟩ | ⟨f, h1, v, h2, h3, h4, h5⟩
      · rw [h1]
        refine .inr ⟨k, by omega, own, hk, rfl, fun i hi u hu => ?_, fun i hi u hu => ?_⟩
        · rw [h2 i hi] at hu; cases hu
        · by_cases hik : i = k
          · subst hik; rw [hk] at hu; injection hu with hu; omega
          · rw [h2 i (by omega)] at hu; cases hu
      · rw [h3]
        by_cases hlt : own < v
        · rw [if_pos (by simp [hlt])]
          refine .inr ⟨k, by omega, own, hk, rfl, fun i hi u hu => ?_, fun i hi u hu => ?_⟩
          · have := h5 i hi u hu; omega
          · by_cases hik : i = k
            · subst hik; rw [hk] at hu; injection hu with hu; omega
            · have := h5 i (by omega) u hu; omega
        · rw [if_neg (by simp; omega)]
          refine .inr ⟨f, by omega, v, h2, rfl, h4, fun i hi u hu => ?_⟩
          by_cases hik : i = k
          · subst hik; rw [hk] at hu; injection hu with hu; omega
          · exact h5 i (by omega) u hu
/-- No cycle: the table's diagonal is empty. -/
theorem Good.lc_none {n : Int} {es : EI} (h : Good n es) : (lc (fin n es) n.toNat).2.2 = false ↔ cycleV (nat es) n.toNat = [] := by
  rw [cycle_none h.low]
  rcases lc_spec (fin n es) n.toNat with ⟨h1, h2⟩ | ⟨f, h1, v, h2, h3, _, _⟩
  · rw [h1]
    refine ⟨fun _ k a hk => ?_, fun _ => rfl⟩
    cases hr : rk (nat es) k a a with
    | false => rfl
    | true =>
      obtain ⟨j, rfl⟩ : ∃ j, k = j + 1 := ⟨k - 1, by omega⟩
      have ha := (rk_low h.low hr).1
      rw [(h.fin_none a a).1 (h2 a ha) (j + 1) hk] at hr
      cases hr
  · rw [h3]
    refine ⟨(fun hx => by cases hx), fun ht => ?_⟩
    obtain ⟨v1, v2, _⟩ := (h.fin_some f f v).1 h2
    rw [ht v.toNat f (by omega)] at v2; cases v2
theorem Good.lc_some {n : Int} {es : EI} (h : Good n es) (hb : (lc (fin n es) n.toNat).2.2 = true) : ∃ f k : Nat, f < n.toNat ∧ k < n.toNat ∧ lc (fin n es) n.toNat = ((f : Int), (k : Int) + 1, true) ∧ cycleV (nat es) n.toNat = f :: grow (nat es) n.toNat f k f ∧ rk (nat es) (k + 1) f f = true ∧ ∀ j a, 1 ≤ j → j ≤ k → rk (nat es) j a a = false := by
  rcases lc_spec (fin n es) n.toNat with ⟨h1, _⟩ | ⟨f, h1, v, h2, h3, h4, h5⟩
  · rw [h1] at hb; cases hb
  · obtain ⟨v1, v2, v3⟩ := (h.fin_some f f v).1 h2
    obtain ⟨k, hk⟩ : ∃ k : Nat, v = (k : Int) + 1 := ⟨v.toNat - 1, by omega⟩
    subst hk
    have e1 : ((k : Int) + 1).toNat = k + 1 := by omega
    rw [e1] at v2
    have mini : ∀ j a, 1 ≤ j → j ≤ k → rk (nat es) j a a = false := fun j a hj hjk => by
      cases hr : rk (nat es) j a a with
      | false => rfl
      | true =>
        obtain ⟨i, rfl⟩ : ∃ i, j = i + 1 := ⟨j - 1, by omega⟩
        have ha := (rk_low h.low hr).1
        cases hf : fin n es a a with
        | none => rw [(h.fin_none a a).1 hf (i + 1) hj] at hr; cases hr
        | some u =>
          have hu := h5 a ha u hf
          obtain ⟨_, _, u3⟩ := (h.fin_some a a u).1 hf
          rw [u3 (i + 1) hj (by omega)] at hr; cases hr
    have hkn : k < n.toNat := by
      rcases dist_cases (nat es) n.toNat f f h.low with ⟨_, p⟩ | ⟨j, j1, j2, _, j3, j4⟩
      · rw [p (k + 1) (by omega)] at v2; cases v2
      · rcases Nat.lt_or_ge k j with hx | hx
        · omega
        · rw [mini j f j1 hx] at j3; cases j3
    have hbest : bestV (nat es) n.toNat = some k := by
      unfold bestV
      rw [List.find?_range_eq_some]
      refine ⟨?_, by simpa using hkn, fun j hj => ?_⟩
      · rw [List.any_eq_true]; exact ⟨f, by simpa using h1, v2⟩
      · simp only [Bool.not_eq_true']
        rw [List.any_eq_false]
        intro a _
        rw [mini (j + 1) a (by omega) (by omega)]; decide
    have hfind : (List.range n.toNat).find? (fun a => rk (nat es) (k + 1) a a) = some f := by
      rw [List.find?_range_eq_some]
      refine ⟨v2, by simpa using h1, fun j hj => ?_⟩
      cases hr : rk (nat es) (k + 1) j j with
      | false => rfl
      | true =>
        exfalso
        cases hf : fin n es j j with
        | none => rw [(h.fin_none j j).1 hf (k + 1) (by omega)] at hr; cases hr
        | some u =>
          have h6 := h4 j hj u hf
          obtain ⟨_, _, u3⟩ := (h.fin_some j j u).1 hf
          rw [u3 (k + 1) (by omega) (by omega)] at hr; cases hr
    refine ⟨f, k, h1, hkn, h3, ?_, v2, mini⟩
    unfold cycleV
    rw [hbest]
    show (match (List.range n.toNat).find? (fun a => rk (nat es) (k + 1) a a) with | none => [] | some f => f :: grow (nat es) n.toNat f k f) = _
    rw [hfind]

/-! ### The next node on the way back -/
/-- The test of both sides: an edge, and just so many edges left. -/
def nextP (n : Int) (es : EI) (x fr r : Int) (c : Nat) : Bool := ((fin n es x c).getD 0 == 1) && ((fin n es c fr).getD 0 == r)
theorem Good.next {n : Int} {es : EI} (h : Good n es) {k m i x fr : Nat} (hk : i + m + 1 = k) (hm : ∀ j a, 1 ≤ j → j ≤ k → rk (nat es) j a a = false) (hx : rk (nat es) i fr x = true) (c : Nat) :
    nextP n es x fr ((m : Int) + 1) c = ((nat es).contains (x, c) && rk (nat es) (m + 1) c fr) := by
  unfold nextP
  rw [h.fin_one]
  cases hc : (nat es).contains (x, c) with
  | false => rfl
  | true =>
    rw [Bool.true_and, Bool.true_and, Bool.eq_iff_iff, beq_iff_eq]
    constructor
    · intro e
      cases hf : fin n es c fr with
      | none => rw [hf] at e; simp only [Option.getD_none] at e; omega
      | some v =>
        rw [hf] at e
        have e : v = (m : Int) + 1 := e
        subst e
        have := ((h.fin_some c fr _).1 hf).2.1
        rwa [show ((m : Int) + 1).toNat = m + 1 by omega] at this
    · intro hr
      have he : (x, c) ∈ nat es := by simpa using hc
      rw [(h.fin_some c fr ((m : Int) + 1)).2 ⟨by omega, by rw [show ((m : Int) + 1).toNat = m + 1 by omega]; exact hr, fun j hj hlt => ?_⟩]
      · rfl
      · cases hj2 : rk (nat es) j c fr with
        | false => rfl
        | true =>
          have := rk_app hx (rk_cons he hj2)
          rw [hm (i + (j + 1)) fr (by omega) (by omega)] at this; cases this
/-- The first that passes the test; 'to' if none does. -/
def wayV (n : Int) (es : EI) (x to r : Int) : Int := match (List.range n.toNat).find? (nextP n es x to r) with
  | some c => (c : Int)
  | none => to
theorem Good.grow_step {n : Int} {es : EI} (h : Good n es) {k m i x fr : Nat} (hk : i + m + 1 = k) (hm : ∀ j a, 1 ≤ j → j ≤ k → rk (nat es) j a a = false) (hx : rk (nat es) i fr x = true) (hr : rk (nat es) (m + 2) x fr = true) :
    ∃ b, grow (nat es) n.toNat fr (m + 1) x = b :: grow (nat es) n.toNat fr m b ∧ wayV n es x fr ((m : Int) + 1) = (b : Int) ∧ (List.range n.toNat).find? (nextP n es x fr ((m : Int) + 1)) = some b ∧ rk (nat es) (i + 1) fr b = true ∧ rk (nat es) (m + 1) b fr = true ∧ b < n.toNat := by
  obtain ⟨b, hf, he, hb, hbn, _⟩ := grow_next h.low hr
  have e1 : (List.range n.toNat).find? (nextP n es x fr ((m : Int) + 1)) = some b := by
    rw [← hf]
    congr 1
    funext c
    exact h.next hk hm hx c
  refine ⟨b, ?_, ?_, e1, rk_snoc hx he, hb, hbn⟩
  · show (match (List.range n.toNat).find? (fun b => (nat es).contains (x, b) && rk (nat es) (m + 1) b fr) with | some b => b :: grow (nat es) n.toNat fr m b | none => []) = _
    rw [hf]
  · unfold wayV
    rw [e1]

/-! ### The transitive reduction -/
theorem nat_filter (es : EI) (p : Int × Int → Bool) (q : Nat × Nat → Bool) (h : ∀ e ∈ es, p e = q (e.1.toNat, e.2.toNat)) : nat (es.filter p) = (nat es).filter q := by
  unfold nat
  rw [List.filter_map]
  congr 1
  apply List.filter_congr
  intro e he
  exact h e he
theorem Good.keep {n : Int} {es : EI} (h : Good n es) (ht : Tree (nat es)) (x y : Nat) (he : (x, y) ∈ nat es) : keepI n es ((x : Int), (y : Int)) = !(List.range n.toNat).any fun c => !(c == y) && (nat es).contains (x, c) && decide (0 < dist (nat es) n.toNat c y) := by
  unfold keepI
  congr 1
  rw [Bool.eq_iff_iff, List.any_eq_true, List.any_eq_true]
  constructor
  · rintro ⟨c, hc, h2⟩
    simp only [Bool.and_eq_true] at h2
    rw [h.fin_isSome, h.fin_isSome, decide_eq_true_eq, decide_eq_true_eq, dist_pos h.low, dist_pos h.low] at h2
    obtain ⟨⟨j, hj, r1⟩, k, hk, r2⟩ := h2
    obtain ⟨j', rfl⟩ : ∃ j', j = j' + 1 := ⟨j - 1, by omega⟩
    obtain ⟨d, hd, r3⟩ := rk_head r1
    have r4 := rk_app r3 r2
    refine ⟨d, by simpa using (h.low _ hd).2, ?_⟩
    have hdy : d ≠ y := by
      rintro rfl
      rw [ht (j' + k) d (by omega)] at r4; cases r4
    have hpos : 0 < dist (nat es) n.toNat d y := by
      rcases dist_cases (nat es) n.toNat d y h.low with ⟨_, p⟩ | ⟨i, i1, _, i2, _⟩
      · rw [p (j' + k) (by omega)] at r4; cases r4
      · rw [i2]; omega
    simp [hdy, hd, hpos]
  · rintro ⟨c, hc, h2⟩
    simp only [Bool.and_eq_true, Bool.not_eq_true', beq_eq_false_iff_ne, List.contains_iff_mem, decide_eq_true_eq] at h2
    refine ⟨c, hc, ?_⟩
    rw [h.fin_isSome, h.fin_isSome, decide_eq_true (p := 0 ≤ dist (nat es) n.toNat c y) (by omega), Bool.and_true, decide_eq_true_eq, dist_pos h.low]
    exact ⟨1, Nat.le_refl _, rk_one.2 h2.1.2⟩
theorem Good.keep_int {n : Int} {es : EI} (h : Good n es) (ht : Tree (nat es)) (e : Int × Int) (he : e ∈ es) : keepI n es e = !(List.range n.toNat).any fun c => !(c == e.2.toNat) && (nat es).contains (e.1.toNat, c) && decide (0 < dist (nat es) n.toNat c e.2.toNat) := by
  have hb := h.edge e he
  have := h.keep ht e.1.toNat e.2.toNat (List.mem_map.2 ⟨e, he, rfl⟩)
  rw [Int.toNat_of_nonneg hb.1, Int.toNat_of_nonneg hb.2.2.1] at this
  exact this
theorem Good.short {n : Int} {es : EI} (h : Good n es) (ht : Tree (nat es)) : nat (es.filter (keepI n es)) = shortV (nat es) n.toNat :=
  nat_filter es _ _ fun e he => h.keep_int ht e he
theorem cycleI_good {n : Int} {es : EI} (h : Good n es) : cycleI n es = ints (cycleV (nat es) n.toNat) := by unfold cycleI; rw [if_pos (goodV_iff.2 h)]
theorem cycleI_nil {n : Int} {es : EI} (h : Good n es) : (cycleI n es).isEmpty = true ↔ Tree (nat es) := by
  rw [cycleI_good h, ← cycle_none h.low]
  unfold ints
  rw [List.isEmpty_iff, List.map_eq_nil_iff]
theorem shortI_tree {n : Int} {es : EI} (h : Good n es) (ht : Tree (nat es)) : shortI n es = es.filter (keepI n es) := by
  unfold shortI
  rw [goodV_iff.2 h, (cycleI_nil h).2 ht]
  rfl
theorem shortI_cycle {n : Int} {es : EI} (h : Good n es) (ht : ¬ Tree (nat es)) : shortI n es = es := by
  unfold shortI
  rw [goodV_iff.2 h]
  cases hc : (cycleI n es).isEmpty with
  | false => rfl
  | true => exact absurd ((cycleI_nil h).1 hc) ht
theorem shortI_bad {n : Int} {es : EI} (h : goodV n es = false) : shortI n es = es := by unfold shortI; rw [h]; rfl

/-! ### A sorted list without repeats is a filtered range -/
theorem sorted_range {l : List Int} {n : Nat} {p : Nat → Bool} (hs : l.Pairwise fun x y => x ≤ y) (hn : l.Nodup) (hm : ∀ x, x ∈ l ↔ ∃ k : Nat, k < n ∧ x = (k : Int) ∧ p k = true) : l = ints ((List.range n).filter p) := by
  have hlt : l.Pairwise fun x y => x < y := by
    have : l.Pairwise fun x y => x ≤ y ∧ x ≠ y := List.Pairwise.and hs hn
    exact this.imp fun h => by omega
  have hr : (ints ((List.range n).filter p)).Pairwise fun x y => x < y := by
    unfold ints
    rw [List.pairwise_map]
    exact ((List.pairwise_lt_range (n := n)).filter p).imp fun {a b} h => by show (a : Int) < (b : Int); omega
  have hmem : ∀ x, x ∈ l ↔ x ∈ ints ((List.range n).filter p) := fun x => by
    rw [hm]
    unfold ints
    rw [List.mem_map]
    constructor
    · rintro ⟨k, h1, rfl, h2⟩
      exact ⟨k, List.mem_filter.2 ⟨List.mem_range.2 h1, h2⟩, rfl⟩
    · rintro ⟨k, h1, rfl⟩
      exact ⟨k, List.mem_range.1 (List.mem_filter.1 h1).1, rfl, (List.mem_filter.1 h1).2⟩
  exact (List.perm_ext_iff_of_nodup (hlt.imp fun h => by omega) (hr.imp fun h => by omega)).2 hmem |>.eq_of_pairwise (fun a b _ _ h1 h2 => by omega) hlt hr
end Go.Proofs.YtkfopjhgkbbkiaaDoor.Gr
/-
  What the laws ask, in plain words: the lists that the calls answer, node by node.
-/
namespace Go.Proofs.YtkfopjhgkbbkiaaDoor.Gr
theorem reachI_eq {es : EI} {N : Nat} (h : Good N es) (a : Nat) : reachI N es a = ints (reachV (nat es) N a) := by
  unfold reachI reachV
  rw [if_pos (goodV_iff.2 h), Int.toNat_natCast]
  congr 1
  apply List.filter_congr
  intro b _
  rw [h.fin_isSome, Int.toNat_natCast]
theorem contains_nat {es : EI} {n : Int} (h : Good n es) (a b : Nat) : (nat es).contains (a, b) = es.contains ((a : Int), (b : Int)) := by
  rw [Bool.eq_iff_iff, List.contains_iff_mem, List.contains_iff_mem, h.mem]
theorem behindI_eq {es : EI} {N : Nat} (h : Good N es) (a : Nat) : behindI N es a = ints (behindV (nat es) N a) := by
  unfold behindI behindV
  rw [if_pos (goodV_iff.2 h), Int.toNat_natCast]
  congr 1
  apply List.filter_congr
  intro b _
  rw [contains_nat h]
theorem aheadI_eq {es : EI} {N : Nat} (h : Good N es) (b : Nat) : aheadI N es b = ints (aheadV (nat es) N b) := by
  unfold aheadI aheadV
  rw [if_pos (goodV_iff.2 h), Int.toNat_natCast]
  congr 1
  apply List.filter_congr
  intro a _
  rw [contains_nat h]
theorem ints_at (l : List Nat) (i : Nat) (hi : i < l.length) : ∃ z : Nat, (ints l).getD i 0 = (z : Int) ∧ z ∈ l ∧ l.getD i 0 = z := by
  refine ⟨l.getD i 0, ints_get l i, ?_, rfl⟩
  rw [List.getD_eq_getElem?_getD, List.getElem?_eq_getElem hi]
  exact List.getElem_mem hi
theorem low_nat {es : EI} {N : Nat} (h : Good N es) : Low (nat es) N := by
  have := h.low
  rwa [Int.toNat_natCast] at this
theorem reach_lt {es : E} {n a b : Nat} (h : b ∈ reachV es n a) : b < n := by
  unfold reachV at h
  exact List.mem_range.1 (List.mem_filter.1 h).1
theorem reach_asc (es : E) (n a : Nat) (i : Nat) (hi : i + 1 < (reachV es n a).length) : (reachV es n a).getD i 0 < (reachV es n a).getD (i + 1) 0 := filter_range n _ i hi
theorem ints_contains (l : List Nat) (z : Nat) : (ints l).contains (z : Int) = decide (z ∈ l) := by
  rw [Bool.eq_iff_iff, List.contains_iff_mem, decide_eq_true_eq]
  unfold ints
  rw [List.mem_map]
  constructor
  · rintro ⟨k, hk, e⟩
    have e : (k : Int) = (z : Int) := e
    have : k = z := by omega
    rw [← this]; exact hk
  · intro h
    exact ⟨z, h, rfl⟩
end Go.Proofs.YtkfopjhgkbbkiaaDoor.Gr
/-
  Topological orders in plain words: the order that puts the least possible node at each place, levels, the number of paths; what is told of them.
-/
namespace Go.Proofs.YtkfopjhgkbbkiaaDoor.To
open Gr
/-! ### Orders -/
def ready (es : E) (n : Nat) (l : List Nat) (x : Nat) : Bool := !l.contains x && (aheadV es n x).all fun a => l.contains a
def next (es : E) (n : Nat) (l : List Nat) : Option Nat := (List.range n).find? (ready es n l)
def orderK (es : E) (n : Nat) : Nat → List Nat → Option (List Nat)
  | 0, l => some l
  | k + 1, l => match next es n l with
    | none => none
    | some x => orderK es n k (l ++ [x])
def orderV (es : E) (n : Nat) : Option (List Nat) := orderK es n n []
/-- A first part of an order: no node twice, each behind all that it wants. -/
structure Ord (es : E) (n : Nat) (l : List Nat) : Prop where
  once : l.Nodup
  low : ∀ x ∈ l, x < n
  behind : ∀ i, i < l.length → ∀ a, (a, l.getD i 0) ∈ es → a ∈ l.take i
theorem Ord.nil (es : E) (n : Nat) : Ord es n [] := ⟨List.nodup_nil, fun x h => by simp at h, fun i h => by simp at h⟩
theorem ready_iff {es : E} {n : Nat} (hl : Low es n) (l : List Nat) (x : Nat) : ready es n l x = true ↔ x ∉ l ∧ ∀ a, (a, x) ∈ es → a ∈ l := by
  unfold ready
  rw [Bool.and_eq_true, Bool.not_eq_true', List.all_eq_true]
  constructor
  · rintro ⟨h1, h2⟩
    refine ⟨fun h => (by rw [List.contains_iff_mem.2 h] at h1; cases h1), fun a ha => List.contains_iff_mem.1 (h2 a ((mem_ahead hl).2 ha))⟩
  · rintro ⟨h1, h2⟩
    refine ⟨?_, fun a ha => List.contains_iff_mem.2 (h2 a ((mem_ahead hl).1 ha))⟩
    cases hc : l.contains x with
    | false => rfl
    | true => exact absurd (List.contains_iff_mem.1 hc) h1
theorem next_some {es : E} {n x : Nat} {l : List Nat} (h : next es n l = some x) : x < n ∧ ready es n l x = true ∧ ∀ y, y < x → ready es n l y = false := by
  unfold next at h
  rw [List.find?_eq_some_iff_getElem] at h
  obtain ⟨h1, i, hi, h2, h3⟩ := h
  rw [List.getElem_range] at h2
  subst h2
  rw [List.length_range] at hi
  refine ⟨hi, h1, fun y hy => ?_⟩
  have := h3 y hy
  rw [List.getElem_range] at this
  simpa using this
theorem next_eq {es : E} {n x : Nat} {l : List Nat} (hx : x < n) (h : ready es n l x = true) (hm : ∀ y, y < x → ready es n l y = false) : next es n l = some x := by
  unfold next
  rw [List.find?_eq_some_iff_getElem]
  refine ⟨h, x, by simpa using hx, by rw [List.getElem_range], fun y hy => ?_⟩
  rw [List.getElem_range, hm y hy]; rfl
theorem next_none {es : E} {n : Nat} {l : List Nat} : next es n l = none ↔ ∀ y, y < n → ready es n l y = false := by
  unfold next
  rw [List.find?_eq_none]
  constructor
  · intro h y hy
    have := h y (by simpa using hy)
    simpa using this
  · intro h y hy
    rw [h y (by simpa using hy)]; simp
theorem Ord.next {es : E} {n x : Nat} {l : List Nat} (hl : Low es n) (h : Ord es n l) (hx : x < n) (hr : ready es n l x = true) : Ord es n (l ++ [x]) := by
  obtain ⟨h1, h2⟩ := (ready_iff hl l x).1 hr
  refine ⟨List.nodup_append.2 ⟨h.once, by simp, fun a ha b hb hab => by simp at hb; subst hb; subst hab; exact h1 ha⟩, fun y hy => ?_, fun i hi a ha => ?_⟩
  · rcases List.mem_append.1 hy with hy | hy
    · exact h.low y hy
    · simp at hy; subst hy; exact hx
  · rcases Nat.lt_or_ge i l.length with hlt | hge
    · rw [List.getD_eq_getElem?_getD, List.getElem?_append_left hlt, ← List.getD_eq_getElem?_getD] at ha
      rw [List.take_append_of_le_length (by omega)]
      exact h.behind i hlt a ha
    · have hie : i = l.length := by simp at hi; omega
      subst hie
      rw [List.getD_eq_getElem?_getD, List.getElem?_append_right (by omega)] at ha
      simp at ha
      rw [List.take_append_of_le_length (by omega), List.take_length]
      exact h2 a ha
/-- Where no node reaches itself, some node is ready while any is left. -/
theorem Ord.more {es : E} {n : Nat} {l : List Nat} (hl : Low es n) (ht : Tree es) (_h : Ord es n l) (hn : ∃ x, x < n ∧ x ∉ l) : ∃ x, To.next es n l = some x := by
  cases hx : To.next es n l with
  | some x => exact ⟨x, rfl⟩
  | none =>
    exfalso
    rw [next_none] at hx
    have hp : ∀ x, x < n → x ∉ l → ∃ a, a < n ∧ a ∉ l ∧ (a, x) ∈ es := fun x hxn hxl => by
      apply Classical.byContradiction
      intro hno
      have hr : ready es n l x = true := (ready_iff hl l x).2 ⟨hxl, fun a ha => by
        apply Classical.byContradiction
        intro hal
        exact hno ⟨a, (hl _ ha).1, hal, ha⟩⟩
      rw [hx x hxn] at hr
      cases hr
    have hall : ∀ k, ∃ a b, a < n ∧ a ∉ l ∧ rk es k a b = true := fun k => by
      induction k with
      | zero => obtain ⟨x, h1, h2⟩ := hn; exact ⟨x, x, h1, h2, by simp [rk]⟩
      | succ k ih =>
        obtain ⟨a, b, h1, h2, h3⟩ := ih
        obtain ⟨c, h4, h5, h6⟩ := hp a h1 h2
        exact ⟨c, b, h4, h5, rk_cons h6 h3⟩
    obtain ⟨a, b, _, _, h⟩ := hall (n + 1)
    have := tree_le hl ht h
    omega
theorem nodup_full {n : Nat} {l : List Nat} (ho : l.Nodup) (hlo : ∀ x ∈ l, x < n) (hn : l.length = n) : ∀ x, x < n → x ∈ l := fun x hx => by
  apply Classical.byContradiction
  intro hno
  have := nodup_low n (x :: l) (fun y hy => by
    rcases List.mem_cons.1 hy with rfl | hy
    · exact hx
    · exact hlo y hy) (List.nodup_cons.2 ⟨hno, ho⟩)
  simp at this
  omega
theorem all_long : ∀ (n : Nat) (l : List Nat), (∀ x, x < n → x ∈ l) → n ≤ l.length
  | 0, l, _ => Nat.zero_le _
  | n + 1, l, h => by
    have hm := h n (Nat.lt_succ_self n)
    have h1 := all_long n (l.erase n) fun x hx => (List.mem_erase_of_ne (by omega)).2 (h x (by omega))
    rw [List.length_erase_of_mem hm] at h1
    have := List.length_pos_of_mem hm
    omega
theorem some_left {n : Nat} {l : List Nat} (hn : l.length < n) : ∃ x, x < n ∧ x ∉ l := by
  apply Classical.byContradiction
  intro hno
  have hall : ∀ x, x < n → x ∈ l := fun x hx => by
    apply Classical.byContradiction
    intro h
    exact hno ⟨x, hx, h⟩
  have := all_long n l hall
  omega
theorem orderK_tree {es : E} {n : Nat} (hl : Low es n) (ht : Tree es) : ∀ (k : Nat) (l : List Nat), Ord es n l → l.length + k = n → ∃ o, orderK es n k l = some o ∧ Ord es n o ∧ o.length = n
  | 0, l, h, hk => ⟨l, rfl, h, by omega⟩
  | k + 1, l, h, hk => by
    obtain ⟨x, hx⟩ := h.more hl ht (some_left (by omega))
    obtain ⟨h1, h2, _⟩ := next_some hx
    obtain ⟨o, h3, h4, h5⟩ := orderK_tree hl ht k (l ++ [x]) (h.next hl h1 h2) (by simp; omega)
    exact ⟨o, by unfold orderK; rw [hx]; exact h3, h4, h5⟩
theorem orderK_ord {es : E} {n : Nat} (hl : Low es n) : ∀ (k : Nat) (l o : List Nat), Ord es n l → l.length + k = n → orderK es n k l = some o → Ord es n o ∧ o.length = n
  | 0, l, o, h, hk, e => by
    unfold orderK at e
    injection e with e
    subst e
    exact ⟨h, by omega⟩
  | k + 1, l, o, h, hk, e => by
    unfold orderK at e
    cases hx : To.next es n l with
    | none => rw [hx] at e; cases e
    | some x =>
      rw [hx] at e
      obtain ⟨h1, h2, _⟩ := next_some hx
      exact orderK_ord hl k (l ++ [x]) o (h.next hl h1 h2) (by simp; omega) e
/-- A whole order: each node stands in it, behind all that it wants. -/
theorem Ord.pos {es : E} {n : Nat} {l : List Nat} (h : Ord es n l) {a b : Nat} (he : (a, b) ∈ es) (hb : b ∈ l) : a ∈ l ∧ l.idxOf a < l.idxOf b := by
  have hi := List.idxOf_lt_length_iff.2 hb
  have hg : l.getD (l.idxOf b) 0 = b := by
    rw [List.getD_eq_getElem?_getD, List.getElem?_eq_getElem hi]
    exact List.getElem_idxOf hi
  have hm := h.behind (l.idxOf b) hi a (by rw [hg]; exact he)
  obtain ⟨j, hj, e⟩ := List.getElem_of_mem hm
  rw [List.length_take] at hj
  rw [List.getElem_take] at e
  refine ⟨e ▸ List.getElem_mem _, ?_⟩
  have : l.idxOf a ≤ j := by
    rw [← e]
    rw [h.once.idxOf_getElem]
    exact Nat.le_refl _
  omega
theorem Ord.way {es : E} {n : Nat} {l : List Nat} (h : Ord es n l) {a : Nat} : ∀ {k b : Nat}, rk es (k + 1) a b = true → b ∈ l → a ∈ l ∧ l.idxOf a < l.idxOf b
  | 0, b, hr, hb => h.pos (rk_one.1 hr) hb
  | k + 1, b, hr, hb => by
    obtain ⟨x, hx, h2⟩ := rk_last hr
    obtain ⟨h3, h4⟩ := h.pos hx hb
    obtain ⟨h5, h6⟩ := h.way h2 h3
    exact ⟨h5, by omega⟩
theorem Ord.tree {es : E} {n : Nat} {l : List Nat} (hl : Low es n) (h : Ord es n l) (hn : l.length = n) : Tree es := fun k a hk => by
  cases hr : rk es k a a with
  | false => rfl
  | true =>
    obtain ⟨j, rfl⟩ : ∃ j, k = j + 1 := ⟨k - 1, by omega⟩
    have ha := (rk_low hl hr).1
    have := (h.way hr (nodup_full h.once h.low hn a ha)).2
    omega
theorem order_some {es : E} {n : Nat} (hl : Low es n) (ht : Tree es) : ∃ o, orderV es n = some o ∧ Ord es n o ∧ o.length = n := orderK_tree hl ht n [] (Ord.nil es n) (by simp)
theorem order_ord {es : E} {n : Nat} (hl : Low es n) {o : List Nat} (h : orderV es n = some o) : Ord es n o ∧ o.length = n := orderK_ord hl n [] o (Ord.nil es n) (by simp) h
theorem order_tree {es : E} {n : Nat} (hl : Low es n) {o : List Nat} (h : orderV es n = some o) : Tree es := (order_ord hl h).1.tree hl (order_ord hl h).2
theorem order_none {es : E} {n : Nat} (hl : Low es n) : orderV es n = none ↔ ¬ Tree es := by
  constructor
  · intro h ht
    obtain ⟨o, h2, _⟩ := order_some hl ht
    rw [h] at h2; cases h2
  · intro h
    cases ho : orderV es n with
    | none => rfl
    | some o => exact absurd (order_tree hl ho) h
end Go.Proofs.YtkfopjhgkbbkiaaDoor.To
/-
  Levels and numbers of paths in plain words.
-/
namespace Go.Proofs.YtkfopjhgkbbkiaaDoor.To
open Gr
/-- Where no node reaches itself, a way has fewer edges than there are nodes. -/
theorem tree_lt {es : E} {n k a b : Nat} (hl : Low es n) (ht : Tree es) (h : rk es (k + 1) a b = true) : k + 1 < n := by
  obtain ⟨l, h2, h3, h5, h4⟩ := rk_nodes hl h
  have ha := (rk_low hl h).1
  have hn : (a :: l).Nodup := by
    apply Classical.byContradiction
    intro hn
    obtain ⟨i, j, h6, h7, h8⟩ := not_nodup hn
    obtain ⟨j, rfl⟩ : ∃ j', j = j' + 1 := ⟨j - 1, by omega⟩
    simp only [List.length_cons] at h7
    have hj : j < k + 1 := by omega
    rw [List.getD_cons_succ] at h8
    cases i with
    | zero =>
      rw [List.getD_cons_zero] at h8
      have p := (h5 j hj).1
      rw [← h8, ht (j + 1) _ (by omega)] at p
      cases p
    | succ i =>
      rw [List.getD_cons_succ] at h8
      have p := h4 i j (by omega) hj
      rw [← h8, ht (j - i) _ (by omega)] at p
      cases p
  have := nodup_low n (a :: l) (fun x hx => by
    rcases List.mem_cons.1 hx with rfl | hx
    · exact ha
    · exact h3 x hx) hn
  simp only [List.length_cons] at this
  omega
/-! ### Levels -/
/-- One more than the greatest, nought of nothing. -/
def mx (f : Nat → Nat) : List Nat → Nat
  | [] => 0
  | a :: r => max (f a + 1) (mx f r)
theorem mx_le {f : Nat → Nat} {j : Nat} : ∀ {l : List Nat}, j ≤ mx f l ↔ j = 0 ∨ ∃ a, a ∈ l ∧ j ≤ f a + 1
  | [] => by simp [mx]
  | a :: r => by
    unfold mx
    rw [show j ≤ max (f a + 1) (mx f r) ↔ j ≤ f a + 1 ∨ j ≤ mx f r by omega, mx_le (l := r)]
    constructor
    · rintro (h | h | ⟨b, h1, h2⟩)
      · exact .inr ⟨a, by simp, h⟩
      · exact .inl h
      · exact .inr ⟨b, List.mem_cons_of_mem _ h1, h2⟩
    · rintro (h | ⟨b, h1, h2⟩)
      · exact .inr (.inl h)
      · rcases List.mem_cons.1 h1 with rfl | h1
        · exact .inl h2
        · exact .inr (.inr ⟨b, h1, h2⟩)
theorem mx_snoc (f : Nat → Nat) : ∀ (l : List Nat) (a : Nat), mx f (l ++ [a]) = max (mx f l) (f a + 1)
  | [], a => by simp [mx]
  | b :: r, a => by
    show max (f b + 1) (mx f (r ++ [a])) = max (max (f b + 1) (mx f r)) (f a + 1)
    rw [mx_snoc f r a]; omega
theorem mx_same {f g : Nat → Nat} {l : List Nat} (h : ∀ a ∈ l, f a = g a) : mx f l = mx g l := by
  induction l with
  | nil => rfl
  | cons a r ih =>
    unfold mx
    rw [h a (by simp), ih fun b hb => h b (List.mem_cons_of_mem _ hb)]
theorem eq_of_le {a b : Nat} (h : ∀ j, j ≤ a ↔ j ≤ b) : a = b := by
  have h1 := (h a).1 (Nat.le_refl _)
  have h2 := (h b).2 (Nat.le_refl _)
  omega
def lvK (es : E) (n : Nat) : Nat → Nat → Nat
  | 0, _ => 0
  | k + 1, x => mx (lvK es n k) (aheadV es n x)
def lev (es : E) (n x : Nat) : Nat := lvK es n n x
theorem lvK_iff {es : E} {n : Nat} (hl : Low es n) : ∀ (k j x : Nat), j ≤ lvK es n k x ↔ j ≤ k ∧ ∃ a, rk es j a x = true
  | 0, j, x => by
    unfold lvK
    constructor
    · intro h; obtain rfl : j = 0 := by omega
      exact ⟨Nat.le_refl _, x, by simp [rk]⟩
    · intro h; exact h.1
  | k + 1, j, x => by
    unfold lvK
    rw [mx_le]
    cases j with
    | zero => exact ⟨fun _ => ⟨Nat.zero_le _, x, by simp [rk]⟩, fun _ => .inl rfl⟩
    | succ i =>
      constructor
      · rintro (h | ⟨a, h1, h2⟩)
        · omega
        · obtain ⟨h3, b, h4⟩ := (lvK_iff hl k i a).1 (by omega)
          exact ⟨by omega, b, rk_snoc h4 ((mem_ahead hl).1 h1)⟩
      · rintro ⟨h1, b, h2⟩
        obtain ⟨a, h3, h4⟩ := rk_last h2
        have := (lvK_iff hl k i a).2 ⟨by omega, b, h4⟩
        exact .inr ⟨a, (mem_ahead hl).2 h3, by omega⟩
theorem lev_iff {es : E} {n : Nat} (hl : Low es n) (ht : Tree es) (j x : Nat) : j ≤ lev es n x ↔ ∃ a, rk es j a x = true := by
  unfold lev
  rw [lvK_iff hl]
  exact ⟨fun h => h.2, fun ⟨a, h⟩ => ⟨tree_le hl ht h, a, h⟩⟩
/-- Each level is one more than the greatest of the levels straight ahead. -/
theorem lev_eq {es : E} {n : Nat} (hl : Low es n) (ht : Tree es) (x : Nat) : lev es n x = mx (lev es n) (aheadV es n x) := by
  refine eq_of_le fun j => ?_
  rw [lev_iff hl ht, mx_le]
  cases j with
  | zero => exact ⟨fun _ => .inl rfl, fun _ => ⟨x, by simp [rk]⟩⟩
  | succ i =>
    constructor
    · rintro ⟨b, h⟩
      obtain ⟨a, h1, h2⟩ := rk_last h
      have := (lev_iff hl ht i a).2 ⟨b, h2⟩
      exact .inr ⟨a, (mem_ahead hl).2 h1, by omega⟩
    · rintro (h | ⟨a, h1, h2⟩)
      · omega
      · obtain ⟨b, h3⟩ := (lev_iff hl ht i a).1 (by omega)
        exact ⟨b, rk_snoc h3 ((mem_ahead hl).1 h1)⟩
theorem lev_lt {es : E} {n x : Nat} (hl : Low es n) (ht : Tree es) (hx : x < n) : lev es n x < n := by
  cases hj : lev es n x with
  | zero => omega
  | succ k =>
    obtain ⟨a, h⟩ := (lev_iff hl ht (k + 1) x).1 (by omega)
    exact tree_lt hl ht h
theorem lev_short {es : E} {n : Nat} (hl : Low es n) (ht : Tree es) (x : Nat) : lev (shortV es n) n x = lev es n x := by
  have hl2 : Low (shortV es n) n := hl.sub short_sub
  have ht2 : Tree (shortV es n) := ht.sub short_sub
  refine eq_of_le fun j => ?_
  rw [lev_iff hl2 ht2]
  constructor
  · rintro ⟨a, h⟩
    exact (lev_iff hl ht j x).2 ⟨a, rk_mono short_sub h⟩
  · intro h
    obtain ⟨a, h1⟩ := (lev_iff hl ht (lev es n x) x).1 (Nat.le_refl _)
    have h2 := short_way hl (K := lev es n x) (a := a) (b := x) (fun i hi => by
      cases hr : rk es i a x with
      | false => rfl
      | true => have := (lev_iff hl ht i x).2 ⟨a, hr⟩; omega) (lev es n x) x (Nat.le_refl _) h1 (by rw [Nat.sub_self]; simp [rk])
    rw [show lev es n x = (lev es n x - j) + j by omega] at h2
    obtain ⟨c, _, h3⟩ := rk_split h2
    exact ⟨c, h3⟩
theorem lev_nil (n x : Nat) : lev [] n x = 0 := by
  unfold lev
  cases n with
  | zero => rfl
  | succ n =>
    show mx (lvK [] (n + 1) n) (aheadV [] (n + 1) x) = 0
    rw [show aheadV [] (n + 1) x = [] by simp [aheadV]]
    rfl
/-- The nodes of the longest path. -/
def longV (es : E) (n : Nat) : Nat := mx (lev es n) (List.range n)
theorem long_short {es : E} {n : Nat} (hl : Low es n) (ht : Tree es) : longV (shortV es n) n = longV es n := mx_same fun x _ => lev_short hl ht x
theorem long_le {es : E} {n : Nat} (hl : Low es n) (ht : Tree es) : longV es n ≤ n := by
  unfold longV
  rcases (mx_le (j := mx (lev es n) (List.range n))).1 (Nat.le_refl _) with h | ⟨a, h1, h2⟩
  · omega
  · have := lev_lt hl ht (x := a) (by simpa using h1)
    omega
/-! ### Sums -/
def sumTo (f : Nat → Nat) : Nat → Nat
  | 0 => 0
  | k + 1 => sumTo f k + f k
theorem sumTo_head (f : Nat → Nat) : ∀ k, sumTo f (k + 1) = f 0 + sumTo (fun i => f (i + 1)) k
  | 0 => by simp [sumTo]
  | k + 1 => by
    show sumTo f (k + 1) + f (k + 1) = f 0 + (sumTo (fun i => f (i + 1)) k + f (k + 1))
    rw [sumTo_head f k]; omega
theorem sumTo_same {f g : Nat → Nat} : ∀ {k : Nat}, (∀ i, i < k → f i = g i) → sumTo f k = sumTo g k
  | 0, _ => rfl
  | k + 1, h => by
    show sumTo f k + f k = sumTo g k + g k
    rw [sumTo_same fun i hi => h i (by omega), h k (by omega)]
theorem sumTo_zero : ∀ (k : Nat), sumTo (fun _ => 0) k = 0
  | 0 => rfl
  | k + 1 => sumTo_zero k
theorem sumTo_le {f : Nat → Nat} {B : Nat} : ∀ {k : Nat}, (∀ i, i < k → f i ≤ B) → sumTo f k ≤ k * B
  | 0, _ => by simp [sumTo]
  | k + 1, h => by
    have h1 := sumTo_le (k := k) fun i hi => h i (by omega)
    have h2 := h k (by omega)
    rw [Nat.add_mul, Nat.one_mul]
    show sumTo f k + f k ≤ _
    omega
theorem sumTo_pos {f : Nat → Nat} : ∀ {k : Nat}, 0 < sumTo f k ↔ ∃ i, i < k ∧ 0 < f i
  | 0 => by simp [sumTo]
  | k + 1 => by
    show 0 < sumTo f k + f k ↔ _
    constructor
    · intro h
      by_cases h0 : 0 < f k
      · exact ⟨k, by omega, h0⟩
      · obtain ⟨i, h1, h2⟩ := sumTo_pos.1 (show 0 < sumTo f k by omega)
        exact ⟨i, by omega, h2⟩
    · rintro ⟨i, h1, h2⟩
      rcases Nat.lt_or_ge i k with h | h
      · have := sumTo_pos.2 ⟨i, h, h2⟩; omega
      · obtain rfl : i = k := by omega
        omega
/-- The sum over a row of nodes. -/
def sm (f : Nat → Nat) : List Nat → Nat
  | [] => 0
  | a :: r => f a + sm f r
theorem sm_same {f g : Nat → Nat} {l : List Nat} (h : ∀ a ∈ l, f a = g a) : sm f l = sm g l := by
  induction l with
  | nil => rfl
  | cons a r ih =>
    unfold sm
    rw [h a (by simp), ih fun b hb => h b (List.mem_cons_of_mem _ hb)]
theorem sm_snoc (f : Nat → Nat) : ∀ (l : List Nat) (a : Nat), sm f (l ++ [a]) = sm f l + f a
  | [], a => by simp [sm]
  | b :: r, a => by
    show f b + sm f (r ++ [a]) = f b + sm f r + f a
    rw [sm_snoc f r a]; omega
theorem sm_add (f g : Nat → Nat) : ∀ (l : List Nat), sm (fun x => f x + g x) l = sm f l + sm g l
  | [] => rfl
  | a :: r => by
    show f a + g a + sm (fun x => f x + g x) r = f a + sm f r + (g a + sm g r)
    rw [sm_add f g r]; omega
theorem sm_zero : ∀ (l : List Nat), sm (fun _ => 0) l = 0
  | [] => rfl
  | _ :: r => by show 0 + sm (fun _ => 0) r = 0; rw [sm_zero r]
theorem sm_pos {f : Nat → Nat} : ∀ {l : List Nat}, 0 < sm f l ↔ ∃ a, a ∈ l ∧ 0 < f a
  | [] => by simp [sm]
  | a :: r => by
    show 0 < f a + sm f r ↔ _
    constructor
    · intro h
      by_cases h0 : 0 < f a
      · exact ⟨a, by simp, h0⟩
      · obtain ⟨b, h1, h2⟩ := sm_pos.1 (show 0 < sm f r by omega)
        exact ⟨b, List.mem_cons_of_mem _ h1, h2⟩
    · rintro ⟨b, h1, h2⟩
      rcases List.mem_cons.1 h1 with rfl | h1
      · omega
      · have := sm_pos.2 ⟨b, h1, h2⟩; omega
theorem sm_le {f : Nat → Nat} {B : Nat} : ∀ {l : List Nat}, (∀ a ∈ l, f a ≤ B) → sm f l ≤ l.length * B
  | [], _ => by simp [sm]
  | a :: r, h => by
    have h1 := sm_le (l := r) fun b hb => h b (List.mem_cons_of_mem _ hb)
    have h2 := h a (by simp)
    rw [List.length_cons, Nat.add_mul, Nat.one_mul]
    show f a + sm f r ≤ _
    omega
theorem sm_swap (f : Nat → Nat → Nat) (k : List Nat) : ∀ (l : List Nat), sm (fun x => sm (fun y => f x y) k) l = sm (fun y => sm (fun x => f x y) l) k
  | [] => by
    show 0 = sm (fun _ => 0) k
    rw [sm_zero]
  | a :: r => by
    show sm (fun y => f a y) k + sm (fun x => sm (fun y => f x y) k) r = sm (fun y => f a y + sm (fun x => f x y) r) k
    rw [sm_swap f k r, sm_add]
theorem sm_sumTo (f : Nat → Nat → Nat) (l : List Nat) : ∀ (k : Nat), sumTo (fun i => sm (fun x => f i x) l) k = sm (fun x => sumTo (fun i => f i x) k) l
  | 0 => by
    show 0 = sm (fun _ => 0) l
    rw [sm_zero]
  | k + 1 => by
    show sumTo (fun i => sm (fun x => f i x) l) k + sm (fun x => f k x) l = sm (fun x => sumTo (fun i => f i x) k + f k x) l
    rw [sm_sumTo f l k, sm_add]
theorem sm_one (a : Nat) : ∀ (l : List Nat), l.Nodup → sm (fun c => if a = c then 1 else 0) l = if a ∈ l then 1 else 0
  | [], _ => rfl
  | b :: r, h => by
    obtain ⟨h1, h2⟩ := List.nodup_cons.1 h
    show (if a = b then 1 else 0) + sm (fun c => if a = c then 1 else 0) r = _
    rw [sm_one a r h2]
    by_cases hab : a = b
    · subst hab
      rw [if_pos rfl, if_neg h1, if_pos (by simp)]
    · rw [if_neg hab]
      by_cases hr : a ∈ r
      · rw [if_pos hr, if_pos (by simp [hr])]
      · rw [if_neg hr, if_neg (by simp [hab, hr])]
/-! ### Paths -/
/-- The number of ways of k edges from a to b. -/
def ww (es : E) (n : Nat) : Nat → Nat → Nat → Nat
  | 0, a, b => if a = b then 1 else 0
  | k + 1, a, b => sm (fun x => ww es n k a x) (aheadV es n b)
theorem ww_pos {es : E} {n : Nat} (hl : Low es n) : ∀ {k a b : Nat}, 0 < ww es n k a b ↔ rk es k a b = true
  | 0, a, b => by
    unfold ww
    by_cases h : a = b
    · simp [rk, h]
    · simp [rk, h]
  | k + 1, a, b => by
    unfold ww
    rw [sm_pos]
    constructor
    · rintro ⟨x, h1, h2⟩
      exact rk_snoc ((ww_pos hl).1 h2) ((mem_ahead hl).1 h1)
    · intro h
      obtain ⟨x, h1, h2⟩ := rk_last h
      exact ⟨x, (mem_ahead hl).2 h1, (ww_pos hl).2 h2⟩
theorem ww_none {es : E} {n k a b : Nat} (hl : Low es n) (h : rk es k a b = false) : ww es n k a b = 0 := by
  apply Classical.byContradiction
  intro hn
  have := (ww_pos hl).1 (show 0 < ww es n k a b by omega)
  rw [h] at this; cases this
theorem nodup_ahead (es : E) (n x : Nat) : (aheadV es n x).Nodup := List.nodup_range.sublist List.filter_sublist
theorem nodup_behind (es : E) (n x : Nat) : (behindV es n x).Nodup := List.nodup_range.sublist List.filter_sublist
theorem ww_head {es : E} {n : Nat} (hl : Low es n) : ∀ (k a b : Nat), ww es n (k + 1) a b = sm (fun c => ww es n k c b) (behindV es n a)
  | 0, a, b => by
    show sm (fun x => if a = x then 1 else 0) (aheadV es n b) = sm (fun c => if c = b then 1 else 0) (behindV es n a)
    rw [sm_one a _ (nodup_ahead es n b), sm_same (g := fun c => if b = c then 1 else 0) (l := behindV es n a) (fun c _ => by simp only [eq_comm]), sm_one b _ (nodup_behind es n a)]
    by_cases h : (a, b) ∈ es
    · rw [if_pos ((mem_ahead hl).2 h), if_pos ((mem_behind hl).2 h)]
    · rw [if_neg fun h2 => h ((mem_ahead hl).1 h2), if_neg fun h2 => h ((mem_behind hl).1 h2)]
  | k + 1, a, b => by
    show sm (fun x => ww es n (k + 1) a x) (aheadV es n b) = sm (fun c => sm (fun x => ww es n k c x) (aheadV es n b)) (behindV es n a)
    rw [sm_same (g := fun x => sm (fun c => ww es n k c x) (behindV es n a)) (fun x _ => ww_head hl k a x), sm_swap]
/-- The number of paths from a to b. -/
def pathsV (es : E) (n a b : Nat) : Nat := sumTo (fun k => ww es n k a b) n
theorem paths_tail {es : E} {n a b : Nat} (hl : Low es n) (ht : Tree es) (hn : 0 < n) : pathsV es n a b = (if a = b then 1 else 0) + sm (fun c => pathsV es n a c) (aheadV es n b) := by
  obtain ⟨m, rfl⟩ : ∃ m, n = m + 1 := ⟨n - 1, by omega⟩
  unfold pathsV
  rw [sumTo_head]
  show (if a = b then 1 else 0) + sumTo (fun i => sm (fun x => ww es (m + 1) i a x) (aheadV es (m + 1) b)) m = _
  rw [sm_sumTo]
  congr 1
  refine sm_same fun c hc => ?_
  show _ = sumTo (fun k => ww es (m + 1) k a c) m + ww es (m + 1) m a c
  have h0 : rk es m a c = false := by
    cases hr : rk es m a c with
    | false => rfl
    | true =>
      have := tree_lt hl ht (rk_snoc hr ((mem_ahead hl).1 hc))
      omega
  rw [ww_none hl h0]
  rfl
theorem paths_head {es : E} {n a b : Nat} (hl : Low es n) (ht : Tree es) (hn : 0 < n) : pathsV es n a b = (if a = b then 1 else 0) + sm (fun c => pathsV es n c b) (behindV es n a) := by
  obtain ⟨m, rfl⟩ : ∃ m, n = m + 1 := ⟨n - 1, by omega⟩
  unfold pathsV
  rw [sumTo_head, sumTo_same (g := fun i => sm (fun c => ww es (m + 1) i c b) (behindV es (m + 1) a)) (fun i _ => ww_head hl i a b), sm_sumTo]
  congr 1
  refine sm_same fun c hc => ?_
  show _ = sumTo (fun k => ww es (m + 1) k c b) m + ww es (m + 1) m c b
  have h0 : rk es m c b = false := by
    cases hr : rk es m c b with
    | false => rfl
    | true =>
      have := tree_lt hl ht (rk_cons ((mem_behind hl).1 hc) hr)
      omega
  rw [ww_none hl h0]
  rfl
theorem paths_self {es : E} {n a : Nat} (hl : Low es n) (ht : Tree es) (hn : 0 < n) : pathsV es n a a = 1 := by
  obtain ⟨m, rfl⟩ : ∃ m, n = m + 1 := ⟨n - 1, by omega⟩
  unfold pathsV
  rw [sumTo_head, sumTo_same (g := fun _ => 0) (fun i _ => ww_none hl (ht (i + 1) a (by omega))), sumTo_zero]
  simp [ww]
theorem paths_pos {es : E} {n a b : Nat} (hl : Low es n) (ht : Tree es) (hab : a ≠ b) : 0 < pathsV es n a b ↔ b ∈ reachV es n a := by
  unfold pathsV
  rw [sumTo_pos, mem_reach hl]
  constructor
  · rintro ⟨k, h1, h2⟩
    have h3 := (ww_pos hl).1 h2
    refine ⟨k, ?_, h3⟩
    cases k with
    | zero => simp [rk] at h3; exact absurd h3 hab
    | succ k => omega
  · rintro ⟨k, h1, h2⟩
    obtain ⟨j, rfl⟩ : ∃ j, k = j + 1 := ⟨k - 1, by omega⟩
    exact ⟨j + 1, tree_lt hl ht h2, (ww_pos hl).2 h2⟩
theorem ahead_len (es : E) (n x : Nat) : (aheadV es n x).length ≤ n := by
  have := List.length_filter_le (fun a => es.contains (a, x)) (List.range n)
  rwa [List.length_range] at this
theorem behind_len (es : E) (n x : Nat) : (behindV es n x).length ≤ n := by
  have := List.length_filter_le (fun b => es.contains (x, b)) (List.range n)
  rwa [List.length_range] at this
theorem ww_le {es : E} {n : Nat} (hn : n ≤ 16) : ∀ (k a b : Nat), ww es n (k + 1) a b ≤ 16 ^ k
  | 0, a, b => by
    show sm (fun x => if a = x then 1 else 0) (aheadV es n b) ≤ 1
    rw [sm_one a _ (nodup_ahead es n b)]
    split <;> omega
  | k + 1, a, b => by
    show sm (fun x => ww es n (k + 1) a x) (aheadV es n b) ≤ 16 ^ (k + 1)
    refine Nat.le_trans (sm_le fun x _ => ww_le hn k a x) ?_
    rw [Nat.pow_succ, Nat.mul_comm]
    exact Nat.mul_le_mul_left _ (Nat.le_trans (ahead_len es n b) hn)
theorem paths_le {es : E} {n a b : Nat} (hl : Low es n) (ht : Tree es) (hn : n ≤ 16) : pathsV es n a b ≤ 1152921504606846976 := by
  have h : pathsV es n a b ≤ n * 16 ^ 14 := sumTo_le fun k hk => by
    cases k with
    | zero =>
      show (if a = b then 1 else 0) ≤ 16 ^ 14
      split <;> decide
    | succ k =>
      cases hr : rk es (k + 1) a b with
      | false => rw [ww_none hl hr]; exact Nat.zero_le _
      | true =>
        have := tree_lt hl ht hr
        exact Nat.le_trans (ww_le hn k a b) (Nat.pow_le_pow_right (by decide) (by omega))
  have h2 : n * 16 ^ 14 ≤ 16 * 16 ^ 14 := Nat.mul_le_mul_right _ hn
  exact Nat.le_trans h (Nat.le_trans h2 (by decide))
end Go.Proofs.YtkfopjhgkbbkiaaDoor.To
/-
  What the functions of package topo answer, over signed numbers; what the laws ask of that.
-/
namespace Go.Proofs.YtkfopjhgkbbkiaaDoor.To
open Gr
def okI (n : Int) (es : EI) : Bool := goodV n es && (orderV (nat es) n.toNat).isSome
def orderI (n : Int) (es : EI) : Option (List Int) := if goodV n es then (orderV (nat es) n.toNat).map ints else none
def levelsI (n : Int) (es : EI) : Option (List Int) := if okI n es then some (ints ((List.range n.toNat).map (lev (nat es) n.toNat))) else none
def pathsI (n : Int) (es : EI) (a b : Int) : Option Nat := if okI n es && decide (0 ≤ a ∧ a < n ∧ 0 ≤ b ∧ b < n) then some (pathsV (nat es) n.toNat a.toNat b.toNat) else none
def longI (n : Int) (es : EI) : Int := if okI n es then (longV (nat es) n.toNat : Int) else 0
/-- The node at place i is one, stands nowhere ahead, and all that it wants does. -/
def placeI (n : Int) (es : EI) (l : List Int) (i : Nat) : Bool := decide (0 ≤ l.getD i 0 ∧ l.getD i 0 < n) && !(l.take i).contains (l.getD i 0) && (aheadI n es (l.getD i 0)).all fun a => (l.take i).contains a
def isI (n : Int) (es : EI) (l : List Int) : Bool := okI n es && decide ((l.length : Int) = n) && (List.range l.length).all (placeI n es l)
theorem okI_iff {n : Int} {es : EI} : okI n es = true ↔ Gr.Good n es ∧ Tree (nat es) := by
  unfold okI
  rw [Bool.and_eq_true, goodV_iff]
  constructor
  · rintro ⟨h, h2⟩
    obtain ⟨o, ho⟩ := Option.isSome_iff_exists.1 h2
    exact ⟨h, order_tree h.low ho⟩
  · rintro ⟨h, h2⟩
    obtain ⟨o, ho, _⟩ := order_some h.low h2
    exact ⟨h, by rw [ho]; rfl⟩
theorem orderI_some (n : Int) (es : EI) : (orderI n es).isSome = okI n es := by
  unfold orderI okI
  cases goodV n es with
  | false => rfl
  | true => simp
theorem levelsI_some (n : Int) (es : EI) : (levelsI n es).isSome = okI n es := by
  unfold levelsI
  cases okI n es with
  | false => rfl
  | true => rfl
theorem orderI_bad {n : Int} {es : EI} (h : goodV n es = false) : orderI n es = none := by unfold orderI; rw [h]; rfl
theorem orderI_no {n : Int} {es : EI} (h : okI n es = false) : orderI n es = none := by
  have := orderI_some n es
  rw [h] at this
  exact Option.not_isSome_iff_eq_none.1 (by rw [this]; simp)
theorem levelsI_no {n : Int} {es : EI} (h : okI n es = false) : levelsI n es = none := by unfold levelsI; rw [h]; rfl
theorem levelsI_yes {n : Int} {es : EI} (h : okI n es = true) : levelsI n es = some (ints ((List.range n.toNat).map (lev (nat es) n.toNat))) := by unfold levelsI; rw [h]; rfl
theorem orderI_yes {n : Int} {es : EI} (h : okI n es = true) : ∃ o, orderV (nat es) n.toNat = some o ∧ orderI n es = some (ints o) ∧ Ord (nat es) n.toNat o ∧ o.length = n.toNat := by
  obtain ⟨h1, h2⟩ := okI_iff.1 h
  obtain ⟨o, h3, h4, h5⟩ := order_some h1.low h2
  exact ⟨o, h3, by unfold orderI; rw [goodV_iff.2 h1, h3]; rfl, h4, h5⟩
theorem pathsI_yes {n : Int} {es : EI} {a b : Int} (h : okI n es = true) (hr : 0 ≤ a ∧ a < n ∧ 0 ≤ b ∧ b < n) : pathsI n es a b = some (pathsV (nat es) n.toNat a.toNat b.toNat) := by
  unfold pathsI; rw [h, decide_eq_true hr]; rfl
theorem pathsI_no {n : Int} {es : EI} {a b : Int} (h : okI n es = false) : pathsI n es a b = none := by unfold pathsI; rw [h]; rfl
theorem pathsI_out {n : Int} {es : EI} {a b : Int} (h : ¬ (0 ≤ a ∧ a < n ∧ 0 ≤ b ∧ b < n)) : pathsI n es a b = none := by unfold pathsI; rw [decide_eq_false h, Bool.and_false]; rfl
theorem pathsI_some {n : Int} {es : EI} {a b : Int} {p : Nat} (h : pathsI n es a b = some p) : okI n es = true ∧ (0 ≤ a ∧ a < n ∧ 0 ≤ b ∧ b < n) ∧ p = pathsV (nat es) n.toNat a.toNat b.toNat := by
  by_cases h1 : okI n es = true
  · by_cases h2 : 0 ≤ a ∧ a < n ∧ 0 ≤ b ∧ b < n
    · rw [pathsI_yes h1 h2] at h
      injection h with h
      exact ⟨h1, h2, h.symm⟩
    · rw [pathsI_out h2] at h; cases h
  · rw [pathsI_no (by simpa using h1)] at h; cases h
/-! ### What TopoOrders asks -/
theorem ok_cycle {n : Int} {es : EI} (h : Gr.Good n es) : okI n es = (cycleI n es).isEmpty := by
  rw [Bool.eq_iff_iff, okI_iff, cycleI_nil h]
  exact ⟨fun x => x.2, fun x => ⟨h, x⟩⟩
theorem ints_getD (l : List Nat) (i : Nat) : (ints l).getD i 0 = ((l.getD i 0 : Nat) : Int) := ints_get l i
theorem ints_take (l : List Nat) (i : Nat) : (ints l).take i = ints (l.take i) := by unfold ints; rw [List.map_take]
theorem good_nn {n : Int} {es : EI} (h : Gr.Good n es) : ((n.toNat : Nat) : Int) = n := Int.toNat_of_nonneg h.n0
theorem is_order {n : Int} {es : EI} {o : List Nat} (h : okI n es = true) (ho : Ord (nat es) n.toNat o) (hn : o.length = n.toNat) : isI n es (ints o) = true := by
  obtain ⟨hg, ht⟩ := okI_iff.1 h
  have hN := good_nn hg
  unfold isI
  rw [h, decide_eq_true (by rw [ints_len, hn]; exact hN), Bool.true_and, Bool.true_and, List.all_eq_true]
  intro i hi
  rw [List.mem_range, ints_len] at hi
  have hm : o.getD i 0 ∈ o := by rw [List.getD_eq_getElem?_getD, List.getElem?_eq_getElem hi]; exact List.getElem_mem hi
  have hlo := ho.low _ hm
  unfold placeI
  rw [ints_getD, ints_take]
  rw [decide_eq_true ⟨by omega, by omega⟩, Bool.true_and, ints_contains, Bool.and_eq_true]
  constructor
  · rw [Bool.not_eq_true', decide_eq_false]
    intro hx
    obtain ⟨j, hj, e⟩ := List.getElem_of_mem hx
    rw [List.length_take] at hj
    rw [List.getElem_take] at e
    have e2 : o[j] = o[i] := by rw [e, List.getD_eq_getElem?_getD, List.getElem?_eq_getElem hi]; rfl
    have e3 : o.idxOf o[j] = o.idxOf o[i] := by rw [e2]
    rw [ho.once.idxOf_getElem, ho.once.idxOf_getElem] at e3
    omega
  · rw [List.all_eq_true]
    intro a ha
    rw [show n = ((n.toNat : Nat) : Int) from hN.symm] at ha
    have hg2 : Gr.Good ((n.toNat : Nat) : Int) es := by rw [hN]; exact hg
    rw [aheadI_eq hg2] at ha
    obtain ⟨z, hz, rfl⟩ := List.mem_map.1 ha
    show (ints (o.take i)).contains ((z : Nat) : Int) = true
    rw [ints_contains, decide_eq_true_eq]
    exact ho.behind i hi z ((mem_ahead hg.low).1 hz)
theorem lev_get {n : Int} (es : EI) {k : Nat} (hk : k < n.toNat) : (ints ((List.range n.toNat).map (lev (nat es) n.toNat))).getD k 0 = (lev (nat es) n.toNat k : Int) := by
  rw [ints_getD, List.getD_eq_getElem?_getD, List.getElem?_map, List.getElem?_range hk]
  rfl
theorem lev_len (n : Int) (es : EI) : (ints ((List.range n.toNat).map (lev (nat es) n.toNat))).length = n.toNat := by rw [ints_len, List.length_map, List.length_range]
/-! ### What TopoLong asks -/
theorem shortI_ok {n : Int} {es : EI} (h : okI n es = true) : okI n (shortI n es) = true ∧ nat (shortI n es) = shortV (nat es) n.toNat := by
  obtain ⟨hg, ht⟩ := okI_iff.1 h
  rw [shortI_tree hg ht]
  have hs : nat (es.filter (keepI n es)) = shortV (nat es) n.toNat := hg.short ht
  refine ⟨okI_iff.2 ⟨hg.sub List.filter_sublist, ?_⟩, hs⟩
  rw [hs]
  exact ht.sub short_sub
theorem long_shortI {n : Int} {es : EI} (h : okI n es = true) : longI n (shortI n es) = longI n es := by
  obtain ⟨hg, ht⟩ := okI_iff.1 h
  obtain ⟨h1, h2⟩ := shortI_ok h
  unfold longI
  rw [h, h1, h2, long_short hg.low ht]
theorem longI_yes {n : Int} {es : EI} (h : okI n es = true) : longI n es = (mx (lev (nat es) n.toNat) (List.range n.toNat) : Nat) := by unfold longI; rw [h]; rfl
theorem longI_no {n : Int} {es : EI} (h : okI n es = false) : longI n es = 0 := by unfold longI; rw [h]; rfl
theorem long_nil {n : Int} (hn : n.toNat ≠ 0) : mx (lev (nat []) n.toNat) (List.range n.toNat) = 1 := by
  refine eq_of_le fun j => ?_
  rw [mx_le]
  constructor
  · rintro (h | ⟨a, _, h⟩)
    · omega
    · rw [show nat [] = [] from rfl, lev_nil] at h; omega
  · intro h
    rcases Nat.eq_zero_or_pos j with h0 | h0
    · exact .inl h0
    · exact .inr ⟨0, by simp; omega, by omega⟩
end Go.Proofs.YtkfopjhgkbbkiaaDoor.To
/-
  Slices of edges (arrays of two ints): one that came in, and rows of the call's own, appended to, kept, read. The element's type is open (the program's Edge, or the array itself).
-/
namespace Go.Proofs.YtkfopjhgkbbkiaaDoor
open Go.RowKit
def inE (e : Int × Int) : Prop := inI e.1 ∧ inI e.2
/-- The slice at address A whose elements are the edges es, below block B. -/
def Edg (w : World) (B : Nat) (A : Option Addr) (es : List (Int × Int)) : Prop :=
  (∀ i, i < es.length → inE (es.getD i (0, 0))) ∧
  (0 < es.length → ∃ b off, A = some ⟨b, off, none⟩ ∧ b < B ∧ ∀ i, i < es.length → w.cell? ⟨b, off + i * 2, none⟩ = some (.int .i64 (es.getD i (0, 0)).1) ∧ w.cell? ⟨b, off + i * 2 + 1, none⟩ = some (.int .i64 (es.getD i (0, 0)).2))
theorem Edg.at_ {w : World} {B : Nat} {A : Option Addr} {es : List (Int × Int)} {k : Nat} (h : Edg w B A es) (hk : k < es.length) :
    ∃ b off x y, A = some ⟨b, off, none⟩ ∧ Hid (b < B) ∧ w.cell? ⟨b, off + k * 2, none⟩ = some (.int .i64 x) ∧ w.cell? ⟨b, off + k * 2 + 1, none⟩ = some (.int .i64 y) ∧ Hid (es.getD k (0, 0) = (x, y)) ∧ (-9223372036854775808 ≤ x ∧ x ≤ 9223372036854775807) ∧ -9223372036854775808 ≤ y ∧ y ≤ 9223372036854775807 := by
  obtain ⟨b, off, e, hb, hc⟩ := h.2 (by omega)
  exact ⟨b, off, _, _, e, Lib.hid hb, (hc k hk).1, (hc k hk).2, Lib.hid rfl, (h.1 k hk).1, (h.1 k hk).2⟩
theorem Edg.nil_ {w : World} {B : Nat} {A : Option Addr} : Edg w B A [] := ⟨fun i h => by simp at h, fun h => by simp at h⟩
theorem Edg.below {w w' : World} {B : Nat} {A : Option Addr} {es : List (Int × Int)} (h : Edg w B A es) (hb : Below B w w') : Edg w' B A es :=
  ⟨h.1, fun hn => by
    obtain ⟨b, off, e, hl, hc⟩ := h.2 hn
    exact ⟨b, off, e, hl, fun i hi => ⟨(hb.cell (p := ⟨b, _, none⟩) hl).trans (hc i hi).1, (hb.cell (p := ⟨b, _, none⟩) hl).trans (hc i hi).2⟩⟩⟩
theorem Edg.more {w : World} {B B' : Nat} {A : Option Addr} {es : List (Int × Int)} (h : Edg w B A es) (hB : B ≤ B') : Edg w B' A es :=
  ⟨h.1, fun hn => by
    obtain ⟨b, off, e, hb, hc⟩ := h.2 hn
    exact ⟨b, off, e, by omega, hc⟩⟩
theorem Edg.on {w w' : World} {A : Option Addr} {es : List (Int × Int)} (h : Edg w w.heap.size A es) (hb : Below w.heap.size w w') : Edg w' w'.heap.size A es := (h.below hb).more hb.size
theorem Edg.rng {w : World} {B : Nat} {A : Option Addr} {es : List (Int × Int)} (h : Edg w B A es) : ∀ e ∈ es, inE e := fun e he => by
  obtain ⟨i, hi, e1⟩ := List.getElem_of_mem he
  have := h.1 i hi
  rw [List.getD_eq_getElem?_getD, List.getElem?_eq_getElem hi] at this
  rw [← e1]; exact this

/-! ### Rows of the call's own -/
def eds (es : List (Int × Int)) : List (List Value) := es.map fun e => [.int .i64 e.1, .int .i64 e.2]
theorem eds_len (es : List (Int × Int)) : (eds es).length = es.length := by simp [eds]
theorem eds_app (es fs : List (Int × Int)) : eds (es ++ fs) = eds es ++ eds fs := by simp [eds]
theorem eds_wide (es : List (Int × Int)) : Wide 2 (eds es) := fun v hv => by
  obtain ⟨e, _, rfl⟩ := List.mem_map.1 hv
  exact ⟨rfl, fun u hu => by simp at hu; rcases hu with rfl | rfl <;> rfl⟩
def OwnE (w : World) (base : Nat) (T : TypeId) (A : Option Addr) (cap : Nat) (es : List (Int × Int)) : Prop := OwnK w base T 2 A cap (eds es) ∧ ∀ e ∈ es, inE e
theorem OwnE.none_ (w : World) (base : Nat) (T : TypeId) : OwnE w base T none 0 [] := ⟨OwnK.none_ w base T 2, fun e h => by simp at h⟩
theorem OwnE.keep {w w' : World} {base : Nat} {T : TypeId} {A : Option Addr} {cap : Nat} {es : List (Int × Int)} (h : OwnE w base T A cap es) (hk : ∀ a, A = some a → w'.heap[a.block]? = w.heap[a.block]?) : OwnE w' base T A cap es := ⟨h.1.keep hk, h.2⟩
theorem OwnE.low {w : World} {base b : Nat} {T : TypeId} {A : Option Addr} {cap : Nat} {es : List (Int × Int)} (h : OwnE w base T A cap es) (hb : b ≤ base) : OwnE w b T A cap es := ⟨h.1.low hb, h.2⟩
theorem OwnE.lt {w : World} {base : Nat} {T : TypeId} {a : Addr} {cap : Nat} {es : List (Int × Int)} (h : OwnE w base T (some a) cap es) : base ≤ a.block ∧ a.block < w.heap.size := h.1.lt
theorem OwnE.grew {w w' : World} {base B : Nat} {T : TypeId} {A : Option Addr} {cap : Nat} {es : List (Int × Int)} (h : OwnE w base T A cap es) (hb : Below B w w') (hB : w.heap.size ≤ B) : OwnE w' base T A cap es := ⟨h.1.grew hb hB, h.2⟩
theorem OwnE.cap_ {w : World} {base : Nat} {T : TypeId} {A : Option Addr} {cap : Nat} {es : List (Int × Int)} (h : OwnE w base T A cap es) : es.length ≤ cap := by have := h.1.cap_; rwa [eds_len] at this
theorem OwnE.edg {w : World} {base : Nat} {T : TypeId} {A : Option Addr} {cap : Nat} {es : List (Int × Int)} (h : OwnE w base T A cap es) : Edg w w.heap.size A es := by
  have hr : ∀ i, i < es.length → inE (es.getD i (0, 0)) := fun i hi => by rw [List.getD_eq_getElem?_getD, List.getElem?_eq_getElem hi]; exact h.2 _ (List.getElem_mem hi)
  refine ⟨hr, fun hn => ?_⟩
  obtain ⟨g, rfl, hg, hg2⟩ := h.1.shape (by rw [eds_len]; exact hn)
  refine ⟨g, 0, rfl, hg2, fun i hi => ?_⟩
  have e : (eds es).getD i [] = [.int .i64 (es.getD i (0, 0)).1, .int .i64 (es.getD i (0, 0)).2] := by
    unfold eds
    rw [List.getD_eq_getElem?_getD, List.getElem?_map, List.getD_eq_getElem?_getD, List.getElem?_eq_getElem hi]
    rfl
  have c0 := h.1.cell (i := i) (j := 0) (u := .int .i64 (es.getD i (0, 0)).1) (by rw [eds_len]; exact hi) (by decide) (by rw [e]; rfl)
  have c1 := h.1.cell (i := i) (j := 1) (u := .int .i64 (es.getD i (0, 0)).2) (by rw [eds_len]; exact hi) (by decide) (by rw [e]; rfl)
  rw [Nat.zero_add]
  exact ⟨c0, c1⟩
/-- A block of another type is no such row. -/
theorem OwnE.ne {w : World} {base : Nat} {T : TypeId} {a : Addr} {cap : Nat} {es : List (Int × Int)} (h : OwnE w base T (some a) cap es) {g : Nat} {cs : Array Value} {t : TypeId} {fz : Nat × Nat} (ho : w.heap[g]? = some (.cells cs t fz)) (ht : t ≠ T) : a.block ≠ g := by
  rintro rfl
  rcases h.1.1.2 with ⟨e, _⟩ | ⟨g, c', cur, e, hb, hg, r⟩
  · cases e
  · injection e with e1 e2 e3
    injection e1 with e1
    subst e1
    rw [ho] at hg
    injection hg with hg
    injection hg with _ h2 _
    exact ht h2
theorem grownE_below {w w' : World} {base : Nat} {T : TypeId} {A : Option Addr} {cap n : Nat} {es : List (Int × Int)} (h : OwnE w base T A cap es) (hbase : base ≤ w.heap.size) (hg : w.grownBy w' (Value.slice A n cap).ownBlock) : Below base w w' :=
  (Below.refl _ _).grown hg hbase fun k hk => by
    cases A with
    | none => cases hk
    | some a => simp [Value.ownBlock] at hk; subst hk; exact h.lt.1
theorem run_appE {w : World} {base : Nat} {T ST : TypeId} {A : Option Addr} {cap : Nat} {es : List (Int × Int)} {x y : Int} (hST : Tryd.prog.underlying ST = some (.slice T))
    (hI : (Tryd.prog.info? T).map (fun i => (i.zero, i.size, i.bytes)) = some (some (.agg #[.int .i64 0, .int .i64 0]), 2, 16))
    (h : OwnE w base T A cap es) (hbase : base ≤ w.heap.size) {b2 : Nat} (hx : w.cell? ⟨b2, 0, none⟩ = some (.int .i64 x)) (hy : w.cell? ⟨b2, 1, none⟩ = some (.int .i64 y)) (hi : inE (x, y)) (c : Nat) (hlen : es.length ≤ 100000000) (ty : TypeId) :
    ∃ A' cap' w', (Builtin.append_ #[ST, ST] ty #[.slice A es.length cap, .slice (some ⟨b2, 0, none⟩) 1 c]).run Tryd.prog w = .ok (.slice A' (es.length + 1) cap') w' ∧
      OwnE w' base T A' cap' (es ++ [(x, y)]) ∧ w.grownBy w' (Value.slice A es.length cap).ownBlock := by
  have hl : (eds es).length = es.length := eds_len es
  obtain ⟨A', cap', w', hr, h1, h2, _⟩ := run_appK (us := eds [(x, y)]) hST hI rfl (by decide) (by decide) h.1 hbase (b2 := b2) (o2 := 0) (eds_wide _) (fun j u hu => by
    rw [Nat.zero_add]
    match j, hu with
    | 0, hu => simp [eds] at hu; rw [← hu]; exact hx
    | 1, hu => simp [eds] at hu; rw [← hu]; exact hy
    | j + 2, hu => simp [eds] at hu) c (by rw [hl]; simp [eds]; omega) ty
  rw [hl] at hr h2
  have e : (eds es ++ eds [(x, y)]).length = es.length + 1 := by rw [List.length_append, hl]; rfl
  rw [e] at hr
  refine ⟨A', cap', w', hr, ⟨by rw [eds_app]; exact h1, fun z hz => ?_⟩, h2⟩
  rcases List.mem_append.1 hz with hz | hz
  · exact h.2 z hz
  · simp at hz; subst hz; exact hi
theorem wp_appE {w : World} {ops : Array Oper} {rest : List Oper} {o : Oper} {a : Act} {Q : Exit → Act → World → Prop} (hgd : o.guard = none) (s t : Operand) {T ST : TypeId}
    (ho : o.op = .call { callee := .builtin .append, args := #[s, t], argTypes := #[ST, ST] })
    {base : Nat} {A : Option Addr} {n cap : Nat} {es : List (Int × Int)} {x y : Int} (hST : Tryd.prog.underlying ST = some (.slice T))
    (hI : (Tryd.prog.info? T).map (fun i => (i.zero, i.size, i.bytes)) = some (some (.agg #[.int .i64 0, .int .i64 0]), 2, 16))
    (hs : a.eval s = .slice A n cap) (hn : n = es.length) (h : OwnE w base T A cap es) (hbase : base ≤ w.heap.size)
    {b2 c : Nat} (ht : a.eval t = .slice (some ⟨b2, 0, none⟩) 1 c) (hx : w.cell? ⟨b2, 0, none⟩ = some (.int .i64 x)) (hy : w.cell? ⟨b2, 1, none⟩ = some (.int .i64 y)) (hi : inE (x, y)) (hlen : es.length ≤ 100000000)
    (K : ∀ A' cap' w', OwnE w' base T A' cap' (es ++ [(x, y)]) → w.grownBy w' (Value.slice A es.length cap).ownBlock → wpList Tryd.prog ops Q rest (a.put o.dst (.slice A' (es.length + 1) cap')) w') :
    wpList Tryd.prog ops Q (o :: rest) a w := by
  subst hn
  obtain ⟨A', cap', w', hrun, h1, h2⟩ := run_appE hST hI h hbase hx hy hi c hlen o.type
  refine wpList_plain hgd fun K' hK => ?_
  unfold Oper.wp
  simp [execOp, ho, resolve, invoke, builtin, hs, ht, hrun, Result.andThen]
  exact hK _ _ (K A' cap' w' h1 h2)
theorem OwnE.set {w : World} {base : Nat} {T : TypeId} {A : Option Addr} {cap : Nat} {es : List (Int × Int)} (h : OwnE w base T A cap es) {g : Nat} {cs : Array Value} {t : TypeId} {fz : Nat × Nat} (ho : w.heap[g]? = some (.cells cs t fz)) (ht : t ≠ T) (o : Nat) (v : Value) : OwnE (w.setCell ⟨g, o, none⟩ v) base T A cap es :=
  h.keep fun a ha => by subst ha; exact Below.heap_setCell _ _ _ _ (h.ne ho ht)
theorem OwnE.set2 {w : World} {base : Nat} {T : TypeId} {A : Option Addr} {cap : Nat} {es : List (Int × Int)} (h : OwnE w base T A cap es) {g : Nat} {x y : Value} {t : TypeId} (ho : w.heap[g]? = some (.cells #[x, y] t (0, 0))) (ht : t ≠ T) (a b : Value) :
    OwnE ((w.setCell ⟨g, 0, none⟩ a).setCell ⟨g, 1, none⟩ b) base T A cap es :=
  (h.set ho ht 0 a).set (cs := #[a, y]) (fz := (0, 0)) (heap_setCell_same w g 0 _ _ _ ho) ht 1 b
/-- A literal row, full. -/
theorem OwnE.lit {w : World} {T : TypeId} (es : List (Int × Int)) (he : ∀ e ∈ es, inE e) (hv : es.length ≤ 1000000) (cs : Array Value) (hc : cs.toList = (eds es).flatten) : OwnE (w.alloc (.cells cs T)) w.heap.size T (some ⟨w.heap.size, 0, none⟩) es.length es := by
  have := OwnK.lit (w := w) (T := T) (eds es) (eds_wide es) (by rw [eds_len]; omega) cs hc
  rw [eds_len] at this
  exact ⟨this, he⟩
theorem edge_info : (Tryd.prog.info? 41).map (fun i => (i.zero, i.size, i.bytes)) = some (some (.agg #[.int .i64 0, .int .i64 0]), 2, 16) := by kernel_rfl
theorem arr2_info : (Tryd.prog.info? 40).map (fun i => (i.zero, i.size, i.bytes)) = some (some (.agg #[.int .i64 0, .int .i64 0]), 2, 16) := by kernel_rfl
/-- What lies in a boxed struct of two cells. -/
theorem obG {w : World} {g : Nat} {x y : Value} {t : TypeId} (h : w.heap[g]? = some (.cells #[x, y] t (0, 0))) :
    (w.cell? ⟨g, 0, none⟩ = some x ∧ w.cell? ⟨g, 1, none⟩ = some y) ∧ (w.frozen? ⟨g, 0, none⟩ = false ∧ w.frozen? ⟨g, 1, none⟩ = false) :=
  ⟨⟨by simp [World.cell?, h], by simp [World.cell?, h]⟩, ⟨by simp [World.frozen?, h], by simp [World.frozen?, h]⟩⟩
def BoolG (w : World) (b : Bool) (e : Ending) (w' : World) : Prop := e = .returned (.bool b) ∧ Hid (Below w.heap.size w w')
end Go.Proofs.YtkfopjhgkbbkiaaDoor
/-
  Two answers at once.
-/
namespace Go.Proofs.YtkfopjhgkbbkiaaDoor
open Go.RowKit
/-- A row of ints and whether there is one. -/
def OptG (w : World) (o : Option (List Int)) (e : Ending) (w' : World) : Prop :=
  ∃ A cap, e = .returned (.tuple #[.slice A (o.getD []).length cap, .bool o.isSome]) ∧ Hid ((o.getD []).length ≤ cap) ∧ Hid (Zs w' w'.heap.size A (o.getD [])) ∧ Hid (Below w.heap.size w w')
/-- A number and whether there is one. -/
def NumG (w : World) (o : Option Nat) (e : Ending) (w' : World) : Prop := e = .returned (.tuple #[.int .u64 ((o.getD 0 : Nat) : Int), .bool o.isSome]) ∧ Hid (Below w.heap.size w w')
theorem Zs.take {w : World} {B : Nat} {A : Option Addr} {zs : List Int} (h : Zs w B A zs) (k : Nat) : Zs w B A (zs.take k) := by
  have hg : ∀ i, i < (zs.take k).length → (zs.take k).getD i 0 = zs.getD i 0 := fun i hi => by
    rw [List.length_take] at hi
    rw [List.getD_eq_getElem?_getD, List.getD_eq_getElem?_getD, List.getElem?_take_of_lt (by omega)]
  refine ⟨fun i hi => ?_, fun hn => ?_⟩
  · rw [hg i hi]; rw [List.length_take] at hi; exact h.1 i (by omega)
  · rw [List.length_take] at hn
    obtain ⟨b, off, e, hb, hc⟩ := h.2 (by omega)
    refine ⟨b, off, e, hb, fun i hi => ?_⟩
    rw [hg i hi]; rw [List.length_take] at hi; exact hc i (by omega)
theorem take_at {zs : List Int} {k : Nat} {z : Int} (hk : k < zs.length) (hz : zs.getD k 0 = z) : zs.take (k + 1) = zs.take k ++ [z] := by
  rw [List.take_succ_eq_append_getElem hk]
  rw [List.getD_eq_getElem?_getD, List.getElem?_eq_getElem hk] at hz
  rw [← hz]; rfl
theorem mem_at {zs : List Int} {k : Nat} {z : Int} (hk : k < zs.length) (hz : zs.getD k 0 = z) : z ∈ zs := by
  rw [List.getD_eq_getElem?_getD, List.getElem?_eq_getElem hk] at hz
  rw [← hz]; exact List.getElem_mem hk
end Go.Proofs.YtkfopjhgkbbkiaaDoor
