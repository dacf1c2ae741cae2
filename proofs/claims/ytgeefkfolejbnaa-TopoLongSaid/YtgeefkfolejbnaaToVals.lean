/-
  What the functions of package topo answer, over signed numbers; what the laws ask of that.
-/
import Derived.Test.YtgeefkfolejbnaaGrVals
import Derived.Test.YtgeefkfolejbnaaGrLawsP
import Derived.Test.YtgeefkfolejbnaaToCount
namespace Go.Proofs.Ytgeefkfolejbnaa.To
open Gr
def okI (n : Int) (es : EI) : Bool := goodV n es && (orderV (nat es) n.toNat).isSome
def orderI (n : Int) (es : EI) : Option (List Int) := if goodV n es then (orderV (nat es) n.toNat).map ints else none
def levelsI (n : Int) (es : EI) : Option (List Int) := if okI n es then some (ints ((List.range n.toNat).map (lev (nat es) n.toNat))) else none
def pathsI (n : Int) (es : EI) (a b : Int) : Option Nat := if okI n es && decide (0 ≤ a ∧ a < n ∧ 0 ≤ b ∧ b < n) then some (pathsV (nat es) n.toNat a.toNat b.toNat) else none
def longI (n : Int) (es : EI) : Int := if okI n es then (longV (nat es) n.toNat : Int) else 0
/-- The node at place i is one, stands nowhere ahead, and all that it wants does. -/
def placeI (n : Int) (es : EI) (l : List Int) (i : Nat) : Bool := decide (0 ≤ l.getD i 0 ∧ l.getD i 0 < n) && !(l.take i).contains (l.getD i 0) && (aheadI n es (l.getD i 0)).all fun a => (l.take i).contains a
def isI (n : Int) (es : EI) (l : List Int) : Bool := okI n es && decide ((l.length : Int) = n) && (List.range l.length).all (placeI n es l)
theorem okI_iff {n : Int} {es : EI} : okI n es = true ↔ Gr.Good n es ∧ Tree (nat es) := by
  unfold okI
  rw [Bool.and_eq_true, goodV_iff]
  constructor
  · rintro ⟨h, h2⟩
    obtain ⟨o, ho⟩ := Option.isSome_iff_exists.1 h2
    exact ⟨h, order_tree h.low ho⟩
  · rintro ⟨h, h2⟩
    obtain ⟨o, ho, _⟩ := order_some h.low h2
    exact ⟨h, by rw [ho]; rfl⟩
theorem orderI_some (n : Int) (es : EI) : (orderI n es).isSome = okI n es := by
  unfold orderI okI
  cases goodV n es with
  | false => rfl
  | true => simp
theorem levelsI_some (n : Int) (es : EI) : (levelsI n es).isSome = okI n es := by
  unfold levelsI
  cases okI n es with
  | false => rfl
  | true => rfl
theorem orderI_bad {n : Int} {es : EI} (h : goodV n es = false) : orderI n es = none := by unfold orderI; rw [h]; rfl
theorem orderI_no {n : Int} {es : EI} (h : okI n es = false) : orderI n es = none := by
  have := orderI_some n es
  rw [h] at this
  exact Option.not_isSome_iff_eq_none.1 (by rw [this]; simp)
theorem levelsI_no {n : Int} {es : EI} (h : okI n es = false) : levelsI n es = none := by unfold levelsI; rw [h]; rfl
theorem levelsI_yes {n : Int} {es : EI} (h : okI n es = true) : levelsI n es = some (ints ((List.range n.toNat).map (lev (nat es) n.toNat))) := by unfold levelsI; rw [h]; rfl
theorem orderI_yes {n : Int} {es : EI} (h : okI n es = true) : ∃ o, orderV (nat es) n.toNat = some o ∧ orderI n es = some (ints o) ∧ Ord (nat es) n.toNat o ∧ o.length = n.toNat := by
  obtain ⟨h1, h2⟩ := okI_iff.1 h
  obtain ⟨o, h3, h4, h5⟩ := order_some h1.low h2
  exact ⟨o, h3, by unfold orderI; rw [goodV_iff.2 h1, h3]; rfl, h4, h5⟩
theorem pathsI_yes {n : Int} {es : EI} {a b : Int} (h : okI n es = true) (hr : 0 ≤ a ∧ a < n ∧ 0 ≤ b ∧ b < n) : pathsI n es a b = some (pathsV (nat es) n.toNat a.toNat b.toNat) := by
  unfold pathsI; rw [h, decide_eq_true hr]; rfl
theorem pathsI_no {n : Int} {es : EI} {a b : Int} (h : okI n es = false) : pathsI n es a b = none := by unfold pathsI; rw [h]; rfl
theorem pathsI_out {n : Int} {es : EI} {a b : Int} (h : ¬ (0 ≤ a ∧ a < n ∧ 0 ≤ b ∧ b < n)) : pathsI n es a b = none := by unfold pathsI; rw [decide_eq_false h, Bool.and_false]; rfl
theorem pathsI_some {n : Int} {es : EI} {a b : Int} {p : Nat} (h : pathsI n es a b = some p) : okI n es = true ∧ (0 ≤ a ∧ a < n ∧ 0 ≤ b ∧ b < n) ∧ p = pathsV (nat es) n.toNat a.toNat b.toNat := by
  by_cases h1 : okI n es = true
  · by_cases h2 : 0 ≤ a ∧ a < n ∧ 0 ≤ b ∧ b < n
    · rw [pathsI_yes h1 h2] at h
      injection h with h
      exact ⟨h1, h2, h.symm⟩
    · rw [pathsI_out h2] at h; cases h
  · rw [pathsI_no (by simpa using h1)] at h; cases h
/-! ### What TopoOrders asks -/
theorem ok_cycle {n : Int} {es : EI} (h : Gr.Good n es) : okI n es = (cycleI n es).isEmpty := by
  rw [Bool.eq_iff_iff, okI_iff, cycleI_nil h]
  exact ⟨fun x => x.2, fun x => ⟨h, x⟩⟩
theorem ints_getD (l : List Nat) (i : Nat) : (ints l).getD i 0 = ((l.getD i 0 : Nat) : Int) := ints_get l i
theorem ints_take (l : List Nat) (i : Nat) : (ints l).take i = ints (l.take i) := by unfold ints; rw [List.map_take]
theorem good_nn {n : Int} {es : EI} (h : Gr.Good n es) : ((n.toNat : Nat) : Int) = n := Int.toNat_of_nonneg h.n0
theorem is_order {n : Int} {es : EI} {o : List Nat} (h : okI n es = true) (ho : Ord (nat es) n.toNat o) (hn : o.length = n.toNat) : isI n es (ints o) = true := by
  obtain ⟨hg, ht⟩ := okI_iff.1 h
  have hN := good_nn hg
  unfold isI
  rw [h, decide_eq_true (by rw [ints_len, hn]; exact hN), Bool.true_and, Bool.true_and, List.all_eq_true]
  intro i hi
  rw [List.mem_range, ints_len] at hi
  have hm : o.getD i 0 ∈ o := by rw [List.getD_eq_getElem?_getD, List.getElem?_eq_getElem hi]; exact List.getElem_mem hi
  have hlo := ho.low _ hm
  unfold placeI
  rw [ints_getD, ints_take]
  rw [decide_eq_true ⟨by omega, by omega⟩, Bool.true_and, ints_contains, Bool.and_eq_true]
  constructor
  · rw [Bool.not_eq_true', decide_eq_false]
    intro hx
    obtain ⟨j, hj, e⟩ := List.getElem_of_mem hx
    rw [List.length_take] at hj
    rw [List.getElem_take] at e
    have e2 : o[j] = o[i] := by rw [e, List.getD_eq_getElem?_getD, List.getElem?_eq_getElem hi]; rfl
    have e3 : o.idxOf o[j] = o.idxOf o[i] := by rw [e2]
    rw [ho.once.idxOf_getElem, ho.once.idxOf_getElem] at e3
    omega
  · rw [List.all_eq_true]
    intro a ha
    rw [show n = ((n.toNat : Nat) : Int) from hN.symm] at ha
    have hg2 : Gr.Good ((n.toNat : Nat) : Int) es := by rw [hN]; exact hg
    rw [aheadI_eq hg2] at ha
    obtain ⟨z, hz, rfl⟩ := List.mem_map.1 ha
    show (ints (o.take i)).contains ((z : Nat) : Int) = true
    rw [ints_contains, decide_eq_true_eq]
    exact ho.behind i hi z ((mem_ahead hg.low).1 hz)
theorem lev_get {n : Int} (es : EI) {k : Nat} (hk : k < n.toNat) : (ints ((List.range n.toNat).map (lev (nat es) n.toNat))).getD k 0 = (lev (nat es) n.toNat k : Int) := by
  rw [ints_getD, List.getD_eq_getElem?_getD, List.getElem?_map, List.getElem?_range hk]
  rfl
theorem lev_len (n : Int) (es : EI) : (ints ((List.range n.toNat).map (lev (nat es) n.toNat))).length = n.toNat := by rw [ints_len, List.length_map, List.length_range]
/-! ### What TopoLong asks -/
theorem shortI_ok {n : Int} {es : EI} (h : okI n es = true) : okI n (shortI n es) = true ∧ nat (shortI n es) = shortV (nat es) n.toNat := by
  obtain ⟨hg, ht⟩ := okI_iff.1 h
  rw [shortI_tree hg ht]
  have hs : nat (es.filter (keepI n es)) = shortV (nat es) n.toNat := hg.short ht
  refine ⟨okI_iff.2 ⟨hg.sub List.filter_sublist, ?_⟩, hs⟩
  rw [hs]
  exact ht.sub short_sub
theorem long_shortI {n : Int} {es : EI} (h : okI n es = true) : longI n (shortI n es) = longI n es := by
  obtain ⟨hg, ht⟩ := okI_iff.1 h
  obtain ⟨h1, h2⟩ := shortI_ok h
  unfold longI
  rw [h, h1, h2, long_short hg.low ht]
theorem longI_yes {n : Int} {es : EI} (h : okI n es = true) : longI n es = (mx (lev (nat es) n.toNat) (List.range n.toNat) : Nat) := by unfold longI; rw [h]; rfl
theorem longI_no {n : Int} {es : EI} (h : okI n es = false) : longI n es = 0 := by unfold longI; rw [h]; rfl
theorem long_nil {n : Int} (hn : n.toNat ≠ 0) : mx (lev (nat []) n.toNat) (List.range n.toNat) = 1 := by
  refine eq_of_le fun j => ?_
  rw [mx_le]
  constructor
  · rintro (h | ⟨a, _, h⟩)
    · omega
    · rw [show nat [] = [] from rfl, lev_nil] at h; omega
  · intro h
    rcases Nat.eq_zero_or_pos j with h0 | h0
    · exact .inl h0
    · exact .inr ⟨0, by simp; omega, by omega⟩
end Go.Proofs.Ytgeefkfolejbnaa.To
