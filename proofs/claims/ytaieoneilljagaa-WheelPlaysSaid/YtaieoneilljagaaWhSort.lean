/-
  slices.SortFunc on the program's own row of timers, by its order.
-/
import Derived.Test.YtaieoneilljagaaWhOrder
import Derived.Test.YtaieoneilljagaaSortFLay
import Derived.Test.YtaieoneilljagaaKRows
namespace Go.Proofs.Ytaieoneilljagaa
open Go.RowKit
set_option maxRecDepth 20000
instance : Inhabited Wh.T := ⟨⟨0, 0, 0⟩⟩
theorem isAgg_due (w : World) : (isAgg 56).run Try.prog w = .ok true w := by kernel_rfl
theorem sizeOf_due (w : World) : (Go.sizeOf 56).run Try.prog w = .ok 3 w := by kernel_rfl
theorem encT_len (x : Wh.T) : (encT x).length = 3 := rfl
theorem encT_one (x : Wh.T) : ∀ v ∈ encT x, v.oneCell' = true := fun v hv => by
  simp [encT] at hv
  rcases hv with rfl | rfl | rfl <;> rfl
theorem ltW (x y : Wh.T) : ltOf cfW x y = Wh.less x y := by
  unfold ltOf
  rw [Bool.eq_iff_iff, decide_eq_true_eq]
  exact cfW_less x y
theorem Wh.less_irr (x : Wh.T) : Wh.less x x = false := by
  cases h : Wh.less x x with
  | false => rfl
  | true => have := Wh.less_iff.1 h; omega
theorem Wh.less_asym {x y : Wh.T} (h : Wh.less x y = true) : Wh.less y x = false := by
  cases k : Wh.less y x with
  | false => rfl
  | true => have h1 := Wh.less_iff.1 h; have h2 := Wh.less_iff.1 k; omega
theorem swoW : Sort.SWO (ltOf cfW) where
  irrefl x := by rw [ltW]; exact Wh.less_irr x
  trans x y z h1 h2 := by rw [ltW] at *; exact Wh.less_trans h1 h2
  ntrans x y z h1 h2 := by
    rw [ltW] at *
    cases k : Wh.less x z with
    | false => rfl
    | true =>
      rcases Wh.less_or h1 with h3 | rfl
      · exact absurd (Wh.less_trans h3 k) (by rw [h2]; simp)
      · rw [h2] at k; cases k
theorem totW (x y : Wh.T) (h1 : ltOf cfW x y = false) (h2 : ltOf cfW y x = false) : x = y := by
  rw [ltW] at *
  rcases Wh.less_or h1 with h3 | h3
  · rw [h3] at h2; cases h2
  · exact h3
/-- The list in order. -/
def Wh.sort (l : List Wh.T) : List Wh.T := l.mergeSort fun x y => !Wh.less y x
theorem Wh.sort_perm (l : List Wh.T) : (Wh.sort l).Perm l := List.mergeSort_perm l _
theorem Wh.sort_len (l : List Wh.T) : (Wh.sort l).length = l.length := (Wh.sort_perm l).length_eq
theorem Wh.sort_pair (l : List Wh.T) : (Wh.sort l).Pairwise fun x y => Wh.less y x = false := by
  have := List.pairwise_mergeSort (le := fun x y : Wh.T => !Wh.less y x) (fun a b c h1 h2 => by
    simp at *
    have := swoW.ntrans c b a (by rw [ltW]; exact h2) (by rw [ltW]; exact h1)
    rwa [ltW] at this) (fun a b => by
    cases h : Wh.less b a with
    | false => rfl
    | true => simp [Wh.less_asym h]) l
  exact this.imp fun h => by simpa using h
/-- One order alone: a list that stands in order, with the same timers. -/
theorem Wh.sort_eq : ∀ {l l' : List Wh.T}, (l.Pairwise fun x y => Wh.less y x = false) → (l'.Pairwise fun x y => Wh.less x y = true) → l.Perm l' → l = l'
  | l, [], _, _, hp => List.Perm.eq_nil hp
  | [], a :: r, _, _, hp => absurd hp.symm.eq_nil (by simp)
  | b :: q, a :: r, h, h', hp => by
    obtain ⟨h1, h2⟩ := List.pairwise_cons.1 h
    obtain ⟨k1, k2⟩ := List.pairwise_cons.1 h'
    have e : b = a := by
      rcases List.mem_cons.1 (hp.mem_iff.1 (List.mem_cons_self (a := b) (l := q))) with e | hb
      · exact e
      · have hlt := k1 b hb
        rcases List.mem_cons.1 (hp.mem_iff.2 (List.mem_cons_self (a := a) (l := r))) with e | ha
        · exact e.symm
        · rw [h1 a ha] at hlt; cases hlt
    subst e
    rw [Wh.sort_eq h2 k2 (List.Perm.cons_inv hp)]
/-- What a sort leaves of the other blocks. -/
theorem sortK_frame {α : Type} [Inhabited α] (enc : α → List Value) (k : Nat) (w : World) (blk off n : Nat) (d : Array α) (os : Array Obj) :
    (sortWorldK enc k w blk off n d os).os = w.os ∧ (sortWorldK enc k w blk off n d os).tape = w.tape ∧ (sortWorldK enc k w blk off n d os).output = w.output ∧ w.heap.size ≤ (sortWorldK enc k w blk off n d os).heap.size ∧ ∀ i, i < w.heap.size → i ≠ blk → (sortWorldK enc k w blk off n d os).heap[i]? = w.heap[i]? := by
  refine ⟨rfl, rfl, rfl, size_sortWorldK_c .., fun i hi hne => ?_⟩
  unfold sortWorldK Sort.grow Sort.putRowK Sort.putRow Sort.mapBlock
  simp only
  rw [Array.getElem?_append_left (by simpa using hi), Array.getElem?_modify, if_neg (Ne.symm hne)]
  rfl
theorem cmpLaysW (blk off size : Nat) (w : World) : CmpLays Try.prog 23 #[] encT 3 cfW blk off size w := fun _ _ _ _ x y => order_any x y _
theorem OwnK.holdsT {w : World} {base g cap : Nat} {T : TypeId} {l : List Wh.T} (h : OwnK w base T 3 (some ⟨g, 0, none⟩) cap (l.map encT)) : Sort.HoldsK encT 3 w g 0 l.toArray := fun j hj => by
  rw [Sort.size_flatK] at hj
  have hj' : j < l.length * 3 := by simpa using hj
  rw [Sort.get_flatK _ _ _ _ hj]
  have hi : j / 3 < l.length := by omega
  have hfz : w.frozen? ⟨g, 0 + j, none⟩ = false := by
    rcases h.1.2 with ⟨e1, _⟩ | ⟨g', c', cur, e1, hb, hg, _⟩
    · cases e1
    · injection e1 with e1 e2 e3
      injection e1 with e1
      injection e1 with e1
      subst e1
      simp [World.frozen?, hg]
  refine ⟨?_, hfz⟩
  have hc := h.cell (i := j / 3) (j := j % 3) (by simpa using hi) (Nat.mod_lt _ (by decide)) (u := (encT l[j / 3])[j % 3]'(by rw [encT_len]; exact Nat.mod_lt _ (by decide))) (by
    rw [List.getD_eq_getElem?_getD, List.getElem?_map, List.getElem?_eq_getElem hi]
    exact List.getElem?_eq_getElem _)
  rw [show j / 3 * 3 + j % 3 = 0 + j by omega] at hc
  rw [hc]
  have e : (l.toArray[j / 3]! : Wh.T) = l[j / 3] := by
    rw [getElem!_pos _ _ (by simpa using hi)]; simp
  rw [e]
  congr 1
  exact (getElem!_pos _ _ _).symm
theorem duesT {w : World} {g : Nat} {O : Nat → Prop} {l : List Wh.T} (hok : ∀ a ∈ l, a.ok) (hO : O g) (hg : g < w.heap.size) (h : Sort.HoldsK encT 3 w g 0 l.toArray) : Dues w O (some ⟨g, 0, none⟩) l := by
  refine ⟨hok, fun _ => ⟨g, 0, rfl, hO, hg, fun i hi => ?_⟩⟩
  have e : (l.toArray[i]! : Wh.T) = l[i] := by
    rw [getElem!_pos _ _ (by simpa using hi)]; simp
  have h0 := (h.cell (i := i) (c := 0) (by simpa using hi) (by decide)).1
  have h1 := (h.cell (i := i) (c := 1) (by simpa using hi) (by decide)).1
  have h2 := (h.cell (i := i) (c := 2) (by simpa using hi) (by decide)).1
  rw [e] at h0 h1 h2
  exact ⟨h0, h1, h2⟩
def SortPost (w : World) (base : Nat) (A : Option Addr) (l : List Wh.T) (e : Ending) (w' : World) : Prop :=
  e = .returned (.tuple #[]) ∧ Hid (Dues w' (fun b => base ≤ b) A (Wh.sort l)) ∧ Hid (Below base w w')
theorem sortF_any (A : Option Addr) (cap : Nat) (l : List Wh.T) (base : Nat) (w : World) (h : OwnK w base 56 3 A cap (l.map encT)) (hok : ∀ a ∈ l, a.ok) (hbase : base ≤ w.heap.size) (hl : l.length ≤ 1000000) :
    Calls Try.prog 22 #[.slice A l.length cap, .func (.func 23) #[] #[]] w (SortPost w base A l) := by
  rcases Nat.eq_zero_or_pos l.length with h0 | h0
  · obtain rfl := List.eq_nil_of_length_eq_zero h0
    refine (AnyF.slices_SortFunc_none Try.sortD A cap _ w).mono ?_
    rintro e w' ⟨h1, rfl⟩
    exact ⟨h1, Lib.hid (by rw [show Wh.sort [] = [] by simp [Wh.sort]]; exact Dues.nil_), Lib.hid (Below.refl _ _)⟩
  · obtain ⟨g, rfl, hb, hg⟩ := OwnK.shape h (by simpa using h0)
    have eg : ∀ args w, (callFunc 23 args).run Try.prog w = .ok (.enter 23 args) w := enters_of Try.func23 (by kernel_rfl) rfl
    have hcon := AnyQ.slices_SortFunc_total Try.sortD 3 isAgg_due sizeOf_due encT encT_len encT_one cfW swoW 23 #[] g 0 cap l.toArray w eg (cmpLaysW g 0 _ w) h.holdsT hg (by simp; omega) totW
    rw [List.size_toArray] at hcon
    refine hcon.mono ?_
    rintro e w' ⟨h1, n, os, rfl⟩
    have es : (l.toArray.toList.mergeSort fun x y => !ltOf cfW y x) = Wh.sort l := by
      unfold Wh.sort
      congr 1
      funext x y
      rw [ltW]
    rw [es]
    obtain ⟨f1, f2, f3, f4, f5⟩ := sortK_frame encT 3 w g 0 n (Wh.sort l).toArray os
    refine ⟨h1, Lib.hid (duesT (fun a ha => hok a ((Wh.sort_perm l).mem_iff.1 ha)) hb (Nat.lt_of_lt_of_le hg f4) ?_), Lib.hid ⟨f1, f2, f3, f4, fun k hk => f5 k (by omega) (by omega)⟩⟩
    exact holdsK_sortWorldK_c encT 3 w g 0 l.toArray _ n os h.holdsT hg (by simp [Wh.sort_len])
end Go.Proofs.Ytaieoneilljagaa
