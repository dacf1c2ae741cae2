/-
  Part 11 of the texts behind the law: GrKit.
-/
import Derived.Test.YtpaolgjgonghlaaDoorRn1
import Derived.Deep.RegionHeld3
/-
  Answers that are a number, a row of ints; an append to a row of ints as a step of a region.
-/
namespace Go.Proofs.YtpaolgjgonghlaaDoor
open Go.RowKit
def IntG (w : World) (v : Int) (e : Ending) (w' : World) : Prop := e = .returned (.int .i64 v) ∧ Hid (Below w.heap.size w w')
/-- A list of numbers handed back: a row of the call's own. -/
def ListG (w : World) (l : List Int) (e : Ending) (w' : World) : Prop :=
  ∃ A' cap', e = .returned (.slice A' l.length cap') ∧ Hid (OwnZ w' w.heap.size A' cap' l) ∧ Hid (Below w.heap.size w w')
theorem ListG.zs {w w' : World} {l : List Int} {A : Option Addr} {cap : Nat} (h : OwnZ w' w.heap.size A cap l) : Zs w' w'.heap.size A l := h.zs
theorem cell_lit (w : World) (v : Value) (t : TypeId) : (w.alloc (.cells #[v] t)).cell? ⟨w.heap.size, 0, none⟩ = some v := by
  rw [World.cell?_alloc_new]; rfl
theorem cell_litN {w : World} {v : Value} {t : TypeId} {n : Nat} (hn : n = w.heap.size) : (w.alloc (.cells #[v] t)).cell? ⟨n, 0, none⟩ = some v := by
  rw [hn]; exact cell_lit w v t
theorem step_appZ {w : World} {ops : Array Oper} {o : Oper} {a : Act} {K : Act → World → Prop} {Q : Exit → Act → World → Prop} {E : Prop} (hgd : o.guard = none) (s t : Operand)
    (ho : o.op = .call { callee := .builtin .append, args := #[s, t], argTypes := #[46, 46] })
    {base : Nat} {A : Option Addr} {n cap : Nat} {zs : List Int} {x : Int} (hs : a.eval s = .slice A n cap) (hn : n = zs.length) (h : OwnZ w base A cap zs) (hbase : base ≤ w.heap.size)
    {b2 c : Nat} (ht : a.eval t = .slice (some ⟨b2, 0, none⟩) 1 c) (hx : w.cell? ⟨b2, 0, none⟩ = some (.int .i64 x)) (hxi : inI x) (hlen : zs.length ≤ 1000000000)
    (H : ∀ A' cap' w', OwnZ w' base A' cap' (zs ++ [x]) → w.grownBy w' (Value.slice A zs.length cap).ownBlock → K (a.put o.dst (.slice A' (zs.length + 1) cap')) w') :
    if Region.wanted o (yielded ops a.tmps) = true then Oper.wp Tryd.prog o a w K Q else E := by
  have hw : Region.wanted o (yielded ops a.tmps) = true := by simp [Region.wanted, hgd]
  rw [if_pos hw]
  subst hn
  obtain ⟨A', cap', w', hrun, h1, h2⟩ := run_appZ h hbase hx hxi c hlen o.type
  unfold Oper.wp
  simp [execOp, ho, resolve, invoke, builtin, hs, ht, hrun, Result.andThen]
  exact H A' cap' w' h1 h2
/-- As run_appZ; and the old slice still reads as it did. -/
theorem run_appZ4 {w : World} {base : Nat} {A : Option Addr} {cap : Nat} {zs : List Int} {x : Int} (h : OwnZ w base A cap zs) (hbase : base ≤ w.heap.size) {b2 : Nat} (hx : w.cell? ⟨b2, 0, none⟩ = some (.int .i64 x)) (hxi : inI x) (c : Nat) (hlen : zs.length ≤ 1000000000) (ty : TypeId) :
    ∃ A' cap' w', (Builtin.append_ #[46, 46] ty #[.slice A zs.length cap, .slice (some ⟨b2, 0, none⟩) 1 c]).run Tryd.prog w = .ok (.slice A' (zs ++ [x]).length cap') w' ∧
      OwnZ w' base A' cap' (zs ++ [x]) ∧ w.grownBy w' (Value.slice A zs.length cap).ownBlock ∧ OwnZ w' base A cap zs := by
  obtain ⟨A', cap', w', hrun, hown, hg⟩ := run_appZ h hbase hx hxi c hlen ty
  refine ⟨A', cap', w', hrun, hown, hg, ?_⟩
  obtain ⟨i, hi, hz0, hs, hyb⟩ := info_parts int_info
  have hnews : ∀ j u, [Value.int .i64 x][j]? = some u → w.cell? ((⟨b2, 0, none⟩ : Addr).add j) = some u := fun j u hu => by
    rw [add_off, Nat.zero_add]
    match j, hu with
    | 0, hu => simp at hu; rw [← hu]; exact hx
    | j + 1, hu => simp at hu
  have h1 : ∀ u ∈ [Value.int .i64 x], u.oneCell' = true := fun u hu => by
    simp at hu
    subst hu; rfl
  have hold := h.1
  have hl := hold.1
  rcases hold.2 with ⟨e, e0⟩ | ⟨g, c', cur, e, hbg, hgg, hnc, hcm, hcs, ht⟩
  · injection e with e1 e2 e3
    have : zs = [] := List.eq_nil_of_length_eq_zero e2
    subst e1; subst e3; subst this
    exact OwnZ.none_ _ _
  · injection e with e1 e2 e3
    subst e1; subst e3
    by_cases hroom : zs.length + 1 ≤ cap
    · have hr := run_append_room (P := Tryd.prog) w 46 ty 3 i Tryd.underlying46 hi g zs.length cap cur hgg ⟨b2, 0, none⟩ 1 c [.int .i64 x] (by rw [hs]; rfl) hnews h1 hroom (by rw [hs, hcs]; simp; omega)
      rw [hr] at hrun
      injection hrun with _ hw'
      subst hw'
      refine ⟨⟨hl, .inr ⟨g, cap, _, rfl, hbg, setRow_heap w g cur _ 3 _ hgg, hnc, hcm, ?_, ?_⟩⟩, h.2⟩
      · simp only [List.size_toArray, List.length_append, List.length_take, List.length_drop, Array.length_toList, hs, List.length_cons, List.length_nil, hcs]
        omega
      · rw [hs, ht, List.append_assoc, ← hl]
        exact List.take_left
    · have hr := run_append_grow (P := Tryd.prog) w 46 ty 3 i _ Tryd.underlying46 hi hz0 ⟨g, 0, none⟩ zs.length cap _ (by rw [hs]; exact hl) (World.ownsRow.cells hold rfl) ⟨b2, 0, none⟩ 1 c [.int .i64 x] (by rw [hs]; rfl) hnews (by omega) (by unfold maxLen at hcm; omega) (growslice_fits (by omega) (by
        rw [hyb]
        omega))
      rw [hr] at hrun
      injection hrun with _ hw'
      subst hw'
      exact h.keep fun a ha => heap_alloc_old w.drew _ (by cases ha; exact h.lt.2)
theorem step_appZ4 {w : World} {ops : Array Oper} {o : Oper} {a : Act} {K : Act → World → Prop} {Q : Exit → Act → World → Prop} {E : Prop} (hgd : o.guard = none) (s t : Operand)
    (ho : o.op = .call { callee := .builtin .append, args := #[s, t], argTypes := #[46, 46] })
    {base : Nat} {A : Option Addr} {n cap : Nat} {zs : List Int} {x : Int} (hs : a.eval s = .slice A n cap) (hn : n = zs.length) (h : OwnZ w base A cap zs) (hbase : base ≤ w.heap.size)
    {b2 c : Nat} (ht : a.eval t = .slice (some ⟨b2, 0, none⟩) 1 c) (hx : w.cell? ⟨b2, 0, none⟩ = some (.int .i64 x)) (hxi : inI x) (hlen : zs.length ≤ 1000000000)
    (H : ∀ A' cap' w', OwnZ w' base A' cap' (zs ++ [x]) → w.grownBy w' (Value.slice A zs.length cap).ownBlock → OwnZ w' base A cap zs → K (a.put o.dst (.slice A' (zs.length + 1) cap')) w') :
    if Region.wanted o (yielded ops a.tmps) = true then Oper.wp Tryd.prog o a w K Q else E := by
  have hw : Region.wanted o (yielded ops a.tmps) = true := by simp [Region.wanted, hgd]
  rw [if_pos hw]
  subst hn
  obtain ⟨A', cap', w', hrun, h1, h2, h3⟩ := run_appZ4 h hbase hx hxi c hlen o.type
  unfold Oper.wp
  simp [execOp, ho, resolve, invoke, builtin, hs, ht, hrun, Result.andThen]
  exact H A' cap' w' h1 h2 h3
def lenZ : Value → Nat
  | .slice _ n _ => n
  | _ => 0
end Go.Proofs.YtpaolgjgonghlaaDoor
