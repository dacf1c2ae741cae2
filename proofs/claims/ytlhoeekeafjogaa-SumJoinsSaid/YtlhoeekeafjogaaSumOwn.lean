/-
  Bytes cut in two; bytes appended onto a row of the call's own, whatever the source (nil and empty too); one byte of such a row stored.
-/
import Derived.Test.YtlhoeekeafjogaaSumAwake
import Derived.OwnWalk
import Derived.Laws.OwnMore
import Derived.Maps.AppendAt
import Derived.Lib.SmallJoins
import Derived.RegionTactic
namespace Go.Proofs.Ytlhoeekeafjogaa
open Go.RowKit

/-! ### A slice cut -/
def tailA (A : Option Addr) (cap k : Nat) : Option Addr := if cap = k then A else A.map (·.add k)
theorem size1 (W : World) : (sizeOf 5).run Try.prog W = .ok 1 W := by kernel_rfl
theorem elem30 : Try.prog.elem 30 = 5 := by kernel_rfl
theorem slice_to (A : Option Addr) (n cap k : Nat) (h : k ≤ cap) (W : World) :
    (Instr.slice 30 (.slice A n cap) none (some (.int .i64 (k : Int))) none).run Try.prog W = .ok (.slice A k cap) W := by
  rw [run_slice_h (P := Try.prog) (w := W) 30 A n cap Try.underlying30 .i64 k (by omega) (by omega), elem30, size1]
  simp [Result.andThen, sliced]
  intro _
  cases A <;> simp [Addr.add]
theorem slice_from (A : Option Addr) (n cap k : Nat) (h : k ≤ n) (W : World) :
    (Instr.slice 30 (.slice A n cap) (some (.int .i64 (k : Int))) none none).run Try.prog W = .ok (.slice (tailA A cap k) (n - k) (cap - k)) W := by
  rw [run_slice_l (P := Try.prog) (w := W) 30 A n cap Try.underlying30 .i64 k (by omega) (by omega), elem30, size1]
  simp [Result.andThen, sliced, tailA]
theorem Bytes.head {w : World} {B : Nat} {A : Option Addr} {zs : List Int} (h : Bytes w B A zs) (k : Nat) : Bytes w B A (zs.take k) := by
  have hg : ∀ i, i < (zs.take k).length → (zs.take k).getD i 0 = zs.getD i 0 ∧ i < zs.length := fun i hi => by
    simp at hi
    rw [List.getD_eq_getElem?_getD, List.getD_eq_getElem?_getD, List.getElem?_take_of_lt (by omega)]
    exact ⟨rfl, by omega⟩
  refine ⟨fun i hi => by rw [(hg i hi).1]; exact h.1 i (hg i hi).2, fun hn => ?_⟩
  obtain ⟨b, off, e, hb, hc⟩ := h.2 (by simp at hn; omega)
  exact ⟨b, off, e, hb, fun i hi => by rw [(hg i hi).1]; exact hc i (hg i hi).2⟩
theorem Bytes.tail {w : World} {B : Nat} {A : Option Addr} {zs : List Int} (h : Bytes w B A zs) (k cap : Nat) (hc : zs.length ≤ cap) : Bytes w B (tailA A cap k) (zs.drop k) := by
  have hg : ∀ i, i < (zs.drop k).length → (zs.drop k).getD i 0 = zs.getD (k + i) 0 ∧ k + i < zs.length := fun i hi => by
    simp at hi
    rw [List.getD_eq_getElem?_getD, List.getD_eq_getElem?_getD, List.getElem?_drop]
    exact ⟨rfl, by omega⟩
  refine ⟨fun i hi => by rw [(hg i hi).1]; exact h.1 _ (hg i hi).2, fun hn => ?_⟩
  have hk := (hg 0 hn).2
  obtain ⟨b, off, rfl, hb, hcell⟩ := h.2 (by omega)
  refine ⟨b, off + k, ?_, hb, fun i hi => ?_⟩
  · unfold tailA
    rw [if_neg (by omega)]
    show some (Addr.add ⟨b, off, none⟩ k) = _
    unfold Addr.add
    split
    · next h => subst h; rfl
    · rfl
  · rw [(hg i hi).1, Nat.add_assoc]
    exact hcell _ (hg i hi).2

/-! ### A row of the call's own -/
def OwnB (w : World) (base : Nat) (A : Option Addr) (cap : Nat) (zs : List Int) : Prop :=
  w.ownsRow base 5 1 (.slice A zs.length cap) zs.length (zs.map (Value.int .u8)) ∧ ∀ i, i < zs.length → 0 ≤ zs.getD i 0 ∧ zs.getD i 0 ≤ 255
theorem OwnB.bytes {w : World} {base : Nat} {A : Option Addr} {cap : Nat} {zs : List Int} (h : OwnB w base A cap zs) : Bytes w w.heap.size A zs := by
  refine ⟨h.2, fun hn => ?_⟩
  obtain ⟨g, c, e⟩ := Joins.ownsRow_form h.1 hn
  injection e with e1 e2 e3
  subst e1 e3
  have hlt := h.1.lt g (by simp [Value.ownBlock])
  refine ⟨g, 0, rfl, hlt.2, fun i hi => ?_⟩
  rw [Nat.zero_add, h.1.cellAt i (by omega)]
  simp [hi]
theorem OwnB.start (w : World) (base : Nat) (hb : base ≤ w.heap.size) : OwnB (w.alloc (.cells #[] 5)) base (some ⟨w.heap.size, 0, none⟩) 0 [] :=
  ⟨World.ownsRow_lit w #[] 0 hb (by decide) rfl, fun i hi => by simp at hi⟩
theorem u8_info : (Try.prog.info? 5).map (fun i => (i.zero, i.size, i.bytes)) = some (some (.int .u8 0), 1, 1) := by kernel_rfl
theorem nil_src {w : World} {base : Nat} {A : Option Addr} {cap : Nat} {zs : List Int} (h : OwnB w base A cap zs) (c : Nat) (ty : TypeId) :
    (Builtin.append_ #[30, 30] ty #[.slice A zs.length cap, .slice none 0 c]).run Try.prog w = .ok (.slice A zs.length cap) w := by
  obtain ⟨i, hi, _, _, _⟩ := info_parts u8_info
  have hfit := h.1.2
  rcases hfit with ⟨e, _⟩ | ⟨g, c', cur, e, _, _, hle, _⟩
  · rw [e]
    simp [Builtin.append_, run_underlying Try.underlying30, sizeOf, typeInfo, hi, Builtin.lenOf, Builtin.firstCells]
  · rw [e]
    simp [Builtin.append_, run_underlying Try.underlying30, sizeOf, typeInfo, hi, Builtin.lenOf, Builtin.firstCells, hle, storeCells]
/-- What an append of bytes onto a row of the call's own leaves: the row with the bytes behind it; below the row's base all is as it was. -/
theorem run_app {w : World} {base : Nat} {A : Option Addr} {cap : Nat} {xs : List Int} (h : OwnB w base A cap xs) (hbase : base ≤ w.heap.size)
    {B : Nat} {A2 : Option Addr} {zs : List Int} (hb : Bytes w B A2 zs) (c : Nat) (hlen : xs.length + zs.length ≤ 1073741824) (ty : TypeId) :
    ∃ A' cap' w', (Builtin.append_ #[30, 30] ty #[.slice A xs.length cap, .slice A2 zs.length c]).run Try.prog w = .ok (.slice A' (xs ++ zs).length cap') w' ∧
      OwnB w' base A' cap' (xs ++ zs) ∧ Below base w w' := by
  have rng : ∀ i, i < (xs ++ zs).length → 0 ≤ (xs ++ zs).getD i 0 ∧ (xs ++ zs).getD i 0 ≤ 255 := fun i hi => by
    rw [List.getD_eq_getElem?_getD]
    by_cases hx : i < xs.length
    · rw [List.getElem?_append_left hx, ← List.getD_eq_getElem?_getD]; exact h.2 i hx
    · rw [List.getElem?_append_right (by omega), ← List.getD_eq_getElem?_getD]
      rw [List.length_append] at hi
      exact hb.1 _ (by omega)
  obtain ⟨i, hi, hz, hs, hy⟩ := info_parts u8_info
  rcases A2 with _ | ad
  · have h0 : zs = [] := by
      rcases Nat.eq_zero_or_pos zs.length with h0 | h0
      · exact List.eq_nil_of_length_eq_zero h0
      · obtain ⟨_, _, e, _⟩ := hb.2 h0; cases e
    subst h0
    refine ⟨A, cap, w, ?_, ?_, Below.refl _ _⟩
    · rw [List.append_nil]; exact nil_src h c ty
    · rw [List.append_nil]; exact h
  · have hcells : ∀ j u, (zs.map (Value.int .u8))[j]? = some u → w.cell? (ad.add j) = some u := fun j u hu => by
      rw [List.getElem?_map] at hu
      obtain ⟨z, hz1, rfl⟩ := Option.map_eq_some_iff.1 hu
      have hj : j < zs.length := (List.getElem?_eq_some_iff.1 hz1).1
      obtain ⟨b, off, e, _, hc⟩ := hb.2 (by omega)
      injection e with e
      subst e
      have hadd : Addr.add ⟨b, off, none⟩ j = ⟨b, off + j, none⟩ := by
        unfold Addr.add
        split
        · next h => subst h; rfl
        · rfl
      rw [hadd, hc j hj, List.getD_eq_getElem?_getD, hz1]
      rfl
    obtain ⟨v', w', hrun, hown, hg, _, hblk⟩ := run_append_own_at (P := Try.prog) (w := w) base 30 ty 5 i _ 1 1 Try.underlying30 hi hz hs hy rfl (by decide)
      _ xs.length _ h.1 ad zs.length c (zs.map (Value.int .u8)) (by simp) hcells (fun u hu => by simp at hu; obtain ⟨z, _, rfl⟩ := hu; rfl) (by unfold maxLen; omega) (by omega) hbase
    have hform : ∃ A' cap', v' = .slice A' (xs ++ zs).length cap' := by
      rw [List.length_append]
      rcases hown.2 with ⟨e, e0⟩ | ⟨g, c', _, e, _⟩
      · exact ⟨none, 0, by rw [e0]; exact e⟩
      · exact ⟨_, _, e⟩
    obtain ⟨A', cap', rfl⟩ := hform
    refine ⟨A', cap', w', hrun, ⟨?_, rng⟩, ?_⟩
    · rw [List.map_append]
      rw [List.length_append]
      rw [List.length_append] at hown
      exact hown
    · refine (Below.refl _ _).grown hg hbase fun k hk => ?_
      exact (h.1.lt k hk).1
theorem wp_app {w : World} {ops : Array Oper} {rest : List Oper} {o : Oper} {a : Act} {Q : Exit → Act → World → Prop} (hgd : o.guard = none) (s x : Operand)
    (ho : o.op = .call { callee := .builtin .append, args := #[s, x], argTypes := #[30, 30] })
    {base : Nat} {A : Option Addr} {n cap : Nat} {xs : List Int} (hs : a.eval s = .slice A n cap) (hn : n = xs.length) (h : OwnB w base A cap xs) (hbase : base ≤ w.heap.size)
    {B : Nat} {A2 : Option Addr} {m c : Nat} {zs : List Int} (hx : a.eval x = .slice A2 m c) (hm : m = zs.length) (hb : Bytes w B A2 zs) (hlen : xs.length + zs.length ≤ 1073741824)
    (K : ∀ A' cap' w', OwnB w' base A' cap' (xs ++ zs) → Below base w w' → wpList Try.prog ops Q rest (a.put o.dst (.slice A' (xs ++ zs).length cap')) w') :
    wpList Try.prog ops Q (o :: rest) a w := by
  subst hn hm
  obtain ⟨A', cap', w', hrun, h1, h2⟩ := run_app h hbase hb c hlen o.type
  refine wpList_plain hgd fun K' hK => ?_
  unfold Oper.wp
  simp [execOp, ho, resolve, invoke, builtin, hs, hx, hrun, Result.andThen]
  have hk := K A' cap' w' h1 h2
  rw [List.length_append] at hk
  exact hK _ _ hk
/-- One byte of the row stored. -/
theorem OwnB.shape {w : World} {base : Nat} {A : Option Addr} {cap : Nat} {zs : List Int} (h : OwnB w base A cap zs) (hn : 0 < zs.length) : ∃ g, A = some ⟨g, 0, none⟩ ∧ base ≤ g ∧ g < w.heap.size := by
  obtain ⟨g, c, e⟩ := Joins.ownsRow_form h.1 hn
  injection e with e1 e2 e3
  subst e1 e3
  have hlt := h.1.lt g (by simp [Value.ownBlock])
  exact ⟨g, rfl, hlt.1, hlt.2⟩
theorem OwnB.cell {w : World} {base g cap : Nat} {zs : List Int} (h : OwnB w base (some ⟨g, 0, none⟩) cap zs) {j : Nat} (hj : j < zs.length) :
    w.cell? ⟨g, j, none⟩ = some (.int .u8 (zs.getD j 0)) ∧ w.frozen? ⟨g, j, none⟩ = false := by
  refine ⟨?_, h.1.frozenAt j⟩
  rw [h.1.cellAt j (by omega)]
  simp [hj]
theorem OwnB.stored {w : World} {base g cap : Nat} {zs : List Int} (h : OwnB w base (some ⟨g, 0, none⟩) cap zs) (j : Nat) (v : Int) (h0 : 0 ≤ v) (h1 : v ≤ 255) :
    OwnB (w.setCell ⟨g, j, none⟩ (.int .u8 v)) base (some ⟨g, 0, none⟩) cap (zs.set j v) := by
  have hs := h.1.stored j (.int .u8 v)
  refine ⟨?_, fun i hi => ?_⟩
  · rw [List.length_set, List.map_set]
    exact hs.1
  · rw [List.length_set] at hi
    rw [List.getD_eq_getElem?_getD, List.getElem?_set]
    split
    · next e =>
      subst e
      rw [if_pos hi]
      exact ⟨h0, h1⟩
    · rw [← List.getD_eq_getElem?_getD]; exact h.2 i hi
end Go.Proofs.Ytlhoeekeafjogaa
