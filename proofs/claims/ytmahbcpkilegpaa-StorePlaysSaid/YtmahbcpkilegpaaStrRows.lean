/-
  Rows of strings of the call's own, grown by append.
-/
import Derived.Test.YtmahbcpkilegpaaRowsKit
namespace Go.Proofs.Ytmahbcpkilegpaa
open Go.RowKit

def OwnT (w : World) (base : Nat) (A : Option Addr) (cap : Nat) (ss : List ByteArray) : Prop := w.ownsRow base 9 1 (.slice A ss.length cap) ss.length (ss.map Value.string)
theorem txt_info : (Try.prog.info? 9).map (fun i => (i.zero, i.size, i.bytes)) = some (some (.string ⟨#[]⟩), 1, 16) := by kernel_rfl
theorem form_ofT {w : World} {base n : Nat} {v : Value} {xs : List Value} (h : w.ownsRow base 9 1 v n xs) : ∃ A cap, v = .slice A n cap := by
  rcases h.2 with ⟨e, e0⟩ | ⟨g, c', _, e, _⟩
  · exact ⟨none, 0, by rw [e0]; exact e⟩
  · exact ⟨_, _, e⟩
theorem run_appT {w : World} {base : Nat} {A : Option Addr} {cap : Nat} {ss : List ByteArray} {x : ByteArray} (h : OwnT w base A cap ss) (hbase : base ≤ w.heap.size) {b2 : Nat} (hx : w.cell? ⟨b2, 0, none⟩ = some (.string x)) (c : Nat) (hlen : ss.length ≤ 1000000000) (ty : TypeId) :
    ∃ A' cap' w', (Builtin.append_ #[32, 32] ty #[.slice A ss.length cap, .slice (some ⟨b2, 0, none⟩) 1 c]).run Try.prog w = .ok (.slice A' (ss ++ [x]).length cap') w' ∧
      OwnT w' base A' cap' (ss ++ [x]) ∧ w.grownBy w' (Value.slice A ss.length cap).ownBlock := by
  obtain ⟨i, hi, hz0, hs, hyb⟩ := info_parts txt_info
  obtain ⟨v', w', hrun, hown, hg, _, _⟩ := run_append_own_at (P := Try.prog) (w := w) base 32 ty 9 i _ 1 16 Try.underlying32 hi hz0 hs hyb rfl (by decide)
    _ ss.length _ h ⟨b2, 0, none⟩ 1 c [.string x] rfl (fun j u hu => by
      rw [add_off, Nat.zero_add]
      match j, hu with
      | 0, hu => simp at hu; rw [← hu]; exact hx
      | j + 1, hu => simp at hu) (fun u hu => by simp at hu; subst hu; rfl) (by unfold maxLen; omega) (by omega) hbase
  obtain ⟨A', cap', rfl⟩ := form_ofT hown
  have e : ss.length + 1 = (ss ++ [x]).length := by simp
  rw [e] at hrun hown
  refine ⟨A', cap', w', hrun, ?_, hg⟩
  unfold OwnT
  rw [List.map_append]
  exact hown
theorem wp_appT {w : World} {ops : Array Oper} {rest : List Oper} {o : Oper} {a : Act} {Q : Exit → Act → World → Prop} (hgd : o.guard = none) (s t : Operand)
    (ho : o.op = .call { callee := .builtin .append, args := #[s, t], argTypes := #[32, 32] })
    {base : Nat} {A : Option Addr} {n cap : Nat} {ss : List ByteArray} {x : ByteArray} (hs : a.eval s = .slice A n cap) (hn : n = ss.length) (h : OwnT w base A cap ss) (hbase : base ≤ w.heap.size)
    {b2 c : Nat} (ht : a.eval t = .slice (some ⟨b2, 0, none⟩) 1 c) (hx : w.cell? ⟨b2, 0, none⟩ = some (.string x)) (hlen : ss.length ≤ 1000000000)
    (K : ∀ A' cap' w', OwnT w' base A' cap' (ss ++ [x]) → w.grownBy w' (Value.slice A ss.length cap).ownBlock → wpList Try.prog ops Q rest (a.put o.dst (.slice A' (ss ++ [x]).length cap')) w') :
    wpList Try.prog ops Q (o :: rest) a w := by
  subst hn
  obtain ⟨A', cap', w', hrun, h1, h2⟩ := run_appT h hbase hx c hlen o.type
  refine wpList_plain hgd fun K' hK => ?_
  unfold Oper.wp
  simp [execOp, ho, resolve, invoke, builtin, hs, ht, hrun, Result.andThen]
  have hk := K A' cap' w' h1 h2
  rw [List.length_append, List.length_singleton] at hk
  exact hK _ _ hk
theorem OwnT.none_ (w : World) (base : Nat) : OwnT w base none 0 [] := World.ownsRow_nil w base _ _
theorem OwnT.keep {w w' : World} {base : Nat} {A : Option Addr} {cap : Nat} {ss : List ByteArray} (h : OwnT w base A cap ss) (hb : Below w.heap.size w w') : OwnT w' base A cap ss := by
  refine ⟨h.1, ?_⟩
  rcases h.2 with e | ⟨g, c', cur, e, hb2, hg, r⟩
  · exact .inl e
  · exact .inr ⟨g, _, cur, e, hb2, (hb.block g (lt_of_block hg)).trans hg, r⟩
theorem grownT_below {w w' : World} {base : Nat} {A : Option Addr} {cap n : Nat} {ss : List ByteArray} (h : OwnT w base A cap ss) (hbase : base ≤ w.heap.size) (hg : w.grownBy w' (Value.slice A n cap).ownBlock) : Below base w w' :=
  (Below.refl _ _).grown hg hbase fun k hk => by
    cases A with
    | none => cases hk
    | some a => simp [Value.ownBlock] at hk; subst hk; exact (World.ownsRow.lt h a.block (by simp [Value.ownBlock])).1
theorem OwnT.strs {w : World} {base : Nat} {A : Option Addr} {cap : Nat} {ss : List ByteArray} (h : OwnT w base A cap ss) (hs : ∀ s ∈ ss, s.size ≤ 9223372036854775807) : Strs w w.heap.size A ss := by
  refine ⟨fun i hi => ?_, fun hp => ?_⟩
  · rw [List.getD_eq_getElem?_getD, List.getElem?_eq_getElem hi]; exact hs _ (List.getElem_mem hi)
  · obtain ⟨g, c, e⟩ := Joins.ownsRow_form h hp
    injection e with e1 e2 e3
    subst e1 e3
    refine ⟨g, 0, rfl, (World.ownsRow.lt h g (by simp [Value.ownBlock])).2, fun i hi => ?_⟩
    have hc := World.ownsRow.cellAt h i (by omega)
    rw [Nat.zero_add, hc, List.getElem?_map, List.getElem?_eq_getElem hi, List.getD_eq_getElem?_getD, List.getElem?_eq_getElem hi]
    rfl
theorem OwnT.start (w : World) (base : Nat) (hb : base ≤ w.heap.size) : OwnT (w.alloc (.cells #[] 9)) base (some ⟨w.heap.size, 0, none⟩) 0 [] := World.ownsRow_lit w #[] 0 hb (by decide) rfl
set_option maxRecDepth 20000 in
theorem nil_srcT {w : World} {base : Nat} {A : Option Addr} {cap : Nat} {ss : List ByteArray} (h : OwnT w base A cap ss) (c : Nat) (ty : TypeId) :
    (Builtin.append_ #[32, 32] ty #[.slice A ss.length cap, .slice none 0 c]).run Try.prog w = .ok (.slice A ss.length cap) w := by
  obtain ⟨i, hi, _, _, _⟩ := info_parts txt_info
  have hfit := h.2
  rcases hfit with ⟨e, _⟩ | ⟨g, c', cur, e, _, _, hle, _⟩
  · rw [e]
    simp [Builtin.append_, run_underlying Try.underlying32, sizeOf, typeInfo, hi, Builtin.lenOf, Builtin.firstCells]
  · rw [e]
    simp [Builtin.append_, run_underlying Try.underlying32, sizeOf, typeInfo, hi, Builtin.lenOf, Builtin.firstCells, hle, storeCells]
set_option maxRecDepth 20000 in
theorem run_appTs {w : World} {base : Nat} {A : Option Addr} {cap : Nat} {ss ts : List ByteArray} (h : OwnT w base A cap ss) (hbase : base ≤ w.heap.size) {B : Nat} {A2 : Option Addr} (hx : Strs w B A2 ts) (c : Nat) (hlen : ss.length + ts.length ≤ 1000000000) (ty : TypeId) :
    ∃ A' cap' w', (Builtin.append_ #[32, 32] ty #[.slice A ss.length cap, .slice A2 ts.length c]).run Try.prog w = .ok (.slice A' (ss ++ ts).length cap') w' ∧
      OwnT w' base A' cap' (ss ++ ts) ∧ w.grownBy w' (Value.slice A ss.length cap).ownBlock := by
  obtain ⟨i, hi, hz0, hs, hyb⟩ := info_parts txt_info
  rcases A2 with _ | ad
  · have h0 : ts = [] := by
      rcases Nat.eq_zero_or_pos ts.length with h0 | h0
      · exact List.eq_nil_of_length_eq_zero h0
      · obtain ⟨_, _, e, _⟩ := hx.2 h0; cases e
    subst h0
    refine ⟨A, cap, w, ?_, ?_, ⟨rfl, rfl, rfl, Nat.le_refl _, fun _ _ _ => rfl⟩⟩
    · rw [List.append_nil]; exact nil_srcT h c ty
    · rw [List.append_nil]; exact h
  · have hnews : ∀ j u, (ts.map Value.string)[j]? = some u → w.cell? (ad.add j) = some u := fun j u hu => by
      rw [List.getElem?_map] at hu
      obtain ⟨z, hz1, rfl⟩ := Option.map_eq_some_iff.1 hu
      have hj : j < ts.length := (List.getElem?_eq_some_iff.1 hz1).1
      obtain ⟨b, off, e, _, hc⟩ := hx.2 (by omega)
      injection e with e
      subst e
      rw [add_off, hc j hj, List.getD_eq_getElem?_getD, hz1]
      rfl
    obtain ⟨v', w', hrun, hown, hg, _, _⟩ := run_append_own_at (P := Try.prog) (w := w) base 32 ty 9 i _ 1 16 Try.underlying32 hi hz0 hs hyb rfl (by decide)
      _ ss.length _ h ad ts.length c (ts.map Value.string) (by simp) hnews (fun u hu => by simp at hu; obtain ⟨z, _, rfl⟩ := hu; rfl) (by unfold maxLen; omega) (by omega) hbase
    obtain ⟨A', cap', rfl⟩ := form_ofT hown
    rw [← List.length_append] at hrun hown
    refine ⟨A', cap', w', hrun, ?_, hg⟩
    unfold OwnT
    rw [List.map_append]
    exact hown
set_option maxRecDepth 20000 in
theorem wp_appTs {w : World} {ops : Array Oper} {rest : List Oper} {o : Oper} {a : Act} {Q : Exit → Act → World → Prop} (hgd : o.guard = none) (s t : Operand)
    (ho : o.op = .call { callee := .builtin .append, args := #[s, t], argTypes := #[32, 32] })
    {base : Nat} {A : Option Addr} {n cap : Nat} {ss : List ByteArray} (hs : a.eval s = .slice A n cap) (hn : n = ss.length) (h : OwnT w base A cap ss) (hbase : base ≤ w.heap.size)
    {B : Nat} {A2 : Option Addr} {m c : Nat} {ts : List ByteArray} (ht : a.eval t = .slice A2 m c) (hm : m = ts.length) (hx : Strs w B A2 ts) (hlen : ss.length + ts.length ≤ 1000000000)
    (K : ∀ A' cap' w', OwnT w' base A' cap' (ss ++ ts) → w.grownBy w' (Value.slice A ss.length cap).ownBlock → wpList Try.prog ops Q rest (a.put o.dst (.slice A' (ss ++ ts).length cap')) w') :
    wpList Try.prog ops Q (o :: rest) a w := by
  subst hn hm
  obtain ⟨A', cap', w', hrun, h1, h2⟩ := run_appTs h hbase hx c hlen o.type
  refine wpList_plain hgd fun K' hK => ?_
  unfold Oper.wp
  simp [execOp, ho, resolve, invoke, builtin, hs, ht, hrun, Result.andThen]
  have hk := K A' cap' w' h1 h2
  rw [List.length_append] at hk
  exact hK _ _ hk
end Go.Proofs.Ytmahbcpkilegpaa
