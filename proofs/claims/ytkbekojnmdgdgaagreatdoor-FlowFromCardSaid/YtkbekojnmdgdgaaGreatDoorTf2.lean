/-
  Part 2 of the texts behind the law: TStrRows, TStrCells, TSixKit, TGrMap, TBoolRows, TKDelete, TBkDelay, TNameProg, TEightKit, TKyEq, TFieldsIn, TRowsIn, TSlicesIn.
-/
import Derived.Test.YtkbekojnmdgdgaaGreatDoorTf1
import Derived.Laws.MakeOwn
import Derived.Maps.OwnSet
import Derived.Maps.RangeWalk
import Derived.DeepKeys4
import Derived.Laws.IdiomCopy
import Derived.Laws.StructEq
import Derived.ProofKit
import Derived.OpenShut
import Derived.Deep.Slices
import Derived.ChangeSame
import Derived.Lib.SmallJoins
/- StrRows -/
namespace Go.Proofs.YtkbekojnmdgdgaaGreatDoor
open Go.RowKit
def OwnT (w : World) (base : Nat) (A : Option Addr) (cap : Nat) (ss : List ByteArray) : Prop := w.ownsRow base 9 1 (.slice A ss.length cap) ss.length (ss.map Value.string)
theorem txt_info : (Tryz.prog.info? 9).map (fun i => (i.zero, i.size, i.bytes)) = some (some (.string ⟨#[]⟩), 1, 16) := by kernel_rfl
theorem form_ofT {w : World} {base n : Nat} {v : Value} {xs : List Value} (h : w.ownsRow base 9 1 v n xs) : ∃ A cap, v = .slice A n cap := by
 rcases h.2 with ⟨e, e0⟩ | ⟨g, c', _, e, _⟩
 ·exact ⟨none, 0, by rw [e0]; exact e⟩
 ·exact ⟨_, _, e⟩
theorem run_appT {w : World} {base : Nat} {A : Option Addr} {cap : Nat} {ss : List ByteArray} {x : ByteArray} (h : OwnT w base A cap ss) (hbase : base ≤ w.heap.size) {b2 : Nat} (hx : w.cell? ⟨b2, 0, none⟩ = some (.string x)) (c : Nat) (hlen : ss.length ≤ 1000000000) (ty : TypeId) :
  ∃ A' cap' w', (Builtin.append_ #[39, 39] ty #[.slice A ss.length cap, .slice (some ⟨b2, 0, none⟩) 1 c]).run Tryz.prog w = .ok (.slice A' (ss ++ [x]).length cap') w' ∧
   OwnT w' base A' cap' (ss ++ [x]) ∧ w.grownBy w' (Value.slice A ss.length cap).ownBlock := by
 obtain ⟨i, hi, hz0, hs, hyb⟩ := info_parts txt_info
 obtain ⟨v', w', hrun, hown, hg, _, _⟩ := run_append_own_at (P := Tryz.prog) (w := w) base 39 ty 9 i _ 1 16 Tryz.underlying39 hi hz0 hs hyb rfl (by decide)
  _ ss.length _ h ⟨b2, 0, none⟩ 1 c [.string x] rfl (fun j u hu => by
   rw [add_off, Nat.zero_add]
   match j, hu with
   | 0, hu => simp at hu; rw [← hu]; exact hx
   | j + 1, hu => simp at hu) (fun u hu => by simp at hu; subst hu; rfl) (by unfold maxLen; omega) (by omega) hbase
 obtain ⟨A', cap', rfl⟩ := form_ofT hown
 have e : ss.length + 1 = (ss ++ [x]).length := by simp
 rw [e] at hrun hown
 refine ⟨A', cap', w', hrun, ?_, hg⟩
 unfold OwnT
 rw [List.map_append]
 exact hown
theorem wp_appT {w : World} {ops : Array Oper} {rest : List Oper} {o : Oper} {a : Act} {Q : Exit → Act → World → Prop} (hgd : o.guard = none) (s t : Operand)
  (ho : o.op = .call { callee := .builtin .append, args := #[s, t], argTypes := #[39, 39] })
  {base : Nat} {A : Option Addr} {n cap : Nat} {ss : List ByteArray} {x : ByteArray} (hs : a.eval s = .slice A n cap) (hn : n = ss.length) (h : OwnT w base A cap ss) (hbase : base ≤ w.heap.size)
  {b2 c : Nat} (ht : a.eval t = .slice (some ⟨b2, 0, none⟩) 1 c) (hx : w.cell? ⟨b2, 0, none⟩ = some (.string x)) (hlen : ss.length ≤ 1000000000)
  (K : ∀ A' cap' w', OwnT w' base A' cap' (ss ++ [x]) → w.grownBy w' (Value.slice A ss.length cap).ownBlock → wpList Tryz.prog ops Q rest (a.put o.dst (.slice A' (ss ++ [x]).length cap')) w') :
  wpList Tryz.prog ops Q (o :: rest) a w := by
 subst hn
 obtain ⟨A', cap', w', hrun, h1, h2⟩ := run_appT h hbase hx c hlen o.type
 refine wpList_plain hgd fun K' hK => ?_
 unfold Oper.wp
 simp [execOp, ho, resolve, invoke, builtin, hs, ht, hrun, Result.andThen]
 have hk := K A' cap' w' h1 h2
 rw [List.length_append, List.length_singleton] at hk
 exact hK _ _ hk
theorem OwnT.keep {w w' : World} {base : Nat} {A : Option Addr} {cap : Nat} {ss : List ByteArray} (h : OwnT w base A cap ss) (hb : Below w.heap.size w w') : OwnT w' base A cap ss := by
 refine ⟨h.1, ?_⟩
 rcases h.2 with e | ⟨g, c', cur, e, hb2, hg, r⟩
 ·exact .inl e
 ·exact .inr ⟨g, _, cur, e, hb2, (hb.block g (lt_of_block hg)).trans hg, r⟩
theorem grownT_below {w w' : World} {base : Nat} {A : Option Addr} {cap n : Nat} {ss : List ByteArray} (h : OwnT w base A cap ss) (hbase : base ≤ w.heap.size) (hg : w.grownBy w' (Value.slice A n cap).ownBlock) : Below base w w' :=
 (Below.refl _ _).grown hg hbase fun k hk => by
  cases A with
  | none => cases hk
  | some a => simp [Value.ownBlock] at hk; subst hk; exact (World.ownsRow.lt h a.block (by simp [Value.ownBlock])).1
theorem OwnT.strs {w : World} {base : Nat} {A : Option Addr} {cap : Nat} {ss : List ByteArray} (h : OwnT w base A cap ss) (hs : ∀ s ∈ ss, s.size ≤ 9223372036854775807) : Strs w w.heap.size A ss := by
 refine ⟨fun i hi => ?_, fun hp => ?_⟩
 ·rw [List.getD_eq_getElem?_getD, List.getElem?_eq_getElem hi]; exact hs _ (List.getElem_mem hi)
 ·obtain ⟨g, c, e⟩ := Joins.ownsRow_form h hp
  injection e with e1 e2 e3
  subst e1 e3
  refine ⟨g, 0, rfl, (World.ownsRow.lt h g (by simp [Value.ownBlock])).2, fun i hi => ?_⟩
  have hc := World.ownsRow.cellAt h i (by omega)
  rw [Nat.zero_add, hc, List.getElem?_map, List.getElem?_eq_getElem hi, List.getD_eq_getElem?_getD, List.getElem?_eq_getElem hi]
  rfl
end Go.Proofs.YtkbekojnmdgdgaaGreatDoor
/- StrCells -/
namespace Go.Proofs.YtkbekojnmdgdgaaGreatDoor
open Go.RowKit
theorem OwnT.lt {w : World} {base : Nat} {a : Addr} {cap : Nat} {ss : List ByteArray} (h : OwnT w base (some a) cap ss) : base ≤ a.block ∧ a.block < w.heap.size :=
 World.ownsRow.lt h a.block (by simp [Value.ownBlock])
theorem OwnT.kept {w w' : World} {base : Nat} {A : Option Addr} {cap : Nat} {ss : List ByteArray} (h : OwnT w base A cap ss) (hk : ∀ a, A = some a → w'.heap[a.block]? = w.heap[a.block]?) : OwnT w' base A cap ss := by
 refine ⟨h.1, ?_⟩
 rcases h.2 with e | ⟨g, c', cur, e, hb, hg, r⟩
 ·exact .inl e
 ·injection e with e1 e2 e3
  subst e1 e3
  exact .inr ⟨g, _, cur, rfl, hb, by rw [hk _ rfl]; exact hg, r⟩
theorem OwnT.under {w w' : World} {base B g cap : Nat} {ss : List ByteArray} (h : OwnT w base (some ⟨g, 0, none⟩) cap ss) (hb : Below B w w') (hB : g < B) : OwnT w' base (some ⟨g, 0, none⟩) cap ss :=
 h.kept fun a ha => by
  injection ha with ha
  subst ha
  exact hb.block _ hB
theorem OwnT.val {w : World} {base g cap : Nat} {ss : List ByteArray} (h : OwnT w base (some ⟨g, 0, none⟩) cap ss) {i : Nat} (hi : i < ss.length) : w.cell? ⟨g, i, none⟩ = some (.string (ss.getD i ByteArray.empty)) := by
 rw [World.ownsRow.cellAt h i (by omega), List.getElem?_map, List.getD_eq_getElem?_getD, List.getElem?_eq_getElem hi]
 rfl
theorem OwnT.thaw {w : World} {base g cap : Nat} {ss : List ByteArray} (h : OwnT w base (some ⟨g, 0, none⟩) cap ss) (i : Nat) : w.frozen? ⟨g, i, none⟩ = false := by
 rcases h.2 with ⟨e, _⟩ | ⟨g', c', cur, e, hb, hg, r⟩
 ·cases e
 ·injection e with e1 e2 e3
  injection e1 with e1
  injection e1 with e1
  subst e1
  simp [World.frozen?, hg]
theorem OwnT.stored {w : World} {base g cap : Nat} {ss : List ByteArray} (h : OwnT w base (some ⟨g, 0, none⟩) cap ss) (j : Nat) (v : ByteArray) :
  OwnT (w.setCell ⟨g, j, none⟩ (.string v)) base (some ⟨g, 0, none⟩) cap (ss.set j v) := by
 have hs := World.ownsRow.stored h j (.string v)
 unfold OwnT
 rw [List.length_set, List.map_set]
 exact hs.1
theorem OwnT.cap_ {w : World} {base : Nat} {A : Option Addr} {cap : Nat} {ss : List ByteArray} (h : OwnT w base A cap ss) : ss.length ≤ cap := by
 rcases h.2 with ⟨e, e0⟩ | ⟨g, c', cur, e, _, _, hle, _⟩
 ·omega
 ·injection e with e1 e2 e3; omega
theorem OwnT.shape {w : World} {base : Nat} {A : Option Addr} {cap : Nat} {ss : List ByteArray} (h : OwnT w base A cap ss) (hn : 0 < ss.length) : ∃ g, A = some ⟨g, 0, none⟩ ∧ base ≤ g ∧ g < w.heap.size := by
 obtain ⟨g, c, e⟩ := Joins.ownsRow_form h hn
 injection e with e1 e2 e3
 subst e1 e3
 have hlt := OwnT.lt h
 exact ⟨g, rfl, hlt.1, hlt.2⟩
theorem OwnT.low {w : World} {base b : Nat} {A : Option Addr} {cap : Nat} {ss : List ByteArray} (h : OwnT w base A cap ss) (hb : b ≤ base) : OwnT w b A cap ss := Joins.ownsRow_le h hb
theorem made_T (n : Nat) (hn : n ≤ 1000000) (W : World) : (Instr.makeSlice 39 (.int .i64 (n : Int)) (.int .i64 (n : Int))).run Tryz.prog W = .ok (.slice (some ⟨W.heap.size, 0, none⟩) n n) (W.alloc (.cells (madeCells #[.string ⟨#[]⟩] n) 9)) := by
 obtain ⟨i, hi, hz, hs, hy⟩ := info_parts txt_info
 have hr := run_make (P := Tryz.prog) W 39 9 i _ Tryz.underlying39 hi hz .i64 .i64 n n (by omega) (Int.le_refl _) (by rw [hy]; omega) (by omega)
 rw [hs, Int.toNat_natCast, Nat.mul_one] at hr
 exact hr
theorem OwnT.made (W : World) (n : Nat) (hn : n ≤ 1000000) : OwnT (W.alloc (.cells (madeCells #[.string ⟨#[]⟩] n) 9)) W.heap.size (some ⟨W.heap.size, 0, none⟩) n (List.replicate n ⟨#[]⟩) := by
 have e : (madeCells #[Value.string ⟨#[]⟩] n).toList = (List.replicate n (⟨#[]⟩ : ByteArray)).map Value.string := by
  rw [toList_madeCells_one (Value.string ⟨#[]⟩) n, List.map_replicate]
 have h := World.ownsRow_lit (e := 9) (size := 1) W (madeCells #[.string ⟨#[]⟩] n) n (Nat.le_refl W.heap.size) (by unfold maxLen; omega) (by rw [← Array.length_toList, e]; simp)
 rw [e] at h
 unfold OwnT
 rw [List.length_replicate]
 exact h
theorem OwnT.lit (W : World) (ss : List ByteArray) (hn : ss.length ≤ 1000000) (cs : Array Value) (hc : cs.toList = ss.map Value.string) : OwnT (W.alloc (.cells cs 9)) W.heap.size (some ⟨W.heap.size, 0, none⟩) ss.length ss := by
 have h := World.ownsRow_lit (e := 9) (size := 1) W cs ss.length (Nat.le_refl W.heap.size) (by unfold maxLen; omega) (by rw [← Array.length_toList, hc]; simp)
 rw [hc] at h
 exact h
def Filled (ss : List ByteArray) (m : Nat) (l : List (List UInt8)) (k : Nat) : Prop := ss.length = m ∧ ss.take k = (l.take k).map (fun t => (⟨t.toArray⟩ : ByteArray))
theorem Filled.next {ss : List ByteArray} {m k : Nat} {l : List (List UInt8)} (h : Filled ss m l k) (hk : k < m) (hl : k < l.length) : Filled (ss.set k ⟨l[k].toArray⟩) m l (k + 1) := by
 refine ⟨by rw [List.length_set]; exact h.1, ?_⟩
 have hks : k < (ss.set k ⟨l[k].toArray⟩).length := by rw [List.length_set, h.1]; exact hk
 rw [List.take_succ_eq_append_getElem hks, List.take_succ_eq_append_getElem hl, List.map_append, ← h.2, List.take_set_of_le (Nat.le_refl k), List.getElem_set_self]
 rfl
theorem Filled.all {ss : List ByteArray} {m : Nat} {l : List (List UInt8)} (h : Filled ss m l m) (hl : l.length = m) : ss = l.map (fun t => (⟨t.toArray⟩ : ByteArray)) := by
 have := h.2
 rwa [List.take_of_length_le (Nat.le_of_eq h.1), List.take_of_length_le (Nat.le_of_eq hl)] at this
end Go.Proofs.YtkbekojnmdgdgaaGreatDoor
/- SixKit -/
namespace Go.Proofs.YtkbekojnmdgdgaaGreatDoor
open Go.RowKit
def S6 (w : World) (g : Nat) (v0 v1 v2 v3 v4 v5 : Value) : World := (((((w.setCell ⟨g, 0, none⟩ v0).setCell ⟨g, 1, none⟩ v1).setCell ⟨g, 2, none⟩ v2).setCell ⟨g, 3, none⟩ v3).setCell ⟨g, 4, none⟩ v4).setCell ⟨g, 5, none⟩ v5
theorem S6.at_ {w : World} {g : Nat} {a b c d e f : Value} {t : TypeId} (h : w.heap[g]? = some (.cells #[a, b, c, d, e, f] t (0, 0))) (v0 v1 v2 v3 v4 v5 : Value) : (S6 w g v0 v1 v2 v3 v4 v5).heap[g]? = some (.cells #[v0, v1, v2, v3, v4, v5] t (0, 0)) :=
 heap_setCell_same _ g 5 _ _ _ (heap_setCell_same _ g 4 _ _ _ (heap_setCell_same _ g 3 _ _ _ (heap_setCell_same _ g 2 _ _ _ (heap_setCell_same _ g 1 _ _ _ (heap_setCell_same w g 0 _ _ _ h)))))
theorem S6.else_ (w : World) (g : Nat) (v0 v1 v2 v3 v4 v5 : Value) {k : Nat} (hk : k ≠ g) : (S6 w g v0 v1 v2 v3 v4 v5).heap[k]? = w.heap[k]? :=
 (Below.heap_setCell _ _ _ _ hk).trans ((Below.heap_setCell _ _ _ _ hk).trans ((Below.heap_setCell _ _ _ _ hk).trans ((Below.heap_setCell _ _ _ _ hk).trans ((Below.heap_setCell _ _ _ _ hk).trans (Below.heap_setCell _ _ _ _ hk)))))
theorem S6.size_ (w : World) (g : Nat) (v0 v1 v2 v3 v4 v5 : Value) : (S6 w g v0 v1 v2 v3 v4 v5).heap.size = w.heap.size := by simp [S6, World.setCell]
theorem S6.below {a w : World} {B g : Nat} (h : Below B a w) (hg : B ≤ g) (v0 v1 v2 v3 v4 v5 : Value) : Below B a (S6 w g v0 v1 v2 v3 v4 v5) :=
 (((((h.setCell (p := ⟨g, 0, none⟩) hg _).setCell (p := ⟨g, 1, none⟩) hg _).setCell (p := ⟨g, 2, none⟩) hg _).setCell (p := ⟨g, 3, none⟩) hg _).setCell (p := ⟨g, 4, none⟩) hg _).setCell (p := ⟨g, 5, none⟩) hg _
theorem ob6 {w : World} {g : Nat} {v0 v1 v2 v3 v4 v5 : Value} {t : TypeId} (h : w.heap[g]? = some (.cells #[v0, v1, v2, v3, v4, v5] t (0, 0))) :
  w.cell? ⟨g, 0, none⟩ = some v0 ∧ w.cell? ⟨g, 1, none⟩ = some v1 ∧ w.cell? ⟨g, 2, none⟩ = some v2 ∧ w.cell? ⟨g, 3, none⟩ = some v3 ∧ w.cell? ⟨g, 4, none⟩ = some v4 ∧ w.cell? ⟨g, 5, none⟩ = some v5 :=
 ⟨by simp [World.cell?, h], by simp [World.cell?, h], by simp [World.cell?, h], by simp [World.cell?, h], by simp [World.cell?, h], by simp [World.cell?, h]⟩
theorem ob6f {w : World} {g : Nat} {cs : Array Value} {t : TypeId} (h : w.heap[g]? = some (.cells cs t (0, 0))) :
  w.frozen? ⟨g, 0, none⟩ = false ∧ w.frozen? ⟨g, 1, none⟩ = false ∧ w.frozen? ⟨g, 2, none⟩ = false ∧ w.frozen? ⟨g, 3, none⟩ = false ∧ w.frozen? ⟨g, 4, none⟩ = false ∧ w.frozen? ⟨g, 5, none⟩ = false :=
 ⟨by simp [World.frozen?, h], by simp [World.frozen?, h], by simp [World.frozen?, h], by simp [World.frozen?, h], by simp [World.frozen?, h], by simp [World.frozen?, h]⟩
theorem box0 (w : World) (X Y : Obj) : ((w.alloc X).alloc Y).heap[w.heap.size]? = some X := by rw [Below.heap_alloc _ _ _ (by simp)]; exact heap_alloc_new w X
theorem box1 (w : World) (X Y : Obj) : ((w.alloc X).alloc Y).heap[w.heap.size + 1]? = some Y := by have := heap_alloc_new (w.alloc X) Y; rwa [World.size_alloc] at this
end Go.Proofs.YtkbekojnmdgdgaaGreatDoor
/- GrMap -/
namespace Go.Proofs.YtkbekojnmdgdgaaGreatDoor
open Go.RowKit Go.Maps
set_option maxRecDepth 100000
theorem laidOutG : laidOutB Tryz.prog = true := by kernel_rfl
theorem edge_row : 185 < Tryz.prog.types.size := of_decide_eq_true (by kernel_rfl)
theorem edge_wide : (match Tryz.prog.underlying 185 with | some (.array _ _) | some (.struct _) => true | _ => false) = true := by rw [Tryz.underlying185]
theorem edge_deep : Tryz.prog.keyType 185 = true := by kernel_rfl
theorem edge_cells : Tryz.prog.cellsOf 185 = 2 := by kernel_rfl
theorem int_cells : Tryz.prog.cellsOf 3 = 1 := by kernel_rfl
theorem edge_law : Keyed Tryz.prog 185 := Keyed.of_law (deep_law_laid laidOutG (m := 2) (by omega) edge_row (by kernel_rfl) edge_wide)
def ev (a b : Int) : Value := .agg #[.int .i64 a, .int .i64 b]
def ek (a b : Int) : Lit := .string (keyBytes [.int .i64 a, .int .i64 b])
theorem wf_i {a : Int} (h : inI a) : (Lit.int .i64 a).wf = true := by
 unfold inI at h
 simpa [Lit.wf, IntKind.min, IntKind.max, IntKind.bits, IntKind.signed] using h
theorem key_edge (a b : Int) (ha : inI a) (hb : inI b) : keyOf Tryz.prog 185 (ev a b) = some (ek a b) := by
 have ha := wf_i ha
 have hb := wf_i hb
 obtain ⟨n, hn⟩ : ∃ n, Tryz.prog.types.size = n + 1 := ⟨Tryz.prog.types.size - 1, by have := edge_row; omega⟩
 have hf : (ev a b).formed Tryz.prog 185 = true := by simp [ev, Value.formed, Tryz.underlying185, edge_cells]
 have e : ∀ v, keyOf Tryz.prog 185 v = if Tryz.prog.keyType 185 && v.formed Tryz.prog 185 then (Tryz.prog.keyLits (Tryz.prog.types.size + 1) 185 v.cells.toList).map fun ls => .string (keyBytes ls) else none := fun v => by
  unfold keyOf
  rw [Tryz.underlying185]
 rw [e, edge_deep, hf, hn]
 have h1 : ∀ x : Int, (Lit.int .i64 x).wf = true → Tryz.prog.keyLits (n + 1) 3 [.int .i64 x] = some [.int .i64 x] := fun x hx => by
  simp [Program.keyLits, Tryz.underlying3, hx]
 have h2 : Tryz.prog.keyLits (n + 1 + 1) 185 (ev a b).cells.toList = some [.int .i64 a, .int .i64 b] := by
  have e2 : Tryz.prog.keyLits (n + 1 + 1) 185 [.int .i64 a, .int .i64 b] = if [Value.int .i64 a, Value.int .i64 b].length = Tryz.prog.cellsOf 185 then ((List.range 2).mapM fun i => Tryz.prog.keyLits (n + 1) 3 (([Value.int .i64 a, .int .i64 b].drop (i * Tryz.prog.cellsOf 3)).take (Tryz.prog.cellsOf 3))).map List.flatten else none := by
   conv => lhs; unfold Program.keyLits
   simp only [Tryz.underlying185]
  show Tryz.prog.keyLits (n + 1 + 1) 185 [.int .i64 a, .int .i64 b] = _
  rw [e2, edge_cells, int_cells, show List.range 2 = [0, 1] from rfl]
  simp [h1 a ha, h1 b hb]
 rw [h2]
 rfl
theorem ek_ne {a b x y : Int} (ha : inI a) (hb : inI b) (hx : inI x) (hy : inI y) (h : ¬ (x = a ∧ y = b)) : ek x y ≠ ek a b := fun e => by
 have h1 := key_edge a b ha hb
 have h2 := key_edge x y hx hy
 rw [e] at h2
 have := edge_law.inj h1 h2
 unfold ev at this
 injection this with h3
 have h4 := congrArg Array.toList h3
 simp at h4
 exact h ⟨h4.1.symm, h4.2.symm⟩
def upd (F : Int → Int → Option Int) (a b v : Int) : Int → Int → Option Int := fun x y => if x = a ∧ y = b then some v else F x y
theorem turned_frame {w w' : World} {m : Nat} (h : w.mapTurned w' m) : w'.os = w.os ∧ w'.tape = w.tape ∧ w'.output = w.output ∧ w'.heap.size = w.heap.size ∧ ∀ i, i ≠ m → w'.heap[i]? = w.heap[i]? := by
 obtain ⟨es, clock, es', clock', hb, rfl⟩ := h
 exact ⟨rfl, rfl, rfl, by simp [ChangeMaps.setBlock], fun i hi => ChangeMaps.heap_setBlock_other hb _ hi⟩
def SMap (w : World) (m c : Nat) (F : Int → Int → Bool) : Prop :=
 ∃ D : DataW Unit, w.ownsMap Tryz.prog 185 unitElem m c D ∧ ∀ a b, inI a → inI b → Maps.has D (ek a b) = F a b
def updS (F : Int → Int → Bool) (a b : Int) : Int → Int → Bool := fun x y => if x = a ∧ y = b then true else F x y
theorem SMap.lt {w : World} {m c : Nat} {F : Int → Int → Bool} (h : SMap w m c F) : m < w.heap.size := by obtain ⟨D, h, _⟩ := h; exact World.ownsMap.lt h
theorem SMap.keep {w w' : World} {m c : Nat} {F : Int → Int → Bool} (h : SMap w m c F) (hk : w'.heap[m]? = w.heap[m]?) : SMap w' m c F := by
 obtain ⟨D, ⟨es, clock, hb, r⟩, h2⟩ := h
 exact ⟨D, ⟨es, clock, hk.trans hb, r⟩, h2⟩
theorem SMap.below {w w' : World} {m c B : Nat} {F : Int → Int → Bool} (h : SMap w m c F) (hb : Below B w w') (hm : m < B) : SMap w' m c F := h.keep (hb.block m hm)
theorem SMap.grew {w w' : World} {m c : Nat} {F : Int → Int → Bool} (h : SMap w m c F) (hb : Below w.heap.size w w') : SMap w' m c F := h.below hb h.lt
theorem SMap.congr {w : World} {m c : Nat} {F G : Int → Int → Bool} (h : SMap w m c F) (hg : ∀ a b, G a b = F a b) : SMap w m c G := by
 obtain ⟨D, h, h2⟩ := h
 exact ⟨D, h, fun a b ha hb => by rw [hg]; exact h2 a b ha hb⟩
theorem SMap.made (w : World) : SMap (w.alloc (.map #[] 0)) w.heap.size 0 (fun _ _ => false) := ⟨.map [], World.ownsMap_made w _ _ _, fun _ _ _ _ => rfl⟩
theorem SMap.look2 {w : World} {m c : Nat} {F : Int → Int → Bool} (h : SMap w m c F) (a b : Int) (ha : inI a) (hb : inI b) :
  (Instr.lookup 183 (.map (some m)) (.agg #[.int .i64 a, .int .i64 b]) true).run Tryz.prog w = .ok (.tuple #[.agg #[], .bool (F a b)]) w := by
 obtain ⟨D, h, h2⟩ := h
 obtain ⟨v, ps, hr, hv⟩ := h.look_ok edge_law Tryz.underlying183 (show (zeroValue 182).run Tryz.prog w = .ok (.agg #[]) w by kernel_rfl) (zd := .agg []) (zp := []) unitElem_mk (key_edge a b ha hb)
 obtain ⟨rfl, _⟩ := unitElem_inv hv
 rw [h2 a b ha hb] at hr
 exact hr
theorem SMap.store {w : World} {m c : Nat} {F : Int → Int → Bool} (h : SMap w m c F) (hc : c ≤ 1000000000) (a b : Int) (ha : inI a) (hb : inI b) :
  ∃ w', (Instr.mapUpdate 183 (.map (some m)) (.agg #[.int .i64 a, .int .i64 b]) (.agg #[])).run Tryz.prog w = .ok () w' ∧ SMap w' m (c + 1) (updS F a b) ∧ w.mapTurned w' m := by
 obtain ⟨D, h, h2⟩ := h
 obtain ⟨w', hr, ho, ht⟩ := h.store edge_law Tryz.underlying183 (by unfold maxLen; omega) (key_edge a b ha hb) (d := .agg []) (ps := []) unitElem_mk
 refine ⟨w', hr, ⟨_, ho, fun x y hx hy => ?_⟩, ht⟩
 unfold updS
 by_cases hxy : x = a ∧ y = b
 ·obtain ⟨rfl, rfl⟩ := hxy
  rw [if_pos ⟨rfl, rfl⟩, has_put_same h.isMap (edge_law.key (key_edge x y ha hb))]
 ·rw [if_neg hxy, has_put_other (ek_ne ha hb hx hy hxy)]
  exact h2 x y hx hy
end Go.Proofs.YtkbekojnmdgdgaaGreatDoor
/- BoolRows -/
namespace Go.Proofs.YtkbekojnmdgdgaaGreatDoor
open Go.RowKit
def OwnF (w : World) (base : Nat) (A : Option Addr) (cap : Nat) (bs : List Bool) : Prop :=
 w.ownsRow base 4 1 (.slice A bs.length cap) bs.length (bs.map Value.bool)
theorem OwnF.lt {w : World} {base : Nat} {a : Addr} {cap : Nat} {bs : List Bool} (h : OwnF w base (some a) cap bs) : base ≤ a.block ∧ a.block < w.heap.size :=
 World.ownsRow.lt h a.block (by simp [Value.ownBlock])
theorem OwnF.keep {w w' : World} {base : Nat} {A : Option Addr} {cap : Nat} {bs : List Bool} (h : OwnF w base A cap bs) (hk : ∀ a, A = some a → w'.heap[a.block]? = w.heap[a.block]?) : OwnF w' base A cap bs := by
 refine ⟨h.1, ?_⟩
 rcases h.2 with e | ⟨g, c', cur, e, hb, hg, r⟩
 ·exact .inl e
 ·injection e with e1 e2 e3
  subst e1 e3
  exact .inr ⟨g, _, cur, rfl, hb, by rw [hk _ rfl]; exact hg, r⟩
theorem OwnF.grew {w w' : World} {base B : Nat} {A : Option Addr} {cap : Nat} {bs : List Bool} (h : OwnF w base A cap bs) (hb : Below B w w') (hB : w.heap.size ≤ B) : OwnF w' base A cap bs :=
 h.keep fun a ha => by
  subst ha
  exact hb.block _ (by have := h.lt.2; omega)
theorem OwnF.under {w w' : World} {base B g cap : Nat} {bs : List Bool} (h : OwnF w base (some ⟨g, 0, none⟩) cap bs) (hb : Below B w w') (hB : g < B) : OwnF w' base (some ⟨g, 0, none⟩) cap bs :=
 h.keep fun a ha => by
  injection ha with ha
  subst ha
  exact hb.block _ hB
theorem OwnF.val {w : World} {base g cap : Nat} {bs : List Bool} (h : OwnF w base (some ⟨g, 0, none⟩) cap bs) {i : Nat} (hi : i < bs.length) : w.cell? ⟨g, i, none⟩ = some (.bool (bs.getD i false)) := by
 rw [World.ownsRow.cellAt h i (by omega), List.getElem?_map, List.getD_eq_getElem?_getD, List.getElem?_eq_getElem hi]
 rfl
theorem OwnF.thaw {w : World} {base g cap : Nat} {bs : List Bool} (h : OwnF w base (some ⟨g, 0, none⟩) cap bs) (i : Nat) : w.frozen? ⟨g, i, none⟩ = false := by
 rcases h.2 with ⟨e, _⟩ | ⟨g', c', cur, e, hb, hg, r⟩
 ·cases e
 ·injection e with e1 e2 e3
  injection e1 with e1
  injection e1 with e1
  subst e1
  simp [World.frozen?, hg]
theorem OwnF.stored {w : World} {base g cap : Nat} {bs : List Bool} (h : OwnF w base (some ⟨g, 0, none⟩) cap bs) (j : Nat) (v : Bool) :
  OwnF (w.setCell ⟨g, j, none⟩ (.bool v)) base (some ⟨g, 0, none⟩) cap (bs.set j v) := by
 have hs := World.ownsRow.stored h j (.bool v)
 unfold OwnF
 rw [List.length_set, List.map_set]
 exact hs.1
theorem bool_info : (Tryz.prog.info? 4).map (fun i => (i.zero, i.size, i.bytes)) = some (some (.bool false), 1, 1) := by kernel_rfl
theorem made_F (n : Nat) (hn : n ≤ 1000000) (W : World) : (Instr.makeSlice 69 (.int .i64 (n : Int)) (.int .i64 (n : Int))).run Tryz.prog W = .ok (.slice (some ⟨W.heap.size, 0, none⟩) n n) (W.alloc (.cells (madeCells #[.bool false] n) 4)) := by
 obtain ⟨i, hi, hz, hs, hy⟩ := info_parts bool_info
 have hr := run_make (P := Tryz.prog) W 69 4 i _ Tryz.underlying69 hi hz .i64 .i64 n n (by omega) (Int.le_refl _) (by rw [hy]; omega) (by omega)
 rw [hs, Int.toNat_natCast, Nat.mul_one] at hr
 exact hr
theorem OwnF.made (W : World) (n : Nat) (hn : n ≤ 1000000) : OwnF (W.alloc (.cells (madeCells #[.bool false] n) 4)) W.heap.size (some ⟨W.heap.size, 0, none⟩) n (List.replicate n false) := by
 have e : (madeCells #[Value.bool false] n).toList = (List.replicate n false).map Value.bool := by
  rw [toList_madeCells_one (Value.bool false) n, List.map_replicate]
 have h := World.ownsRow_lit (e := 4) (size := 1) W (madeCells #[.bool false] n) n (Nat.le_refl W.heap.size) (by unfold maxLen; omega) (by rw [← Array.length_toList, e]; simp)
 rw [e] at h
 unfold OwnF
 rw [List.length_replicate]
 exact h
end Go.Proofs.YtkbekojnmdgdgaaGreatDoor
/- KDelete -/
namespace Go.Proofs.YtkbekojnmdgdgaaGreatDoor
open Go.RowKit
theorem setCells_block (b : Nat) : ∀ (vs : List Value) (o : Nat) (w : World) (cur : Array Value) (T : TypeId) (fz : Nat × Nat), w.heap[b]? = some (.cells cur T fz) → ∃ cur', (w.setCells b o vs).heap[b]? = some (.cells cur' T fz) ∧ cur'.size = cur.size
 | [], _, _, cur, _, _, h => ⟨cur, h, rfl⟩
 | v :: r, o, w, cur, T, fz, h => by
  have hs : (w.setCell ⟨b, o, none⟩ v).heap[b]? = some (.cells (cur.setIfInBounds o v) T fz) := by
   unfold World.setCell
   simp only
   rw [Array.getElem?_modify, if_pos rfl, h]
   rfl
  obtain ⟨c2, h2, e2⟩ := setCells_block b r (o + 1) _ _ T fz hs
  exact ⟨c2, by rw [World.setCells]; exact h2, by rw [e2]; simp⟩
theorem setCells_only (b : Nat) : ∀ (vs : List Value) (o : Nat) (w : World), Only (fun i => i = b) w (w.setCells b o vs)
 | [], _, _ => Only.refl _ _
 | v :: r, o, w => by
  rw [World.setCells]
  exact Only.trans (own := fun i => i = b) (own2 := fun i => i = b) (Only.set _ o w v rfl) (setCells_only b r (o + 1) _) fun i hi => .inl hi
theorem OwnK.inner {w : World} {base g cap k : Nat} {T : TypeId} {vs : List (List Value)} (h : OwnK w base T k (some ⟨g, 0, none⟩) cap vs) : ∃ cur, w.heap[g]? = some (.cells cur T (0, 0)) ∧ base ≤ g ∧ vs.length ≤ cap ∧ cap ≤ maxLen ∧ cur.size = cap * k ∧ cur.toList.take (vs.length * k) = vs.flatten := by
 rcases h.1.2 with ⟨e, _⟩ | ⟨g', c', cur, e, hb, hg, hle, hm, hsz, htk⟩
 ·cases e
 ·injection e with e1 e2 e3
  injection e1 with e1
  injection e1 with e1
  subst e1 e3
  exact ⟨cur, hg, hb, hle, hm, hsz, htk⟩
theorem OwnK.spare {w : World} {base g cap k : Nat} {T : TypeId} {vs : List (List Value)} (h : OwnK w base T k (some ⟨g, 0, none⟩) cap vs) : vs.length ≤ cap ∧ cap ≤ 9223372036854775807 ∧ ∀ j, j < cap * k → (w.cell? ⟨g, j, none⟩).isSome = true ∧ w.frozen? ⟨g, j, none⟩ = false := by
 obtain ⟨cur, hg, hb, hle, hm, hsz, htk⟩ := h.inner
 refine ⟨hle, by unfold maxLen at hm; exact hm, fun j hj => ⟨?_, ?_⟩⟩
 ·simp [World.cell?, hg]; omega
 ·simp [World.frozen?, hg]
theorem OwnK.moved {w : World} {base g cap k : Nat} {T : TypeId} {vs ys : List (List Value)} (h : OwnK w base T k (some ⟨g, 0, none⟩) cap vs) (hy : Wide k ys) (hle : ys.length ≤ vs.length) (us : List Value) :
  OwnK ((w.setCells g 0 ys.flatten).setCells g (ys.length * k) us) base T k (some ⟨g, 0, none⟩) cap ys := by
 obtain ⟨s1, s2, s3⟩ := h.spare
 obtain ⟨cur, hg, hb, hl, hm, hsz, htk⟩ := h.inner
 obtain ⟨c1, h1, e1⟩ := setCells_block g ys.flatten 0 w cur T (0, 0) hg
 obtain ⟨c2, h2, e2⟩ := setCells_block g us (ys.length * k) _ c1 T (0, 0) h1
 have hlen := hy.len
 have hmul : ys.length * k ≤ cap * k := Nat.mul_le_mul_right k (by omega)
 refine ⟨⟨hlen, .inr ⟨g, cap, c2, rfl, hb, h2, by omega, hm, by rw [e2, e1, hsz], ?_⟩⟩, hy⟩
 refine List.ext_getElem? fun j => ?_
 rw [List.getElem?_take]
 split
 ·next hj =>
  have hj2 : j < ys.flatten.length := by rw [hlen]; exact hj
  have a1 : ((w.setCells g 0 ys.flatten).setCells g (ys.length * k) us).cell? ⟨g, j, none⟩ = c2.toList[j]? := by simp [World.cell?, h2]
  have a2 := World.cell?_setCells_out g us (ys.length * k) (w.setCells g 0 ys.flatten) ⟨g, j, none⟩ fun _ _ => .inl hj
  have a3 := World.cell?_setCells_in g ys.flatten 0 w (fun i hi => by rw [Nat.zero_add]; exact (s3 i (by rw [hlen] at hi; omega)).1) j hj2
  rw [Nat.zero_add] at a3
  rw [← a1, a2, a3, List.getElem?_eq_getElem hj2]
 ·next hj => rw [List.getElem?_eq_none (by rw [hlen]; omega)]
theorem Wide.drop {k : Nat} {vs : List (List Value)} (h : Wide k vs) (n : Nat) : Wide k (vs.drop n) := fun v hv => h v (List.mem_of_mem_drop hv)
theorem Wide.flat_drop {k : Nat} {vs : List (List Value)} (h : Wide k vs) : ∀ n : Nat, (vs.drop n).flatten = vs.flatten.drop (n * k) := by
 induction vs with
 | nil => intro n; simp
 | cons v r ih =>
  intro n
  cases n with
  | zero => simp
  | succ n =>
   have hv := (h v (List.mem_cons_self ..)).1
   rw [List.drop_succ_cons, ih (fun x hx => h x (List.mem_cons_of_mem _ hx)) n, List.flatten_cons, List.drop_append, hv, show v.drop ((n + 1) * k) = [] from List.drop_eq_nil_of_le (by rw [hv, Nat.add_mul]; omega), List.nil_append, show (n + 1) * k - k = n * k by rw [Nat.add_mul]; omega]
theorem OwnK.cells {w : World} {base g cap k : Nat} {T : TypeId} {vs : List (List Value)} (h : OwnK w base T k (some ⟨g, 0, none⟩) cap vs) (n : Nat) (j : Nat) (u : Value) (hu : (vs.drop n).flatten[j]? = some u) : w.cell? ⟨g, n * k + j, none⟩ = some u := by
 rw [h.2.flat_drop n, List.getElem?_drop] at hu
 have hj : n * k + j < vs.flatten.length := (List.getElem?_eq_some_iff.1 hu).1
 rw [← hu]
 rw [h.2.len] at hj
 exact World.ownsRow.cellAt h.1 (n * k + j) hj
theorem OwnK.drew {w : World} {base k cap : Nat} {T : TypeId} {A : Option Addr} {vs : List (List Value)} (h : OwnK w base T k A cap vs) : OwnK w.drew base T k A cap vs := h.keep fun _ _ => rfl
end Go.Proofs.YtkbekojnmdgdgaaGreatDoor
/- BkDelay -/
namespace Go.Proofs.YtkbekojnmdgdgaaGreatDoor
open Go.RowKit
def StI (w : World) (v : Int) (e : Ending) (w' : World) : Prop := e = .returned (.int .i64 v) ∧ w = w'
theorem Bk.pow_int (k : Nat) : (2 : Int) ^ k = ((2 ^ k : Nat) : Int) := by
 rw [Int.natCast_pow]; rfl
theorem Bk.dl_over {b t : Int} (hb : 1 ≤ b) (h : (64000 : Int) / 2 ^ min (t.toNat - 1) 64 < b) : (Bk.dl b.toNat t.toNat : Int) = 64000 := by
 have e : Bk.dl b.toNat t.toNat = 64000 := by
  rcases Nat.lt_or_ge 16 t.toNat with h17 | h16
  ·exact Bk.dl_17 (by omega) h17
  ·rw [show min (t.toNat - 1) 64 = t.toNat - 1 by omega, Bk.pow_int, Int.ediv_lt_iff_lt_mul (by have := Bk.pow_pos2 (t.toNat - 1); omega)] at h
   refine Bk.dl_top ?_
   rw [show b = (b.toNat : Int) by omega, ← Int.natCast_mul] at h
   omega
 omega
theorem Bk.dl_under {b t : Int} (hb : 1 ≤ b) (h : b ≤ (64000 : Int) / 2 ^ min (t.toNat - 1) 64) : wrap64 (b * 2 ^ min (t.toNat - 1) 64) = (Bk.dl b.toNat t.toNat : Int) := by
 have h16 : t.toNat ≤ 16 := by
  apply Classical.byContradiction
  intro h2
  have e : (64000 : Int) / 2 ^ min (t.toNat - 1) 64 = 0 := by
   rw [Bk.pow_int]
   refine Int.ediv_eq_zero_of_lt (by decide) ?_
   have : 2 ^ 16 ≤ 2 ^ min (t.toNat - 1) 64 := Nat.pow_le_pow_right (by decide) (by omega)
   omega
  omega
 have hp := Bk.pow_pos2 (t.toNat - 1)
 rw [show min (t.toNat - 1) 64 = t.toNat - 1 by omega, Bk.pow_int] at h ⊢
 rw [Int.le_ediv_iff_mul_le (by omega)] at h
 rw [show b = (b.toNat : Int) by omega, ← Int.natCast_mul] at h ⊢
 rw [Int.toNat_natCast]
 have h3 : b.toNat * 2 ^ (t.toNat - 1) ≤ 64000 := by omega
 rw [Bk.dl_low h3]
 unfold wrap64; omega
set_option maxHeartbeats 2000000 in
theorem delay_same (b t : Int) (hb : is64 b) (ht : is64 t) (w : World) : Calls Tryz.prog 106 #[.int .i64 b, .int .i64 t] w (StI w (Bk.delayI b t)) := by
 obtain ⟨hb0, hb1⟩ := hb
 obtain ⟨ht0, ht1⟩ := ht
 by_cases h1 : b < 1
 ·have E : Hid (Bk.delayI b t = 0) := Lib.hid (by unfold Bk.delayI; rw [if_pos (.inl h1)])
  go_enter Tryz.func106, Tryz.ntmps106
  go_wp2
  go_ret
  exact ⟨ret_int E.out.symm, rfl⟩
 by_cases h2 : t < 1
 ·have E : Hid (Bk.delayI b t = 0) := Lib.hid (by unfold Bk.delayI; rw [if_pos (.inr h2)])
  have h1' : 1 ≤ b := by omega
  clear h1
  go_enter Tryz.func106, Tryz.ntmps106
  go_wp2
  go_ret
  exact ⟨ret_int E.out.symm, rfl⟩
 have h1' : 1 ≤ b := by omega
 have h2' : 1 ≤ t := by omega
 have E : Hid (Bk.delayI b t = (Bk.dl b.toNat t.toNat : Int)) := Lib.hid (by unfold Bk.delayI; rw [if_neg (by omega)])
 clear h1 h2
 go_enter Tryz.func106, Tryz.ntmps106
 go_wp2
 ·rename_i hlt
  go_ret
  exact ⟨ret_int (by rw [E.out]; exact (Bk.dl_over h1' hlt).symm), rfl⟩
 ·rename_i hle
  go_ret
  exact ⟨ret_int (by rw [E.out]; exact Bk.dl_under h1' hle), rfl⟩
end Go.Proofs.YtkbekojnmdgdgaaGreatDoor
/- NameProg -/
namespace Go.Proofs.YtkbekojnmdgdgaaGreatDoor
open Go.RowKit
set_option maxRecDepth 20000 in
set_option maxHeartbeats 400000 in
theorem isDigit_yes (z : Int) (h0 : 48 ≤ z) (h1 : z ≤ 57) (w : World) : Calls Tryz.prog 71 #[.int .u8 z] w fun e w' => e = .returned (.bool true) ∧ w = w' := by
 go_enter Tryz.func71, Tryz.ntmps71
 go_wp2
 go_ret
 exact ⟨rfl, rfl⟩
set_option maxRecDepth 20000 in
set_option maxHeartbeats 400000 in
theorem isDigit_no (z : Int) (h : z < 48 ∨ 57 < z) (w : World) : Calls Tryz.prog 71 #[.int .u8 z] w fun e w' => e = .returned (.bool false) ∧ w = w' := by
 rcases h with h | h
 ·go_enter Tryz.func71, Tryz.ntmps71
  go_wp2
  go_ret
  exact ⟨rfl, rfl⟩
 ·have h2 : 48 ≤ z := by omega
  go_enter Tryz.func71, Tryz.ntmps71
  go_wp2
  go_ret
  exact ⟨ret_bool (decide_eq_false (by omega)), rfl⟩
set_option maxRecDepth 8000 in
set_option maxHeartbeats 1000000 in
theorem name_at (s : ByteArray) (hs : s.size ≤ 9223372036854775807) (w : World) : Calls Tryz.prog 55 #[.string s] w fun e w' => e = .returned (.bool (Nm.isName s.data.toList)) ∧ w = w' := by
 by_cases h0 : s.size = 0
 ·obtain rfl := emptyB h0
  go_enter Tryz.func55, Tryz.ntmps55
  go_wp2
  go_ret
  exact ⟨rfl, rfl⟩
 ·obtain ⟨hne2, hne⟩ := nonemptyB h0
  by_cases h1 : 16 < s.size
  ·have h1' : 16 < (s.size : Int) := by omega
   have HN := Lib.hid (name_len (s := s) (.inr h1))
   clear h0 h1
   go_enter Tryz.func55, Tryz.ntmps55
   go_wp2
   go_ret
   exact ⟨ret_bool HN.out.symm, rfl⟩
  ·have g0 := Lib.hid (show 1 ≤ s.size by omega)
   have g1 := Lib.hid (show s.size ≤ 16 by omega)
   have g2 : (s.size : Int) ≤ 16 := by omega
   clear hs h0 h1
   have st : Hid (CharsTo s 0) := Lib.hid ⟨Nat.zero_le _, rfl⟩
   go_enter Tryz.func55, Tryz.ntmps55
   go_wp2
   go_loop [3, 13] (fun _ i => ∃ k : Nat, CharsTo s k ∧ i = .int .i64 k) (fun _ i => s.size - (intOf i).toNat)
   case atStart => exact ⟨0, st.out, rfl⟩
   case round =>
    obtain ⟨k, hk, rfl⟩ := hrel
    have HK := Lib.hid hk
    clear hk
    by_cases hlt : k < s.size
    ·have hlt' : (k : Int) < (s.size : Int) := by omega
     have NO := name_no hlt
     have YES := HK.out.next hlt
     have CS := char_split s[k]
     have hr : 0 ≤ (s[k].toNat : Int) ∧ (s[k].toNat : Int) ≤ 255 := by have := s[k].toNat_lt; omega
     obtain ⟨c, hc⟩ : ∃ c : Int, (s[k].toNat : Int) = c := ⟨_, rfl⟩
     rw [hc] at CS hr
     obtain ⟨z0, z1⟩ := hr
     rcases CS with ⟨a1, a2⟩ | ⟨a1, a2, a3⟩ | ⟨a1, a2, a3⟩ | ⟨a1, a2, a3⟩ | ⟨a1, a2⟩
     ·have R := Lib.hid (NO a2)
      have D := Lib.hid (isDigit_no c (.inl a1))
      clear NO YES a2
      go_wp2_with (go_at_call 71; refine (D.out _).mono ?_; rintro e w' ⟨rfl, rfl⟩)
      go_ret
      exact ⟨ret_bool R.out.symm, rfl⟩
     ·have R := Lib.hid (YES a3)
      have D := Lib.hid (isDigit_yes c a1 a2)
      clear NO YES a3
      go_wp2_with (go_at_call 71; refine (D.out _).mono ?_; rintro e w' ⟨rfl, rfl⟩)
      go_round
      case rel => exact ⟨k + 1, R.out, by go_num⟩
      case measure => simp [intOf]; omega
     ·have R := Lib.hid (NO a3)
      have D := Lib.hid (isDigit_no c (.inr a1))
      clear NO YES a3
      go_wp2_with (go_at_call 71; refine (D.out _).mono ?_; rintro e w' ⟨rfl, rfl⟩)
      go_ret
      exact ⟨ret_bool R.out.symm, rfl⟩
     ·have R := Lib.hid (YES a3)
      have D := Lib.hid (isDigit_no c (.inr (by omega)))
      clear NO YES a3
      go_wp2_with (go_at_call 71; refine (D.out _).mono ?_; rintro e w' ⟨rfl, rfl⟩)
      go_round
      case rel => exact ⟨k + 1, R.out, by go_num⟩
      case measure => simp [intOf]; omega
     ·have R := Lib.hid (NO a2)
      have D := Lib.hid (isDigit_no c (.inr (by omega)))
      have q2 : 97 ≤ c := by omega
      clear NO YES a2
      go_wp2_with (go_at_call 71; refine (D.out _).mono ?_; rintro e w' ⟨rfl, rfl⟩)
      go_ret
      exact ⟨ret_bool R.out.symm, rfl⟩
    ·obtain rfl : k = s.size := by have := HK.out.1; omega
     have R := Lib.hid (name_yes g0.out g1.out HK.out)
     have hge : ¬ (s.size : Int) < (s.size : Int) := by omega
     go_wp2
     go_ret
     exact ⟨ret_bool R.out.symm, rfl⟩
end Go.Proofs.YtkbekojnmdgdgaaGreatDoor
/- EightKit -/
namespace Go.Proofs.YtkbekojnmdgdgaaGreatDoor
open Go.RowKit
def S8 (w : World) (g : Nat) (v0 v1 v2 v3 v4 v5 v6 v7 : Value) : World := (((((((w.setCell ⟨g, 0, none⟩ v0).setCell ⟨g, 1, none⟩ v1).setCell ⟨g, 2, none⟩ v2).setCell ⟨g, 3, none⟩ v3).setCell ⟨g, 4, none⟩ v4).setCell ⟨g, 5, none⟩ v5).setCell ⟨g, 6, none⟩ v6).setCell ⟨g, 7, none⟩ v7
theorem ob8 {w : World} {g : Nat} {v0 v1 v2 v3 v4 v5 v6 v7 : Value} {t : TypeId} (h : w.heap[g]? = some (.cells #[v0, v1, v2, v3, v4, v5, v6, v7] t (0, 0))) :
  w.cell? ⟨g, 0, none⟩ = some v0 ∧ w.cell? ⟨g, 1, none⟩ = some v1 ∧ w.cell? ⟨g, 2, none⟩ = some v2 ∧ w.cell? ⟨g, 3, none⟩ = some v3 ∧ w.cell? ⟨g, 4, none⟩ = some v4 ∧ w.cell? ⟨g, 5, none⟩ = some v5 ∧ w.cell? ⟨g, 6, none⟩ = some v6 ∧ w.cell? ⟨g, 7, none⟩ = some v7 :=
 ⟨by simp [World.cell?, h], by simp [World.cell?, h], by simp [World.cell?, h], by simp [World.cell?, h], by simp [World.cell?, h], by simp [World.cell?, h], by simp [World.cell?, h], by simp [World.cell?, h]⟩
end Go.Proofs.YtkbekojnmdgdgaaGreatDoor
/- KyEq -/
namespace Go.Proofs.YtkbekojnmdgdgaaGreatDoor
open Go.RowKit
theorem keyE_cells : Tryz.prog.cellsOf 63 = 2 := by kernel_rfl
theorem entE_cells : Tryz.prog.cellsOf 65 = 3 := by kernel_rfl
theorem strE_cells : Tryz.prog.cellsOf 9 = 1 := by kernel_rfl
theorem intE_cells : Tryz.prog.cellsOf 3 = 1 := by kernel_rfl
theorem entE_key : Tryz.prog.keyTypeAt 3 65 = true := by kernel_rfl
theorem keyE_lits (d : Nat) (a b : ByteArray) (h : Ky.okk a b) : Tryz.prog.keyLits (d + 2) 63 [.string a, .string b] = some [.string a.data.toList, .string b.data.toList] := by
 have h1 : ∀ x : ByteArray, x.size ≤ 9223372036854775807 → Tryz.prog.keyLits (d + 1) 9 [.string x] = some [.string x.data.toList] := fun x hx => by
  unfold Program.keyLits
  simp only [Tryz.underlying9]
  rw [if_pos (by unfold maxLen; omega)]
 conv => lhs; unfold Program.keyLits
 simp only [Tryz.underlying63, keyE_cells]
 simp [h1 a h.1, h1 b h.2, strE_cells]
theorem entE_lits (a b : ByteArray) (c : Int) (h : Ky.ok a b c) : Tryz.prog.keyLits 3 65 [.string a, .string b, .int .i64 c] = some [.string a.data.toList, .string b.data.toList, .int .i64 c] := by
 have h0 := keyE_lits 0 a b h.1
 have hc := wf_iK h.2
 have h1 : Tryz.prog.keyLits 2 3 [.int .i64 c] = some [.int .i64 c] := by simp [Program.keyLits, Tryz.underlying3, hc]
 conv => lhs; unfold Program.keyLits
 simp only [Tryz.underlying65, entE_cells]
 simp [h0, h1, keyE_cells, intE_cells]
theorem bdata {x y : ByteArray} : x.data = y.data ↔ x = y := ⟨fun e => by cases x; cases y; simp only at e; rw [e], fun e => by rw [e]⟩
theorem entE_neq (a b : ByteArray) (c : Int) (a' b' : ByteArray) (c' : Int) (h : Ky.ok a b c) (h' : Ky.ok a' b' c') (W : World) :
  (binOp .neq 65 (.agg #[.string a, .string b, .int .i64 c]) (.agg #[.string a', .string b', .int .i64 c'])).run Tryz.prog W = .ok (.bool (!decide ((⟨a, b, c⟩ : Ky.T) = ⟨a', b', c'⟩))) W := by
 have hf : ∀ (x y : ByteArray) (z : Int), (Value.agg #[.string x, .string y, .int .i64 z]).formed Tryz.prog 65 = true := fun x y z => by simp [Value.formed, Tryz.underlying65, entE_cells]
 obtain ⟨r, hr, hiff⟩ := run_equalIn_deep 9997 3 65 entE_key W 3 3 (.agg #[.string a, .string b, .int .i64 c]) (.agg #[.string a', .string b', .int .i64 c']) _ _ (hf a b c) (hf a' b' c') (entE_lits a b c h) (entE_lits a' b' c' h')
 rw [run_neq_struct, hr]
 have e : r = decide ((⟨a, b, c⟩ : Ky.T) = ⟨a', b', c'⟩) := by
  rw [Bool.eq_iff_iff, hiff]
  simp [bdata]
 rw [e]; rfl
end Go.Proofs.YtkbekojnmdgdgaaGreatDoor
/- FieldsIn -/
namespace Go.Proofs.YtkbekojnmdgdgaaGreatDoor
open Go.ChangeShapes Go.WideShapes Go.ChangeAt Go.RowKit Go.Deep
theorem list_of {α : Type} (d : α) (R : Nat → α → Prop) : ∀ n : Nat, (∀ i, i < n → ∃ x, R i x) → ∃ xs : List α, xs.length = n ∧ ∀ i, i < n → R i (xs.getD i d)
 | 0, _ => ⟨[], rfl, fun i hi => by omega⟩
 | n + 1, h => by
  obtain ⟨xs, hl, hx⟩ := list_of d R n fun i hi => h i (by omega)
  obtain ⟨x, hn⟩ := h n (by omega)
  refine ⟨xs ++ [x], by simp [hl], fun i hi => ?_⟩
  rw [List.getD_eq_getElem?_getD]
  by_cases hi2 : i < n
  ·rw [List.getElem?_append_left (by omega), ← List.getD_eq_getElem?_getD]; exact hx i hi2
  ·have : i = n := by omega
   subst this
   rw [List.getElem?_append_right (by omega), hl]
   simpa using hn
theorem i64_of {H : Type} {enc : TypeId × Value → H} {P : Program} {w : World} {base : Nat} {spare : Nat → Bool} {held : Bool} {t : TypeId} {n : Nat} {v : Value} {y : DataW H × List MemPlace} (ht : P.underlying t = some (.int .i64)) (h : DataW.trod enc P w base spare held n t [v] = some y) :
  ∃ k, v = .int .i64 k ∧ -9223372036854775808 ≤ k ∧ k ≤ 9223372036854775807 := by
 obtain ⟨k, e, _, hw⟩ := DataW.trod_int ht h
 have hw' : -9223372036854775808 ≤ k ∧ k ≤ 9223372036854775807 := by simpa [Lit.wf, IntKind.min, IntKind.max, IntKind.bits, IntKind.signed] using hw
 exact ⟨k, by simpa using e, hw'⟩
theorem str_of {H : Type} {enc : TypeId × Value → H} {P : Program} {w : World} {base : Nat} {spare : Nat → Bool} {held : Bool} {t : TypeId} {n : Nat} {v : Value} {y : DataW H × List MemPlace} (ht : P.underlying t = some .string) (h : DataW.trod enc P w base spare held n t [v] = some y) :
  ∃ s : ByteArray, v = .string s ∧ s.size ≤ 9223372036854775807 := by
 obtain ⟨s, e, _, hw⟩ := DataW.trod_string ht h
 unfold maxLen at hw
 exact ⟨s, by simpa using e, hw⟩
end Go.Proofs.YtkbekojnmdgdgaaGreatDoor
/- RowsIn -/
namespace Go.Proofs.YtkbekojnmdgdgaaGreatDoor
open Go.ChangeShapes Go.WideShapes Go.ChangeAt Go.RowKit Go.Deep
theorem field_in {H : Type} {enc : TypeId × Value → H} {P : Program} {w : World} {base : Nat} {spare : Nat → Bool} {held : Bool} {e : TypeId} {fs : Array Field} {n : Nat} {zs : List Value} {y : DataW H × List MemPlace}
  (he : P.underlying e = some (.struct fs)) (h : DataW.trod enc P w base spare held n e zs = some y) (j : Nat) (f : Field) (hj : fs[j]? = some f) {o c : Nat} (ho : f.offset = o) (hc : P.cellsOf f.type = c) :
  ∃ m y', DataW.trod enc P w base spare held m f.type ((zs.drop o).take c) = some y' := by
 obtain ⟨ys, m, _, _, _, hyl, hf⟩ := DataW.trod_struct he h
 have h3 := hf j f hj
 have hjl : j < fs.size := (Array.getElem?_eq_some_iff.1 hj).1
 rw [ho, hc, List.getElem?_eq_getElem (by omega : j < ys.length)] at h3
 exact ⟨m, _, h3⟩
end Go.Proofs.YtkbekojnmdgdgaaGreatDoor
/- SlicesIn -/
namespace Go.Proofs.YtkbekojnmdgdgaaGreatDoor
open Go.ChangeShapes Go.WideShapes Go.ChangeAt Go.RowKit Go.Deep
theorem rows_any {H : Type} {enc : TypeId × Value → H} {P : Program} {w : World} {base : Nat} {spare : Nat → Bool} {held : Bool} {t e : TypeId} {k fuel : Nat} {cs : List Value} {x : DataW H × List MemPlace}
  (ht : P.underlying t = some (.slice e)) (hC : P.cellsOf e = k) (hk : 0 < k) (h : DataW.trod enc P w base spare held fuel t cs = some x) :
  ∃ (A : Option Addr) (len cap : Nat), cs = [.slice A len cap] ∧ len ≤ cap ∧ cap ≤ 9223372036854775807 ∧
   (0 < len → ∃ b off, A = some ⟨b, off, none⟩ ∧ b < w.heap.size ∧ ∀ i, i < len → ∃ (zs : List Value) (n : Nat) (y : DataW H × List MemPlace), zs.length = k ∧ DataW.trod enc P w base spare held n e zs = some y ∧ ∀ (j : Nat) (hj : j < zs.length), w.cell? ⟨b, off + i * k + j, none⟩ = some zs[j]) := by
 rcases open_slice ht h with ⟨h0, _⟩ | ⟨a, len, cap, m, n, D, Pl, hcs, hb, hl, hm, hmm, _, hi⟩
 ·exact ⟨none, 0, 0, h0, Nat.le_refl _, by decide, fun h => by omega⟩
 ·have hlm : len ≤ m := by rw [hmm]; split <;> omega
  unfold maxLen at hm
  have key : ∀ i, i < len → ∃ (zs : List Value) (n : Nat) (y : DataW H × List MemPlace), zs.length = k ∧ DataW.trod enc P w base spare held n e zs = some y ∧ ∀ (j : Nat) (hj : j < zs.length), w.cell? (a.add (i * k + j)) = some zs[j] := fun i hil => by
   obtain ⟨zs, h1, h2⟩ := hi i (by omega)
   obtain ⟨_, hlen, hat⟩ := World.cells?_some h1
   have hzl : zs.length = k := by omega
   refine ⟨zs, _, _, hzl, h2, fun j hj => ?_⟩
   have h4 := hat j (by omega)
   rw [hC, Go.Deep.add_add, List.getElem?_eq_getElem hj] at h4
   exact h4
  refine ⟨some a, len, cap, hcs, hl, hm, fun h0 => ?_⟩
  obtain ⟨b, off, spot⟩ := a
  obtain ⟨zs, _, _, hz, _, hv⟩ := key 0 h0
  have h00 := hv 0 (by omega)
  have hs : spot = none := by simpa [Addr.add] using World.cell?_spot h00
  subst hs
  refine ⟨b, off, rfl, by rw [add_off] at h00; exact block_lt h00, fun i hil => ?_⟩
  obtain ⟨zs, n, y, h1, h2, h3⟩ := key i hil
  refine ⟨zs, n, y, h1, h2, fun j hj => ?_⟩
  have h4 := h3 j hj
  rw [add_off, ← Nat.add_assoc] at h4
  exact h4
theorem ones_any {H : Type} {enc : TypeId × Value → H} {P : Program} {w : World} {base : Nat} {spare : Nat → Bool} {held : Bool} {t e : TypeId} {fuel : Nat} {cs : List Value} {x : DataW H × List MemPlace} {α : Type} (d : α) (R : Value → α → Prop)
  (ht : P.underlying t = some (.slice e)) (hC : P.cellsOf e = 1) (hR : ∀ (n : Nat) (v : Value) (y : DataW H × List MemPlace), DataW.trod enc P w base spare held n e [v] = some y → ∃ a, R v a) (h : DataW.trod enc P w base spare held fuel t cs = some x) :
  ∃ (A : Option Addr) (ls : List α) (cap : Nat), cs = [.slice A ls.length cap] ∧ ls.length ≤ cap ∧ cap ≤ 9223372036854775807 ∧ (0 < ls.length → ∃ b off, A = some ⟨b, off, none⟩ ∧ b < w.heap.size ∧ ∀ i, i < ls.length → ∃ v, w.cell? ⟨b, off + i, none⟩ = some v ∧ R v (ls.getD i d)) := by
 obtain ⟨A, len, cap, hcs, hl, hm, hc⟩ := rows_any (k := 1) ht hC (by decide) h
 rcases Nat.eq_zero_or_pos len with h0 | h0
 ·subst h0
  exact ⟨A, [], cap, hcs, by simp, hm, fun h => by simp at h⟩
 ·obtain ⟨b, off, rfl, hb, he⟩ := hc h0
  obtain ⟨ls, hll, hls⟩ := list_of d (fun i a => ∃ v, w.cell? ⟨b, off + i, none⟩ = some v ∧ R v a) len fun i hi => by
   obtain ⟨zs, n, y, hz, ht, hv⟩ := he i hi
   obtain ⟨z0, rfl⟩ : ∃ z0, zs = [z0] := by
    match zs, hz with
    | [a], _ => exact ⟨a, rfl⟩
   obtain ⟨a, ha⟩ := hR n z0 y ht
   exact ⟨a, z0, by have := hv 0 (by simp); simpa using this, ha⟩
  exact ⟨some ⟨b, off, none⟩, ls, cap, by rw [hll]; exact hcs, by omega, hm, fun _ => ⟨b, off, rfl, hb, fun i hi => hls i (by omega)⟩⟩
end Go.Proofs.YtkbekojnmdgdgaaGreatDoor
