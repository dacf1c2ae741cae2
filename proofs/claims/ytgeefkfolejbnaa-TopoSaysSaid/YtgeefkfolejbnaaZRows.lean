/-
  Slices of ints: one that came in, and rows of the call's own, appended to, stored to, read.
-/
import Derived.Test.YtgeefkfolejbnaaBaseKit
import Derived.Laws.MakeOwn
namespace Go.Proofs.Ytgeefkfolejbnaa
open Go.RowKit

/-- A signed number of 64 bits. -/
def inI (z : Int) : Prop := -9223372036854775808 ≤ z ∧ z ≤ 9223372036854775807
/-- The slice at address A whose elements are the numbers zs, below block B. -/
def Zs (w : World) (B : Nat) (A : Option Addr) (zs : List Int) : Prop :=
  (∀ i, i < zs.length → inI (zs.getD i 0)) ∧
  (0 < zs.length → ∃ b off, A = some ⟨b, off, none⟩ ∧ b < B ∧ ∀ i, i < zs.length → w.cell? ⟨b, off + i, none⟩ = some (.int .i64 (zs.getD i 0)))
theorem Zs.at_ {w : World} {B : Nat} {A : Option Addr} {zs : List Int} {k : Nat} (h : Zs w B A zs) (hk : k < zs.length) :
    ∃ b off z, A = some ⟨b, off, none⟩ ∧ Hid (b < B) ∧ w.cell? ⟨b, off + k, none⟩ = some (.int .i64 z) ∧ Hid (zs.getD k 0 = z) ∧ -9223372036854775808 ≤ z ∧ z ≤ 9223372036854775807 := by
  obtain ⟨b, off, e, hb, hc⟩ := h.2 (by omega)
  exact ⟨b, off, _, e, Lib.hid hb, hc k hk, Lib.hid rfl, (h.1 k hk).1, (h.1 k hk).2⟩
theorem Zs.nil_ {w : World} {B : Nat} {A : Option Addr} : Zs w B A [] := ⟨fun i h => by simp at h, fun h => by simp at h⟩
theorem Zs.below {w w' : World} {B : Nat} {A : Option Addr} {zs : List Int} (h : Zs w B A zs) (hb : Below B w w') : Zs w' B A zs :=
  ⟨h.1, fun hn => by
    obtain ⟨b, off, e, hl, hc⟩ := h.2 hn
    exact ⟨b, off, e, hl, fun i hi => (hb.cell (p := ⟨b, _, none⟩) hl).trans (hc i hi)⟩⟩
theorem Zs.more {w : World} {B B' : Nat} {A : Option Addr} {zs : List Int} (h : Zs w B A zs) (hB : B ≤ B') : Zs w B' A zs :=
  ⟨h.1, fun hn => by
    obtain ⟨b, off, e, hb, hc⟩ := h.2 hn
    exact ⟨b, off, e, by omega, hc⟩⟩
theorem Zs.on {w w' : World} {A : Option Addr} {zs : List Int} (h : Zs w w.heap.size A zs) (hb : Below w.heap.size w w') : Zs w' w'.heap.size A zs := (h.below hb).more hb.size

def OwnZ (w : World) (base : Nat) (A : Option Addr) (cap : Nat) (zs : List Int) : Prop :=
  w.ownsRow base 3 1 (.slice A zs.length cap) zs.length (zs.map (Value.int .i64)) ∧ ∀ i, i < zs.length → inI (zs.getD i 0)
theorem OwnZ.none_ (w : World) (base : Nat) : OwnZ w base none 0 [] := ⟨World.ownsRow_nil w base _ _, fun i h => by simp at h⟩
theorem OwnZ.lt {w : World} {base : Nat} {a : Addr} {cap : Nat} {zs : List Int} (h : OwnZ w base (some a) cap zs) : base ≤ a.block ∧ a.block < w.heap.size :=
  World.ownsRow.lt h.1 a.block (by simp [Value.ownBlock])
theorem OwnZ.keep {w w' : World} {base : Nat} {A : Option Addr} {cap : Nat} {zs : List Int} (h : OwnZ w base A cap zs) (hk : ∀ a, A = some a → w'.heap[a.block]? = w.heap[a.block]?) : OwnZ w' base A cap zs := by
  refine ⟨⟨h.1.1, ?_⟩, h.2⟩
  rcases h.1.2 with e | ⟨g, c', cur, e, hb, hg, r⟩
  · exact .inl e
  · injection e with e1 e2 e3
    subst e1 e3
    exact .inr ⟨g, _, cur, rfl, hb, by rw [hk _ rfl]; exact hg, r⟩
theorem OwnZ.low {w : World} {base b : Nat} {A : Option Addr} {cap : Nat} {zs : List Int} (h : OwnZ w base A cap zs) (hb : b ≤ base) : OwnZ w b A cap zs := ⟨Joins.ownsRow_le h.1 hb, h.2⟩
theorem OwnZ.grew {w w' : World} {base B : Nat} {A : Option Addr} {cap : Nat} {zs : List Int} (h : OwnZ w base A cap zs) (hb : Below B w w') (hB : w.heap.size ≤ B) : OwnZ w' base A cap zs :=
  h.keep fun a ha => by
    subst ha
    exact hb.block _ (by have := h.lt.2; omega)
theorem OwnZ.zs {w : World} {base : Nat} {A : Option Addr} {cap : Nat} {zs : List Int} (h : OwnZ w base A cap zs) : Zs w w.heap.size A zs := by
  refine ⟨h.2, fun hn => ?_⟩
  obtain ⟨g, c, e⟩ := Joins.ownsRow_form h.1 hn
  injection e with e1 e2 e3
  subst e1 e3
  have hlt := OwnZ.lt h
  refine ⟨g, 0, rfl, hlt.2, fun i hi => ?_⟩
  rw [Nat.zero_add, World.ownsRow.cellAt h.1 i (by omega), List.getElem?_map, List.getD_eq_getElem?_getD, List.getElem?_eq_getElem hi]
  rfl
theorem OwnZ.shape {w : World} {base : Nat} {A : Option Addr} {cap : Nat} {zs : List Int} (h : OwnZ w base A cap zs) (hn : 0 < zs.length) : ∃ g, A = some ⟨g, 0, none⟩ ∧ base ≤ g ∧ g < w.heap.size := by
  obtain ⟨g, c, e⟩ := Joins.ownsRow_form h.1 hn
  injection e with e1 e2 e3
  subst e1 e3
  have hlt := OwnZ.lt h
  exact ⟨g, rfl, hlt.1, hlt.2⟩
theorem OwnZ.cap_ {w : World} {base : Nat} {A : Option Addr} {cap : Nat} {zs : List Int} (h : OwnZ w base A cap zs) : zs.length ≤ cap := by
  rcases h.1.2 with ⟨e, e0⟩ | ⟨g, c', cur, e, _, _, hle, _⟩
  · omega
  · injection e with e1 e2 e3; omega
/-- A block of another type is no row of numbers. -/
theorem OwnZ.ne {w : World} {base : Nat} {a : Addr} {cap : Nat} {zs : List Int} (h : OwnZ w base (some a) cap zs) {g : Nat} {cs : Array Value} {t : TypeId} {fz : Nat × Nat} (ho : w.heap[g]? = some (.cells cs t fz)) (ht : t ≠ 3) : a.block ≠ g := by
  rintro rfl
  rcases h.1.2 with ⟨e, _⟩ | ⟨g, c', cur, e, hb, hg, r⟩
  · cases e
  · injection e with e1 e2 e3
    injection e1 with e1
    subst e1
    rw [ho] at hg
    injection hg with hg
    injection hg with _ h2 _
    exact ht h2
theorem int_info : (Try.prog.info? 3).map (fun i => (i.zero, i.size, i.bytes)) = some (some (.int .i64 0), 1, 8) := by kernel_rfl
theorem form_ofZ {w : World} {base n : Nat} {v : Value} {xs : List Value} (h : w.ownsRow base 3 1 v n xs) : ∃ A cap, v = .slice A n cap := by
  rcases h.2 with ⟨e, e0⟩ | ⟨g, c', _, e, _⟩
  · exact ⟨none, 0, by rw [e0]; exact e⟩
  · exact ⟨_, _, e⟩
theorem grownZ_below {w w' : World} {base : Nat} {A : Option Addr} {cap n : Nat} {zs : List Int} (h : OwnZ w base A cap zs) (hbase : base ≤ w.heap.size) (hg : w.grownBy w' (Value.slice A n cap).ownBlock) : Below base w w' :=
  (Below.refl _ _).grown hg hbase fun k hk => by
    cases A with
    | none => cases hk
    | some a => simp [Value.ownBlock] at hk; subst hk; exact h.lt.1
theorem rng_appZ {xs zs : List Int} (hx : ∀ i, i < xs.length → inI (xs.getD i 0)) (hz : ∀ i, i < zs.length → inI (zs.getD i 0)) : ∀ i, i < (xs ++ zs).length → inI ((xs ++ zs).getD i 0) := fun i hi => by
  rw [List.getD_eq_getElem?_getD]
  by_cases h : i < xs.length
  · rw [List.getElem?_append_left h, ← List.getD_eq_getElem?_getD]; exact hx i h
  · rw [List.getElem?_append_right (by omega), ← List.getD_eq_getElem?_getD]
    rw [List.length_append] at hi
    exact hz _ (by omega)
theorem run_appZ {w : World} {base : Nat} {A : Option Addr} {cap : Nat} {zs : List Int} {x : Int} (h : OwnZ w base A cap zs) (hbase : base ≤ w.heap.size) {b2 : Nat} (hx : w.cell? ⟨b2, 0, none⟩ = some (.int .i64 x)) (hxi : inI x) (c : Nat) (hlen : zs.length ≤ 1000000000) (ty : TypeId) :
    ∃ A' cap' w', (Builtin.append_ #[28, 28] ty #[.slice A zs.length cap, .slice (some ⟨b2, 0, none⟩) 1 c]).run Try.prog w = .ok (.slice A' (zs ++ [x]).length cap') w' ∧
      OwnZ w' base A' cap' (zs ++ [x]) ∧ w.grownBy w' (Value.slice A zs.length cap).ownBlock := by
  obtain ⟨i, hi, hz0, hs, hyb⟩ := info_parts int_info
  obtain ⟨v', w', hrun, hown, hg, _, _⟩ := run_append_own_at (P := Try.prog) (w := w) base 28 ty 3 i _ 1 8 Try.underlying28 hi hz0 hs hyb rfl (by decide)
    _ zs.length _ h.1 ⟨b2, 0, none⟩ 1 c [.int .i64 x] rfl (fun j u hu => by
      rw [add_off, Nat.zero_add]
      match j, hu with
      | 0, hu => simp at hu; rw [← hu]; exact hx
      | j + 1, hu => simp at hu) (fun u hu => by simp at hu; subst hu; rfl) (by unfold maxLen; omega) (by omega) hbase
  obtain ⟨A', cap', rfl⟩ := form_ofZ hown
  have e : zs.length + 1 = (zs ++ [x]).length := by simp
  rw [e] at hrun hown
  refine ⟨A', cap', w', hrun, ⟨?_, rng_appZ h.2 fun i hi => ?_⟩, hg⟩
  · rw [List.map_append]
    exact hown
  · obtain rfl : i = 0 := by simpa using hi
    exact hxi
theorem wp_appZ {w : World} {ops : Array Oper} {rest : List Oper} {o : Oper} {a : Act} {Q : Exit → Act → World → Prop} (hgd : o.guard = none) (s t : Operand)
    (ho : o.op = .call { callee := .builtin .append, args := #[s, t], argTypes := #[28, 28] })
    {base : Nat} {A : Option Addr} {n cap : Nat} {zs : List Int} {x : Int} (hs : a.eval s = .slice A n cap) (hn : n = zs.length) (h : OwnZ w base A cap zs) (hbase : base ≤ w.heap.size)
    {b2 c : Nat} (ht : a.eval t = .slice (some ⟨b2, 0, none⟩) 1 c) (hx : w.cell? ⟨b2, 0, none⟩ = some (.int .i64 x)) (hxi : inI x) (hlen : zs.length ≤ 1000000000)
    (K : ∀ A' cap' w', OwnZ w' base A' cap' (zs ++ [x]) → w.grownBy w' (Value.slice A zs.length cap).ownBlock → wpList Try.prog ops Q rest (a.put o.dst (.slice A' (zs ++ [x]).length cap')) w') :
    wpList Try.prog ops Q (o :: rest) a w := by
  subst hn
  obtain ⟨A', cap', w', hrun, h1, h2⟩ := run_appZ h hbase hx hxi c hlen o.type
  refine wpList_plain hgd fun K' hK => ?_
  unfold Oper.wp
  simp [execOp, ho, resolve, invoke, builtin, hs, ht, hrun, Result.andThen]
  have hk := K A' cap' w' h1 h2
  rw [List.length_append, List.length_singleton] at hk
  exact hK _ _ hk
/-- A literal row, full. -/
theorem OwnZ.lit {w : World} (zs : List Int) (hz : ∀ z ∈ zs, inI z) (hv : zs.length ≤ 1000000000) (cs : Array Value) (hc : cs.toList = zs.map (Value.int .i64)) : OwnZ (w.alloc (.cells cs 3)) w.heap.size (some ⟨w.heap.size, 0, none⟩) zs.length zs := by
  refine ⟨?_, fun i hi => by rw [List.getD_eq_getElem?_getD, List.getElem?_eq_getElem hi]; exact hz _ (List.getElem_mem hi)⟩
  have := World.ownsRow_lit (e := 3) (size := 1) w cs zs.length (Nat.le_refl w.heap.size) (by unfold maxLen; omega) (by rw [← Array.length_toList, hc]; simp)
  rw [hc] at this
  exact this
theorem Zs.lit {w : World} (zs : List Int) (hz : ∀ z ∈ zs, inI z) (cs : Array Value) (fr : Nat × Nat) (hc : cs.toList = zs.map (Value.int .i64)) : Zs (w.alloc (.cells cs 3 fr)) (w.alloc (.cells cs 3 fr)).heap.size (some ⟨w.heap.size, 0, none⟩) zs := by
  refine ⟨fun i hi => by rw [List.getD_eq_getElem?_getD, List.getElem?_eq_getElem hi]; exact hz _ (List.getElem_mem hi), fun _ => ⟨w.heap.size, 0, rfl, by simp, fun i hi => ?_⟩⟩
  simp only [World.cell?, heap_alloc_new, Nat.zero_add]
  rw [← Array.getElem?_toList, hc, List.getElem?_map, List.getElem?_eq_getElem hi, List.getD_eq_getElem?_getD, List.getElem?_eq_getElem hi]
  simp
/-- One number stored. -/
theorem OwnZ.stored {w : World} {base g cap : Nat} {zs : List Int} (h : OwnZ w base (some ⟨g, 0, none⟩) cap zs) (j : Nat) (v : Int) (hv : inI v) :
    OwnZ (w.setCell ⟨g, j, none⟩ (.int .i64 v)) base (some ⟨g, 0, none⟩) cap (zs.set j v) := by
  have hs := h.1.stored j (.int .i64 v)
  refine ⟨?_, fun i hi => ?_⟩
  · rw [List.length_set, List.map_set]
    exact hs.1
  · rw [List.length_set] at hi
    rw [List.getD_eq_getElem?_getD, List.getElem?_set]
    split
    · next e =>
      subst e
      rw [if_pos hi]
      exact hv
    · rw [← List.getD_eq_getElem?_getD]; exact h.2 i hi
/-- A new row of noughts. -/
theorem made_Z (n : Nat) (hn : n ≤ 1000000) (W : World) : (Instr.makeSlice 28 (.int .i64 (n : Int)) (.int .i64 (n : Int))).run Try.prog W = .ok (.slice (some ⟨W.heap.size, 0, none⟩) n n) (W.alloc (.cells (madeCells #[.int .i64 0] n) 3)) := by
  obtain ⟨i, hi, hz, hs, hy⟩ := info_parts int_info
  have hr := run_make (P := Try.prog) W 28 3 i _ Try.underlying28 hi hz .i64 .i64 n n (by omega) (Int.le_refl _) (by rw [hy]; omega) (by omega)
  rw [hs, Int.toNat_natCast, Nat.mul_one] at hr
  exact hr
theorem OwnZ.made (W : World) (n : Nat) (hn : n ≤ 1000000) : OwnZ (W.alloc (.cells (madeCells #[.int .i64 0] n) 3)) W.heap.size (some ⟨W.heap.size, 0, none⟩) n (List.replicate n 0) := by
  have e : (madeCells #[Value.int .i64 0] n).toList = (List.replicate n (0 : Int)).map (Value.int .i64) := by
    rw [toList_madeCells_one (Value.int .i64 0) n, List.map_replicate]
  have := OwnZ.lit (w := W) (List.replicate n 0) (fun z hz => by rw [(List.mem_replicate.1 hz).2]; exact ⟨by decide, by decide⟩) (by simp; omega) _ e
  rw [List.length_replicate] at this
  exact this
end Go.Proofs.Ytgeefkfolejbnaa
