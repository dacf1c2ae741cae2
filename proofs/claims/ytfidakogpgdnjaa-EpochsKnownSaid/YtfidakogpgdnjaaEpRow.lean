/-
  Slices of stamps in memory: what one holds (nil and empty too), rows of the call's own, grown by append; what is kept of the other blocks.
-/
import Derived.Test.YtfidakogpgdnjaaBytesKit
namespace Go.Proofs.Ytfidakogpgdnjaa
open Go.RowKit
/-- The slice at address A whose elements are the stamps zs, below block B. -/
def Sts (w : World) (B : Nat) (A : Option Addr) (zs : List Int) : Prop :=
  (∀ i, i < zs.length → 0 ≤ zs.getD i 0 ∧ zs.getD i 0 < 18446744073709551616) ∧
  (0 < zs.length → ∃ b off, A = some ⟨b, off, none⟩ ∧ b < B ∧ ∀ i, i < zs.length → w.cell? ⟨b, off + i, none⟩ = some (.int .u64 (zs.getD i 0)))
theorem Sts.at_ {w : World} {B : Nat} {A : Option Addr} {zs : List Int} {k : Nat} (h : Sts w B A zs) (hk : k < zs.length) :
    ∃ b off z, A = some ⟨b, off, none⟩ ∧ Hid (b < B) ∧ w.cell? ⟨b, off + k, none⟩ = some (.int .u64 z) ∧ Hid (zs.getD k 0 = z) ∧ 0 ≤ z ∧ z < 18446744073709551616 := by
  obtain ⟨b, off, e, hb, hc⟩ := h.2 (by omega)
  exact ⟨b, off, _, e, Lib.hid hb, hc k hk, Lib.hid rfl, (h.1 k hk).1, (h.1 k hk).2⟩
theorem Sts.nil_ {w : World} {B : Nat} {A : Option Addr} : Sts w B A [] := ⟨fun i h => by simp at h, fun h => by simp at h⟩
theorem Sts.below {w w' : World} {B : Nat} {A : Option Addr} {zs : List Int} (h : Sts w B A zs) (hb : Below B w w') : Sts w' B A zs :=
  ⟨h.1, fun hn => by
    obtain ⟨b, off, e, hl, hc⟩ := h.2 hn
    exact ⟨b, off, e, hl, fun i hi => (hb.cell (p := ⟨b, _, none⟩) hl).trans (hc i hi)⟩⟩
theorem Sts.more {w : World} {B B' : Nat} {A : Option Addr} {zs : List Int} (h : Sts w B A zs) (hB : B ≤ B') : Sts w B' A zs :=
  ⟨h.1, fun hn => by
    obtain ⟨b, off, e, hb, hc⟩ := h.2 hn
    exact ⟨b, off, e, by omega, hc⟩⟩
theorem Sts.on {w w' : World} {A : Option Addr} {zs : List Int} (h : Sts w w.heap.size A zs) (hb : Below w.heap.size w w') : Sts w' w'.heap.size A zs := (h.below hb).more hb.size
theorem Sts.head {w : World} {B : Nat} {A : Option Addr} {zs : List Int} (h : Sts w B A zs) (k : Nat) : Sts w B A (zs.take k) := by
  have hg : ∀ i, i < (zs.take k).length → (zs.take k).getD i 0 = zs.getD i 0 ∧ i < zs.length := fun i hi => by
    simp at hi
    rw [List.getD_eq_getElem?_getD, List.getD_eq_getElem?_getD, List.getElem?_take_of_lt (by omega)]
    exact ⟨rfl, by omega⟩
  refine ⟨fun i hi => by rw [(hg i hi).1]; exact h.1 i (hg i hi).2, fun hn => ?_⟩
  obtain ⟨b, off, e, hb, hc⟩ := h.2 (by simp at hn; omega)
  exact ⟨b, off, e, hb, fun i hi => by rw [(hg i hi).1]; exact hc i (hg i hi).2⟩
theorem Sts.rng {w : World} {B : Nat} {A : Option Addr} {zs : List Int} (h : Sts w B A zs) : ∀ z ∈ zs, 0 ≤ z ∧ z < 18446744073709551616 := fun z hz => by
  obtain ⟨i, hi, e⟩ := List.getElem_of_mem hz
  have := h.1 i hi
  rw [List.getD_eq_getElem?_getD, List.getElem?_eq_getElem hi] at this
  rw [← e]; exact this
/-- Below 'base' nothing has changed, and no block of another type than a row of stamps has. -/
structure GrewS (base : Nat) (w w' : World) : Prop where
  below : Below base w w'
  obj : ∀ (g : Nat) (cs : Array Value) (t : TypeId) (fz : Nat × Nat), w.heap[g]? = some (.cells cs t fz) → t ≠ 29 → w'.heap[g]? = some (.cells cs t fz)
theorem GrewS.refl (base : Nat) (w : World) : GrewS base w w := ⟨Below.refl _ _, fun _ _ _ _ h _ => h⟩
theorem GrewS.trans {base : Nat} {a b c : World} (h : GrewS base a b) (k : GrewS base b c) : GrewS base a c :=
  ⟨h.below.trans k.below, fun g cs t fz hg ht => k.obj g cs t fz (h.obj g cs t fz hg ht) ht⟩
theorem GrewS.of {B : Nat} {w w' : World} (h : Below w.heap.size w w') (hB : B ≤ w.heap.size) : GrewS B w w' :=
  ⟨h.mono hB, fun g cs t fz hg _ => by rw [h.block g (lt_of_block hg)]; exact hg⟩
theorem GrewS.mono {base b : Nat} {w w' : World} (h : GrewS base w w') (hb : b ≤ base) : GrewS b w w' := ⟨h.below.mono hb, h.obj⟩
def OwnS (w : World) (base : Nat) (A : Option Addr) (cap : Nat) (zs : List Int) : Prop :=
  w.ownsRow base 29 1 (.slice A zs.length cap) zs.length (zs.map (Value.int .u64)) ∧ ∀ i, i < zs.length → 0 ≤ zs.getD i 0 ∧ zs.getD i 0 < 18446744073709551616
theorem OwnS.none_ (w : World) (base : Nat) : OwnS w base none 0 [] := ⟨World.ownsRow_nil w base _ _, fun i hi => by simp at hi⟩
theorem OwnS.sts {w : World} {base : Nat} {A : Option Addr} {cap : Nat} {zs : List Int} (h : OwnS w base A cap zs) : Sts w w.heap.size A zs := by
  refine ⟨h.2, fun hn => ?_⟩
  obtain ⟨g, c, e⟩ := Joins.ownsRow_form h.1 hn
  injection e with e1 e2 e3
  subst e1 e3
  have hlt := h.1.lt g (by simp [Value.ownBlock])
  refine ⟨g, 0, rfl, hlt.2, fun i hi => ?_⟩
  rw [Nat.zero_add, h.1.cellAt i (by omega)]
  simp [hi]
theorem OwnS.cap_ {w : World} {base : Nat} {A : Option Addr} {cap : Nat} {zs : List Int} (h : OwnS w base A cap zs) : zs.length ≤ cap := by
  rcases h.1.2 with ⟨e, e0⟩ | ⟨g, c', cur, e, _, _, hle, _⟩
  · omega
  · injection e with e1 e2 e3; omega
theorem OwnS.low {w : World} {base b : Nat} {A : Option Addr} {cap : Nat} {zs : List Int} (h : OwnS w base A cap zs) (hb : b ≤ base) : OwnS w b A cap zs := ⟨Joins.ownsRow_le h.1 hb, h.2⟩
theorem OwnS.keep {w w' : World} {base : Nat} {A : Option Addr} {cap : Nat} {zs : List Int} (h : OwnS w base A cap zs) (hk : ∀ a, A = some a → w'.heap[a.block]? = w.heap[a.block]?) : OwnS w' base A cap zs := by
  refine ⟨⟨h.1.1, ?_⟩, h.2⟩
  rcases h.1.2 with e | ⟨g, c', cur, e, hb, hg, r⟩
  · exact .inl e
  · injection e with e1 e2 e3
    subst e1 e3
    exact .inr ⟨g, _, cur, rfl, hb, by rw [hk _ rfl]; exact hg, r⟩
theorem OwnS.ne {w : World} {base : Nat} {a : Addr} {cap : Nat} {zs : List Int} (h : OwnS w base (some a) cap zs) {g : Nat} {cs : Array Value} {t : TypeId} {fz : Nat × Nat} (ho : w.heap[g]? = some (.cells cs t fz)) (ht : t ≠ 29) : a.block ≠ g := by
  rintro rfl
  rcases h.1.2 with ⟨e, _⟩ | ⟨g, c', cur, e, hb, hg, r⟩
  · cases e
  · injection e with e1 e2 e3
    injection e1 with e1
    subst e1
    rw [ho] at hg
    injection hg with hg
    injection hg with _ h2 _
    exact ht h2
theorem OwnS.set {w : World} {base : Nat} {A : Option Addr} {cap : Nat} {zs : List Int} (h : OwnS w base A cap zs) {g : Nat} {cs : Array Value} {t : TypeId} {fz : Nat × Nat} (ho : w.heap[g]? = some (.cells cs t fz)) (ht : t ≠ 29) (o : Nat) (v : Value) :
    OwnS (w.setCell ⟨g, o, none⟩ v) base A cap zs :=
  h.keep fun a ha => by subst ha; exact Below.heap_setCell _ _ _ _ (h.ne ho ht)
theorem OwnS.grew {w w' : World} {base B : Nat} {A : Option Addr} {cap : Nat} {zs : List Int} (h : OwnS w base A cap zs) (hb : Below B w w') (hB : w.heap.size ≤ B) : OwnS w' base A cap zs :=
  h.keep fun a ha => by
    subst ha
    exact hb.block _ (by have := (h.1.lt a.block (by simp [Value.ownBlock])).2; omega)
/-- Another row of the call's own, laid before this one, is another block. -/
theorem stamp_info : (Try.prog.info? 29).map (fun i => (i.zero, i.size, i.bytes)) = some (some (.int .u64 0), 1, 8) := by kernel_rfl
theorem form_ofS {w : World} {base n : Nat} {v : Value} {xs : List Value} (h : w.ownsRow base 29 1 v n xs) : ∃ A cap, v = .slice A n cap := by
  rcases h.2 with ⟨e, e0⟩ | ⟨g, c', _, e, _⟩
  · exact ⟨none, 0, by rw [e0]; exact e⟩
  · exact ⟨_, _, e⟩
theorem row_blockS {w : World} {base n : Nat} {v : Value} {xs : List Value} (h : w.ownsRow base 29 1 v n xs) : ∀ k, v.ownBlock = some k → base ≤ k ∧ ∃ cur, w.heap[k]? = some (.cells cur 29 (0, 0)) := fun k hk => by
  refine ⟨(h.lt k hk).1, ?_⟩
  rcases h.2 with ⟨e, _⟩ | ⟨g, c', cur, e, _, hg, _⟩
  · rw [e] at hk; cases hk
  · rw [e] at hk; simp [Value.ownBlock] at hk; subst hk; exact ⟨cur, hg⟩
theorem grew_ofS {w w' : World} {base : Nat} {row : Option Nat} (hg : w.grownBy w' row) (hbase : base ≤ w.heap.size) (h1 : ∀ k, row = some k → base ≤ k)
    (h2 : ∀ k, row = some k → ∃ cur, w.heap[k]? = some (.cells cur 29 (0, 0))) : GrewS base w w' := by
  refine ⟨(Below.refl _ _).grown hg hbase h1, fun g cs t fz ho ht => ?_⟩
  rw [hg.block g (lt_of_block ho) ?_]
  · exact ho
  · rintro e
    obtain ⟨cur, hc⟩ := h2 g e.symm
    rw [ho] at hc
    injection hc with hc
    injection hc with _ hc _
    exact ht hc
theorem cells_ofS {w : World} {B : Nat} {ad : Addr} {zs : List Int} (hb : Sts w B (some ad) zs) : ∀ j u, (zs.map (Value.int .u64))[j]? = some u → w.cell? (ad.add j) = some u := fun j u hu => by
  rw [List.getElem?_map] at hu
  obtain ⟨z, hz1, rfl⟩ := Option.map_eq_some_iff.1 hu
  have hj : j < zs.length := (List.getElem?_eq_some_iff.1 hz1).1
  obtain ⟨b, off, e, _, hc⟩ := hb.2 (by omega)
  injection e with e
  subst e
  rw [add_off, hc j hj, List.getD_eq_getElem?_getD, hz1]
  rfl
theorem nil_srcS {w : World} {base : Nat} {A : Option Addr} {cap : Nat} {zs : List Int} (h : OwnS w base A cap zs) (c : Nat) (ty : TypeId) :
    (Builtin.append_ #[23, 23] ty #[.slice A zs.length cap, .slice none 0 c]).run Try.prog w = .ok (.slice A zs.length cap) w := by
  obtain ⟨i, hi, _, _, _⟩ := info_parts stamp_info
  have hfit := h.1.2
  rcases hfit with ⟨e, _⟩ | ⟨g, c', cur, e, _, _, hle, _⟩
  · rw [e]
    simp [Builtin.append_, run_underlying Try.underlying23, sizeOf, typeInfo, hi, Builtin.lenOf, Builtin.firstCells]
  · rw [e]
    simp [Builtin.append_, run_underlying Try.underlying23, sizeOf, typeInfo, hi, Builtin.lenOf, Builtin.firstCells, hle, storeCells]
theorem rng_appS {xs zs : List Int} (hx : ∀ i, i < xs.length → 0 ≤ xs.getD i 0 ∧ xs.getD i 0 < 18446744073709551616) (hz : ∀ i, i < zs.length → 0 ≤ zs.getD i 0 ∧ zs.getD i 0 < 18446744073709551616) :
    ∀ i, i < (xs ++ zs).length → 0 ≤ (xs ++ zs).getD i 0 ∧ (xs ++ zs).getD i 0 < 18446744073709551616 := fun i hi => by
  rw [List.getD_eq_getElem?_getD]
  by_cases h : i < xs.length
  · rw [List.getElem?_append_left h, ← List.getD_eq_getElem?_getD]; exact hx i h
  · rw [List.getElem?_append_right (by omega), ← List.getD_eq_getElem?_getD]
    rw [List.length_append] at hi
    exact hz _ (by omega)
/-- What an append of stamps onto a row of the call's own leaves: the row with the stamps behind it. -/
theorem run_appS {w : World} {base : Nat} {A : Option Addr} {cap : Nat} {xs : List Int} (h : OwnS w base A cap xs) (hbase : base ≤ w.heap.size)
    {B : Nat} {A2 : Option Addr} {zs : List Int} (hb : Sts w B A2 zs) (c : Nat) (hlen : xs.length + zs.length ≤ 1073741824) (ty : TypeId) :
    ∃ A' cap' w', (Builtin.append_ #[23, 23] ty #[.slice A xs.length cap, .slice A2 zs.length c]).run Try.prog w = .ok (.slice A' (xs ++ zs).length cap') w' ∧
      OwnS w' base A' cap' (xs ++ zs) ∧ GrewS base w w' := by
  have rng := rng_appS h.2 hb.1
  obtain ⟨i, hi, hz, hs, hy⟩ := info_parts stamp_info
  rcases A2 with _ | ad
  · have h0 : zs = [] := by
      rcases Nat.eq_zero_or_pos zs.length with h0 | h0
      · exact List.eq_nil_of_length_eq_zero h0
      · obtain ⟨_, _, e, _⟩ := hb.2 h0; cases e
    subst h0
    refine ⟨A, cap, w, ?_, ?_, GrewS.refl _ _⟩
    · rw [List.append_nil]; exact nil_srcS h c ty
    · rw [List.append_nil]; exact h
  · obtain ⟨v', w', hrun, hown, hg, _, hblk⟩ := run_append_own_at (P := Try.prog) (w := w) base 23 ty 29 i _ 1 8 Try.underlying23 hi hz hs hy rfl (by decide)
      _ xs.length _ h.1 ad zs.length c (zs.map (Value.int .u64)) (by simp) (cells_ofS hb) (fun u hu => by simp at hu; obtain ⟨z, _, rfl⟩ := hu; rfl) (by unfold maxLen; omega) (by omega) hbase
    obtain ⟨A', cap', rfl⟩ := form_ofS hown
    rw [← List.length_append] at hrun hown
    refine ⟨A', cap', w', hrun, ⟨?_, rng⟩, grew_ofS hg hbase (fun k hk => (row_blockS h.1 k hk).1) (fun k hk => (row_blockS h.1 k hk).2)⟩
    rw [List.map_append]
    exact hown
theorem wp_appS {w : World} {ops : Array Oper} {rest : List Oper} {o : Oper} {a : Act} {Q : Exit → Act → World → Prop} (hgd : o.guard = none) (s x : Operand)
    (ho : o.op = .call { callee := .builtin .append, args := #[s, x], argTypes := #[23, 23] })
    {base : Nat} {A : Option Addr} {n cap : Nat} {xs : List Int} (hs : a.eval s = .slice A n cap) (hn : n = xs.length) (h : OwnS w base A cap xs) (hbase : base ≤ w.heap.size)
    {B : Nat} {A2 : Option Addr} {m c : Nat} {zs : List Int} (hx : a.eval x = .slice A2 m c) (hm : m = zs.length) (hb : Sts w B A2 zs) (hlen : xs.length + zs.length ≤ 1073741824)
    (K : ∀ A' cap' w', OwnS w' base A' cap' (xs ++ zs) → GrewS base w w' → wpList Try.prog ops Q rest (a.put o.dst (.slice A' (xs ++ zs).length cap')) w') :
    wpList Try.prog ops Q (o :: rest) a w := by
  subst hn hm
  obtain ⟨A', cap', w', hrun, h1, h2⟩ := run_appS h hbase hb c hlen o.type
  refine wpList_plain hgd fun K' hK => ?_
  unfold Oper.wp
  simp [execOp, ho, resolve, invoke, builtin, hs, hx, hrun, Result.andThen]
  have hk := K A' cap' w' h1 h2
  rw [List.length_append] at hk
  exact hK _ _ hk
/-- One stamp that the call itself has just laid. -/
theorem Sts.new1 (w : World) (z : Int) (h0 : 0 ≤ z) (h1 : z < 18446744073709551616) (fr : Nat × Nat) :
    Sts (w.alloc (.cells #[.int .u64 z] 29 fr)) (w.heap.size + 1) (some ⟨w.heap.size, 0, none⟩) [z] := by
  refine ⟨fun i hi => ?_, fun _ => ⟨w.heap.size, 0, rfl, by omega, fun i hi => ?_⟩⟩
  · obtain rfl : i = 0 := by simpa using hi
    exact ⟨h0, h1⟩
  · obtain rfl : i = 0 := by simpa using hi
    rw [Nat.zero_add, World.cell?_alloc_mark]
    simp
theorem stillE {P : Program} {f : FuncId} {args : Array Value} {W : World} {n : Nat} {v : Value} (h : ∀ W, Calls P f args W fun e w' => e = .returned v ∧ W = w') :
    Calls P f args (W.drewN n) fun e w' => e = .returned v ∧ ∃ m, w' = W.drewN m :=
  (h _).mono fun _ _ ⟨he, hm⟩ => ⟨he, n, hm.symm⟩
theorem size1S (W : World) : (sizeOf 29).run Try.prog W = .ok 1 W := by kernel_rfl
theorem elemS : Try.prog.elem 23 = 29 := by kernel_rfl
theorem undS : Try.prog.underlying 23 = some (.slice (Try.prog.elem 23)) := by rw [elemS]; exact Try.underlying23
theorem slice_toS (A : Option Addr) (n cap k : Nat) (h : k ≤ cap) (ik : IntKind) (W : World) :
    (Instr.slice 23 (.slice A n cap) none (some (.int ik (k : Int))) none).run Try.prog W = .ok (.slice A k cap) W := by
  rw [run_slice_h (P := Try.prog) (w := W) 23 A n cap undS ik k (by omega) (by omega), elemS, size1S]
  simp [Result.andThen, sliced]
  intro _
  cases A <;> simp [Addr.add]
end Go.Proofs.Ytfidakogpgdnjaa
