/-
  A store in memory: its object, its map, one row of bytes for each file, what it keeps for a fuse; which blocks are its own; what is kept of all others.
-/
import Derived.Test.YtmahbcpkilegpaaStoMap
import Derived.Test.YtmahbcpkilegpaaRowsKit
import Derived.Test.YtmahbcpkilegpaaNumRows
namespace Go.Proofs.Ytmahbcpkilegpaa
open Go.RowKit St

/-! ### What is kept -/
/-- Nothing but the blocks of 'own' and new ones has changed. -/
structure Only (own : Nat → Prop) (w w' : World) : Prop where
  os : w'.os = w.os
  tape : w'.tape = w.tape
  output : w'.output = w.output
  size : w.heap.size ≤ w'.heap.size
  block : ∀ k, k < w.heap.size → ¬ own k → w'.heap[k]? = w.heap[k]?
theorem Only.refl (own : Nat → Prop) (w : World) : Only own w w := ⟨rfl, rfl, rfl, Nat.le_refl _, fun _ _ _ => rfl⟩
theorem Only.mono {own own2 : Nat → Prop} {w w' : World} (h : Only own w w') (hs : ∀ k, k < w.heap.size → own k → own2 k) : Only own2 w w' := ⟨h.os, h.tape, h.output, h.size, fun k hk hn => h.block k hk fun ho => hn (hs k hk ho)⟩
theorem Only.of {own : Nat → Prop} {w w' : World} (h : Below w.heap.size w w') : Only own w w' := ⟨h.os, h.tape, h.output, h.size, fun k hk _ => h.block k hk⟩
theorem Only.trans {own own2 : Nat → Prop} {a b c : World} (h : Only own a b) (k : Only own2 b c) (hs : ∀ i, own2 i → own i ∨ a.heap.size ≤ i) : Only own a c :=
  ⟨k.os.trans h.os, k.tape.trans h.tape, k.output.trans h.output, Nat.le_trans h.size k.size, fun i hi hn =>
    (k.block i (Nat.lt_of_lt_of_le hi h.size) fun ho => by rcases hs i ho with h1 | h1; exact hn h1; omega).trans (h.block i hi hn)⟩
theorem Only.below {own : Nat → Prop} {w w' : World} {base : Nat} (h : Only own w w') (hb : base ≤ w.heap.size) (ho : ∀ k, own k → base ≤ k) : Below base w w' :=
  ⟨h.os, h.tape, h.output, h.size, fun k hk => h.block k (by omega) fun hn => by have := ho k hn; omega⟩
theorem Only.set (own : Nat → Prop) {g : Nat} (o : Nat) (w : World) (v : Value) (hg : own g) : Only own w (w.setCell ⟨g, o, none⟩ v) :=
  ⟨rfl, rfl, rfl, by simp [World.setCell], fun k _ hn => Below.heap_setCell _ _ _ _ (by rintro rfl; exact hn hg)⟩
theorem Only.drewN {own : Nat → Prop} {a w : World} (h : Only own a w) (n : Nat) : Only own a (w.drewN n) := ⟨h.os, h.tape, h.output, h.size, h.block⟩
theorem Only.drew {own : Nat → Prop} {a w : World} (h : Only own a w) : Only own a w.drew := ⟨h.os, h.tape, h.output, h.size, h.block⟩
theorem Only.from {own : Nat → Prop} {a w : World} (h : Only own a w) (n : Nat) : Only own (a.drewN n) w := ⟨h.os, h.tape, h.output, h.size, h.block⟩
theorem Only.alloc {own : Nat → Prop} {a w : World} (h : Only own a w) (o : Obj) : Only own a (w.alloc o) :=
  ⟨h.os, h.tape, h.output, by simp; have := h.size; omega, fun k hk hn => by rw [Below.heap_alloc _ _ _ (Nat.lt_of_lt_of_le hk h.size)]; exact h.block k hk hn⟩
theorem Only.grown {own : Nat → Prop} {w w' : World} {row : Option Nat} (h : w.grownBy w' row) (hr : ∀ k, row = some k → own k) : Only own w w' :=
  ⟨h.os, h.tape, h.output, h.size, fun k hk hn => h.block k hk fun e => hn (hr k e.symm)⟩
theorem Only.turned {own : Nat → Prop} {w w' : World} {m : Nat} (h : w.mapTurned w' m) (hm : own m) : Only own w w' := by
  obtain ⟨h1, h2, h3, h4, h5⟩ := turned_frame h
  exact ⟨h1, h2, h3, by omega, fun k _ hn => h5 k (by rintro rfl; exact hn hm)⟩
/-- What a call of the object whose blocks are 'own' leaves: 'own2' are its blocks then. -/
structure Step (own own2 : Nat → Prop) (w w' : World) : Prop where
  only : Only own w w'
  sub : ∀ k, own2 k → own k ∨ w.heap.size ≤ k
theorem Step.refl (own : Nat → Prop) (w : World) : Step own own w w := ⟨Only.refl _ _, fun _ h => .inl h⟩
theorem Step.trans {o1 o2 o3 : Nat → Prop} {a b c : World} (h : Step o1 o2 a b) (k : Step o2 o3 b c) : Step o1 o3 a c :=
  ⟨h.only.trans k.only h.sub, fun i hi => by
    rcases k.sub i hi with h1 | h1
    · exact h.sub i h1
    · exact .inr (Nat.le_trans h.only.size h1)⟩
theorem Step.ahead {o1 o2 : Nat → Prop} {a b c : World} (h : Below a.heap.size a b) (k : Step o1 o2 b c) : Step o1 o2 a c :=
  ⟨(Only.of h).trans k.only fun i hi => .inl hi, fun i hi => by
    rcases k.sub i hi with h1 | h1
    · exact .inl h1
    · exact .inr (Nat.le_trans h.size h1)⟩
theorem Step.drewN {o1 o2 : Nat → Prop} {a w : World} (h : Step o1 o2 a w) (n : Nat) : Step o1 o2 a (w.drewN n) := ⟨h.only.drewN n, h.sub⟩
theorem Step.alloc {o1 o2 : Nat → Prop} {a w : World} (h : Step o1 o2 a w) (o : Obj) : Step o1 o2 a (w.alloc o) := ⟨h.only.alloc o, h.sub⟩
theorem Step.behind {o1 o2 : Nat → Prop} {a b c : World} (h : Step o1 o2 a b) (k : Below b.heap.size b c) : Step o1 o2 a c := h.trans ⟨Only.of k, fun _ hi => .inl hi⟩

/-! ### An object of five cells; of two -/
theorem obj5 {w : World} {g : Nat} {a b c d e : Value} {t : TypeId} (h : w.heap[g]? = some (.cells #[a, b, c, d, e] t (0, 0))) :
    (w.cell? ⟨g, 0, none⟩ = some a ∧ w.cell? ⟨g, 1, none⟩ = some b ∧ w.cell? ⟨g, 2, none⟩ = some c ∧ w.cell? ⟨g, 3, none⟩ = some d ∧ w.cell? ⟨g, 4, none⟩ = some e) ∧
    (w.frozen? ⟨g, 0, none⟩ = false ∧ w.frozen? ⟨g, 1, none⟩ = false ∧ w.frozen? ⟨g, 2, none⟩ = false ∧ w.frozen? ⟨g, 3, none⟩ = false ∧ w.frozen? ⟨g, 4, none⟩ = false) :=
  ⟨⟨by simp [World.cell?, h], by simp [World.cell?, h], by simp [World.cell?, h], by simp [World.cell?, h], by simp [World.cell?, h]⟩,
   by simp [World.frozen?, h], by simp [World.frozen?, h], by simp [World.frozen?, h], by simp [World.frozen?, h], by simp [World.frozen?, h]⟩
theorem obj2 {w : World} {g : Nat} {x y : Value} {t : TypeId} (h : w.heap[g]? = some (.cells #[x, y] t (0, 0))) :
    (w.cell? ⟨g, 0, none⟩ = some x ∧ w.cell? ⟨g, 1, none⟩ = some y) ∧ w.frozen? ⟨g, 0, none⟩ = false ∧ w.frozen? ⟨g, 1, none⟩ = false :=
  ⟨⟨by simp [World.cell?, h], by simp [World.cell?, h]⟩, by simp [World.frozen?, h], by simp [World.frozen?, h]⟩
theorem obj_set {w : World} {g o : Nat} {cs : Array Value} {t : TypeId} (h : w.heap[g]? = some (.cells cs t (0, 0))) (v : Value) :
    (w.setCell ⟨g, o, none⟩ v).heap[g]? = some (.cells (cs.setIfInBounds o v) t (0, 0)) := heap_setCell_same w g o cs t v h

/-! ### Rows of bytes of the store's own -/
theorem OwnB.head {w : World} {base : Nat} {A : Option Addr} {cap : Nat} {zs : List Int} (h : OwnB w base A cap zs) (k : Nat) : OwnB w base A cap (zs.take k) := by
  refine ⟨⟨by simp, ?_⟩, fun i hi => ?_⟩
  · rcases h.1.2 with ⟨e, e0⟩ | ⟨g, c', cur, e, hb, hg, h1, h2, h3, h4⟩
    · injection e with e1 e2 e3
      subst e1 e3
      have : zs = [] := List.eq_nil_of_length_eq_zero e0
      subst this
      exact .inl ⟨by simp, by simp⟩
    · injection e with e1 e2 e3
      subst e1 e3
      refine .inr ⟨g, _, cur, rfl, hb, hg, by rw [List.length_take]; omega, h2, h3, ?_⟩
      rw [Nat.mul_one] at h4 ⊢
      rw [List.map_take, ← h4, List.take_take, List.length_take]
  · rw [List.length_take] at hi
    have := h.2 i (by omega)
    rw [List.getD_eq_getElem?_getD, List.getElem?_take_of_lt (by omega), ← List.getD_eq_getElem?_getD]
    exact this
theorem OwnB.low {w : World} {base b : Nat} {A : Option Addr} {cap : Nat} {zs : List Int} (h : OwnB w base A cap zs) (hb : b ≤ base) : OwnB w b A cap zs := ⟨Joins.ownsRow_le h.1 hb, h.2⟩
theorem OwnB.lt {w : World} {base : Nat} {a : Addr} {cap : Nat} {zs : List Int} (h : OwnB w base (some a) cap zs) : base ≤ a.block ∧ a.block < w.heap.size := h.1.lt a.block (by simp [Value.ownBlock])
theorem OwnB.block {w : World} {base : Nat} {a : Addr} {cap : Nat} {zs : List Int} (h : OwnB w base (some a) cap zs) : ∃ cur, w.heap[a.block]? = some (.cells cur 5 (0, 0)) := by
  rcases h.1.2 with ⟨e, _⟩ | ⟨g, c', cur, e, _, hg, _⟩
  · cases e
  · injection e with e1 _ _
    injection e1 with e1
    subst e1
    exact ⟨cur, hg⟩
theorem OwnB.capmax {w : World} {base : Nat} {A : Option Addr} {cap : Nat} {zs : List Int} (h : OwnB w base A cap zs) : zs.length ≤ cap ∧ cap ≤ 9223372036854775807 := by
  rcases h.1.2 with ⟨e, e0⟩ | ⟨g, c', cur, e, _, _, hle, hm, _⟩
  · injection e with e1 e2 e3; omega
  · injection e with e1 e2 e3; unfold maxLen at hm; omega
/-- Where the row lies after an append: where it lay, or in a new block. -/
def Lies (w : World) (A A' : Option Addr) : Prop := ∀ a', A' = some a' → (∃ a, A = some a ∧ a'.block = a.block) ∨ w.heap.size ≤ a'.block
theorem Lies.refl (w : World) (A : Option Addr) : Lies w A A := fun a' h => .inl ⟨a', h, rfl⟩
theorem run_app2 {w : World} {A : Option Addr} {cap : Nat} {xs : List Int} (h : OwnB w 0 A cap xs)
    {B : Nat} {A2 : Option Addr} {zs : List Int} (hb : Bytes w B A2 zs) (c : Nat) (hlen : xs.length + zs.length ≤ 1073741824) (ty : TypeId) :
    ∃ A' cap' w', (Builtin.append_ #[28, 28] ty #[.slice A xs.length cap, .slice A2 zs.length c]).run Try.prog w = .ok (.slice A' (xs ++ zs).length cap') w' ∧
      OwnB w' 0 A' cap' (xs ++ zs) ∧ w.grownBy w' (Value.slice A xs.length cap).ownBlock ∧ Lies w A A' := by
  have rng := rng_app h.2 hb.1
  obtain ⟨i, hi, hz, hs, hy⟩ := info_parts u8_info
  rcases A2 with _ | ad
  · have h0 : zs = [] := by
      rcases Nat.eq_zero_or_pos zs.length with h0 | h0
      · exact List.eq_nil_of_length_eq_zero h0
      · obtain ⟨_, _, e, _⟩ := hb.2 h0; cases e
    subst h0
    refine ⟨A, cap, w, ?_, ?_, ⟨rfl, rfl, rfl, Nat.le_refl _, fun _ _ _ => rfl⟩, Lies.refl _ _⟩
    · rw [List.append_nil]; exact nil_src h c ty
    · rw [List.append_nil]; exact h
  · obtain ⟨v', w', hrun, hown, hg, _, hblk⟩ := run_append_own_at (P := Try.prog) (w := w) 0 28 ty 5 i _ 1 1 Try.underlying28 hi hz hs hy rfl (by decide)
      _ xs.length _ h.1 ad zs.length c (zs.map (Value.int .u8)) (by simp) (cells_of hb) (fun u hu => by simp at hu; obtain ⟨z, _, rfl⟩ := hu; rfl) (by unfold maxLen; omega) (by omega) (Nat.zero_le _)
    obtain ⟨A', cap', rfl⟩ := form_of hown
    rw [← List.length_append] at hrun hown
    refine ⟨A', cap', w', hrun, ⟨?_, rng⟩, hg, fun a' ha' => ?_⟩
    · rw [List.map_append]
      exact hown
    · subst ha'
      rcases hblk with e | e
      · cases A with
        | none => simp [Value.ownBlock] at e
        | some a => simp [Value.ownBlock] at e; exact .inl ⟨a, rfl, e⟩
      · simp [Value.ownBlock] at e; exact .inr (by omega)
theorem wp_app2 {w : World} {ops : Array Oper} {rest : List Oper} {o : Oper} {a : Act} {Q : Exit → Act → World → Prop} (hgd : o.guard = none) (s x : Operand)
    (ho : o.op = .call { callee := .builtin .append, args := #[s, x], argTypes := #[28, 28] })
    {A : Option Addr} {n cap : Nat} {xs : List Int} (hs : a.eval s = .slice A n cap) (hn : n = xs.length) (h : OwnB w 0 A cap xs)
    {B : Nat} {A2 : Option Addr} {m c : Nat} {zs : List Int} (hx : a.eval x = .slice A2 m c) (hm : m = zs.length) (hb : Bytes w B A2 zs) (hlen : xs.length + zs.length ≤ 1073741824)
    (K : ∀ A' cap' w', OwnB w' 0 A' cap' (xs ++ zs) → w.grownBy w' (Value.slice A xs.length cap).ownBlock → Lies w A A' → wpList Try.prog ops Q rest (a.put o.dst (.slice A' (xs ++ zs).length cap')) w') :
    wpList Try.prog ops Q (o :: rest) a w := by
  subst hn hm
  obtain ⟨A', cap', w', hrun, h1, h2, h3⟩ := run_app2 h hb c hlen o.type
  refine wpList_plain hgd fun K' hK => ?_
  unfold Oper.wp
  simp [execOp, ho, resolve, invoke, builtin, hs, hx, hrun, Result.andThen]
  have hk := K A' cap' w' h1 h2 h3
  rw [List.length_append] at hk
  exact hK _ _ hk

/-! ### The store -/
def elt (Ad : List UInt8 → Option Addr × Nat) (f : F) : Value := .agg #[.slice (Ad f.nm).1 f.zs.length (Ad f.nm).2, .int .i64 (f.sure : Int)]
structure PS (w : World) (T : Nat) (own : Nat → Prop) (s : S) (Ad : List UInt8 → Option Addr × Nat) (m : Nat) (ka : Option Addr) (kc : Nat) : Prop where
  obj : w.heap[T]? = some (.cells #[.int .i64 (s.room : Int), .map (some m), .bool s.off, .int .i64 (s.fuse : Int), .slice ka s.keep.length kc] 61 (0, 0))
  map : PMap w m (elt Ad) s.fs
  rows : ∀ f ∈ s.fs, OwnB w 0 (Ad f.nm).1 (Ad f.nm).2 f.zs
  apart : ∀ f ∈ s.fs, ∀ g ∈ s.fs, f.nm ≠ g.nm → ∀ a b, (Ad f.nm).1 = some a → (Ad g.nm).1 = some b → a.block ≠ b.block
  keep : OwnN w 0 ka kc s.keep
  ownT : own T
  ownM : own m
  ownR : ∀ f ∈ s.fs, ∀ a, (Ad f.nm).1 = some a → own a.block
  ownK : ∀ a, ka = some a → own a.block
  lt : ∀ k, own k → k < w.heap.size
  inv : Inv s
def PState (w : World) (T : Nat) (own : Nat → Prop) (s : S) : Prop := ∃ Ad m ka kc, PS w T own s Ad m ka kc
/-- The store stays what it is where its blocks are. -/
theorem PS.same {w w' : World} {T : Nat} {own : Nat → Prop} {s : S} {Ad : List UInt8 → Option Addr × Nat} {m : Nat} {ka : Option Addr} {kc : Nat} (h : PS w T own s Ad m ka kc) (hs : w.heap.size ≤ w'.heap.size) (hk : ∀ k, own k → w'.heap[k]? = w.heap[k]?) : PS w' T own s Ad m ka kc :=
  ⟨(hk T h.ownT).trans h.obj, h.map.keep (hk m h.ownM), fun f hf => (h.rows f hf).keep fun a ha => hk _ (h.ownR f hf a ha), h.apart, h.keep.keep fun a ha => hk _ (h.ownK a ha), h.ownT, h.ownM, h.ownR, h.ownK, fun k hk => Nat.lt_of_lt_of_le (h.lt k hk) hs, h.inv⟩
theorem PS.grow {w w' : World} {T : Nat} {own : Nat → Prop} {s : S} {Ad : List UInt8 → Option Addr × Nat} {m : Nat} {ka : Option Addr} {kc : Nat} (h : PS w T own s Ad m ka kc) (hb : Below w.heap.size w w') : PS w' T own s Ad m ka kc :=
  h.same hb.size fun k hk => hb.block k (h.lt k hk)
theorem PState.lt {w : World} {T : Nat} {own : Nat → Prop} {s : S} (h : PState w T own s) : ∀ k, own k → k < w.heap.size := by obtain ⟨_, _, _, _, p⟩ := h; exact p.lt
theorem PState.inv {w : World} {T : Nat} {own : Nat → Prop} {s : S} (h : PState w T own s) : Inv s := by obtain ⟨_, _, _, _, p⟩ := h; exact p.inv
theorem PState.ownT {w : World} {T : Nat} {own : Nat → Prop} {s : S} (h : PState w T own s) : own T := by obtain ⟨_, _, _, _, p⟩ := h; exact p.ownT
theorem PState.same {w w' : World} {T : Nat} {own : Nat → Prop} {s : S} (h : PState w T own s) (hs : w.heap.size ≤ w'.heap.size) (hk : ∀ k, own k → w'.heap[k]? = w.heap[k]?) : PState w' T own s := by
  obtain ⟨Ad, m, ka, kc, p⟩ := h; exact ⟨Ad, m, ka, kc, p.same hs hk⟩
theorem PState.grow {w w' : World} {T : Nat} {own : Nat → Prop} {s : S} (h : PState w T own s) (hb : Below w.heap.size w w') : PState w' T own s := h.same hb.size fun k hk => hb.block k (h.lt k hk)
theorem PState.draw {w : World} {T : Nat} {own : Nat → Prop} {s : S} (h : PState w T own s) (n : Nat) : PState (w.drewN n) T own s := h.same (Nat.le_refl _) fun _ _ => rfl
/-- What a call that changes the store leaves. -/
def Leaves (w : World) (T : Nat) (own : Nat → Prop) (s : S) (w' : World) : Prop := ∃ own2, PState w' T own2 s ∧ Step own own2 w w'
theorem Leaves.same {w w' : World} {T : Nat} {own : Nat → Prop} {s : S} (h : PState w T own s) (hb : Below w.heap.size w w') : Leaves w T own s w' := ⟨own, h.grow hb, ⟨Only.of hb, fun _ h => .inl h⟩⟩
theorem Leaves.trans {a b c : World} {T : Nat} {own : Nat → Prop} {s : S} {own2 : Nat → Prop} (h : Step own own2 a b) (k : Leaves b T own2 s c) : Leaves a T own s c := by
  obtain ⟨o3, h1, h2⟩ := k; exact ⟨o3, h1, h.trans h2⟩
theorem Leaves.ahead {a b c : World} {T : Nat} {own : Nat → Prop} {s : S} (h : Below a.heap.size a b) (k : Leaves b T own s c) : Leaves a T own s c := by
  obtain ⟨o3, h1, h2⟩ := k; exact ⟨o3, h1, h2.ahead h⟩
theorem Leaves.behind {a b c : World} {T : Nat} {own : Nat → Prop} {s : S} (k : Leaves a T own s b) (h : Below b.heap.size b c) : Leaves a T own s c := by
  obtain ⟨o3, h1, h2⟩ := k; exact ⟨o3, h1.grow h, h2.behind h⟩

/-! ### Which blocks are one -/
theorem OwnN.block {w : World} {base : Nat} {a : Addr} {cap : Nat} {zs : List Int} (h : OwnN w base (some a) cap zs) : ∃ cur, w.heap[a.block]? = some (.cells cur 3 (0, 0)) := by
  rcases h.2 with ⟨e, _⟩ | ⟨g, c', cur, e, _, hg, _⟩
  · cases e
  · injection e with e1 _ _
    injection e1 with e1
    subst e1
    exact ⟨cur, hg⟩
theorem type_ne {w : World} {g g' : Nat} {cs cs' : Array Value} {t t' : TypeId} {fz fz' : Nat × Nat} (h : w.heap[g]? = some (.cells cs t fz)) (h' : w.heap[g']? = some (.cells cs' t' fz')) (ht : t ≠ t') : g ≠ g' := by
  rintro rfl
  rw [h] at h'
  injection h' with h'
  injection h' with _ h' _
  exact ht h'
section
variable {w : World} {T : Nat} {own : Nat → Prop} {s : S} {Ad : List UInt8 → Option Addr × Nat} {m : Nat} {ka : Option Addr} {kc : Nat}
theorem PS.row_ne (h : PS w T own s Ad m ka kc) {f : F} (hf : f ∈ s.fs) {a : Addr} (ha : (Ad f.nm).1 = some a) : a.block ≠ T ∧ a.block ≠ m ∧ ∀ b, ka = some b → a.block ≠ b.block := by
  have hr := h.rows f hf
  rw [ha] at hr
  obtain ⟨cur, hc⟩ := hr.block
  refine ⟨type_ne hc h.obj (by decide), h.map.ne hc, fun b hb => ?_⟩
  have hk := h.keep
  rw [hb] at hk
  obtain ⟨cur2, hc2⟩ := hk.block
  exact type_ne hc hc2 (by decide)
theorem PS.keep_ne (h : PS w T own s Ad m ka kc) {b : Addr} (hb : ka = some b) : b.block ≠ T ∧ b.block ≠ m := by
  have hk := h.keep
  rw [hb] at hk
  obtain ⟨cur2, hc2⟩ := hk.block
  exact ⟨type_ne hc2 h.obj (by decide), h.map.ne hc2⟩
theorem PS.obj_ne (h : PS w T own s Ad m ka kc) : T ≠ m := h.map.ne h.obj
/-- Only the object's block has changed: other flags, another fuse, another row that is kept for it. -/
theorem PS.flags (h : PS w T own s Ad m ka kc) {w' : World} (hs : w.heap.size ≤ w'.heap.size) (hk : ∀ k, k < w.heap.size → k ≠ T → w'.heap[k]? = w.heap[k]?) {own2 : Nat → Prop} {off : Bool} {fuse : Nat} {keep : List Int} {ka2 : Option Addr} {kc2 : Nat}
    (ho : w'.heap[T]? = some (.cells #[.int .i64 (s.room : Int), .map (some m), .bool off, .int .i64 (fuse : Int), .slice ka2 keep.length kc2] 61 (0, 0)))
    (hn : OwnN w' 0 ka2 kc2 keep) (hsub : ∀ k, own k → own2 k) (hlt : ∀ k, own2 k → k < w'.heap.size) (h2 : ∀ a, ka2 = some a → own2 a.block) (hf : fuse ≤ 9223372036854775807) (hl : keep.length ≤ 64) :
    PS w' T own2 { s with off := off, fuse := fuse, keep := keep } Ad m ka2 kc2 :=
  ⟨ho, h.map.keep (hk m (h.lt m h.ownM) h.obj_ne.symm), fun f hf => (h.rows f hf).keep fun a ha => hk _ (h.lt _ (h.ownR f hf a ha)) (h.row_ne hf ha).1, h.apart, hn, hsub _ h.ownT, hsub _ h.ownM, fun f hf a ha => hsub _ (h.ownR f hf a ha), h2, hlt,
    ⟨h.inv.sorted, h.inv.names, h.inv.sure, h.inv.tot, h.inv.room, h.inv.count, hf, hl⟩⟩
end
end Go.Proofs.Ytmahbcpkilegpaa
