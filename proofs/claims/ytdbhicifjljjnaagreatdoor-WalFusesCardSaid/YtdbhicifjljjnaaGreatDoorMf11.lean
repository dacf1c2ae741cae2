/-
  Part 11 of the texts behind the law: StoWorld, StoPut, StoName, StoFree, StoShort, StoFind.
-/
import Derived.Test.YtdbhicifjljjnaaGreatDoorMf9
import Derived.Test.YtdbhicifjljjnaaGreatDoorMf4
import Derived.Test.YtdbhicifjljjnaaGreatDoorMf10
import Derived.Lib.ConvBytes
import Derived.Lib.SliceRun
/-
  A store in memory: its object, its map, one row of bytes for each file, what it keeps for a fuse; which blocks are its own; what is kept of all others.
-/
namespace Go.Proofs.YtdbhicifjljjnaaGreatDoor
open Go.RowKit St

/-! ### What is kept -/
/-- Nothing but the blocks of 'own' and new ones has changed. -/
structure Only (own : Nat → Prop) (w w' : World) : Prop where
  os : w'.os = w.os
  tape : w'.tape = w.tape
  output : w'.output = w.output
  size : w.heap.size ≤ w'.heap.size
  block : ∀ k, k < w.heap.size → ¬ own k → w'.heap[k]? = w.heap[k]?
theorem Only.refl (own : Nat → Prop) (w : World) : Only own w w := ⟨rfl, rfl, rfl, Nat.le_refl _, fun _ _ _ => rfl⟩
theorem Only.mono {own own2 : Nat → Prop} {w w' : World} (h : Only own w w') (hs : ∀ k, k < w.heap.size → own k → own2 k) : Only own2 w w' := ⟨h.os, h.tape, h.output, h.size, fun k hk hn => h.block k hk fun ho => hn (hs k hk ho)⟩
theorem Only.of {own : Nat → Prop} {w w' : World} (h : Below w.heap.size w w') : Only own w w' := ⟨h.os, h.tape, h.output, h.size, fun k hk _ => h.block k hk⟩
theorem Only.trans {own own2 : Nat → Prop} {a b c : World} (h : Only own a b) (k : Only own2 b c) (hs : ∀ i, own2 i → own i ∨ a.heap.size ≤ i) : Only own a c :=
  ⟨k.os.trans h.os, k.tape.trans h.tape, k.output.trans h.output, Nat.le_trans h.size k.size, fun i hi hn =>
    (k.block i (Nat.lt_of_lt_of_le hi h.size) fun ho => by rcases hs i ho with h1 | h1; exact hn h1; omega).trans (h.block i hi hn)⟩
theorem Only.below {own : Nat → Prop} {w w' : World} {base : Nat} (h : Only own w w') (hb : base ≤ w.heap.size) (ho : ∀ k, own k → base ≤ k) : Below base w w' :=
  ⟨h.os, h.tape, h.output, h.size, fun k hk => h.block k (by omega) fun hn => by have := ho k hn; omega⟩
theorem Only.set (own : Nat → Prop) {g : Nat} (o : Nat) (w : World) (v : Value) (hg : own g) : Only own w (w.setCell ⟨g, o, none⟩ v) :=
  ⟨rfl, rfl, rfl, by simp [World.setCell], fun k _ hn => Below.heap_setCell _ _ _ _ (by rintro rfl; exact hn hg)⟩
theorem Only.drewN {own : Nat → Prop} {a w : World} (h : Only own a w) (n : Nat) : Only own a (w.drewN n) := ⟨h.os, h.tape, h.output, h.size, h.block⟩
theorem Only.drew {own : Nat → Prop} {a w : World} (h : Only own a w) : Only own a w.drew := ⟨h.os, h.tape, h.output, h.size, h.block⟩
theorem Only.from {own : Nat → Prop} {a w : World} (h : Only own a w) (n : Nat) : Only own (a.drewN n) w := ⟨h.os, h.tape, h.output, h.size, h.block⟩
theorem Only.alloc {own : Nat → Prop} {a w : World} (h : Only own a w) (o : Obj) : Only own a (w.alloc o) :=
  ⟨h.os, h.tape, h.output, by simp; have := h.size; omega, fun k hk hn => by rw [Below.heap_alloc _ _ _ (Nat.lt_of_lt_of_le hk h.size)]; exact h.block k hk hn⟩
theorem Only.grown {own : Nat → Prop} {w w' : World} {row : Option Nat} (h : w.grownBy w' row) (hr : ∀ k, row = some k → own k) : Only own w w' :=
  ⟨h.os, h.tape, h.output, h.size, fun k hk hn => h.block k hk fun e => hn (hr k e.symm)⟩
theorem Only.turned {own : Nat → Prop} {w w' : World} {m : Nat} (h : w.mapTurned w' m) (hm : own m) : Only own w w' := by
  obtain ⟨h1, h2, h3, h4, h5⟩ := turned_frame h
  exact ⟨h1, h2, h3, by omega, fun k _ hn => h5 k (by rintro rfl; exact hn hm)⟩
/-- What a call of the object whose blocks are 'own' leaves: 'own2' are its blocks then. -/
structure Step (own own2 : Nat → Prop) (w w' : World) : Prop where
  only : Only own w w'
  sub : ∀ k, own2 k → own k ∨ w.heap.size ≤ k
theorem Step.refl (own : Nat → Prop) (w : World) : Step own own w w := ⟨Only.refl _ _, fun _ h => .inl h⟩
theorem Step.trans {o1 o2 o3 : Nat → Prop} {a b c : World} (h : Step o1 o2 a b) (k : Step o2 o3 b c) : Step o1 o3 a c :=
  ⟨h.only.trans k.only h.sub, fun i hi => by
    rcases k.sub i hi with h1 | h1
    · exact h.sub i h1
    · exact .inr (Nat.le_trans h.only.size h1)⟩
theorem Step.ahead {o1 o2 : Nat → Prop} {a b c : World} (h : Below a.heap.size a b) (k : Step o1 o2 b c) : Step o1 o2 a c :=
  ⟨(Only.of h).trans k.only fun i hi => .inl hi, fun i hi => by
    rcases k.sub i hi with h1 | h1
    · exact .inl h1
    · exact .inr (Nat.le_trans h.size h1)⟩
theorem Step.drewN {o1 o2 : Nat → Prop} {a w : World} (h : Step o1 o2 a w) (n : Nat) : Step o1 o2 a (w.drewN n) := ⟨h.only.drewN n, h.sub⟩
theorem Step.alloc {o1 o2 : Nat → Prop} {a w : World} (h : Step o1 o2 a w) (o : Obj) : Step o1 o2 a (w.alloc o) := ⟨h.only.alloc o, h.sub⟩
theorem Step.behind {o1 o2 : Nat → Prop} {a b c : World} (h : Step o1 o2 a b) (k : Below b.heap.size b c) : Step o1 o2 a c := h.trans ⟨Only.of k, fun _ hi => .inl hi⟩

/-! ### An object of five cells; of two -/
theorem obj5 {w : World} {g : Nat} {a b c d e : Value} {t : TypeId} (h : w.heap[g]? = some (.cells #[a, b, c, d, e] t (0, 0))) :
    (w.cell? ⟨g, 0, none⟩ = some a ∧ w.cell? ⟨g, 1, none⟩ = some b ∧ w.cell? ⟨g, 2, none⟩ = some c ∧ w.cell? ⟨g, 3, none⟩ = some d ∧ w.cell? ⟨g, 4, none⟩ = some e) ∧
    (w.frozen? ⟨g, 0, none⟩ = false ∧ w.frozen? ⟨g, 1, none⟩ = false ∧ w.frozen? ⟨g, 2, none⟩ = false ∧ w.frozen? ⟨g, 3, none⟩ = false ∧ w.frozen? ⟨g, 4, none⟩ = false) :=
  ⟨⟨by simp [World.cell?, h], by simp [World.cell?, h], by simp [World.cell?, h], by simp [World.cell?, h], by simp [World.cell?, h]⟩,
   by simp [World.frozen?, h], by simp [World.frozen?, h], by simp [World.frozen?, h], by simp [World.frozen?, h], by simp [World.frozen?, h]⟩
theorem obj2 {w : World} {g : Nat} {x y : Value} {t : TypeId} (h : w.heap[g]? = some (.cells #[x, y] t (0, 0))) :
    (w.cell? ⟨g, 0, none⟩ = some x ∧ w.cell? ⟨g, 1, none⟩ = some y) ∧ w.frozen? ⟨g, 0, none⟩ = false ∧ w.frozen? ⟨g, 1, none⟩ = false :=
  ⟨⟨by simp [World.cell?, h], by simp [World.cell?, h]⟩, by simp [World.frozen?, h], by simp [World.frozen?, h]⟩
theorem obj_set {w : World} {g o : Nat} {cs : Array Value} {t : TypeId} (h : w.heap[g]? = some (.cells cs t (0, 0))) (v : Value) :
    (w.setCell ⟨g, o, none⟩ v).heap[g]? = some (.cells (cs.setIfInBounds o v) t (0, 0)) := heap_setCell_same w g o cs t v h

/-! ### Rows of bytes of the store's own -/
theorem OwnB.head {w : World} {base : Nat} {A : Option Addr} {cap : Nat} {zs : List Int} (h : OwnB w base A cap zs) (k : Nat) : OwnB w base A cap (zs.take k) := by
  refine ⟨⟨by simp, ?_⟩, fun i hi => ?_⟩
  · rcases h.1.2 with ⟨e, e0⟩ | ⟨g, c', cur, e, hb, hg, h1, h2, h3, h4⟩
    · injection e with e1 e2 e3
      subst e1 e3
      have : zs = [] := List.eq_nil_of_length_eq_zero e0
      subst this
      exact .inl ⟨by simp, by simp⟩
    · injection e with e1 e2 e3
      subst e1 e3
      refine .inr ⟨g, _, cur, rfl, hb, hg, by rw [List.length_take]; omega, h2, h3, ?_⟩
      rw [Nat.mul_one] at h4 ⊢
      rw [List.map_take, ← h4, List.take_take, List.length_take]
  · rw [List.length_take] at hi
    have := h.2 i (by omega)
    rw [List.getD_eq_getElem?_getD, List.getElem?_take_of_lt (by omega), ← List.getD_eq_getElem?_getD]
    exact this
theorem OwnB.lt {w : World} {base : Nat} {a : Addr} {cap : Nat} {zs : List Int} (h : OwnB w base (some a) cap zs) : base ≤ a.block ∧ a.block < w.heap.size := h.1.lt a.block (by simp [Value.ownBlock])
theorem OwnB.block {w : World} {base : Nat} {a : Addr} {cap : Nat} {zs : List Int} (h : OwnB w base (some a) cap zs) : ∃ cur, w.heap[a.block]? = some (.cells cur 5 (0, 0)) := by
  rcases h.1.2 with ⟨e, _⟩ | ⟨g, c', cur, e, _, hg, _⟩
  · cases e
  · injection e with e1 _ _
    injection e1 with e1
    subst e1
    exact ⟨cur, hg⟩
theorem OwnB.capmax {w : World} {base : Nat} {A : Option Addr} {cap : Nat} {zs : List Int} (h : OwnB w base A cap zs) : zs.length ≤ cap ∧ cap ≤ 9223372036854775807 := by
  rcases h.1.2 with ⟨e, e0⟩ | ⟨g, c', cur, e, _, _, hle, hm, _⟩
  · injection e with e1 e2 e3; omega
  · injection e with e1 e2 e3; unfold maxLen at hm; omega
/-- Where the row lies after an append: where it lay, or in a new block. -/
def Lies (w : World) (A A' : Option Addr) : Prop := ∀ a', A' = some a' → (∃ a, A = some a ∧ a'.block = a.block) ∨ w.heap.size ≤ a'.block
theorem Lies.refl (w : World) (A : Option Addr) : Lies w A A := fun a' h => .inl ⟨a', h, rfl⟩
theorem run_app2 {w : World} {A : Option Addr} {cap : Nat} {xs : List Int} (h : OwnB w 0 A cap xs)
    {B : Nat} {A2 : Option Addr} {zs : List Int} (hb : Bytes w B A2 zs) (c : Nat) (hlen : xs.length + zs.length ≤ 1073741824) (ty : TypeId) :
    ∃ A' cap' w', (Builtin.append_ #[31, 31] ty #[.slice A xs.length cap, .slice A2 zs.length c]).run Tryz.prog w = .ok (.slice A' (xs ++ zs).length cap') w' ∧
      OwnB w' 0 A' cap' (xs ++ zs) ∧ w.grownBy w' (Value.slice A xs.length cap).ownBlock ∧ Lies w A A' := by
  have rng := rng_app h.2 hb.1
  obtain ⟨i, hi, hz, hs, hy⟩ := info_parts u8_info
  rcases A2 with _ | ad
  · have h0 : zs = [] := by
      rcases Nat.eq_zero_or_pos zs.length with h0 | h0
      · exact List.eq_nil_of_length_eq_zero h0
      · obtain ⟨_, _, e, _⟩ := hb.2 h0; cases e
    subst h0
    refine ⟨A, cap, w, ?_, ?_, ⟨rfl, rfl, rfl, Nat.le_refl _, fun _ _ _ => rfl⟩, Lies.refl _ _⟩
    · rw [List.append_nil]; exact nil_src h c ty
    · rw [List.append_nil]; exact h
  · obtain ⟨v', w', hrun, hown, hg, _, hblk⟩ := run_append_own_at (P := Tryz.prog) (w := w) 0 31 ty 5 i _ 1 1 Tryz.underlying31 hi hz hs hy rfl (by decide)
      _ xs.length _ h.1 ad zs.length c (zs.map (Value.int .u8)) (by simp) (cells_of hb) (fun u hu => by simp at hu; obtain ⟨z, _, rfl⟩ := hu; rfl) (by unfold maxLen; omega) (by omega) (Nat.zero_le _)
    obtain ⟨A', cap', rfl⟩ := form_of hown
    rw [← List.length_append] at hrun hown
    refine ⟨A', cap', w', hrun, ⟨?_, rng⟩, hg, fun a' ha' => ?_⟩
    · rw [List.map_append]
      exact hown
    · subst ha'
      rcases hblk with e | e
      · cases A with
        | none => simp [Value.ownBlock] at e
        | some a => simp [Value.ownBlock] at e; exact .inl ⟨a, rfl, e⟩
      · simp [Value.ownBlock] at e; exact .inr (by omega)
theorem wp_app2 {w : World} {ops : Array Oper} {rest : List Oper} {o : Oper} {a : Act} {Q : Exit → Act → World → Prop} (hgd : o.guard = none) (s x : Operand)
    (ho : o.op = .call { callee := .builtin .append, args := #[s, x], argTypes := #[31, 31] })
    {A : Option Addr} {n cap : Nat} {xs : List Int} (hs : a.eval s = .slice A n cap) (hn : n = xs.length) (h : OwnB w 0 A cap xs)
    {B : Nat} {A2 : Option Addr} {m c : Nat} {zs : List Int} (hx : a.eval x = .slice A2 m c) (hm : m = zs.length) (hb : Bytes w B A2 zs) (hlen : xs.length + zs.length ≤ 1073741824)
    (K : ∀ A' cap' w', OwnB w' 0 A' cap' (xs ++ zs) → w.grownBy w' (Value.slice A xs.length cap).ownBlock → Lies w A A' → wpList Tryz.prog ops Q rest (a.put o.dst (.slice A' (xs ++ zs).length cap')) w') :
    wpList Tryz.prog ops Q (o :: rest) a w := by
  subst hn hm
  obtain ⟨A', cap', w', hrun, h1, h2, h3⟩ := run_app2 h hb c hlen o.type
  refine wpList_plain hgd fun K' hK => ?_
  unfold Oper.wp
  simp [execOp, ho, resolve, invoke, builtin, hs, hx, hrun, Result.andThen]
  have hk := K A' cap' w' h1 h2 h3
  rw [List.length_append] at hk
  exact hK _ _ hk

/-! ### The store -/
def elt (Ad : List UInt8 → Option Addr × Nat) (f : F) : Value := .agg #[.slice (Ad f.nm).1 f.zs.length (Ad f.nm).2, .int .i64 (f.sure : Int)]
structure PS (w : World) (T : Nat) (own : Nat → Prop) (s : S) (Ad : List UInt8 → Option Addr × Nat) (m : Nat) (ka : Option Addr) (kc : Nat) : Prop where
  obj : w.heap[T]? = some (.cells #[.int .i64 (s.room : Int), .map (some m), .bool s.off, .int .i64 (s.fuse : Int), .slice ka s.keep.length kc] 62 (0, 0))
  map : PMap w m (elt Ad) s.fs
  rows : ∀ f ∈ s.fs, OwnB w 0 (Ad f.nm).1 (Ad f.nm).2 f.zs
  apart : ∀ f ∈ s.fs, ∀ g ∈ s.fs, f.nm ≠ g.nm → ∀ a b, (Ad f.nm).1 = some a → (Ad g.nm).1 = some b → a.block ≠ b.block
  keep : OwnN w 0 ka kc s.keep
  ownT : own T
  ownM : own m
  ownR : ∀ f ∈ s.fs, ∀ a, (Ad f.nm).1 = some a → own a.block
  ownK : ∀ a, ka = some a → own a.block
  lt : ∀ k, own k → k < w.heap.size
  inv : Inv s
def PState (w : World) (T : Nat) (own : Nat → Prop) (s : S) : Prop := ∃ Ad m ka kc, PS w T own s Ad m ka kc
/-- The store stays what it is where its blocks are. -/
theorem PS.same {w w' : World} {T : Nat} {own : Nat → Prop} {s : S} {Ad : List UInt8 → Option Addr × Nat} {m : Nat} {ka : Option Addr} {kc : Nat} (h : PS w T own s Ad m ka kc) (hs : w.heap.size ≤ w'.heap.size) (hk : ∀ k, own k → w'.heap[k]? = w.heap[k]?) : PS w' T own s Ad m ka kc :=
  ⟨(hk T h.ownT).trans h.obj, h.map.keep (hk m h.ownM), fun f hf => (h.rows f hf).keep fun a ha => hk _ (h.ownR f hf a ha), h.apart, h.keep.keep fun a ha => hk _ (h.ownK a ha), h.ownT, h.ownM, h.ownR, h.ownK, fun k hk => Nat.lt_of_lt_of_le (h.lt k hk) hs, h.inv⟩
theorem PS.grow {w w' : World} {T : Nat} {own : Nat → Prop} {s : S} {Ad : List UInt8 → Option Addr × Nat} {m : Nat} {ka : Option Addr} {kc : Nat} (h : PS w T own s Ad m ka kc) (hb : Below w.heap.size w w') : PS w' T own s Ad m ka kc :=
  h.same hb.size fun k hk => hb.block k (h.lt k hk)
theorem PState.lt {w : World} {T : Nat} {own : Nat → Prop} {s : S} (h : PState w T own s) : ∀ k, own k → k < w.heap.size := by obtain ⟨_, _, _, _, p⟩ := h; exact p.lt
theorem PState.inv {w : World} {T : Nat} {own : Nat → Prop} {s : S} (h : PState w T own s) : Inv s := by obtain ⟨_, _, _, _, p⟩ := h; exact p.inv
theorem PState.ownT {w : World} {T : Nat} {own : Nat → Prop} {s : S} (h : PState w T own s) : own T := by obtain ⟨_, _, _, _, p⟩ := h; exact p.ownT
theorem PState.same {w w' : World} {T : Nat} {own : Nat → Prop} {s : S} (h : PState w T own s) (hs : w.heap.size ≤ w'.heap.size) (hk : ∀ k, own k → w'.heap[k]? = w.heap[k]?) : PState w' T own s := by
  obtain ⟨Ad, m, ka, kc, p⟩ := h; exact ⟨Ad, m, ka, kc, p.same hs hk⟩
theorem PState.grow {w w' : World} {T : Nat} {own : Nat → Prop} {s : S} (h : PState w T own s) (hb : Below w.heap.size w w') : PState w' T own s := h.same hb.size fun k hk => hb.block k (h.lt k hk)
theorem PState.draw {w : World} {T : Nat} {own : Nat → Prop} {s : S} (h : PState w T own s) (n : Nat) : PState (w.drewN n) T own s := h.same (Nat.le_refl _) fun _ _ => rfl
/-- What a call that changes the store leaves. -/
def Leaves (w : World) (T : Nat) (own : Nat → Prop) (s : S) (w' : World) : Prop := ∃ own2, PState w' T own2 s ∧ Step own own2 w w'
theorem Leaves.same {w w' : World} {T : Nat} {own : Nat → Prop} {s : S} (h : PState w T own s) (hb : Below w.heap.size w w') : Leaves w T own s w' := ⟨own, h.grow hb, ⟨Only.of hb, fun _ h => .inl h⟩⟩
theorem Leaves.trans {a b c : World} {T : Nat} {own : Nat → Prop} {s : S} {own2 : Nat → Prop} (h : Step own own2 a b) (k : Leaves b T own2 s c) : Leaves a T own s c := by
  obtain ⟨o3, h1, h2⟩ := k; exact ⟨o3, h1, h.trans h2⟩
theorem Leaves.ahead {a b c : World} {T : Nat} {own : Nat → Prop} {s : S} (h : Below a.heap.size a b) (k : Leaves b T own s c) : Leaves a T own s c := by
  obtain ⟨o3, h1, h2⟩ := k; exact ⟨o3, h1, h2.ahead h⟩
theorem Leaves.behind {a b c : World} {T : Nat} {own : Nat → Prop} {s : S} (k : Leaves a T own s b) (h : Below b.heap.size b c) : Leaves a T own s c := by
  obtain ⟨o3, h1, h2⟩ := k; exact ⟨o3, h1.grow h, h2.behind h⟩

/-! ### Which blocks are one -/
theorem OwnN.block {w : World} {base : Nat} {a : Addr} {cap : Nat} {zs : List Int} (h : OwnN w base (some a) cap zs) : ∃ cur, w.heap[a.block]? = some (.cells cur 3 (0, 0)) := by
  rcases h.2 with ⟨e, _⟩ | ⟨g, c', cur, e, _, hg, _⟩
  · cases e
  · injection e with e1 _ _
    injection e1 with e1
    subst e1
    exact ⟨cur, hg⟩
theorem type_ne {w : World} {g g' : Nat} {cs cs' : Array Value} {t t' : TypeId} {fz fz' : Nat × Nat} (h : w.heap[g]? = some (.cells cs t fz)) (h' : w.heap[g']? = some (.cells cs' t' fz')) (ht : t ≠ t') : g ≠ g' := by
  rintro rfl
  rw [h] at h'
  injection h' with h'
  injection h' with _ h' _
  exact ht h'
section
variable {w : World} {T : Nat} {own : Nat → Prop} {s : S} {Ad : List UInt8 → Option Addr × Nat} {m : Nat} {ka : Option Addr} {kc : Nat}
theorem PS.row_ne (h : PS w T own s Ad m ka kc) {f : F} (hf : f ∈ s.fs) {a : Addr} (ha : (Ad f.nm).1 = some a) : a.block ≠ T ∧ a.block ≠ m ∧ ∀ b, ka = some b → a.block ≠ b.block := by
  have hr := h.rows f hf
  rw [ha] at hr
  obtain ⟨cur, hc⟩ := hr.block
  refine ⟨type_ne hc h.obj (by decide), h.map.ne hc, fun b hb => ?_⟩
  have hk := h.keep
  rw [hb] at hk
  obtain ⟨cur2, hc2⟩ := hk.block
  exact type_ne hc hc2 (by decide)
theorem PS.keep_ne (h : PS w T own s Ad m ka kc) {b : Addr} (hb : ka = some b) : b.block ≠ T ∧ b.block ≠ m := by
  have hk := h.keep
  rw [hb] at hk
  obtain ⟨cur2, hc2⟩ := hk.block
  exact ⟨type_ne hc2 h.obj (by decide), h.map.ne hc2⟩
theorem PS.obj_ne (h : PS w T own s Ad m ka kc) : T ≠ m := h.map.ne h.obj
/-- Only the object's block has changed: other flags, another fuse, another row that is kept for it. -/
theorem PS.flags (h : PS w T own s Ad m ka kc) {w' : World} (hs : w.heap.size ≤ w'.heap.size) (hk : ∀ k, k < w.heap.size → k ≠ T → w'.heap[k]? = w.heap[k]?) {own2 : Nat → Prop} {off : Bool} {fuse : Nat} {keep : List Int} {ka2 : Option Addr} {kc2 : Nat}
    (ho : w'.heap[T]? = some (.cells #[.int .i64 (s.room : Int), .map (some m), .bool off, .int .i64 (fuse : Int), .slice ka2 keep.length kc2] 62 (0, 0)))
    (hn : OwnN w' 0 ka2 kc2 keep) (hsub : ∀ k, own k → own2 k) (hlt : ∀ k, own2 k → k < w'.heap.size) (h2 : ∀ a, ka2 = some a → own2 a.block) (hf : fuse ≤ 9223372036854775807) (hl : keep.length ≤ 64) :
    PS w' T own2 { s with off := off, fuse := fuse, keep := keep } Ad m ka2 kc2 :=
  ⟨ho, h.map.keep (hk m (h.lt m h.ownM) h.obj_ne.symm), fun f hf => (h.rows f hf).keep fun a ha => hk _ (h.lt _ (h.ownR f hf a ha)) (h.row_ne hf ha).1, h.apart, hn, hsub _ h.ownT, hsub _ h.ownM, fun f hf a ha => hsub _ (h.ownR f hf a ha), h2, hlt,
    ⟨h.inv.sorted, h.inv.names, h.inv.sure, h.inv.tot, h.inv.room, h.inv.count, hf, hl⟩⟩
end
end Go.Proofs.YtdbhicifjljjnaaGreatDoor
/-
  What a store of one file into the map, or a file's removal, makes of the whole store.
-/
namespace Go.Proofs.YtdbhicifjljjnaaGreatDoor
open Go.RowKit St

def ext (own : Nat → Prop) (w w' : World) : Nat → Prop := fun k => own k ∨ (w.heap.size ≤ k ∧ k < w'.heap.size)
theorem ext_step {own : Nat → Prop} {w w' : World} (h : Only own w w') : Step own (ext own w w') w w' := ⟨h, fun k hk => by rcases hk with h1 | h1; exact .inl h1; exact .inr h1.1⟩
def upd (Ad : List UInt8 → Option Addr × Nat) (nm : List UInt8) (v : Option Addr × Nat) : List UInt8 → Option Addr × Nat := fun x => if x = nm then v else Ad x
theorem upd_same (Ad : List UInt8 → Option Addr × Nat) (nm : List UInt8) (v : Option Addr × Nat) : upd Ad nm v nm = v := by simp [upd]
theorem upd_other {Ad : List UInt8 → Option Addr × Nat} {nm x : List UInt8} {v : Option Addr × Nat} (h : x ≠ nm) : upd Ad nm v x = Ad x := by simp [upd, h]
theorem elt_other {Ad : List UInt8 → Option Addr × Nat} {nm : List UInt8} {v : Option Addr × Nat} {l : List F} : ∀ g ∈ del nm l, elt (upd Ad nm v) g = elt Ad g := fun g hg => by
  unfold elt; rw [upd_other (mem_del.1 hg).2]
theorem elt_same {Ad : List UInt8 → Option Addr × Nat} {f : F} {A : Option Addr} {cap : Nat} : elt (upd Ad f.nm (A, cap)) f = .agg #[.slice A f.zs.length cap, .int .i64 (f.sure : Int)] := by
  unfold elt; rw [upd_same]
section
variable {w : World} {T : Nat} {own : Nat → Prop} {s : S} {Ad : List UInt8 → Option Addr × Nat} {m : Nat} {ka : Option Addr} {kc : Nat}
theorem PS.more (h : PS w T own s Ad m ka kc) {own2 : Nat → Prop} (hs : ∀ k, own k → own2 k) (hl : ∀ k, own2 k → k < w.heap.size) : PS w T own2 s Ad m ka kc :=
  ⟨h.obj, h.map, h.rows, h.apart, h.keep, hs _ h.ownT, hs _ h.ownM, fun f hf a ha => hs _ (h.ownR f hf a ha), fun a ha => hs _ (h.ownK a ha), hl, h.inv⟩
theorem OwnB.not_map {w1 w2 : World} {A : Option Addr} {cap : Nat} {zs : List Int} (h : OwnB w1 0 A cap zs) (ht : w1.mapTurned w2 m) : OwnB w2 0 A cap zs := by
  obtain ⟨_, _, _, _, hb⟩ := turned_frame ht
  obtain ⟨es, clock, _, _, hm, _⟩ := ht
  refine h.keep fun a ha => hb _ ?_
  subst ha
  obtain ⟨cur, hc⟩ := h.block
  intro e
  rw [e, hm] at hc; cases hc
theorem PS.put (h : PS w T own s Ad m ka kc) {w1 w2 : World} (f' : F) (A' : Option Addr) (cap' : Nat) (hsz : w.heap.size ≤ w1.heap.size) (hT : w1.heap[T]? = w.heap[T]?) (hK : ∀ a, ka = some a → w1.heap[a.block]? = w.heap[a.block]?)
    (hR : ∀ g ∈ s.fs, g.nm ≠ f'.nm → ∀ a, (Ad g.nm).1 = some a → w1.heap[a.block]? = w.heap[a.block]?) (row : OwnB w1 0 A' cap' f'.zs)
    (loc : ∀ a', A' = some a' → (own a'.block ∨ w.heap.size ≤ a'.block) ∧ ∀ g ∈ s.fs, g.nm ≠ f'.nm → ∀ b, (Ad g.nm).1 = some b → a'.block ≠ b.block)
    (map : PMap w2 m (elt (upd Ad f'.nm (A', cap'))) (St.put f' s.fs)) (turn : w1.mapTurned w2 m) (inv : Inv { s with fs := St.put f' s.fs }) :
    PS w2 T (ext own w w2) { s with fs := St.put f' s.fs } (upd Ad f'.nm (A', cap')) m ka kc := by
  obtain ⟨t1, t2, t3, t4, t5⟩ := turned_frame turn
  have hlt : ∀ k, own k → k < w.heap.size := h.lt
  refine ⟨?_, map, fun g hg => ?_, fun g hg g2 hg2 hne a b ha hb => ?_, ?_, .inl h.ownT, .inl h.ownM, fun g hg a ha => ?_, fun a ha => .inl (h.ownK a ha), fun k hk => ?_, inv⟩
  · rw [t5 T h.obj_ne, hT]; exact h.obj
  · rcases mem_put.1 hg with rfl | ⟨h1, h2⟩
    · rw [upd_same]; exact row.not_map turn
    · rw [upd_other h2]
      refine (h.rows g h1).keep fun a ha => ?_
      rw [t5 _ (h.row_ne h1 ha).2.1]; exact hR g h1 h2 a ha
  · rcases mem_put.1 hg with rfl | ⟨h1, h2⟩
    · rw [upd_same] at ha
      rcases mem_put.1 hg2 with rfl | ⟨h3, h4⟩
      · exact absurd rfl hne
      · rw [upd_other h4] at hb
        exact (loc a ha).2 g2 h3 h4 b hb
    · rw [upd_other h2] at ha
      rcases mem_put.1 hg2 with rfl | ⟨h3, h4⟩
      · rw [upd_same] at hb
        exact ((loc b hb).2 g h1 h2 a ha).symm
      · rw [upd_other h4] at hb
        exact h.apart g h1 g2 h3 hne a b ha hb
  · refine h.keep.keep fun a ha => ?_
    rw [t5 _ (h.keep_ne ha).2]; exact hK a ha
  · rcases mem_put.1 hg with rfl | ⟨h1, h2⟩
    · rw [upd_same] at ha
      rcases (loc a ha).1 with h3 | h3
      · exact .inl h3
      · have hr := row.not_map turn
        have ha' : A' = some a := ha
        rw [ha'] at hr
        exact .inr ⟨h3, hr.lt.2⟩
    · rw [upd_other h2] at ha
      exact .inl (h.ownR g h1 a ha)
  · rcases hk with h1 | h1
    · have := hlt k h1; omega
    · exact h1.2
theorem PS.drop (h : PS w T own s Ad m ka kc) {w2 : World} (nm : List UInt8) (map : PMap w2 m (elt Ad) (del nm s.fs)) (turn : w.mapTurned w2 m) (inv : Inv { s with fs := del nm s.fs }) : PS w2 T own { s with fs := del nm s.fs } Ad m ka kc := by
  obtain ⟨t1, t2, t3, t4, t5⟩ := turned_frame turn
  refine ⟨?_, map, fun g hg => (h.rows g (mem_del.1 hg).1).not_map turn, fun g hg g2 hg2 => h.apart g (mem_del.1 hg).1 g2 (mem_del.1 hg2).1, ?_, h.ownT, h.ownM, fun g hg => h.ownR g (mem_del.1 hg).1, h.ownK, fun k hk => by have := h.lt k hk; omega, inv⟩
  · rw [t5 T h.obj_ne]; exact h.obj
  · exact h.keep.keep fun a ha => t5 _ (h.keep_ne ha).2
/-- Where the row of a file lies that takes its own place. -/
theorem PS.loc (h : PS w T own s Ad m ka kc) {f : F} (hf : f ∈ s.fs) {A' : Option Addr} (hl : Lies w (Ad f.nm).1 A') :
    ∀ a', A' = some a' → (own a'.block ∨ w.heap.size ≤ a'.block) ∧ ∀ g ∈ s.fs, g.nm ≠ f.nm → ∀ b, (Ad g.nm).1 = some b → a'.block ≠ b.block := fun a' ha' => by
  rcases hl a' ha' with ⟨a, ha, e⟩ | h1
  · rw [e]
    exact ⟨.inl (h.ownR f hf a ha), fun g hg hn b hb => (h.apart g hg f hf hn b a hb ha).symm⟩
  · exact ⟨.inr h1, fun g hg _ b hb => by have := h.lt _ (h.ownR g hg b hb); omega⟩
theorem PS.loc_new (h : PS w T own s Ad m ka kc) {nm : List UInt8} {A' : Option Addr} (hl : Lies w none A') :
    ∀ a', A' = some a' → (own a'.block ∨ w.heap.size ≤ a'.block) ∧ ∀ g ∈ s.fs, g.nm ≠ nm → ∀ b, (Ad g.nm).1 = some b → a'.block ≠ b.block := fun a' ha' => by
  rcases hl a' ha' with ⟨a, ha, e⟩ | h1
  · cases ha
  · exact ⟨.inr h1, fun g hg _ b hb => by have := h.lt _ (h.ownR g hg b hb); omega⟩
end
end Go.Proofs.YtdbhicifjljjnaaGreatDoor
/-
  The names of the files: isName at every string, check at every row of names.
-/
namespace Go.Proofs.YtdbhicifjljjnaaGreatDoor
open Go.RowKit St

theorem conv_name (w : World) (s : ByteArray) : ∃ cap W, (convert 9 31 (.string s)).run Tryz.prog w = .ok (.slice (some ⟨w.heap.size, 0, none⟩) s.size cap) W ∧ Hid (Below w.heap.size w W) ∧
    Hid (∀ j, j < s.size → W.cell? ⟨w.heap.size, j, none⟩ = some (.int .u8 (((bs s).getD j 0).toNat : Int))) := by
  refine ⟨_, _, Lib.run_convert_string_bytes w 9 31 5 s Tryz.underlying9 Tryz.underlying31 Tryz.underlying5, Lib.hid ⟨rfl, rfl, rfl, ?_, fun k hk => Lib.bytesWorld_at_old w _ s k hk⟩, Lib.hid fun j hj => ?_⟩
  · rw [Lib.bytesWorld_size]; omega
  · exact Lib.bytesWorld_cell w _ s j hj
theorem getD_mem {l : List UInt8} {k : Nat} (h : k < l.length) : l.getD k 0 ∈ l := by
  rw [List.getD_eq_getElem?_getD, List.getElem?_eq_getElem h]; exact List.getElem_mem h
theorem good_no {nm : List UInt8} {k : Nat} (hk : k < nm.length) (h : okB ((nm.getD k 0).toNat : Int) = false) : good nm = false := by
  unfold good
  have : (nm.all fun c => okB (c.toNat : Int)) = false := by
    rw [List.all_eq_false]
    exact ⟨_, getD_mem hk, by simp only [h]; simp⟩
  rw [this]; simp
theorem good_yes {nm : List UInt8} (h0 : 0 < nm.length) (h1 : nm.length ≤ 16) (h : ∀ k, k < nm.length → okB ((nm.getD k 0).toNat : Int) = true) : good nm = true := by
  unfold good
  have : (nm.all fun c => okB (c.toNat : Int)) = true := by
    rw [List.all_eq_true]
    intro c hc
    obtain ⟨i, hi, e⟩ := List.getElem_of_mem hc
    have := h i hi
    rw [List.getD_eq_getElem?_getD, List.getElem?_eq_getElem hi] at this
    rw [← e]; exact this
  rw [this]
  simp [h0, h1]
theorem good_len_no {nm : List UInt8} (h : nm.length = 0 ∨ 16 < nm.length) : good nm = false := by
  cases e : good nm with
  | false => rfl
  | true => have := good_len e; omega
def OkTo (nm : List UInt8) (k : Nat) : Prop := k ≤ nm.length ∧ ∀ j, j < k → okB ((nm.getD j 0).toNat : Int) = true
theorem OkTo.next {nm : List UInt8} {k : Nat} (h : OkTo nm k) (hk : k < nm.length) (hc : okB ((nm.getD k 0).toNat : Int) = true) : OkTo nm (k + 1) :=
  ⟨hk, fun j hj => by by_cases e : j = k; subst e; exact hc; exact h.2 j (by omega)⟩
theorem okB_split (z : Int) : (z < 45 ∧ okB z = false) ∨ (z = 45 ∧ okB z = true) ∨ (45 < z ∧ z < 48 ∧ okB z = false) ∨ (48 ≤ z ∧ z ≤ 57 ∧ okB z = true) ∨ (57 < z ∧ z < 97 ∧ okB z = false) ∨ (97 ≤ z ∧ z ≤ 122 ∧ okB z = true) ∨ (122 < z ∧ okB z = false) := by
  unfold okB
  simp only [Bool.or_eq_true, Bool.or_eq_false_iff, Bool.and_eq_true, Bool.and_eq_false_imp, decide_eq_true_eq, decide_eq_false_iff_not]
  omega
set_option maxRecDepth 8000 in
set_option maxHeartbeats 1000000 in
theorem isName_any (s : ByteArray) (hs : s.size ≤ 9223372036854775807) (w : World) : Calls Tryz.prog 73 #[.string s] w fun e w' => e = .returned (.bool (good (bs s))) ∧ Below w.heap.size w w' := by
  by_cases h0 : s.size = 0
  · have e0 : s = ⟨#[]⟩ := by
      cases s with | mk d => exact congrArg _ (Array.eq_empty_of_size_eq_zero h0)
    subst e0
    go_enter Tryz.func73, Tryz.ntmps73
    go_wp2
    go_ret
    exact ⟨rfl, Below.refl _ _⟩
  · by_cases h1 : 16 < s.size
    · have hn : good (bs s) = false := good_len_no (.inr (by rw [bs_len]; exact h1))
      have h1' : 16 < (s.size : Int) := by omega
      have HN := Lib.hid hn
      clear hn
      go_enter Tryz.func73, Tryz.ntmps73
      go_wp2
      all_goals
        go_ret
        exact ⟨ret_bool HN.out.symm, Below.refl _ _⟩
    · obtain ⟨cap, W, hconv, HB, HC⟩ := conv_name w s
      have g0 := Lib.hid (show 0 < s.size by omega)
      have g1 := Lib.hid (show s.size ≤ 16 by omega)
      have g2 : (s.size : Int) ≤ 16 := by omega
      have hne : ¬ s.toList = [] := by
        rw [ByteArray.toList_eq]
        intro h
        have h2 := congrArg List.length h
        have h3 := g0.out
        rw [Array.length_toList] at h2
        have h4 : s.size = 0 := h2
        omega
      have hne2 : s.toList.isEmpty = false := by rw [List.isEmpty_eq_false_iff]; exact hne
      clear hs h0 h1
      have st : Hid (OkTo (bs s) 0) := Lib.hid ⟨Nat.zero_le _, fun j hj => by omega⟩
      go_enter Tryz.func73, Tryz.ntmps73
      go_wp2
      · go_loop [4, 15] (fun _ i => ∃ k : Nat, OkTo (bs s) k ∧ i = .int .i64 k) (fun _ i => s.size - (intOf i).toNat)
        case atStart => exact ⟨0, st.out, rfl⟩
        case round =>
          obtain ⟨k, hk, rfl⟩ := hrel
          have HK := Lib.hid hk
          clear hk
          by_cases hlt : k < s.size
          · have hc := HC.out k hlt
            have hl : k < (bs s).length := by rw [bs_len]; exact hlt
            have NO := good_no hl
            have YES := HK.out.next hl
            have hr : 0 ≤ (((bs s).getD k 0).toNat : Int) ∧ (((bs s).getD k 0).toNat : Int) ≤ 255 := by have := ((bs s).getD k 0).toNat_lt; omega
            generalize (((bs s).getD k 0).toNat : Int) = z at *
            obtain ⟨z0, z1⟩ := hr
            have hlt' : (k : Int) < (s.size : Int) := by omega
            rcases okB_split z with ⟨a1, a2⟩ | ⟨a1, a2⟩ | ⟨a1, a2, a3⟩ | ⟨a1, a2, a3⟩ | ⟨a1, a2, a3⟩ | ⟨a1, a2, a3⟩ | ⟨a1, a2⟩
            · have R := Lib.hid (NO a2)
              clear NO YES a2
              go_wp2
              all_goals
                go_ret
                exact ⟨ret_bool R.out.symm, HB.out⟩
            · have R := Lib.hid (YES a2)
              clear NO YES a2
              go_wp2
              all_goals
                go_round
                case rel => exact ⟨k + 1, R.out, by go_num⟩
                case measure => simp [intOf]; omega
            · have R := Lib.hid (NO a3)
              clear NO YES a3
              go_wp2
              all_goals
                go_ret
                exact ⟨ret_bool R.out.symm, HB.out⟩
            · have R := Lib.hid (YES a3)
              clear NO YES a3
              go_wp2
              all_goals
                go_round
                case rel => exact ⟨k + 1, R.out, by go_num⟩
                case measure => simp [intOf]; omega
            · have R := Lib.hid (NO a3)
              clear NO YES a3
              go_wp2
              all_goals
                go_ret
                exact ⟨ret_bool R.out.symm, HB.out⟩
            · have R := Lib.hid (YES a3)
              clear NO YES a3
              go_wp2
              all_goals
                go_round
                case rel => exact ⟨k + 1, R.out, by go_num⟩
                case measure => simp [intOf]; omega
            · have R := Lib.hid (NO a2)
              clear NO YES a2
              have q1 : 57 < z := by omega
              have q3 : (z != 45) = true := by simp; omega
              go_wp2
              all_goals
                go_ret
                exact ⟨ret_bool R.out.symm, HB.out⟩
          · have R : Hid (good (bs s) = true) := Lib.hid (good_yes (by rw [bs_len]; exact g0.out) (by rw [bs_len]; exact g1.out) fun j hj => HK.out.2 j (by rw [bs_len] at hj; omega))
            have hge : ¬ (k : Int) < (s.size : Int) := by omega
            go_wp2
            go_ret
            exact ⟨ret_bool R.out.symm, HB.out⟩

/-! ### check -/
def GoodTo (ns : List ByteArray) (k : Nat) : Prop := k ≤ ns.length ∧ ∀ j, j < k → good (bs (ns.getD j ByteArray.empty)) = true
theorem chk_off {s : S} (h : s.off = true) (ns : List (List UInt8)) : chk s ns = 11 := by unfold chk; rw [h]; rfl
theorem chk_no {s : S} (h : s.off = false) {ns : List ByteArray} {k : Nat} (hk : k < ns.length) (hg : good (bs (ns.getD k ByteArray.empty)) = false) : chk s (ns.map bs) = 1 := by
  unfold chk
  have : (ns.map bs).all good = false := by
    rw [List.all_eq_false]
    refine ⟨bs (ns.getD k ByteArray.empty), List.mem_map.2 ⟨_, ?_, rfl⟩, by rw [hg]; simp⟩
    rw [List.getD_eq_getElem?_getD, List.getElem?_eq_getElem hk]; exact List.getElem_mem hk
  rw [h, this]; rfl
theorem chk_yes {s : S} (h : s.off = false) {ns : List ByteArray} (hg : GoodTo ns ns.length) : chk s (ns.map bs) = 0 := by
  unfold chk
  have : (ns.map bs).all good = true := by
    rw [List.all_eq_true]
    intro x hx
    obtain ⟨y, hy, rfl⟩ := List.mem_map.1 hx
    obtain ⟨i, hi, e⟩ := List.getElem_of_mem hy
    have := hg.2 i hi
    rw [List.getD_eq_getElem?_getD, List.getElem?_eq_getElem hi] at this
    rw [← e]; exact this
  rw [h, this]; rfl
set_option maxHeartbeats 1000000 in
theorem check_any (T : Nat) (s : S) (A : Option Addr) (ns : List ByteArray) (cap : Nat) (hl : ns.length ≤ 100) (w : World) (h : w.cell? ⟨T, 2, none⟩ = some (.bool s.off)) (hn : Strs w w.heap.size A ns) :
    Calls Tryz.prog 57 #[.pointer (some ⟨T, 0, none⟩), .slice A ns.length cap] w fun e w' => e = .returned (.int .i64 (chk s (ns.map bs))) ∧ Below w.heap.size w w' := by
  cases ho : s.off with
  | true =>
    rw [ho] at h
    have E := Lib.hid (chk_off ho (ns.map bs))
    clear hn hl
    go_enter Tryz.func57, Tryz.ntmps57
    go_wp2
    go_ret
    exact ⟨ret_int E.out.symm, Below.refl _ _⟩
  | false =>
    rw [ho] at h
    have HN := Lib.hid hn
    have HL := Lib.hid hl
    have st : Hid (GoodTo ns 0) := Lib.hid ⟨Nat.zero_le _, fun j hj => by omega⟩
    clear hn hl
    go_enter Tryz.func57, Tryz.ntmps57
    go_wp2
    go_loopw [6, 13] (fun _ i wr => ∃ k : Nat, GoodTo ns k ∧ i = .int .i64 k ∧ Below w.heap.size w wr) (fun _ i _ => ns.length - (intOf i).toNat)
    case atStart => exact ⟨0, st.out, rfl, Below.refl _ _⟩
    case round =>
      obtain ⟨k, hk, rfl, hb⟩ := hrel
      have HK := Lib.hid hk
      have HB := Lib.hid hb
      have hlm := HL.out
      clear hk hb
      by_cases hlt : k < ns.length
      · obtain ⟨b, off, sn, rfl, hbb, hc, hsn, hsz⟩ := (HN.out.below HB.out).at_ hlt
        have IS := Lib.hid (isName_any sn hsz)
        have hlt' : (k : Int) < (ns.length : Int) := by omega
        cases hg : good (bs sn) with
        | true =>
          rw [hg] at IS
          have R : Hid (GoodTo ns (k + 1)) := Lib.hid ⟨hlt, fun j hj => by
            by_cases e : j = k
            · subst e; rw [hsn.out]; exact hg
            · exact HK.out.2 j (by omega)⟩
          clear hg hsz
          go_wp2_with fail
          refine (IS.out wr).mono ?_; rintro e w2 ⟨rfl, h2⟩
          have HB2 := Lib.hid (HB.out.trans (h2.mono HB.out.size))
          clear h2
          go_wp2
          go_roundw
          case rel => exact ⟨k + 1, R.out, by go_num, HB2.out⟩
          case measure => simp [intOf]; omega
        | false =>
          rw [hg] at IS
          have E := Lib.hid (chk_no ho hlt (by rw [hsn.out]; exact hg))
          clear hg hsz
          go_wp2_with fail
          refine (IS.out wr).mono ?_; rintro e w2 ⟨rfl, h2⟩
          have HB2 := Lib.hid (HB.out.trans (h2.mono HB.out.size))
          clear h2
          go_wp2
          go_ret
          exact ⟨ret_int E.out.symm, HB2.out⟩
      · have e : k = ns.length := by have := HK.out.1; omega
        subst e
        have E := Lib.hid (chk_yes ho HK.out)
        go_wp2
        go_ret
        exact ⟨ret_int E.out.symm, HB.out⟩
end Go.Proofs.YtdbhicifjljjnaaGreatDoor
/-
  Free: the capacity less the sum of the files' lengths, in whatever order the map is gone through.
-/
namespace Go.Proofs.YtdbhicifjljjnaaGreatDoor
open Go.RowKit Go.Maps St

/-- The lengths of those files that are no longer to come. -/
def part (left : Lit → Bool) : List F → Nat
  | [] => 0
  | f :: r => (if left (.string f.nm) then 0 else f.zs.length) + part left r
theorem part_le (left : Lit → Bool) : ∀ l : List F, part left l ≤ total l
  | [] => Nat.le_refl _
  | f :: r => by have := part_le left r; rw [part, total]; split <;> omega
theorem part_start {left : Lit → Bool} : ∀ {l : List F}, (∀ f ∈ l, left (.string f.nm) = true) → part left l = 0
  | [], _ => rfl
  | f :: r, h => by rw [part, h f (by simp), part_start fun g hg => h g (by simp [hg])]; rfl
theorem part_end {left : Lit → Bool} (h : ∀ kl, left kl = false) : ∀ l : List F, part left l = total l
  | [] => rfl
  | f :: r => by rw [part, h, part_end h r, total]; simp
theorem part_same {left left' : Lit → Bool} : ∀ {l : List F}, (∀ f ∈ l, left' (.string f.nm) = left (.string f.nm)) → part left' l = part left l
  | [], _ => rfl
  | f :: r, h => by rw [part, part, h f (by simp), part_same fun g hg => h g (by simp [hg])]
theorem part_step {left : Lit → Bool} : ∀ {l : List F}, Sorted l → ∀ {f : F}, f ∈ l → left (.string f.nm) = true → part (fun z => left z && !z.sameKey (.string f.nm)) l = part left l + f.zs.length
  | [], _, _, h, _ => by simp at h
  | a :: r, hs, f, h, hl => by
    rw [part, part]
    rcases List.mem_cons.1 h with rfl | h
    · have e : part (fun z => left z && !z.sameKey (.string f.nm)) r = part left r := part_same fun g hg => by
        have : (g.nm == f.nm) = false := by have := (before_ne (hs.head g hg)).symm; simpa using this
        show (left (.string g.nm) && !(g.nm == f.nm)) = left (.string g.nm)
        rw [this]; simp
      rw [e]
      simp [hl, same_str]; omega
    · have e := part_step hs.tail h hl
      have hn : (a.nm == f.nm) = false := by have := (before_ne (hs.head f h)); simpa using this
      rw [e]
      simp only [same_str, hn]
      simp; omega
theorem free_elt {E : F → Value} {l : List F} {x : List UInt8} {c : Value} {y : DataW Value × List MemPlace} (hv : hld c = some y) (hat : ∀ zd, (dat E l).atKey (.string x) zd = y.1) : ∃ f ∈ l, f.nm = x ∧ c = E f := by
  obtain rfl : y = (.held c, []) := by simp [hld] at hv; exact hv.symm
  cases hf : find x l with
  | none =>
    have h1 := hat (.held (.bool true))
    have h2 := hat (.held (.bool false))
    rw [dat_at, hf] at h1 h2
    simp at h1 h2
    rw [← h1] at h2
    cases h2
  | some f =>
    have h1 := hat (.held (.bool true))
    rw [dat_at, hf] at h1
    simp at h1
    exact ⟨f, (find_some hf).1, (find_some hf).2, h1.symm⟩
set_option maxHeartbeats 2000000 in
theorem free_any (T : Nat) (own : Nat → Prop) (s : S) (w : World) (h : PState w T own s) :
    Calls Tryz.prog 58 #[.pointer (some ⟨T, 0, none⟩)] w fun e w' => e = .returned (.int .i64 ((s.room : Int) - (total s.fs : Nat))) ∧ Below w.heap.size w w' := by
  obtain ⟨Ad, m, ka, kc, p⟩ := h
  obtain ⟨⟨c0, c1, _, _, _⟩, _⟩ := obj5 p.obj
  have hsort := Lib.hid p.inv.sorted
  have htot := Lib.hid p.inv.tot
  have hroom := Lib.hid p.inv.room
  have HM := Lib.hid p.map
  clear p
  go_enter Tryz.func58, Tryz.ntmps58
  go_wp2_with (first | (at_range; refine wpList_range_own _ rfl _ 60 rfl 9 80 key_law Tryz.underlying60 hld m _ _ rfl HM.out ?_; intro w0 hrg0 hg0 hs0) | go_in)
  go_frame
  have N0 : Hid (part (has (dat (elt Ad) s.fs)) s.fs = 0) := Lib.hid (part_start fun f hf => by rw [dat_has, find_mem hsort.out hf]; rfl)
  have HR := Lib.hid hrg0
  have HG := Lib.hid hg0
  clear hrg0 hg0 hs0
  have ML := HM.out.lt
  have HML := Lib.hid ML
  clear ML
  go_loopw [3, 5] (fun v _ wr => ∃ (left : Lit → Bool) (cnt : Nat), wr.ranges Tryz.prog 9 hld m w.heap.size s.fs.length (dat (elt Ad) s.fs) left cnt ∧ v = .int .i64 ((s.room : Int) - (part left s.fs : Nat)) ∧ Below w.heap.size w wr) (fun _ _ wr => wr.rangeLeft m w.heap.size)
  case atStart => exact ⟨_, _, HR.out, by rw [N0.out]; simp, (Below.refl _ _).grown HG.out (Nat.le_refl _) (fun j hj => by cases hj)⟩
  case round =>
    obtain ⟨left, cnt, hrg, rfl, hnx⟩ := hrel
    have RG := Lib.hid hrg
    have NX := Lib.hid hnx
    have P0 := Lib.hid (part_le left s.fs)
    clear hrg hnx
    go_wp2_with (first
      | (at_next; refine wpList_next_ranges _ rfl _ rfl 9 key_law hld Go.Proofs.encStr id (fun key kl hk => by obtain ⟨x, hx, _⟩ := Maps.keyOf_str Tryz.underlying9 hk; exact ⟨x, hx⟩) (fun v y _ => ⟨v, rfl⟩) m w.heap.size _ _ _ _ rfl RG.out ?_ ?_)
      | go_in)
    · intro hc0 hl0
      have E := Lib.hid (part_end hl0 s.fs)
      clear hc0 hl0
      go_wp2
      go_ret
      exact ⟨ret_int (by rw [E.out]), NX.out⟩
    · intro x c kl yd yp w2 cnt2 hkey hlk hv hat hrg2 hlt hg2 hs2 hen
      obtain ⟨x', ex, rfl, _⟩ := Maps.keyOf_str Tryz.underlying9 hkey
      obtain rfl : x = x' := encStr_inj ex
      obtain ⟨f, hf, rfl, hcf⟩ := free_elt hv hat
      have hcf : c = elt Ad f := hcf
      subst hcf
      have PS1 := part_step hsort.out hf hlk
      have PL := part_le (fun z => left z && !z.sameKey (.string f.nm)) s.fs
      have R2 := Lib.hid hrg2
      have LT := Lib.hid hlt
      have G2 := Lib.hid hg2
      have ht := htot.out
      have hr := hroom.out
      have B1 : Hid ((part left s.fs : Nat) + (f.zs.length : Nat) ≤ s.room) := Lib.hid (by omega)
      have PS2 := Lib.hid PS1
      have w1 : 0 ≤ (s.room : Int) - (part left s.fs : Nat) - (f.zs.length : Int) := by have := B1.out; omega
      have w2' : (s.room : Int) - (part left s.fs : Nat) - (f.zs.length : Int) ≤ 16777216 := by omega
      clear hkey hlk hv hat hrg2 hlt hg2 hs2 PS1 PL ht hr ex
      unfold elt at hen
      go_wp2
      go_roundw
      case rel => exact ⟨_, cnt2, R2.out.alloc _, by rw [PS2.out]; congr 1; omega, (NX.out.grown G2.out NX.out.size (fun j hj => by cases hj; exact Nat.le_refl _)).alloc (Nat.le_trans NX.out.size G2.out.size) _⟩
      case measure => rw [(R2.out.alloc _).left_eq, RG.out.left_eq]; exact LT.out
end Go.Proofs.YtdbhicifjljjnaaGreatDoor
/-
  bytes.Clone at every row of the store's own, and the two methods of a file: shortened, crashed.
-/
namespace Go.Proofs.YtdbhicifjljjnaaGreatDoor
open Go.RowKit St

def ClonePost (w : World) (ys : List Int) (e : Ending) (w' : World) : Prop := ∃ zs A cap, Hid (zs = ys) ∧ e = .returned (.slice A zs.length cap) ∧ OwnB w' w.heap.size A cap zs ∧ Below w.heap.size w w'
theorem ClonePost.mk_ {w w' : World} {ys : List Int} {A : Option Addr} {cap n : Nat} (hn : n = ys.length) (h : OwnB w' w.heap.size A cap ys) (g : Below w.heap.size w w') : ClonePost w ys (.returned (.slice A n cap)) w' := by
  subst hn; exact ⟨ys, A, cap, Lib.hid rfl, rfl, h, g⟩
set_option maxHeartbeats 400000 in
theorem clone_some (b off : Nat) (p : List Int) (cap : Nat) (hl : p.length ≤ 1000000000) (w : World) (hp : Bytes w w.heap.size (some ⟨b, off, none⟩) p) :
    Calls Tryz.prog 42 #[.slice (some ⟨b, off, none⟩) p.length cap] w (ClonePost w p) := by
  have H := Lib.hid hp
  have HL := Lib.hid hl
  have hnil : (binOp .eql 31 (.slice (some ⟨b, off, none⟩) p.length cap) (.slice none 0 0)).run Tryz.prog w = .ok (.bool false) w := Lib.run_eql_slice_nil w 31 5 _ _ _ _ _ Tryz.underlying31
  clear hp hl
  go_enter Tryz.func42, Tryz.ntmps42
  go_wp2_with (at_builtin; refine wp_app rfl (.tmp 5) (.tmp 6) rfl rfl rfl (OwnB.start w w.heap.size (Nat.le_refl _)) (by simp) rfl rfl (H.out.below ((Below.refl _ _).alloc (Nat.le_refl _) _)) (by have := HL.out; simp; omega) ?_; intro A2 cap2 w2 o2 d2; rw [List.nil_append] at o2; have O2 := Lib.hid o2; have D2 := Lib.hid d2; clear o2 d2)
  go_ret
  exact ClonePost.mk_ (by simp) O2.out (((Below.refl _ _).alloc (Nat.le_refl _) _).trans D2.out.below)
theorem clone_none (cap : Nat) (w : World) : Calls Tryz.prog 42 #[.slice none 0 cap] w (ClonePost w []) := by
  have hnil : (binOp .eql 31 (.slice none 0 cap) (.slice none 0 0)).run Tryz.prog w = .ok (.bool true) w := Lib.run_eql_slice_nil w 31 5 _ _ _ _ _ Tryz.underlying31
  go_enter Tryz.func42, Tryz.ntmps42
  go_wp2
  go_ret
  exact ClonePost.mk_ (cap := 0) rfl (OwnB.none_ _ _) (Below.refl _ _)
theorem OwnB.addr {w : World} {base : Nat} {A : Option Addr} {cap : Nat} {zs : List Int} (h : OwnB w base A cap zs) : (A = none ∧ zs = [] ∧ cap = 0) ∨ ∃ g, A = some ⟨g, 0, none⟩ := by
  rcases h.1.2 with ⟨e, e0⟩ | ⟨g, c', cur, e, _⟩
  · injection e with e1 e2 e3
    exact .inl ⟨e1, List.eq_nil_of_length_eq_zero e0, e3⟩
  · injection e with e1 e2 e3
    exact .inr ⟨g, e1⟩
theorem clone_row (A : Option Addr) (p : List Int) (cap : Nat) (hl : p.length ≤ 1000000000) (w : World) (h : OwnB w 0 A cap p) : Calls Tryz.prog 42 #[.slice A p.length cap] w (ClonePost w p) := by
  rcases h.addr with ⟨rfl, rfl, rfl⟩ | ⟨g, rfl⟩
  · exact clone_none 0 w
  · exact clone_some g 0 p cap hl w h.bytes

def FilePost (w : World) (A : Option Addr) (ys : List Int) (sure : Nat) (e : Ending) (w' : World) : Prop :=
  ∃ zs A' cap', Hid (zs = ys) ∧ e = .returned (.agg #[.slice A' zs.length cap', .int .i64 (sure : Int)]) ∧ OwnB w' 0 A' cap' zs ∧ Below w.heap.size w w' ∧ Lies w A A'
theorem FilePost.mk_ {w w' : World} {A A' : Option Addr} {ys : List Int} {sure n cap' : Nat} {m : Int} (hn : n = ys.length) (hm : m = (sure : Int)) (h : OwnB w' 0 A' cap' ys) (hb : Below w.heap.size w w') (hl : Lies w A A') :
    FilePost w A ys sure (.returned (.agg #[.slice A' n cap', .int .i64 m])) w' := by
  subst hn hm; exact ⟨ys, A', cap', Lib.hid rfl, rfl, h, hb, hl⟩
theorem lies_new {w w' : World} {base : Nat} {A A' : Option Addr} {cap : Nat} {zs : List Int} (h : OwnB w' base A' cap zs) (hb : w.heap.size ≤ base) : Lies w A A' := fun a' ha' => by
  subst ha'; exact .inr (Nat.le_trans hb h.lt.1)
theorem two_alloc (w : World) (o o2 : Obj) : Below w.heap.size w ((w.alloc o).alloc o2) := ((Below.refl _ _).alloc (Nat.le_refl _) _).alloc (by simp) _
set_option maxHeartbeats 1000000 in
/-- The two tests decided: x is the least of the two numbers. -/
theorem short_keep (A : Option Addr) (zs : List Int) (cap sure n x : Nat) (hx : (sure ≤ n ∧ x = sure) ∨ (n < sure ∧ x = n)) (lt : (zs.take n).length = n) (hk : n ≤ cap) (n0 : (n : Int) ≤ 16777216) (k0 : (cap : Int) ≤ 9223372036854775807) (hc : ¬ (n : Int) < (cap : Int) / 4) (w : World) (h : OwnB w 0 A cap zs) :
    Calls Tryz.prog 50 #[.agg #[.slice A zs.length cap, .int .i64 (sure : Int)], .int .i64 (n : Int)] w (FilePost w A (zs.take n) x) := by
  have HH := Lib.hid h
  have HLT := Lib.hid lt
  have s1 : ∀ W, (Instr.slice 31 (.slice A zs.length cap) none (some (.int .i64 (n : Int))) none).run Tryz.prog W = .ok (.slice A n cap) W := fun W => slice_to A zs.length cap n hk .i64 W
  clear h lt hk
  rcases hx with ⟨h1, rfl⟩ | ⟨h1, rfl⟩
  · have h1' : (x : Int) ≤ (n : Int) := by omega
    clear h1
    go_enter Tryz.func50, Tryz.ntmps50
    go_wp2
    exact bodyPost_ret (v := .agg #[.slice A n cap, .int .i64 (x : Int)]) (by simp [results, Tryz.results50, go_sem]) rfl (FilePost.mk_ HLT.out.symm rfl ((HH.out.head n).grew (two_alloc _ _ _) (Nat.le_refl _)) (two_alloc _ _ _) (Lies.refl _ _))
  · have h1' : ¬ (sure : Int) ≤ (x : Int) := by omega
    clear h1
    go_enter Tryz.func50, Tryz.ntmps50
    go_wp2
    exact bodyPost_ret (v := .agg #[.slice A x cap, .int .i64 (x : Int)]) (by simp [results, Tryz.results50, go_sem]) rfl (FilePost.mk_ HLT.out.symm rfl ((HH.out.head x).grew (two_alloc _ _ _) (Nat.le_refl _)) (two_alloc _ _ _) (Lies.refl _ _))
set_option maxHeartbeats 1000000 in
theorem short_copy (A : Option Addr) (zs : List Int) (cap sure n x : Nat) (hx : (sure ≤ n ∧ x = sure) ∨ (n < sure ∧ x = n)) (lt : (zs.take n).length = n) (hk : n ≤ cap) (n0 : (n : Int) ≤ 16777216) (k0 : (cap : Int) ≤ 9223372036854775807) (hc : (n : Int) < (cap : Int) / 4) (w : World) (h : OwnB w 0 A cap zs) :
    Calls Tryz.prog 50 #[.agg #[.slice A zs.length cap, .int .i64 (sure : Int)], .int .i64 (n : Int)] w (FilePost w A (zs.take n) x) := by
  have HH := Lib.hid h
  have HLT := Lib.hid lt
  have s1 : ∀ W, (Instr.slice 31 (.slice A zs.length cap) none (some (.int .i64 (n : Int))) none).run Tryz.prog W = .ok (.slice A n cap) W := fun W => slice_to A zs.length cap n hk .i64 W
  have CL : Hid (∀ o o2, Calls Tryz.prog 42 #[.slice A n cap] ((w.alloc o).alloc o2) (ClonePost ((w.alloc o).alloc o2) (zs.take n))) := Lib.hid fun o o2 => by
    have := clone_row A (zs.take n) cap (by rw [lt]; omega) _ ((h.head n).grew (two_alloc w o o2) (Nat.le_refl _))
    rw [lt] at this
    exact this
  clear h lt hk
  rcases hx with ⟨h1, rfl⟩ | ⟨h1, rfl⟩
  · have h1' : (x : Int) ≤ (n : Int) := by omega
    clear h1
    go_enter Tryz.func50, Tryz.ntmps50
    go_wp2_with fail
    refine (CL.out _ _).mono ?_; rintro e w2 ⟨ys, A2, c2, hy, rfl, ho, hg⟩
    have B0 : Hid (w2.heap[w.heap.size]? = some (.cells #[.slice A zs.length cap, .int .i64 (x : Int)] 80 (0, 0))) := Lib.hid ((hg.block _ (by simp; omega)).trans (by rw [Below.heap_alloc _ _ _ (by simp)]; exact heap_alloc_new w _))
    have B1 : Hid (w2.heap[w.heap.size + 1]? = some (.cells #[.slice none 0 0, .int .i64 0] 80 (0, 0))) := Lib.hid ((hg.block _ (by simp)).trans (by
      have e : w.heap.size + 1 = (w.alloc (.cells #[.slice A zs.length cap, .int .i64 (x : Int)] 80)).heap.size := by simp
      rw [e]; exact heap_alloc_new _ _))
    have HO := Lib.hid ho
    have HG := Lib.hid ((two_alloc w _ _).trans (hg.mono (by simp; omega)))
    clear ho hg
    obtain ⟨⟨x0, x1⟩, _⟩ := obj2 B0.out
    obtain ⟨⟨y0, y1⟩, f0, f1⟩ := obj2 B1.out
    go_wp2
    have C1 := Lib.hid (obj_set (o := 0) B1.out (.slice A2 ys.length c2))
    have C2 := Lib.hid (obj_set (o := 1) C1.out (.int .i64 (x : Int)))
    obtain ⟨⟨q0, q1⟩, _⟩ := obj2 C2.out
    exact bodyPost_ret (v := .agg #[.slice A2 ys.length c2, .int .i64 (x : Int)]) (by simp [results, Tryz.results50, go_sem, q0, q1]) rfl
      (FilePost.mk_ (by rw [hy.out]) rfl (by rw [← hy.out]; exact ((HO.out.low (Nat.zero_le _)).set B1.out (by decide) 0 _).set C1.out (by decide) 1 _) ((HG.out.setCell (p := ⟨w.heap.size + 1, 0, none⟩) (Nat.le_succ _) _).setCell (p := ⟨w.heap.size + 1, 1, none⟩) (Nat.le_succ _) _)
        (lies_new HO.out (by simp; omega)))
  · have h1' : ¬ (sure : Int) ≤ (x : Int) := by omega
    clear h1
    go_enter Tryz.func50, Tryz.ntmps50
    go_wp2_with fail
    refine (CL.out _ _).mono ?_; rintro e w2 ⟨ys, A2, c2, hy, rfl, ho, hg⟩
    have B0 : Hid (w2.heap[w.heap.size]? = some (.cells #[.slice A zs.length cap, .int .i64 (sure : Int)] 80 (0, 0))) := Lib.hid ((hg.block _ (by simp; omega)).trans (by rw [Below.heap_alloc _ _ _ (by simp)]; exact heap_alloc_new w _))
    have B1 : Hid (w2.heap[w.heap.size + 1]? = some (.cells #[.slice none 0 0, .int .i64 0] 80 (0, 0))) := Lib.hid ((hg.block _ (by simp)).trans (by
      have e : w.heap.size + 1 = (w.alloc (.cells #[.slice A zs.length cap, .int .i64 (sure : Int)] 80)).heap.size := by simp
      rw [e]; exact heap_alloc_new _ _))
    have HO := Lib.hid ho
    have HG := Lib.hid ((two_alloc w _ _).trans (hg.mono (by simp; omega)))
    clear ho hg
    obtain ⟨⟨x0, x1⟩, _⟩ := obj2 B0.out
    obtain ⟨⟨y0, y1⟩, f0, f1⟩ := obj2 B1.out
    go_wp2
    have C1 := Lib.hid (obj_set (o := 0) B1.out (.slice A2 ys.length c2))
    have C2 := Lib.hid (obj_set (o := 1) C1.out (.int .i64 (x : Int)))
    obtain ⟨⟨q0, q1⟩, _⟩ := obj2 C2.out
    exact bodyPost_ret (v := .agg #[.slice A2 ys.length c2, .int .i64 (x : Int)]) (by simp [results, Tryz.results50, go_sem, q0, q1]) rfl
      (FilePost.mk_ (by rw [hy.out]) rfl (by rw [← hy.out]; exact ((HO.out.low (Nat.zero_le _)).set B1.out (by decide) 0 _).set C1.out (by decide) 1 _) ((HG.out.setCell (p := ⟨w.heap.size + 1, 0, none⟩) (Nat.le_succ _) _).setCell (p := ⟨w.heap.size + 1, 1, none⟩) (Nat.le_succ _) _)
        (lies_new HO.out (by simp; omega)))
theorem short_any (A : Option Addr) (zs : List Int) (cap sure n : Nat) (hn : n ≤ zs.length) (hz : zs.length ≤ 16777216) (w : World) (h : OwnB w 0 A cap zs) :
    Calls Tryz.prog 50 #[.agg #[.slice A zs.length cap, .int .i64 (sure : Int)], .int .i64 (n : Int)] w (FilePost w A (zs.take n) (min sure n)) := by
  have hcm := h.capmax
  have lt : (zs.take n).length = n := by rw [List.length_take]; omega
  have hx : (sure ≤ n ∧ min sure n = sure) ∨ (n < sure ∧ min sure n = n) := by omega
  by_cases hc : (n : Int) < (cap : Int) / 4
  · exact short_copy A zs cap sure n _ hx lt (by omega) (by omega) (by omega) hc w h
  · exact short_keep A zs cap sure n _ hx lt (by omega) (by omega) (by omega) hc w h

/-! ### crashed -/
set_option maxHeartbeats 1000000 in
theorem crashed_low (A : Option Addr) (zs : List Int) (cap sure n : Nat) (k : Int) (hk : k ≤ 0) (hx : n = sure) (hs : sure ≤ n) (hn : n ≤ zs.length) (hz : zs.length ≤ 16777216) (w : World) (h : OwnB w 0 A cap zs) :
    Calls Tryz.prog 35 #[.agg #[.slice A zs.length cap, .int .i64 (sure : Int)], .int .i64 k] w (FilePost w A (zs.take n) n) := by
  have hm : min sure n = sure := by omega
  have lt := Lib.hid (show (zs.take n).length = n by rw [List.length_take]; omega)
  have SH : Hid (∀ o o2, Calls Tryz.prog 50 #[.agg #[.slice A zs.length cap, .int .i64 (sure : Int)], .int .i64 ((sure : Int))] ((w.alloc o).alloc o2) (FilePost ((w.alloc o).alloc o2) A (zs.take n) sure)) := Lib.hid fun o o2 => by
    have := short_any A zs cap sure n hn hz _ (h.grew (two_alloc w o o2) (Nat.le_refl _))
    rw [hm] at this
    have hX : (n : Int) = ((sure : Int)) := by omega
    rw [hX] at this
    exact this
  have d0 : 0 ≤ (zs.length : Int) - (sure : Int) := by omega
  have d1 : (zs.length : Int) - (sure : Int) ≤ 16777216 := by omega
  have s0 : (sure : Int) ≤ 16777216 := by omega
  clear h hs hn hz hm hx
  go_enter Tryz.func35, Tryz.ntmps35
  go_wp2_with fail
  refine (SH.out _ _).mono ?_; rintro e w2 ⟨ys, A2, c2, hy, rfl, ho, hg, hl⟩
  have B0 : Hid (w2.heap[w.heap.size]? = some (.cells #[.slice A zs.length cap, .int .i64 (sure : Int)] 80 (0, 0))) := Lib.hid ((hg.block _ (by simp; omega)).trans (by rw [Below.heap_alloc _ _ _ (by simp)]; exact heap_alloc_new w _))
  have B1 : Hid (w2.heap[w.heap.size + 1]? = some (.cells #[.slice none 0 0, .int .i64 0] 80 (0, 0))) := Lib.hid ((hg.block _ (by simp)).trans (by
    have e : w.heap.size + 1 = (w.alloc (.cells #[.slice A zs.length cap, .int .i64 (sure : Int)] 80)).heap.size := by simp
    rw [e]; exact heap_alloc_new _ _))
  have HO := Lib.hid ho
  have HG := Lib.hid ((two_alloc w _ _).trans (hg.mono (by simp; omega)))
  have HL := Lib.hid hl
  have HS := Lib.hid hg.size
  clear ho hg hl
  obtain ⟨⟨x0, x1⟩, fx0, fx1⟩ := obj2 B0.out
  obtain ⟨⟨y0, y1⟩, f0, f1⟩ := obj2 B1.out
  have C1 := Lib.hid (obj_set (o := 0) B0.out (.slice A2 ys.length c2))
  have C2 := Lib.hid (obj_set (o := 1) C1.out (.int .i64 (sure : Int)))
  have C3 := Lib.hid (obj_set (o := 1) C2.out (.int .i64 (ys.length : Int)))
  obtain ⟨_, t1⟩ := (obj2 C2.out).1
  obtain ⟨q0, q1⟩ := (obj2 C3.out).1
  have E1 : Hid ((((w2.setCell ⟨w.heap.size, 0, none⟩ (.slice A2 ys.length c2)).setCell ⟨w.heap.size, 1, none⟩ (.int .i64 (sure : Int))).setCell ⟨w.heap.size, 1, none⟩ (.int .i64 (ys.length : Int))).heap[w.heap.size + 1]? = some (.cells #[.slice none 0 0, .int .i64 0] 80 (0, 0))) :=
    Lib.hid (by rw [Below.heap_setCell _ _ _ _ (by simp), Below.heap_setCell _ _ _ _ (by simp), Below.heap_setCell _ _ _ _ (by simp)]; exact B1.out)
  have E2 := Lib.hid (obj_set (o := 0) E1.out (.slice A2 ys.length c2))
  have E3 := Lib.hid (obj_set (o := 1) E2.out (.int .i64 (ys.length : Int)))
  have U := Lib.hid (obj2 E3.out).1
  clear d0 d1 s0 hk
  try clear hk2
  go_wp2
  obtain ⟨u0, u1⟩ := U.out
  exact bodyPost_ret (v := .agg #[.slice A2 ys.length c2, .int .i64 (ys.length : Int)]) (by simp [results, Tryz.results35, go_sem, u0, u1]) rfl
    (FilePost.mk_ (by rw [hy.out]) (by rw [hy.out, lt.out])
      (by rw [← hy.out]; exact ((((HO.out.set B0.out (by decide) 0 _).set C1.out (by decide) 1 _).set C2.out (by decide) 1 _).set E1.out (by decide) 0 _).set E2.out (by decide) 1 _)
      (((((HG.out.setCell (p := ⟨w.heap.size, 0, none⟩) (Nat.le_refl _) _).setCell (p := ⟨w.heap.size, 1, none⟩) (Nat.le_refl _) _).setCell (p := ⟨w.heap.size, 1, none⟩) (Nat.le_refl _) _).setCell (p := ⟨w.heap.size + 1, 0, none⟩) (Nat.le_succ _) _).setCell (p := ⟨w.heap.size + 1, 1, none⟩) (Nat.le_succ _) _)
      (fun a' ha' => by
        rcases HL.out a' ha' with h1 | h1
        · exact .inl h1
        · exact .inr (by simp at h1; omega)))
set_option maxHeartbeats 1000000 in
theorem crashed_mid (A : Option Addr) (zs : List Int) (cap sure n : Nat) (k : Int) (hk : 0 < k) (hk2 : k ≤ (zs.length : Int) - (sure : Int)) (hx : (n : Int) = (sure : Int) + k) (hs : sure ≤ n) (hn : n ≤ zs.length) (hz : zs.length ≤ 16777216) (w : World) (h : OwnB w 0 A cap zs) :
    Calls Tryz.prog 35 #[.agg #[.slice A zs.length cap, .int .i64 (sure : Int)], .int .i64 k] w (FilePost w A (zs.take n) n) := by
  have hm : min sure n = sure := by omega
  have lt := Lib.hid (show (zs.take n).length = n by rw [List.length_take]; omega)
  have SH : Hid (∀ o o2, Calls Tryz.prog 50 #[.agg #[.slice A zs.length cap, .int .i64 (sure : Int)], .int .i64 ((sure : Int) + k)] ((w.alloc o).alloc o2) (FilePost ((w.alloc o).alloc o2) A (zs.take n) sure)) := Lib.hid fun o o2 => by
    have := short_any A zs cap sure n hn hz _ (h.grew (two_alloc w o o2) (Nat.le_refl _))
    rw [hm] at this
    have hX : (n : Int) = ((sure : Int) + k) := by omega
    rw [hX] at this
    exact this
  have d0 : 0 ≤ (zs.length : Int) - (sure : Int) := by omega
  have d1 : (zs.length : Int) - (sure : Int) ≤ 16777216 := by omega
  have s0 : (sure : Int) ≤ 16777216 := by omega
  have n1 : (sure : Int) + k ≤ 16777216 := by omega
  have n2 : 0 ≤ (sure : Int) + k := by omega
  clear h hs hn hz hm hx
  go_enter Tryz.func35, Tryz.ntmps35
  go_wp2_with fail
  refine (SH.out _ _).mono ?_; rintro e w2 ⟨ys, A2, c2, hy, rfl, ho, hg, hl⟩
  have B0 : Hid (w2.heap[w.heap.size]? = some (.cells #[.slice A zs.length cap, .int .i64 (sure : Int)] 80 (0, 0))) := Lib.hid ((hg.block _ (by simp; omega)).trans (by rw [Below.heap_alloc _ _ _ (by simp)]; exact heap_alloc_new w _))
  have B1 : Hid (w2.heap[w.heap.size + 1]? = some (.cells #[.slice none 0 0, .int .i64 0] 80 (0, 0))) := Lib.hid ((hg.block _ (by simp)).trans (by
    have e : w.heap.size + 1 = (w.alloc (.cells #[.slice A zs.length cap, .int .i64 (sure : Int)] 80)).heap.size := by simp
    rw [e]; exact heap_alloc_new _ _))
  have HO := Lib.hid ho
  have HG := Lib.hid ((two_alloc w _ _).trans (hg.mono (by simp; omega)))
  have HL := Lib.hid hl
  have HS := Lib.hid hg.size
  clear ho hg hl
  obtain ⟨⟨x0, x1⟩, fx0, fx1⟩ := obj2 B0.out
  obtain ⟨⟨y0, y1⟩, f0, f1⟩ := obj2 B1.out
  have C1 := Lib.hid (obj_set (o := 0) B0.out (.slice A2 ys.length c2))
  have C2 := Lib.hid (obj_set (o := 1) C1.out (.int .i64 (sure : Int)))
  have C3 := Lib.hid (obj_set (o := 1) C2.out (.int .i64 (ys.length : Int)))
  obtain ⟨_, t1⟩ := (obj2 C2.out).1
  obtain ⟨q0, q1⟩ := (obj2 C3.out).1
  have E1 : Hid ((((w2.setCell ⟨w.heap.size, 0, none⟩ (.slice A2 ys.length c2)).setCell ⟨w.heap.size, 1, none⟩ (.int .i64 (sure : Int))).setCell ⟨w.heap.size, 1, none⟩ (.int .i64 (ys.length : Int))).heap[w.heap.size + 1]? = some (.cells #[.slice none 0 0, .int .i64 0] 80 (0, 0))) :=
    Lib.hid (by rw [Below.heap_setCell _ _ _ _ (by simp), Below.heap_setCell _ _ _ _ (by simp), Below.heap_setCell _ _ _ _ (by simp)]; exact B1.out)
  have E2 := Lib.hid (obj_set (o := 0) E1.out (.slice A2 ys.length c2))
  have E3 := Lib.hid (obj_set (o := 1) E2.out (.int .i64 (ys.length : Int)))
  have U := Lib.hid (obj2 E3.out).1
  clear d0 d1 s0 hk
  try clear hk2
  go_wp2
  obtain ⟨u0, u1⟩ := U.out
  exact bodyPost_ret (v := .agg #[.slice A2 ys.length c2, .int .i64 (ys.length : Int)]) (by simp [results, Tryz.results35, go_sem, u0, u1]) rfl
    (FilePost.mk_ (by rw [hy.out]) (by rw [hy.out, lt.out])
      (by rw [← hy.out]; exact ((((HO.out.set B0.out (by decide) 0 _).set C1.out (by decide) 1 _).set C2.out (by decide) 1 _).set E1.out (by decide) 0 _).set E2.out (by decide) 1 _)
      (((((HG.out.setCell (p := ⟨w.heap.size, 0, none⟩) (Nat.le_refl _) _).setCell (p := ⟨w.heap.size, 1, none⟩) (Nat.le_refl _) _).setCell (p := ⟨w.heap.size, 1, none⟩) (Nat.le_refl _) _).setCell (p := ⟨w.heap.size + 1, 0, none⟩) (Nat.le_succ _) _).setCell (p := ⟨w.heap.size + 1, 1, none⟩) (Nat.le_succ _) _)
      (fun a' ha' => by
        rcases HL.out a' ha' with h1 | h1
        · exact .inl h1
        · exact .inr (by simp at h1; omega)))
set_option maxHeartbeats 1000000 in
set_option maxRecDepth 20000 in
theorem crashed_high (A : Option Addr) (zs : List Int) (cap sure n : Nat) (k : Int) (hk : 0 < k) (hk2 : (zs.length : Int) - (sure : Int) < k) (hk3 : 0 < (zs.length : Int) - (sure : Int)) (hx : n = zs.length) (hs : sure ≤ n) (hn : n ≤ zs.length) (hz : zs.length ≤ 16777216) (w : World) (h : OwnB w 0 A cap zs) :
    Calls Tryz.prog 35 #[.agg #[.slice A zs.length cap, .int .i64 (sure : Int)], .int .i64 k] w (FilePost w A (zs.take n) n) := by
  have hm : min sure n = sure := by omega
  have lt := Lib.hid (show (zs.take n).length = n by rw [List.length_take]; omega)
  have SH : Hid (∀ o o2, Calls Tryz.prog 50 #[.agg #[.slice A zs.length cap, .int .i64 (sure : Int)], .int .i64 ((sure : Int) + ((zs.length : Int) - (sure : Int)))] ((w.alloc o).alloc o2) (FilePost ((w.alloc o).alloc o2) A (zs.take n) sure)) := Lib.hid fun o o2 => by
    have := short_any A zs cap sure n hn hz _ (h.grew (two_alloc w o o2) (Nat.le_refl _))
    rw [hm] at this
    have hX : (n : Int) = ((sure : Int) + ((zs.length : Int) - (sure : Int))) := by omega
    rw [hX] at this
    exact this
  have d1 : (zs.length : Int) - (sure : Int) ≤ 16777216 := by omega
  have s0 : (sure : Int) ≤ 16777216 := by omega
  clear h hs hn hz hm hx
  go_enter Tryz.func35, Tryz.ntmps35
  go_wp2_with fail
  refine (SH.out _ _).mono ?_; rintro e w2 ⟨ys, A2, c2, hy, rfl, ho, hg, hl⟩
  have B0 : Hid (w2.heap[w.heap.size]? = some (.cells #[.slice A zs.length cap, .int .i64 (sure : Int)] 80 (0, 0))) := Lib.hid ((hg.block _ (by simp; omega)).trans (by rw [Below.heap_alloc _ _ _ (by simp)]; exact heap_alloc_new w _))
  have B1 : Hid (w2.heap[w.heap.size + 1]? = some (.cells #[.slice none 0 0, .int .i64 0] 80 (0, 0))) := Lib.hid ((hg.block _ (by simp)).trans (by
    have e : w.heap.size + 1 = (w.alloc (.cells #[.slice A zs.length cap, .int .i64 (sure : Int)] 80)).heap.size := by simp
    rw [e]; exact heap_alloc_new _ _))
  have HO := Lib.hid ho
  have HG := Lib.hid ((two_alloc w _ _).trans (hg.mono (by simp; omega)))
  have HL := Lib.hid hl
  have HS := Lib.hid hg.size
  clear ho hg hl
  obtain ⟨⟨x0, x1⟩, fx0, fx1⟩ := obj2 B0.out
  obtain ⟨⟨y0, y1⟩, f0, f1⟩ := obj2 B1.out
  have C1 := Lib.hid (obj_set (o := 0) B0.out (.slice A2 ys.length c2))
  have C2 := Lib.hid (obj_set (o := 1) C1.out (.int .i64 (sure : Int)))
  have C3 := Lib.hid (obj_set (o := 1) C2.out (.int .i64 (ys.length : Int)))
  obtain ⟨_, t1⟩ := (obj2 C2.out).1
  obtain ⟨q0, q1⟩ := (obj2 C3.out).1
  have E1 : Hid ((((w2.setCell ⟨w.heap.size, 0, none⟩ (.slice A2 ys.length c2)).setCell ⟨w.heap.size, 1, none⟩ (.int .i64 (sure : Int))).setCell ⟨w.heap.size, 1, none⟩ (.int .i64 (ys.length : Int))).heap[w.heap.size + 1]? = some (.cells #[.slice none 0 0, .int .i64 0] 80 (0, 0))) :=
    Lib.hid (by rw [Below.heap_setCell _ _ _ _ (by simp), Below.heap_setCell _ _ _ _ (by simp), Below.heap_setCell _ _ _ _ (by simp)]; exact B1.out)
  have E2 := Lib.hid (obj_set (o := 0) E1.out (.slice A2 ys.length c2))
  have E3 := Lib.hid (obj_set (o := 1) E2.out (.int .i64 (ys.length : Int)))
  have U := Lib.hid (obj2 E3.out).1
  clear d1 s0 hk hk3
  try clear hk2
  go_wp2
  obtain ⟨u0, u1⟩ := U.out
  exact bodyPost_ret (v := .agg #[.slice A2 ys.length c2, .int .i64 (ys.length : Int)]) (by simp [results, Tryz.results35, go_sem, u0, u1]) rfl
    (FilePost.mk_ (by rw [hy.out]) (by rw [hy.out, lt.out])
      (by rw [← hy.out]; exact ((((HO.out.set B0.out (by decide) 0 _).set C1.out (by decide) 1 _).set C2.out (by decide) 1 _).set E1.out (by decide) 0 _).set E2.out (by decide) 1 _)
      (((((HG.out.setCell (p := ⟨w.heap.size, 0, none⟩) (Nat.le_refl _) _).setCell (p := ⟨w.heap.size, 1, none⟩) (Nat.le_refl _) _).setCell (p := ⟨w.heap.size, 1, none⟩) (Nat.le_refl _) _).setCell (p := ⟨w.heap.size + 1, 0, none⟩) (Nat.le_succ _) _).setCell (p := ⟨w.heap.size + 1, 1, none⟩) (Nat.le_succ _) _)
      (fun a' ha' => by
        rcases HL.out a' ha' with h1 | h1
        · exact .inl h1
        · exact .inr (by simp at h1; omega)))
theorem crashed_any (A : Option Addr) (zs : List Int) (cap sure : Nat) (k : Int) (hs : sure < zs.length) (hz : zs.length ≤ 16777216) (w : World) (h : OwnB w 0 A cap zs) :
    Calls Tryz.prog 35 #[.agg #[.slice A zs.length cap, .int .i64 (sure : Int)], .int .i64 k] w
      (FilePost w A (zs.take (sure + min k.toNat (zs.length - sure))) (sure + min k.toNat (zs.length - sure))) := by
  obtain ⟨n, hn⟩ : ∃ n, n = sure + min k.toNat (zs.length - sure) := ⟨_, rfl⟩
  rw [← hn]
  rcases Int.lt_or_le 0 k with h0 | h0
  · rcases Int.lt_or_le ((zs.length : Int) - (sure : Int)) k with h1 | h1
    · exact crashed_high A zs cap sure n k h0 h1 (by omega) (by omega) (by omega) (by omega) hz w h
    · exact crashed_mid A zs cap sure n k h0 h1 (by omega) (by omega) (by omega) hz w h
  · exact crashed_low A zs cap sure n k h0 (by omega) (by omega) (by omega) hz w h
end Go.Proofs.YtdbhicifjljjnaaGreatDoor
/-
  find at every store, every name and at most one further name.
-/
namespace Go.Proofs.YtdbhicifjljjnaaGreatDoor
open Go.RowKit St

/-! ### An append of one name -/
theorem str_info : (Tryz.prog.info? 9).map (fun i => (i.zero, i.size, i.bytes)) = some (some (.string ⟨#[]⟩), 1, 16) := by kernel_rfl
theorem strs_cells {w : World} {B : Nat} {ad : Addr} {ls : List ByteArray} (h : Strs w B (some ad) ls) : ∀ j u, (ls.map Value.string)[j]? = some u → w.cell? (ad.add j) = some u := fun j u hu => by
  rw [List.getElem?_map] at hu
  obtain ⟨z, hz1, rfl⟩ := Option.map_eq_some_iff.1 hu
  have hj : j < ls.length := (List.getElem?_eq_some_iff.1 hz1).1
  obtain ⟨b, off, e, _, hc⟩ := h.2 (by omega)
  injection e with e
  subst e
  rw [add_off, hc j hj, List.getD_eq_getElem?_getD, hz1]
  rfl
theorem strs_row {w : World} {base n : Nat} {v : Value} {ls : List ByteArray} (hn : n = ls.length) (h : w.ownsRow base 9 1 v n (ls.map Value.string)) (hs : ∀ x ∈ ls, x.size ≤ 9223372036854775807) : ∃ A cap, v = .slice A ls.length cap ∧ Strs w w.heap.size A ls := by
  subst hn
  have hsz : ∀ i, i < ls.length → (ls.getD i ByteArray.empty).size ≤ 9223372036854775807 := fun i hi => by
    rw [List.getD_eq_getElem?_getD, List.getElem?_eq_getElem hi]
    exact hs _ (List.getElem_mem hi)
  rcases h.2 with ⟨e, e0⟩ | ⟨g, c', cur, e, hb, hg, h1, h2, h3, h4⟩
  · have e1 : ls = [] := List.eq_nil_of_length_eq_zero e0
    subst e1
    exact ⟨none, 0, e, Strs.nil_⟩
  · refine ⟨_, c', e, hsz, fun hn => ⟨g, 0, rfl, lt_of_block hg, fun i hi => ?_⟩⟩
    rw [cell_of_row w g _ cur _ _ hg, Nat.zero_add]
    have hc : cur.toList[i]? = (ls.map Value.string)[i]? := by rw [← h4, List.getElem?_take_of_lt (by omega)]
    rw [← Array.getElem?_toList, hc, List.getElem?_map, List.getElem?_eq_getElem hi, List.getD_eq_getElem?_getD, List.getElem?_eq_getElem hi]
    rfl
/-- What a slice of names may be that a name is appended to: nil, or full. -/
def Full (w : World) (A : Option Addr) (cap : Nat) (ls : List ByteArray) : Prop := (A = none ∧ ls = [] ∧ cap = 0) ∨ (cap = ls.length ∧ 0 < ls.length ∧ Strs w w.heap.size A ls)
theorem strs_mem {w : World} {B : Nat} {A : Option Addr} {ls : List ByteArray} (h : Strs w B A ls) : ∀ x ∈ ls, x.size ≤ 9223372036854775807 := fun x hx => by
  obtain ⟨i, hi, e⟩ := List.getElem_of_mem hx
  have := h.1 i hi
  rw [List.getD_eq_getElem?_getD, List.getElem?_eq_getElem hi] at this
  rw [← e]; exact this
theorem run_appS {w : World} {A : Option Addr} {cap : Nat} {ls : List ByteArray} (h : Full w A cap ls) {B b2 : Nat} {sn : ByteArray} (hx : Strs w B (some ⟨b2, 0, none⟩) [sn]) (c : Nat) (hl : ls.length ≤ 100) (ty : TypeId) :
    ∃ A' cap' w', (Builtin.append_ #[77, 77] ty #[.slice A ls.length cap, .slice (some ⟨b2, 0, none⟩) 1 c]).run Tryz.prog w = .ok (.slice A' (ls ++ [sn]).length cap') w' ∧ Strs w' w'.heap.size A' (ls ++ [sn]) ∧ Below w.heap.size w w' := by
  obtain ⟨i, hi, hz, hs, hy⟩ := info_parts str_info
  have hsn := strs_mem hx sn (by simp)
  rcases h with ⟨rfl, rfl, rfl⟩ | ⟨hc, hp, hls⟩
  · obtain ⟨v', w', hrun, hown, hg, _, _⟩ := run_append_own_at (P := Tryz.prog) (w := w) w.heap.size 77 ty 9 i _ 1 16 Tryz.underlying77 hi hz hs hy rfl (by decide)
      _ 0 _ (World.ownsRow_nil w w.heap.size 9 1) ⟨b2, 0, none⟩ 1 c [.string sn] (by simp) (strs_cells hx) (fun u hu => by simp at hu; subst hu; rfl) (by unfold maxLen; omega) (by omega) (Nat.le_refl _)
    obtain ⟨A', cap', rfl, hst⟩ := strs_row (ls := [sn]) (by simp) hown (by simp; exact hsn)
    exact ⟨A', cap', w', hrun, hst, (Below.refl _ _).grown hg (Nat.le_refl _) (fun j hj => by cases hj)⟩
  · obtain ⟨g, off, rfl, _, _⟩ := hls.2 hp
    obtain ⟨v', w', hrun, hown, hg⟩ := run_append_arg_grows (P := Tryz.prog) w 77 ty 9 i _ 1 16 Tryz.underlying77 hi hz hs hy rfl (by decide)
      ⟨g, off, none⟩ ls.length cap (ls.map Value.string) (by simp) (strs_cells hls) ⟨b2, 0, none⟩ 1 c [.string sn] (by simp) (strs_cells hx) (by omega) (by unfold maxLen; omega) (by omega)
    have e : ls.map Value.string ++ [.string sn] = (ls ++ [sn]).map Value.string := by simp
    rw [e] at hown
    obtain ⟨A', cap', rfl, hst⟩ := strs_row (ls := ls ++ [sn]) (by simp) hown (fun x hx' => by
      rw [List.mem_append] at hx'
      rcases hx' with h1 | h1
      · exact strs_mem hls x h1
      · simp at h1; subst h1; exact hsn)
    exact ⟨A', cap', w', hrun, hst, (Below.refl _ _).grown hg (Nat.le_refl _) (fun j hj => by cases hj)⟩
theorem wp_appS {w : World} {ops : Array Oper} {rest : List Oper} {o : Oper} {a : Act} {Q : Exit → Act → World → Prop} (hgd : o.guard = none) (s x : Operand)
    (ho : o.op = .call { callee := .builtin .append, args := #[s, x], argTypes := #[77, 77] })
    {A : Option Addr} {n cap : Nat} {ls : List ByteArray} (hs : a.eval s = .slice A n cap) (hn : n = ls.length) (h : Full w A cap ls) {B b2 c : Nat} {sn : ByteArray} (hx : a.eval x = .slice (some ⟨b2, 0, none⟩) 1 c) (hb : Strs w B (some ⟨b2, 0, none⟩) [sn]) (hlen : ls.length ≤ 100)
    (K : ∀ A' cap' w', Strs w' w'.heap.size A' (ls ++ [sn]) → Below w.heap.size w w' → wpList Tryz.prog ops Q rest (a.put o.dst (.slice A' (ls ++ [sn]).length cap')) w') :
    wpList Tryz.prog ops Q (o :: rest) a w := by
  subst hn
  obtain ⟨A', cap', w', hrun, h1, h2⟩ := run_appS h hb c hlen o.type
  refine wpList_plain hgd fun K' hK => ?_
  unfold Oper.wp
  simp [execOp, ho, resolve, invoke, builtin, hs, hx, hrun, Result.andThen]
  have hk := K A' cap' w' h1 h2
  rw [List.length_append, List.length_singleton] at hk
  exact hK _ _ hk
theorem Strs.new1 (w : World) (sn : ByteArray) (h : sn.size ≤ 9223372036854775807) (fr : Nat × Nat) : Strs (w.alloc (.cells #[.string sn] 9 fr)) (w.heap.size + 1) (some ⟨w.heap.size, 0, none⟩) [sn] := by
  refine ⟨fun i hi => ?_, fun _ => ⟨w.heap.size, 0, rfl, by omega, fun i hi => ?_⟩⟩
  · simp at hi; subst hi; exact h
  · simp at hi; subst hi
    rw [Nat.zero_add, World.cell?_alloc_mark]
    simp
theorem Strs.new1_at (w : World) (n : Nat) (hn : n = w.heap.size) (sn : ByteArray) (h : sn.size ≤ 9223372036854775807) (fr : Nat × Nat) : Strs (w.alloc (.cells #[.string sn] 9 fr)) (n + 1) (some ⟨n, 0, none⟩) [sn] := by subst hn; exact Strs.new1 w sn h fr
theorem Full.grow {w w' : World} {A : Option Addr} {cap : Nat} {ls : List ByteArray} (h : Full w A cap ls) (hb : Below w.heap.size w w') : Full w' A cap ls := by
  rcases h with h | ⟨h1, h2, h3⟩
  · exact .inl h
  · refine .inr ⟨h1, h2, h3.1, fun hn => ?_⟩
    obtain ⟨b, off, e, hl, hc⟩ := h3.2 hn
    exact ⟨b, off, e, by have := hb.size; omega, fun i hi => (hb.cell (p := ⟨b, _, none⟩) hl).trans (hc i hi)⟩

/-! ### find -/
def FindPost (w : World) (v : Value) (er : Int) (e : Ending) (w' : World) : Prop := e = .returned (.tuple #[v, .int .i64 er]) ∧ Below w.heap.size w w'
set_option maxHeartbeats 4000000 in
theorem find_bad (T : Nat) (own : Nat → Prop) (s : S) (Ad : List UInt8 → Option Addr × Nat) (m : Nat) (ka : Option Addr) (kc : Nat) (sn : ByteArray) (hsn : sn.size ≤ 9223372036854775807) (A : Option Addr) (n cap : Nat) (ls : List ByteArray) (hn : n = ls.length) (hl : ls.length ≤ 50) (w : World) (p : PS w T own s Ad m ka kc) (hf : Full w A cap ls)
    (er : Int) (her : chk s ((ls ++ [sn]).map bs) = er) (hne : (er == 0) = false) :
    Calls Tryz.prog 44 #[.pointer (some ⟨T, 0, none⟩), .string sn, .slice A n cap] w (FindPost w zeroF er) := by
  have FW : Hid (∀ o o2, Full ((w.alloc o).alloc o2) A cap ls) := Lib.hid fun o o2 => hf.grow (((Below.refl _ _).alloc (Nat.le_refl _) _).alloc (by simp) _)
  have B2 : Hid (∀ o o2, Below w.heap.size w ((w.alloc o).alloc o2)) := Lib.hid fun o o2 => ((Below.refl _ _).alloc (Nat.le_refl _) _).alloc (by simp) _
  have TL := Lib.hid (p.lt T p.ownT)
  have HP := Lib.hid p
  have HS := Lib.hid hsn
  have HN := Lib.hid hn
  have HL := Lib.hid hl
  have HE := Lib.hid her
  clear p hf hsn hn hl her
  go_enter Tryz.func44, Tryz.ntmps44
  go_wp2_with (at_builtin; refine wp_appS rfl (.tmp 12) (.tmp 14) rfl rfl HN.out (FW.out _ _) (by rfl) (Strs.new1_at _ _ (by simp) sn HS.out _) (by have := HL.out; omega) ?_; intro A2 c2 w2 o2 d2; have O2 := Lib.hid o2; have D2 := Lib.hid ((B2.out _ _).trans (d2.mono (by simp; omega))); have R2 : Hid (w2.heap[w.heap.size]? = some (.cells #[.slice none 0 0, .int .i64 0] 80 (0, 0))) := Lib.hid ((d2.block _ (by simp; omega)).trans (by rw [Below.heap_alloc _ _ _ (by simp)]; exact heap_alloc_new w _)); clear o2 d2)
  have CK := Lib.hid (check_any T s A2 (ls ++ [sn]) c2 (by have := HL.out; simp; omega) w2 (obj5 (HP.out.grow D2.out).obj).1.2.2.1 O2.out)
  rw [List.length_append, List.length_singleton, HE.out] at CK
  refine CK.out.mono ?_; rintro e w3 ⟨rfl, h3⟩
  have D3 := Lib.hid (D2.out.trans (h3.mono D2.out.size))
  have R3 := Lib.hid ((h3.block _ (lt_of_block R2.out)).trans R2.out)
  clear h3
  obtain ⟨⟨y0, y1⟩, f0, f1⟩ := obj2 R3.out
  go_wp2
  have S1 := Lib.hid (obj_set (o := 0) R3.out (.slice none 0 0))
  have S2 := Lib.hid (obj_set (o := 1) S1.out (.int .i64 0))
  obtain ⟨q0, q1⟩ := (obj2 S2.out).1
  exact bodyPost_ret (v := .tuple #[.agg #[.slice none 0 0, .int .i64 0], .int .i64 er]) (by simp [results, Tryz.results44, go_sem, q0, q1]) rfl
    ⟨rfl, ((D3.out).setCell (p := ⟨w.heap.size, 0, none⟩) (Nat.le_refl _) _).setCell (p := ⟨w.heap.size, 1, none⟩) (Nat.le_refl _) _⟩
set_option maxHeartbeats 4000000 in
theorem find_none (T : Nat) (own : Nat → Prop) (s : S) (Ad : List UInt8 → Option Addr × Nat) (m : Nat) (ka : Option Addr) (kc : Nat) (sn : ByteArray) (hsn : sn.size ≤ 9223372036854775807) (A : Option Addr) (n cap : Nat) (ls : List ByteArray) (hn : n = ls.length) (hl : ls.length ≤ 50) (w : World) (p : PS w T own s Ad m ka kc) (hf : Full w A cap ls)
    (her : chk s ((ls ++ [sn]).map bs) = 0) (hfi : find (bs sn) s.fs = none) :
    Calls Tryz.prog 44 #[.pointer (some ⟨T, 0, none⟩), .string sn, .slice A n cap] w (FindPost w zeroF 4) := by
  have FW : Hid (∀ o o2, Full ((w.alloc o).alloc o2) A cap ls) := Lib.hid fun o o2 => hf.grow (((Below.refl _ _).alloc (Nat.le_refl _) _).alloc (by simp) _)
  have B2 : Hid (∀ o o2, Below w.heap.size w ((w.alloc o).alloc o2)) := Lib.hid fun o o2 => ((Below.refl _ _).alloc (Nat.le_refl _) _).alloc (by simp) _
  have TL := Lib.hid (p.lt T p.ownT)
  have HP := Lib.hid p
  have HS := Lib.hid hsn
  have HN := Lib.hid hn
  have HL := Lib.hid hl
  have HE := Lib.hid her
  have HFI := Lib.hid hfi
  clear hfi
  clear p hf hsn hn hl her
  go_enter Tryz.func44, Tryz.ntmps44
  go_wp2_with (at_builtin; refine wp_appS rfl (.tmp 12) (.tmp 14) rfl rfl HN.out (FW.out _ _) (by rfl) (Strs.new1_at _ _ (by simp) sn HS.out _) (by have := HL.out; omega) ?_; intro A2 c2 w2 o2 d2; have O2 := Lib.hid o2; have D2 := Lib.hid ((B2.out _ _).trans (d2.mono (by simp; omega))); have R2 : Hid (w2.heap[w.heap.size]? = some (.cells #[.slice none 0 0, .int .i64 0] 80 (0, 0))) := Lib.hid ((d2.block _ (by simp; omega)).trans (by rw [Below.heap_alloc _ _ _ (by simp)]; exact heap_alloc_new w _)); clear o2 d2)
  have CK := Lib.hid (check_any T s A2 (ls ++ [sn]) c2 (by have := HL.out; simp; omega) w2 (obj5 (HP.out.grow D2.out).obj).1.2.2.1 O2.out)
  rw [List.length_append, List.length_singleton, HE.out] at CK
  refine CK.out.mono ?_; rintro e w3 ⟨rfl, h3⟩
  have D3 := Lib.hid (D2.out.trans (h3.mono D2.out.size))
  have R3 := Lib.hid ((h3.block _ (lt_of_block R2.out)).trans R2.out)
  clear h3
  obtain ⟨⟨y0, y1⟩, f0, f1⟩ := obj2 R3.out
  have PM := Lib.hid ((HP.out.grow D3.out).map)
  have TO := Lib.hid (HP.out.grow D3.out).obj
  obtain ⟨⟨_, c1, _, _, _⟩, _⟩ := obj5 TO.out
  have LW : Hid (w3.heap.size ≠ w.heap.size) := Lib.hid (by have := lt_of_block R3.out; omega)
  have R4 : Hid ((w3.alloc (.cells #[.slice none 0 0, .int .i64 0] 80)).heap[w.heap.size]? = some (.cells #[.slice none 0 0, .int .i64 0] 80 (0, 0))) := Lib.hid (by rw [Below.heap_alloc _ _ _ (lt_of_block R3.out)]; exact R3.out)
  obtain ⟨⟨z0, z1⟩, g0, g1⟩ := obj2 R4.out
  go_wp2_with (first
    | (at_lookup; refine wp_look2 rfl _ _ rfl rfl PM.out rfl HS.out (.agg #[.slice none 0 0, .int .i64 0]) (by rw [HFI.out]; rfl) false (by rw [HFI.out]; rfl) ?_)
    | go_in)
  have S1 := Lib.hid (obj_set (o := 0) R4.out (.slice none 0 0))
  have S2 := Lib.hid (obj_set (o := 1) S1.out (.int .i64 0))
  obtain ⟨q0, q1⟩ := (obj2 S2.out).1
  exact bodyPost_ret (v := .tuple #[.agg #[.slice none 0 0, .int .i64 0], .int .i64 4]) (by simp [results, Tryz.results44, go_sem, q0, q1]) rfl
    ⟨rfl, ((D3.out.alloc D3.out.size _).setCell (p := ⟨w.heap.size, 0, none⟩) (Nat.le_refl _) _).setCell (p := ⟨w.heap.size, 1, none⟩) (Nat.le_refl _) _⟩
set_option maxHeartbeats 4000000 in
theorem find_some_any (T : Nat) (own : Nat → Prop) (s : S) (Ad : List UInt8 → Option Addr × Nat) (m : Nat) (ka : Option Addr) (kc : Nat) (sn : ByteArray) (hsn : sn.size ≤ 9223372036854775807) (A : Option Addr) (n cap : Nat) (ls : List ByteArray) (hn : n = ls.length) (hl : ls.length ≤ 50) (w : World) (p : PS w T own s Ad m ka kc) (hf : Full w A cap ls)
    (her : chk s ((ls ++ [sn]).map bs) = 0) (f : F) (hfi : find (bs sn) s.fs = some f) :
    Calls Tryz.prog 44 #[.pointer (some ⟨T, 0, none⟩), .string sn, .slice A n cap] w (FindPost w (elt Ad f) 0) := by
  have FW : Hid (∀ o o2, Full ((w.alloc o).alloc o2) A cap ls) := Lib.hid fun o o2 => hf.grow (((Below.refl _ _).alloc (Nat.le_refl _) _).alloc (by simp) _)
  have B2 : Hid (∀ o o2, Below w.heap.size w ((w.alloc o).alloc o2)) := Lib.hid fun o o2 => ((Below.refl _ _).alloc (Nat.le_refl _) _).alloc (by simp) _
  have TL := Lib.hid (p.lt T p.ownT)
  have HP := Lib.hid p
  have HS := Lib.hid hsn
  have HN := Lib.hid hn
  have HL := Lib.hid hl
  have HE := Lib.hid her
  have HFI := Lib.hid hfi
  clear hfi
  clear p hf hsn hn hl her
  go_enter Tryz.func44, Tryz.ntmps44
  go_wp2_with (at_builtin; refine wp_appS rfl (.tmp 12) (.tmp 14) rfl rfl HN.out (FW.out _ _) (by rfl) (Strs.new1_at _ _ (by simp) sn HS.out _) (by have := HL.out; omega) ?_; intro A2 c2 w2 o2 d2; have O2 := Lib.hid o2; have D2 := Lib.hid ((B2.out _ _).trans (d2.mono (by simp; omega))); have R2 : Hid (w2.heap[w.heap.size]? = some (.cells #[.slice none 0 0, .int .i64 0] 80 (0, 0))) := Lib.hid ((d2.block _ (by simp; omega)).trans (by rw [Below.heap_alloc _ _ _ (by simp)]; exact heap_alloc_new w _)); clear o2 d2)
  have CK := Lib.hid (check_any T s A2 (ls ++ [sn]) c2 (by have := HL.out; simp; omega) w2 (obj5 (HP.out.grow D2.out).obj).1.2.2.1 O2.out)
  rw [List.length_append, List.length_singleton, HE.out] at CK
  refine CK.out.mono ?_; rintro e w3 ⟨rfl, h3⟩
  have D3 := Lib.hid (D2.out.trans (h3.mono D2.out.size))
  have R3 := Lib.hid ((h3.block _ (lt_of_block R2.out)).trans R2.out)
  clear h3
  obtain ⟨⟨y0, y1⟩, f0, f1⟩ := obj2 R3.out
  have PM := Lib.hid ((HP.out.grow D3.out).map)
  have TO := Lib.hid (HP.out.grow D3.out).obj
  obtain ⟨⟨_, c1, _, _, _⟩, _⟩ := obj5 TO.out
  have LW : Hid (w3.heap.size ≠ w.heap.size) := Lib.hid (by have := lt_of_block R3.out; omega)
  have R4 : Hid ((w3.alloc (.cells #[.slice (Ad f.nm).1 f.zs.length (Ad f.nm).2, .int .i64 (f.sure : Int)] 80)).heap[w.heap.size]? = some (.cells #[.slice none 0 0, .int .i64 0] 80 (0, 0))) := Lib.hid (by rw [Below.heap_alloc _ _ _ (lt_of_block R3.out)]; exact R3.out)
  obtain ⟨⟨z0, z1⟩, g0, g1⟩ := obj2 R4.out
  go_wp2_with (first
    | (at_lookup; refine wp_look2 rfl _ _ rfl rfl PM.out rfl HS.out (.agg #[.slice (Ad f.nm).1 f.zs.length (Ad f.nm).2, .int .i64 (f.sure : Int)]) (by rw [HFI.out]; rfl) true (by rw [HFI.out]; rfl) ?_)
    | go_in)
  have S1 := Lib.hid (obj_set (o := 0) R4.out (.slice (Ad f.nm).1 f.zs.length (Ad f.nm).2))
  have S2 := Lib.hid (obj_set (o := 1) S1.out (.int .i64 (f.sure : Int)))
  obtain ⟨q0, q1⟩ := (obj2 S2.out).1
  exact bodyPost_ret (v := .tuple #[.agg #[.slice (Ad f.nm).1 f.zs.length (Ad f.nm).2, .int .i64 (f.sure : Int)], .int .i64 0]) (by simp [results, Tryz.results44, go_sem, q0, q1]) rfl
    ⟨rfl, ((D3.out.alloc D3.out.size _).setCell (p := ⟨w.heap.size, 0, none⟩) (Nat.le_refl _) _).setCell (p := ⟨w.heap.size, 1, none⟩) (Nat.le_refl _) _⟩
theorem find_err (T : Nat) (own : Nat → Prop) (s : S) (Ad : List UInt8 → Option Addr × Nat) (m : Nat) (ka : Option Addr) (kc : Nat) (sn : ByteArray) (hsn : sn.size ≤ 9223372036854775807) (A : Option Addr) (n cap : Nat) (ls : List ByteArray) (hn : n = ls.length) (hl : ls.length ≤ 50) (w : World) (p : PS w T own s Ad m ka kc) (hf : Full w A cap ls)
    (er : Int) (her : fnd s (bs sn) ((ls ++ [sn]).map bs) = er) (hne : er ≠ 0) :
    Calls Tryz.prog 44 #[.pointer (some ⟨T, 0, none⟩), .string sn, .slice A n cap] w (FindPost w (.agg #[.slice none 0 0, .int .i64 0]) er) := by
  unfold fnd at her
  split at her
  · next hc => exact find_bad T own s Ad m ka kc sn hsn A n cap ls hn hl w p hf er her (by rw [beq_eq_false_iff_ne]; exact hne)
  · next hc =>
    have hc : chk s ((ls ++ [sn]).map bs) = 0 := by simpa using hc
    cases hfi : find (bs sn) s.fs with
    | none =>
      rw [hfi] at her
      have : er = 4 := by simpa using her.symm
      subst this
      exact find_none T own s Ad m ka kc sn hsn A n cap ls hn hl w p hf hc hfi
    | some f =>
      rw [hfi] at her
      exact absurd (by simpa using her.symm) hne
theorem find_ok (T : Nat) (own : Nat → Prop) (s : S) (Ad : List UInt8 → Option Addr × Nat) (m : Nat) (ka : Option Addr) (kc : Nat) (sn : ByteArray) (hsn : sn.size ≤ 9223372036854775807) (A : Option Addr) (n cap : Nat) (ls : List ByteArray) (hn : n = ls.length) (hl : ls.length ≤ 50) (w : World) (p : PS w T own s Ad m ka kc) (hf : Full w A cap ls)
    (her : fnd s (bs sn) ((ls ++ [sn]).map bs) = 0) :
    ∃ f, find (bs sn) s.fs = some f ∧ Calls Tryz.prog 44 #[.pointer (some ⟨T, 0, none⟩), .string sn, .slice A n cap] w (FindPost w (.agg #[.slice (Ad f.nm).1 f.zs.length (Ad f.nm).2, .int .i64 (f.sure : Int)]) 0) := by
  unfold fnd at her
  split at her
  · next hc => exact absurd her hc
  · next hc =>
    have hc : chk s ((ls ++ [sn]).map bs) = 0 := by simpa using hc
    cases hfi : find (bs sn) s.fs with
    | none => rw [hfi] at her; simp at her
    | some f => exact ⟨f, rfl, find_some_any T own s Ad m ka kc sn hsn A n cap ls hn hl w p hf hc f hfi⟩
end Go.Proofs.YtdbhicifjljjnaaGreatDoor
