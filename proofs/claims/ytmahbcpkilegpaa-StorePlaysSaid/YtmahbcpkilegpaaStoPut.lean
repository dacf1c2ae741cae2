/-
  What a store of one file into the map, or a file's removal, makes of the whole store.
-/
import Derived.Test.YtmahbcpkilegpaaStoWorld
namespace Go.Proofs.Ytmahbcpkilegpaa
open Go.RowKit St

def ext (own : Nat → Prop) (w w' : World) : Nat → Prop := fun k => own k ∨ (w.heap.size ≤ k ∧ k < w'.heap.size)
theorem ext_step {own : Nat → Prop} {w w' : World} (h : Only own w w') : Step own (ext own w w') w w' := ⟨h, fun k hk => by rcases hk with h1 | h1; exact .inl h1; exact .inr h1.1⟩
def upd (Ad : List UInt8 → Option Addr × Nat) (nm : List UInt8) (v : Option Addr × Nat) : List UInt8 → Option Addr × Nat := fun x => if x = nm then v else Ad x
theorem upd_same (Ad : List UInt8 → Option Addr × Nat) (nm : List UInt8) (v : Option Addr × Nat) : upd Ad nm v nm = v := by simp [upd]
theorem upd_other {Ad : List UInt8 → Option Addr × Nat} {nm x : List UInt8} {v : Option Addr × Nat} (h : x ≠ nm) : upd Ad nm v x = Ad x := by simp [upd, h]
theorem elt_other {Ad : List UInt8 → Option Addr × Nat} {nm : List UInt8} {v : Option Addr × Nat} {l : List F} : ∀ g ∈ del nm l, elt (upd Ad nm v) g = elt Ad g := fun g hg => by
  unfold elt; rw [upd_other (mem_del.1 hg).2]
theorem elt_same {Ad : List UInt8 → Option Addr × Nat} {f : F} {A : Option Addr} {cap : Nat} : elt (upd Ad f.nm (A, cap)) f = .agg #[.slice A f.zs.length cap, .int .i64 (f.sure : Int)] := by
  unfold elt; rw [upd_same]
section
variable {w : World} {T : Nat} {own : Nat → Prop} {s : S} {Ad : List UInt8 → Option Addr × Nat} {m : Nat} {ka : Option Addr} {kc : Nat}
theorem PS.more (h : PS w T own s Ad m ka kc) {own2 : Nat → Prop} (hs : ∀ k, own k → own2 k) (hl : ∀ k, own2 k → k < w.heap.size) : PS w T own2 s Ad m ka kc :=
  ⟨h.obj, h.map, h.rows, h.apart, h.keep, hs _ h.ownT, hs _ h.ownM, fun f hf a ha => hs _ (h.ownR f hf a ha), fun a ha => hs _ (h.ownK a ha), hl, h.inv⟩
theorem OwnB.not_map {w1 w2 : World} {A : Option Addr} {cap : Nat} {zs : List Int} (h : OwnB w1 0 A cap zs) (ht : w1.mapTurned w2 m) : OwnB w2 0 A cap zs := by
  obtain ⟨_, _, _, _, hb⟩ := turned_frame ht
  obtain ⟨es, clock, _, _, hm, _⟩ := ht
  refine h.keep fun a ha => hb _ ?_
  subst ha
  obtain ⟨cur, hc⟩ := h.block
  intro e
  rw [e, hm] at hc; cases hc
theorem PS.put (h : PS w T own s Ad m ka kc) {w1 w2 : World} (f' : F) (A' : Option Addr) (cap' : Nat) (hsz : w.heap.size ≤ w1.heap.size) (hT : w1.heap[T]? = w.heap[T]?) (hK : ∀ a, ka = some a → w1.heap[a.block]? = w.heap[a.block]?)
    (hR : ∀ g ∈ s.fs, g.nm ≠ f'.nm → ∀ a, (Ad g.nm).1 = some a → w1.heap[a.block]? = w.heap[a.block]?) (row : OwnB w1 0 A' cap' f'.zs)
    (loc : ∀ a', A' = some a' → (own a'.block ∨ w.heap.size ≤ a'.block) ∧ ∀ g ∈ s.fs, g.nm ≠ f'.nm → ∀ b, (Ad g.nm).1 = some b → a'.block ≠ b.block)
    (map : PMap w2 m (elt (upd Ad f'.nm (A', cap'))) (St.put f' s.fs)) (turn : w1.mapTurned w2 m) (inv : Inv { s with fs := St.put f' s.fs }) :
    PS w2 T (ext own w w2) { s with fs := St.put f' s.fs } (upd Ad f'.nm (A', cap')) m ka kc := by
  obtain ⟨t1, t2, t3, t4, t5⟩ := turned_frame turn
  have hlt : ∀ k, own k → k < w.heap.size := h.lt
  refine ⟨?_, map, fun g hg => ?_, fun g hg g2 hg2 hne a b ha hb => ?_, ?_, .inl h.ownT, .inl h.ownM, fun g hg a ha => ?_, fun a ha => .inl (h.ownK a ha), fun k hk => ?_, inv⟩
  · rw [t5 T h.obj_ne, hT]; exact h.obj
  · rcases mem_put.1 hg with rfl | ⟨h1, h2⟩
    · rw [upd_same]; exact row.not_map turn
    · rw [upd_other h2]
      refine (h.rows g h1).keep fun a ha => ?_
      rw [t5 _ (h.row_ne h1 ha).2.1]; exact hR g h1 h2 a ha
  · rcases mem_put.1 hg with rfl | ⟨h1, h2⟩
    · rw [upd_same] at ha
      rcases mem_put.1 hg2 with rfl | ⟨h3, h4⟩
      · exact absurd rfl hne
      · rw [upd_other h4] at hb
        exact (loc a ha).2 g2 h3 h4 b hb
    · rw [upd_other h2] at ha
      rcases mem_put.1 hg2 with rfl | ⟨h3, h4⟩
      · rw [upd_same] at hb
        exact ((loc b hb).2 g h1 h2 a ha).symm
      · rw [upd_other h4] at hb
        exact h.apart g h1 g2 h3 hne a b ha hb
  · refine h.keep.keep fun a ha => ?_
    rw [t5 _ (h.keep_ne ha).2]; exact hK a ha
  · rcases mem_put.1 hg with rfl | ⟨h1, h2⟩
    · rw [upd_same] at ha
      rcases (loc a ha).1 with h3 | h3
      · exact .inl h3
      · have hr := row.not_map turn
        have ha' : A' = some a := ha
        rw [ha'] at hr
        exact .inr ⟨h3, hr.lt.2⟩
    · rw [upd_other h2] at ha
      exact .inl (h.ownR g h1 a ha)
  · rcases hk with h1 | h1
    · have := hlt k h1; omega
    · exact h1.2
theorem PS.drop (h : PS w T own s Ad m ka kc) {w2 : World} (nm : List UInt8) (map : PMap w2 m (elt Ad) (del nm s.fs)) (turn : w.mapTurned w2 m) (inv : Inv { s with fs := del nm s.fs }) : PS w2 T own { s with fs := del nm s.fs } Ad m ka kc := by
  obtain ⟨t1, t2, t3, t4, t5⟩ := turned_frame turn
  refine ⟨?_, map, fun g hg => (h.rows g (mem_del.1 hg).1).not_map turn, fun g hg g2 hg2 => h.apart g (mem_del.1 hg).1 g2 (mem_del.1 hg2).1, ?_, h.ownT, h.ownM, fun g hg => h.ownR g (mem_del.1 hg).1, h.ownK, fun k hk => by have := h.lt k hk; omega, inv⟩
  · rw [t5 T h.obj_ne]; exact h.obj
  · exact h.keep.keep fun a ha => t5 _ (h.keep_ne ha).2
/-- Where the row of a file lies that takes its own place. -/
theorem PS.loc (h : PS w T own s Ad m ka kc) {f : F} (hf : f ∈ s.fs) {A' : Option Addr} (hl : Lies w (Ad f.nm).1 A') :
    ∀ a', A' = some a' → (own a'.block ∨ w.heap.size ≤ a'.block) ∧ ∀ g ∈ s.fs, g.nm ≠ f.nm → ∀ b, (Ad g.nm).1 = some b → a'.block ≠ b.block := fun a' ha' => by
  rcases hl a' ha' with ⟨a, ha, e⟩ | h1
  · rw [e]
    exact ⟨.inl (h.ownR f hf a ha), fun g hg hn b hb => (h.apart g hg f hf hn b a hb ha).symm⟩
  · exact ⟨.inr h1, fun g hg _ b hb => by have := h.lt _ (h.ownR g hg b hb); omega⟩
theorem PS.loc_new (h : PS w T own s Ad m ka kc) {nm : List UInt8} {A' : Option Addr} (hl : Lies w none A') :
    ∀ a', A' = some a' → (own a'.block ∨ w.heap.size ≤ a'.block) ∧ ∀ g ∈ s.fs, g.nm ≠ nm → ∀ b, (Ad g.nm).1 = some b → a'.block ≠ b.block := fun a' ha' => by
  rcases hl a' ha' with ⟨a, ha, e⟩ | h1
  · cases ha
  · exact ⟨.inr h1, fun g hg _ b hb => by have := h.lt _ (h.ownR g hg b hb); omega⟩
end
end Go.Proofs.Ytmahbcpkilegpaa
