/-
  The reference's store with the blocks that are its own; what a call that changes it leaves; which blocks are one.
-/
import Derived.Test.YtmahbcpkilegpaaStoRefNames
namespace Go.Proofs.Ytmahbcpkilegpaa
open Go.RowKit St

structure RP (w : World) (R : Nat) (own : Nat → Prop) (s : S) (rf : Int) (rk : List Int) (Ad : List UInt8 → Option Addr × Nat) (fa : Option Addr) (fc : Nat) (ka : Option Addr) (kc : Nat) : Prop where
  rs : RS w R s rf rk Ad fa fc ka kc
  apart : ∀ f ∈ s.fs, ∀ g ∈ s.fs, f.nm ≠ g.nm → ∀ a b, (Ad f.nm).1 = some a → (Ad g.nm).1 = some b → a.block ≠ b.block
  keep : OwnN w 0 ka kc rk
  ownT : own R
  ownF : ∀ a, fa = some a → own a.block
  ownR : ∀ f ∈ s.fs, ∀ a, (Ad f.nm).1 = some a → own a.block
  ownK : ∀ a, ka = some a → own a.block
  lt : ∀ k, own k → k < w.heap.size
theorem ownsRow_keep {w w' : World} {base n size : Nat} {e : TypeId} {A : Option Addr} {cap : Nat} {xs : List Value} (h : w.ownsRow base e size (.slice A n cap) n xs) (hk : ∀ a, A = some a → w'.heap[a.block]? = w.heap[a.block]?) : w'.ownsRow base e size (.slice A n cap) n xs := by
  refine ⟨h.1, ?_⟩
  rcases h.2 with e | ⟨g, c', cur, e, hb, hg, r⟩
  · exact .inl e
  · injection e with e1 e2 e3
    subst e1 e3
    exact .inr ⟨g, _, cur, rfl, hb, by rw [hk _ rfl]; exact hg, r⟩
theorem ownsRow_block {w : World} {base n size : Nat} {e : TypeId} {a : Addr} {cap : Nat} {xs : List Value} (h : w.ownsRow base e size (.slice (some a) n cap) n xs) : ∃ cur, w.heap[a.block]? = some (.cells cur e (0, 0)) := by
  rcases h.2 with ⟨e, _⟩ | ⟨g, c', cur, e, _, hg, _⟩
  · cases e
  · injection e with e1 _ _
    injection e1 with e1
    subst e1
    exact ⟨cur, hg⟩
theorem OwnN.ints {w : World} {base : Nat} {A : Option Addr} {cap : Nat} {zs : List Int} (h : OwnN w base A cap zs) : Ints w A zs := fun hp => by
  obtain ⟨g, e, _, _⟩ := h.cell hp
  subst e
  refine ⟨g, 0, rfl, fun i hi => ?_⟩
  obtain ⟨g2, e2, _, hc⟩ := h.cell hi
  injection e2 with e2
  injection e2 with e2
  subst e2
  rw [Nat.zero_add]; exact hc
section
variable {w : World} {R : Nat} {own : Nat → Prop} {s : S} {rf : Int} {rk : List Int} {Ad : List UInt8 → Option Addr × Nat} {fa : Option Addr} {fc : Nat} {ka : Option Addr} {kc : Nat}
theorem RP.same {w' : World} (h : RP w R own s rf rk Ad fa fc ka kc) (hs : w.heap.size ≤ w'.heap.size) (hk : ∀ k, own k → w'.heap[k]? = w.heap[k]?) : RP w' R own s rf rk Ad fa fc ka kc :=
  ⟨⟨(hk R h.ownT).trans h.rs.obj, ownsRow_keep h.rs.files fun a ha => hk _ (h.ownF a ha), fun f hf => (h.rs.rows f hf).keep fun a ha => hk _ (h.ownR f hf a ha), (h.keep.keep fun a ha => hk _ (h.ownK a ha)).ints, h.rs.inv, h.rs.link⟩,
    h.apart, h.keep.keep fun a ha => hk _ (h.ownK a ha), h.ownT, h.ownF, h.ownR, h.ownK, fun k hk => Nat.lt_of_lt_of_le (h.lt k hk) hs⟩
theorem RP.grow {w' : World} (h : RP w R own s rf rk Ad fa fc ka kc) (hb : Below w.heap.size w w') : RP w' R own s rf rk Ad fa fc ka kc := h.same hb.size fun k hk => hb.block k (h.lt k hk)
theorem RP.files_ne (h : RP w R own s rf rk Ad fa fc ka kc) {b : Addr} (hb : fa = some b) : b.block ≠ R ∧ (∀ f ∈ s.fs, ∀ a, (Ad f.nm).1 = some a → a.block ≠ b.block) ∧ ∀ a, ka = some a → a.block ≠ b.block := by
  have hf := h.rs.files
  rw [hb] at hf
  obtain ⟨cur, hc⟩ := ownsRow_block hf
  refine ⟨type_ne hc h.rs.obj (by decide), fun f hf2 a ha => ?_, fun a ha => ?_⟩
  · have hr := h.rs.rows f hf2
    rw [ha] at hr
    obtain ⟨cur2, hc2⟩ := hr.block
    exact type_ne hc2 hc (by decide)
  · have hk := h.keep
    rw [ha] at hk
    obtain ⟨cur2, hc2⟩ := hk.block
    exact type_ne hc2 hc (by decide)
theorem RP.row_ne (h : RP w R own s rf rk Ad fa fc ka kc) {f : F} (hf : f ∈ s.fs) {a : Addr} (ha : (Ad f.nm).1 = some a) : a.block ≠ R ∧ ∀ b, ka = some b → a.block ≠ b.block := by
  have hr := h.rs.rows f hf
  rw [ha] at hr
  obtain ⟨cur, hc⟩ := hr.block
  refine ⟨type_ne hc h.rs.obj (by decide), fun b hb => ?_⟩
  have hk := h.keep
  rw [hb] at hk
  obtain ⟨cur2, hc2⟩ := hk.block
  exact type_ne hc hc2 (by decide)
theorem RP.keep_ne (h : RP w R own s rf rk Ad fa fc ka kc) {b : Addr} (hb : ka = some b) : b.block ≠ R := by
  have hk := h.keep
  rw [hb] at hk
  obtain ⟨cur2, hc2⟩ := hk.block
  exact type_ne hc2 h.rs.obj (by decide)
/-- Only the object's block has changed: other flags, another fuse, another row that is kept for it. -/
theorem RP.flags (h : RP w R own s rf rk Ad fa fc ka kc) {w' : World} (hk : ∀ k, k < w.heap.size → k ≠ R → w'.heap[k]? = w.heap[k]?) {own2 : Nat → Prop} {off : Bool} {rf2 : Int} {rk2 : List Int} {ka2 : Option Addr} {kc2 : Nat} {fuse : Nat} {keep : List Int}
    (hobj : w'.heap[R]? = some (.cells #[.int .i64 (s.room : Int), .slice fa s.fs.length fc, .bool off, .int .i64 rf2, .slice ka2 rk2.length kc2] 46 (0, 0)))
    (hkeep : OwnN w' 0 ka2 kc2 rk2) (hsub : ∀ k, own k → own2 k) (hlt : ∀ k, own2 k → k < w'.heap.size) (hK : ∀ a, ka2 = some a → own2 a.block) (hinv : Inv { s with off := off, fuse := fuse, keep := keep }) (hlink : fuse = rf2.toNat ∧ (0 < rf2 → keep = rk2.take 64)) :
    RP w' R own2 { s with off := off, fuse := fuse, keep := keep } rf2 rk2 Ad fa fc ka2 kc2 :=
  ⟨⟨hobj, ownsRow_keep h.rs.files fun a ha => hk _ (h.lt _ (h.ownF a ha)) (h.files_ne ha).1, fun f hf => (h.rs.rows f hf).keep fun a ha => hk _ (h.lt _ (h.ownR f hf a ha)) (h.row_ne hf ha).1, hkeep.ints, hinv, hlink⟩,
    h.apart, hkeep, hsub _ h.ownT, fun a ha => hsub _ (h.ownF a ha), fun f hf a ha => hsub _ (h.ownR f hf a ha), hK, hlt⟩
end
def RState (w : World) (R : Nat) (own : Nat → Prop) (s : S) : Prop := ∃ rf rk Ad fa fc ka kc, RP w R own s rf rk Ad fa fc ka kc ∧ rf ≤ 9223372036854775807 ∧ -9223372036854775808 ≤ rf ∧ rk.length ≤ 1000000
/-- What a call that changes the reference's store leaves. -/
def RLeaves (w : World) (R : Nat) (own : Nat → Prop) (s : S) (w' : World) : Prop := ∃ own2, RState w' R own2 s ∧ Step own own2 w w'
theorem RState.same {w w' : World} {R : Nat} {own : Nat → Prop} {s : S} (h : RState w R own s) (hs : w.heap.size ≤ w'.heap.size) (hk : ∀ k, own k → w'.heap[k]? = w.heap[k]?) : RState w' R own s := by
  obtain ⟨rf, rk, Ad, fa, fc, ka, kc, p, b⟩ := h; exact ⟨rf, rk, Ad, fa, fc, ka, kc, p.same hs hk, b⟩
theorem RState.lt {w : World} {R : Nat} {own : Nat → Prop} {s : S} (h : RState w R own s) : ∀ k, own k → k < w.heap.size := by obtain ⟨_, _, _, _, _, _, _, p, _⟩ := h; exact p.lt
theorem RState.grow {w w' : World} {R : Nat} {own : Nat → Prop} {s : S} (h : RState w R own s) (hb : Below w.heap.size w w') : RState w' R own s := h.same hb.size fun k hk => hb.block k (h.lt k hk)
theorem RState.inv {w : World} {R : Nat} {own : Nat → Prop} {s : S} (h : RState w R own s) : Inv s := by obtain ⟨_, _, _, _, _, _, _, p, _⟩ := h; exact p.rs.inv
theorem RLeaves.same {w w' : World} {R : Nat} {own : Nat → Prop} {s : S} (h : RState w R own s) (hb : Below w.heap.size w w') : RLeaves w R own s w' := ⟨own, h.grow hb, ⟨Only.of hb, fun _ h => .inl h⟩⟩
theorem RLeaves.trans {a b c : World} {R : Nat} {own : Nat → Prop} {s : S} {own2 : Nat → Prop} (h : Step own own2 a b) (k : RLeaves b R own2 s c) : RLeaves a R own s c := by
  obtain ⟨o3, h1, h2⟩ := k; exact ⟨o3, h1, h.trans h2⟩
theorem RLeaves.behind {a b c : World} {R : Nat} {own : Nat → Prop} {s : S} (k : RLeaves a R own s b) (h : Below b.heap.size b c) : RLeaves a R own s c := by
  obtain ⟨o3, h1, h2⟩ := k; exact ⟨o3, h1.grow h, h2.behind h⟩
end Go.Proofs.Ytmahbcpkilegpaa
