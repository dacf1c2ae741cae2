/-
  Three memories of keys of the program's beside each other.
-/
import Derived.Test.YteppokokabgniaaKyOne
namespace Go.Proofs.Yteppokokabgniaa
open Go.RowKit
/-- The keys at T1, T2 and T3 are in states s1, s2 and s3; G are blocks beside all three. -/
def Tri (w0 w : World) (T1 T2 T3 : Nat) (s1 s2 s3 : Ky.S) (G : Nat → Prop) : Prop := ∃ O2 O3, OneK w0 w T1 s1 (fun k => O2 k ∨ O3 k ∨ G k) ∧ (PK w T2 O2 s2 ∧ Ky.Inv s2 ∧ ∀ k, O2 k → w0.heap.size ≤ k) ∧ (PK w T3 O3 s3 ∧ Ky.Inv s3 ∧ ∀ k, O3 k → w0.heap.size ≤ k) ∧ (∀ k, O2 k → ¬ O3 k) ∧ ∀ k, G k → ¬ O2 k ∧ ¬ O3 k
section
variable {w0 w w' : World} {T1 T2 T3 : Nat} {s1 s2 s3 s1' : Ky.S} {G : Nat → Prop}
theorem Tri.below (h : Tri w0 w T1 T2 T3 s1 s2 s3 G) : Below w0.heap.size w0 w := by obtain ⟨_, _, h, _⟩ := h; exact h.below
theorem Tri.rot (h : Tri w0 w T1 T2 T3 s1 s2 s3 G) : Tri w0 w T2 T3 T1 s2 s3 s1 G := by
  obtain ⟨O2, O3, ⟨O1, p1, a1, b1, i1, g1⟩, ⟨p2, i2, a2⟩, ⟨p3, i3, a3⟩, d, e⟩ := h
  refine ⟨O3, O1, ⟨O2, p2, a2, b1, i2, fun k hk => ?_⟩, ⟨p3, i3, a3⟩, ⟨p1, i1, a1⟩, fun k hk => (g1 k (.inr (.inl hk))).1, fun k hk => ⟨(e k hk).2, (g1 k (.inr (.inr hk))).1⟩⟩
  rcases hk with hk | hk | hk
  · exact ⟨fun h => d k h hk, p3.lt k hk⟩
  · exact ⟨fun h => (g1 k (.inl h)).1 hk, p1.lt k hk⟩
  · exact ⟨(e k hk).1, (g1 k (.inr (.inr hk))).2⟩
/-- A call of the first. -/
theorem Tri.call (h : Tri w0 w T1 T2 T3 s1 s2 s3 G) {f : FuncId} {args : Array Value} {E : Ending → Prop}
    (hc : ∀ G1 : Nat → Prop, OneK w0 w T1 s1 G1 → Calls Try.prog f args w fun e w' => E e ∧ Hid (OneK w0 w' T1 s1' G1) ∧ Hid (KeptG G1 w w')) :
    Calls Try.prog f args w fun e w' => E e ∧ Hid (Tri w0 w' T1 T2 T3 s1' s2 s3 G) ∧ Hid (KeptG G w w') := by
  obtain ⟨O2, O3, o, ⟨p2, i2, a2⟩, ⟨p3, i3, a3⟩, d, e⟩ := h
  refine (hc _ o).mono ?_
  rintro r w' ⟨hr, o', k⟩
  exact ⟨hr, Lib.hid ⟨O2, O3, o'.out, ⟨p2.keep k.out.1 fun i hi => k.out.2 i (.inl hi), i2, a2⟩, ⟨p3.keep k.out.1 fun i hi => k.out.2 i (.inr (.inl hi)), i3, a3⟩, d, e⟩, Lib.hid (k.out.fewer fun i hi => .inr (.inr hi))⟩
theorem Tri.on (h : Tri w0 w T1 T2 T3 s1 s2 s3 G) (hb : Below w.heap.size w w') : Tri w0 w' T1 T2 T3 s1 s2 s3 G := by
  obtain ⟨O2, O3, o, ⟨p2, i2, a2⟩, ⟨p3, i3, a3⟩, d, e⟩ := h
  exact ⟨O2, O3, o.on hb, ⟨p2.keep hb.size fun i hi => hb.block i (p2.lt i hi), i2, a2⟩, ⟨p3.keep hb.size fun i hi => hb.block i (p3.lt i hi), i3, a3⟩, d, e⟩
theorem triPut (h : Tri w0 w T1 T2 T3 s1 s2 s3 G) (n k : ByteArray) (id : Int) (hx : Ky.ok n k id) {v : Int} {b : Bool} (hv : Ky.putV s1 n k id = v) (hb : Ky.putB s1 n k = b) (hs : Ky.putS s1 n k id = s1') :
    Calls Try.prog 9 #[.pointer (some ⟨T1, 0, none⟩), .agg #[.string n, .string k], .int .i64 id] w fun e w' => e = .returned (.tuple #[.int .i64 v, .bool b]) ∧ Hid (Tri w0 w' T1 T2 T3 s1' s2 s3 G) ∧ Hid (KeptG G w w') :=
  h.call fun _ o => kyPut o n k id hx hv hb hs
theorem triGet (h : Tri w0 w T1 T2 T3 s1 s2 s3 G) (n k : ByteArray) (hx : Ky.okk n k) {v : Int} {b : Bool} (hv : Ky.getV s1 n k = v) (hb : Ky.getB s1 n k = b) :
    Calls Try.prog 10 #[.pointer (some ⟨T1, 0, none⟩), .agg #[.string n, .string k]] w fun e w' => e = .returned (.tuple #[.int .i64 v, .bool b]) ∧ Hid (Tri w0 w' T1 T2 T3 s1 s2 s3 G) ∧ Hid (KeptG G w w') :=
  h.call fun _ o => kyGet o n k hx hv hb
theorem triLen (h : Tri w0 w T1 T2 T3 s1 s2 s3 G) {m : Int} (hm : (s1.l.length : Int) = m) :
    Calls Try.prog 12 #[.pointer (some ⟨T1, 0, none⟩)] w fun e w' => e = .returned (.int .i64 m) ∧ Hid (Tri w0 w' T1 T2 T3 s1 s2 s3 G) ∧ Hid (KeptG G w w') :=
  h.call fun _ o => kyLen o hm
theorem triAll (h : Tri w0 w T1 T2 T3 s1 s2 s3 noG) {l : List Ky.T} (hl : s1.l = l) {m : Nat} (hm : l.length = m) :
    Calls Try.prog 11 #[.pointer (some ⟨T1, 0, none⟩)] w fun e w' => ∃ A c, e = .returned (.slice A m c) ∧ Hid (Tri w0 w' T1 T2 T3 s1 s2 s3 (rowK A l)) ∧ Hid (Ents w' (fun b => w.heap.size ≤ b) A l) := by
  subst hl hm
  obtain ⟨O2, O3, o, ⟨p2, i2, a2⟩, ⟨p3, i3, a3⟩, d, e⟩ := h
  refine (oneAll o).mono ?_
  rintro r w' ⟨A, c, rfl, o', k, hd⟩
  have hrow : ∀ k, rowK A s1.l k → w.heap.size ≤ k := fun k ⟨hl, a, ha, hk⟩ => by
    obtain ⟨b, off, e, ho, hb, _⟩ := hd.out hl
    rw [ha] at e
    injection e with e
    subst e hk
    exact ho
  refine ⟨A, c, rfl, Lib.hid ⟨O2, O3, o'.out.fewer fun k hk => ?_, ⟨p2.keep k.out.1 fun i hi => k.out.2 i (.inl hi), i2, a2⟩, ⟨p3.keep k.out.1 fun i hi => k.out.2 i (.inr (.inl hi)), i3, a3⟩, d, fun k hk => ⟨fun ho => ?_, fun ho => ?_⟩⟩, hd⟩
  · rcases hk with hk | hk | hk
    · exact .inl (.inl hk)
    · exact .inl (.inr (.inl hk))
    · exact .inr hk
  · have := p2.lt k ho; have := hrow k hk; omega
  · have := p3.lt k ho; have := hrow k hk; omega
end
theorem tri_start {w0 w1 w2 w3 : World} {T1 T2 T3 : Nat} {s1 s2 s3 : Ky.S} (h1 : OneK w0 w1 T1 s1 noG) (h2 : OneK w1 w2 T2 s2 noG) (h3 : OneK w2 w3 T3 s3 noG) : Tri w0 w3 T1 T2 T3 s1 s2 s3 noG := by
  obtain ⟨O2, p2, a2, b2, i2, -⟩ := h2
  obtain ⟨O3, p3, a3, b3, i3, -⟩ := h3
  have q2 : PK w3 T2 O2 s2 := p2.keep b3.size fun i hi => b3.block i (p2.lt i hi)
  have B : Below w1.heap.size w1 w3 := b2.trans (b3.mono b2.size)
  refine ⟨O2, O3, h1.join B fun k hk => ?_, ⟨q2, i2, fun k hk => Nat.le_trans h1.below.size (a2 k hk)⟩, ⟨p3, i3, fun k hk => Nat.le_trans h1.below.size (Nat.le_trans b2.size (a3 k hk))⟩, fun k hk ho => ?_, fun k hk => hk.elim⟩
  · rcases hk with hk | hk | hk
    · exact .inr ⟨a2 k hk, q2.lt k hk⟩
    · exact .inr ⟨Nat.le_trans b2.size (a3 k hk), p3.lt k hk⟩
    · exact hk.elim
  · have := p2.lt k hk; have := a3 k ho; omega
end Go.Proofs.Yteppokokabgniaa
