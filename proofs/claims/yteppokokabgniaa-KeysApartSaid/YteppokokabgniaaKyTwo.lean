/-
  The program's keys and the reference's beside each other: each call of one leaves the other as it was.
-/
import Derived.Test.YteppokokabgniaaKyOne
namespace Go.Proofs.Yteppokokabgniaa
open Go.RowKit
/-- The program's keys at T in state s, the reference's at R in state r; G are blocks beside both. -/
def TwoK (w0 w : World) (T R : Nat) (s r : Ky.S) (G : Nat → Prop) : Prop := ∃ Q, RK w R Q r ∧ (∀ k, Q k → w0.heap.size ≤ k) ∧ OneK w0 w T s (fun k => Q k ∨ G k) ∧ ∀ k, G k → ¬ Q k
section
variable {w0 w w' : World} {T R : Nat} {s s' r r' : Ky.S} {G G' : Nat → Prop}
theorem TwoK.below (h : TwoK w0 w T R s r G) : Below w0.heap.size w0 w := by obtain ⟨Q, q, h1, h2, h3⟩ := h; exact h2.below
theorem TwoK.fewer (h : TwoK w0 w T R s r G) (hs : ∀ k, G' k → G k) : TwoK w0 w T R s r G' := by
  obtain ⟨Q, q, h1, h2, h3⟩ := h
  exact ⟨Q, q, h1, h2.fewer fun k hk => hk.elim .inl fun h => .inr (hs k h), fun k hk => h3 k (hs k hk)⟩
theorem TwoK.join (h : TwoK w0 w T R s r G) (hb : Below w.heap.size w w') (hs : ∀ k, G' k → G k ∨ (w.heap.size ≤ k ∧ k < w'.heap.size)) : TwoK w0 w' T R s r G' := by
  obtain ⟨Q, q, h1, h2, h3⟩ := h
  refine ⟨Q, q.on hb, h1, h2.join hb fun k hk => ?_, fun k hk hq => ?_⟩
  · rcases hk with hk | hk
    · exact .inl (.inl hk)
    · exact (hs k hk).elim (fun h => .inl (.inr h)) .inr
  · rcases hs k hk with h | h
    · exact h3 k h hq
    · have := q.lt k hq; omega
theorem TwoK.on (h : TwoK w0 w T R s r G) (hb : Below w.heap.size w w') : TwoK w0 w' T R s r G := h.join hb fun _ h => .inl h
theorem TwoK.kept (h : TwoK w0 w T R s r G) (hb : Below w.heap.size w w') : KeptG G w w' := by
  obtain ⟨Q, q, h1, h2, h3⟩ := h
  exact (h2.kept hb).fewer fun k hk => .inr hk
/-- A call of the program's keys. -/
theorem TwoK.prog (h : TwoK w0 w T R s r G) {f : FuncId} {args : Array Value} {E : Ending → Prop}
    (hc : ∀ G1 : Nat → Prop, OneK w0 w T s G1 → Calls Try.prog f args w fun e w' => E e ∧ Hid (OneK w0 w' T s' G1) ∧ Hid (KeptG G1 w w')) :
    Calls Try.prog f args w fun e w' => E e ∧ Hid (TwoK w0 w' T R s' r G) ∧ Hid (KeptG G w w') := by
  obtain ⟨Q, q, h1, h2, h3⟩ := h
  refine (hc _ h2).mono ?_
  rintro e w' ⟨he, o, k⟩
  exact ⟨he, Lib.hid ⟨Q, q.keep k.out.1 fun i hi => k.out.2 i (.inl hi), h1, o.out, h3⟩, Lib.hid (k.out.fewer fun i hi => .inr hi)⟩
theorem twoPut_p (h : TwoK w0 w T R s r G) (n k : ByteArray) (id : Int) (hx : Ky.ok n k id) :
    Calls Try.prog 9 #[.pointer (some ⟨T, 0, none⟩), .agg #[.string n, .string k], .int .i64 id] w fun e w' => e = .returned (.tuple #[.int .i64 (Ky.putV s n k id), .bool (Ky.putB s n k)]) ∧ Hid (TwoK w0 w' T R (Ky.putS s n k id) r G) ∧ Hid (KeptG G w w') :=
  h.prog fun _ o => onePut o n k id hx
theorem twoGet_p (h : TwoK w0 w T R s r G) (n k : ByteArray) (hx : Ky.okk n k) :
    Calls Try.prog 10 #[.pointer (some ⟨T, 0, none⟩), .agg #[.string n, .string k]] w fun e w' => e = .returned (.tuple #[.int .i64 (Ky.getV s n k), .bool (Ky.getB s n k)]) ∧ Hid (TwoK w0 w' T R s r G) ∧ Hid (KeptG G w w') :=
  h.prog fun _ o => oneGet o n k hx
theorem twoLen_p (h : TwoK w0 w T R s r G) : Calls Try.prog 12 #[.pointer (some ⟨T, 0, none⟩)] w fun e w' => e = .returned (.int .i64 (s.l.length : Int)) ∧ Hid (TwoK w0 w' T R s r G) ∧ Hid (KeptG G w w') :=
  h.prog fun _ o => oneLen o
theorem twoLen_q (h : TwoK w0 w T R s r G) : Calls Try.prog 12 #[.pointer (some ⟨T, 0, none⟩)] w fun e w' => e = .returned (.int .i64 (s.l.length : Int)) ∧ Hid (TwoK w0 w' T R s r G) ∧ Hid (w'.cell? ⟨R, 1, none⟩ = w.cell? ⟨R, 1, none⟩) := by
  obtain ⟨Q, q, h1, h2, h3⟩ := h
  refine (oneLen h2).mono ?_
  rintro e w' ⟨he, o, k⟩
  exact ⟨he, Lib.hid ⟨Q, q.keep k.out.1 fun i hi => k.out.2 i (.inl hi), h1, o.out, h3⟩, Lib.hid (World.cell?_of_block (a := ⟨R, 1, none⟩) (k.out.2 R (.inl q.own)))⟩
theorem twoAll_p (h : TwoK w0 w T R s r G) : Calls Try.prog 11 #[.pointer (some ⟨T, 0, none⟩)] w fun e w' => ∃ A c, e = .returned (.slice A s.l.length c) ∧ Hid (TwoK w0 w' T R s r noG) ∧ Hid (Ents w' (fun b => w.heap.size ≤ b) A s.l) := by
  obtain ⟨Q, q, h1, h2, h3⟩ := h
  refine (oneAll h2).mono ?_
  rintro e w' ⟨A, c, rfl, o, k, d⟩
  exact ⟨A, c, rfl, Lib.hid ⟨Q, q.keep k.out.1 fun i hi => k.out.2 i (.inl hi), h1, o.out.fewer fun i hi => hi.elim (fun h => .inl (.inl h)) fun h => h.elim, fun i hi => hi.elim⟩, d⟩
theorem twoPut_r (h : TwoK w0 w T R s r G) (n k : ByteArray) (id : Int) :
    Calls Try.prog 14 #[.pointer (some ⟨R, 0, none⟩), .string n, .string k, .int .i64 id] w fun e w' => e = .returned (.tuple #[.int .i64 (Ky.putV r n k id), .bool (Ky.putB r n k)]) ∧ Hid (TwoK w0 w' T R s (Ky.putS r n k id) G) ∧ Hid (KeptG G w w') := by
  obtain ⟨Q, q, h1, h2, h3⟩ := h
  refine (refPutK_any R Q r n k id w q).mono ?_
  rintro e w' ⟨he, Q2, q2, st, -⟩
  refine ⟨he, Lib.hid ⟨Q2, q2, fun k hk => ?_, h2.other (Q := Q) (fun k hk => ⟨.inl hk, h1 k hk⟩) st.only (fun k hk => ?_), fun k hk hq => ?_⟩, Lib.hid ⟨st.only.size, fun k hk => st.only.block k (h2.gone k (.inr hk)) (h3 k hk)⟩⟩
  · rcases st.sub k hk with h | h
    · exact h1 k h
    · exact Nat.le_trans h2.below.size h
  · rcases hk with hk | hk
    · rcases st.sub k hk with h | h
      · exact .inl (.inl h)
      · exact .inr ⟨h, q2.lt k hk⟩
    · exact .inl (.inr hk)
  · rcases st.sub k hq with h | h
    · exact h3 k hk h
    · have := h2.gone k (.inr hk); omega
theorem twoGet_r (h : TwoK w0 w T R s r G) (n k : ByteArray) :
    Calls Try.prog 15 #[.pointer (some ⟨R, 0, none⟩), .string n, .string k] w fun e w' => e = .returned (.tuple #[.int .i64 (Ky.getV r n k), .bool (Ky.getB r n k)]) ∧ w = w' := by
  obtain ⟨Q, q, h1, h2, h3⟩ := h
  exact refGetK_any R Q r n k w q
/-- The reference's row, read. -/
theorem TwoK.row (h : TwoK w0 w T R s r G) : ∃ A cap, w.cell? ⟨R, 1, none⟩ = some (.slice A r.l.length cap) ∧ r.l.length ≤ cap ∧ Ents w (fun k => w0.heap.size ≤ k) A r.l := by
  obtain ⟨Q, q, h1, h2, h3⟩ := h
  obtain ⟨A, cap, e, hc, d⟩ := q.obj
  refine ⟨A, cap, (obK e).1.2, hc, fun hl => ?_⟩
  obtain ⟨b, off, e1, e2, e3⟩ := d hl
  exact ⟨b, off, e1, h1 b e2, e3⟩
theorem TwoK.len (h : TwoK w0 w T R s r G) : s.l.length ≤ 128 := by obtain ⟨Q, q, h1, h2, h3⟩ := h; exact h2.len
end
/-- The reference's new keys beside the program's. -/
theorem two_start {w0 w w' : World} {T : Nat} {s r : Ky.S} (h : OneK w0 w T s noG) {R : Nat} (hb : Below w.heap.size w w') (hR : w.heap.size ≤ R) (ho : RK w' R (fun i => i = R) r) : TwoK w0 w' T R s r noG := by
  refine ⟨fun k => k = R, ho, fun k hk => by subst hk; exact Nat.le_trans h.below.size hR, h.join hb fun k hk => ?_, fun k hk => hk.elim⟩
  rcases hk with rfl | hk
  · exact .inr ⟨hR, ho.lt _ rfl⟩
  · exact hk.elim
end Go.Proofs.Yteppokokabgniaa
