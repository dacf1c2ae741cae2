/-
  The program's keys, made since w0; beside them blocks G that are none of their own; awake.
-/
import Derived.Test.YteppokokabgniaaKyProg
import Derived.Deep.RegionHeld
namespace Go.Proofs.Yteppokokabgniaa
open Go.RowKit
/-- The blocks G are as they were. -/
def KeptG (G : Nat → Prop) (w w' : World) : Prop := w.heap.size ≤ w'.heap.size ∧ ∀ k, G k → w'.heap[k]? = w.heap[k]?
theorem KeptG.trans {G : Nat → Prop} {a b c : World} (h : KeptG G a b) (k : KeptG G b c) : KeptG G a c := ⟨Nat.le_trans h.1 k.1, fun i hi => (k.2 i hi).trans (h.2 i hi)⟩
theorem KeptG.fewer {G G' : Nat → Prop} {w w' : World} (h : KeptG G w w') (hs : ∀ k, G' k → G k) : KeptG G' w w' := ⟨h.1, fun k hk => h.2 k (hs k hk)⟩
theorem KeptG.refl (G : Nat → Prop) (w : World) : KeptG G w w := ⟨Nat.le_refl _, fun _ _ => rfl⟩
/-- The keys at T, of blocks made since w0, are in state s; G are blocks beside them. -/
def OneK (w0 w : World) (T : Nat) (s : Ky.S) (G : Nat → Prop) : Prop := ∃ O, PK w T O s ∧ (∀ k, O k → w0.heap.size ≤ k) ∧ Below w0.heap.size w0 w ∧ Ky.Inv s ∧ ∀ k, G k → ¬ O k ∧ k < w.heap.size
def noG (_ : Nat) : Prop := False
section
variable {w0 w w' : World} {T : Nat} {s s' : Ky.S} {G G' : Nat → Prop}
theorem OneK.below (h : OneK w0 w T s G) : Below w0.heap.size w0 w := by obtain ⟨_, _, _, h, _⟩ := h; exact h
theorem OneK.inv (h : OneK w0 w T s G) : Ky.Inv s := by obtain ⟨_, _, _, _, h, _⟩ := h; exact h
theorem OneK.len (h : OneK w0 w T s G) : s.l.length ≤ 128 := by have := h.inv.few; have := h.inv.most1; omega
theorem OneK.gone (h : OneK w0 w T s G) (k : Nat) (hk : G k) : k < w.heap.size := by obtain ⟨_, _, _, _, _, h⟩ := h; exact (h k hk).2
theorem OneK.kept (h : OneK w0 w T s G) (hb : Below w.heap.size w w') : KeptG G w w' := ⟨hb.size, fun k hk => hb.block k (h.gone k hk)⟩
theorem OneK.fewer (h : OneK w0 w T s G) (hs : ∀ k, G' k → G k) : OneK w0 w T s G' := by
  obtain ⟨O, p, h1, h2, h3, h5⟩ := h
  exact ⟨O, p, h1, h2, h3, fun k hk => h5 k (hs k hk)⟩
/-- Blocks made since stand beside it. -/
theorem OneK.join (h : OneK w0 w T s G) (hb : Below w.heap.size w w') (hs : ∀ k, G' k → G k ∨ (w.heap.size ≤ k ∧ k < w'.heap.size)) : OneK w0 w' T s G' := by
  obtain ⟨O, p, h1, h2, h3, h5⟩ := h
  refine ⟨O, p.keep hb.size fun i hi => hb.block i (p.lt i hi), h1, h2.trans (hb.mono h2.size), h3, fun k hk => ?_⟩
  rcases hs k hk with h | h
  · exact ⟨(h5 k h).1, Nat.lt_of_lt_of_le (h5 k h).2 hb.size⟩
  · exact ⟨fun ho => by have := p.lt k ho; omega, h.2⟩
theorem OneK.on (h : OneK w0 w T s G) (hb : Below w.heap.size w w') : OneK w0 w' T s G := h.join hb fun _ h => .inl h
/-- Another object, of blocks Q among G, has changed. -/
theorem OneK.other {Q : Nat → Prop} (h : OneK w0 w T s G) (hQ : ∀ k, Q k → G k ∧ w0.heap.size ≤ k) (ho : Only Q w w') (hs : ∀ k, G' k → G k ∨ (w.heap.size ≤ k ∧ k < w'.heap.size)) : OneK w0 w' T s G' := by
  obtain ⟨O, p, h1, h2, h3, h5⟩ := h
  refine ⟨O, p.keep ho.size fun i hi => ho.block i (p.lt i hi) fun hq => (h5 i (hQ i hq).1).1 hi, h1, h2.trans (ho.below h2.size fun k hk => (hQ k hk).2), h3, fun k hk => ?_⟩
  rcases hs k hk with h | h
  · exact ⟨(h5 k h).1, Nat.lt_of_lt_of_le (h5 k h).2 ho.size⟩
  · exact ⟨fun hO => by have := p.lt k hO; omega, h.2⟩
/-- From an earlier world on. -/
theorem OneK.from {w1 : World} (h : OneK w1 w T s G) (hb : Below w0.heap.size w0 w1) : OneK w0 w T s G := by
  obtain ⟨O, p, h1, h2, h3⟩ := h
  exact ⟨O, p, fun k hk => Nat.le_trans hb.size (h1 k hk), hb.trans (h2.mono hb.size), h3⟩
/-- Beside it: blocks of before. -/
theorem OneK.beside (h : OneK w0 w T s noG) (hG : ∀ k, G k → k < w0.heap.size) : OneK w0 w T s G := by
  obtain ⟨O, p, h1, h2, h3, h5⟩ := h
  exact ⟨O, p, h1, h2, h3, fun k hk => ⟨fun ho => by have := h1 k ho; have := hG k hk; omega, Nat.lt_of_lt_of_le (hG k hk) h2.size⟩⟩
theorem oneNew (m : Int) (w : World) : Calls Try.prog 8 #[.int .i64 m] w fun e w' => ∃ T, e = .returned (.pointer (some ⟨T, 0, none⟩)) ∧ Hid (OneK w w' T (Ky.newS m) noG) ∧ Hid (Below w.heap.size w w') :=
  (keysNew_any m w).mono fun _ _ ⟨g, O, h1, h2, h3, h4⟩ => ⟨g, h1, Lib.hid ⟨O, h2, h3, h4, Ky.Inv.new m, fun _ hk => hk.elim⟩, Lib.hid h4⟩
theorem onePut (h : OneK w0 w T s G) (n k : ByteArray) (id : Int) (hx : Ky.ok n k id) :
    Calls Try.prog 9 #[.pointer (some ⟨T, 0, none⟩), .agg #[.string n, .string k], .int .i64 id] w fun e w' => e = .returned (.tuple #[.int .i64 (Ky.putV s n k id), .bool (Ky.putB s n k)]) ∧ Hid (OneK w0 w' T (Ky.putS s n k id) G) ∧ Hid (KeptG G w w') := by
  obtain ⟨O, p, h1, h2, h3, h5⟩ := h
  refine (keysPut_any T O s n k id w p h3 hx).mono ?_
  rintro e w' ⟨rfl, O2, p2, st⟩
  refine ⟨rfl, Lib.hid ⟨O2, p2, fun k hk => ?_, h2.trans (st.only.below h2.size h1), h3.put _ _ _, fun k hk => ⟨fun ho => ?_, Nat.lt_of_lt_of_le (h5 k hk).2 st.only.size⟩⟩, Lib.hid ⟨st.only.size, fun k hk => st.only.block k (h5 k hk).2 (h5 k hk).1⟩⟩
  · rcases st.sub k hk with h | h
    · exact h1 k h
    · exact Nat.le_trans h2.size h
  · rcases st.sub k ho with h | h
    · exact (h5 k hk).1 h
    · have := (h5 k hk).2; omega
theorem oneGet (h : OneK w0 w T s G) (n k : ByteArray) (hx : Ky.okk n k) :
    Calls Try.prog 10 #[.pointer (some ⟨T, 0, none⟩), .agg #[.string n, .string k]] w fun e w' => e = .returned (.tuple #[.int .i64 (Ky.getV s n k), .bool (Ky.getB s n k)]) ∧ Hid (OneK w0 w' T s G) ∧ Hid (KeptG G w w') := by
  obtain ⟨O, p, h1, h2, h3, h5⟩ := id h
  exact (keysGet_any T O s n k w p h3 hx).mono fun e w' ⟨h6, h7⟩ => ⟨h6, Lib.hid (h.on h7.out), Lib.hid (h.kept h7.out)⟩
theorem oneLen (h : OneK w0 w T s G) : Calls Try.prog 12 #[.pointer (some ⟨T, 0, none⟩)] w fun e w' => e = .returned (.int .i64 (s.l.length : Int)) ∧ Hid (OneK w0 w' T s G) ∧ Hid (KeptG G w w') := by
  obtain ⟨O, p, h1, h2, h3, h5⟩ := id h
  exact (keysLen_any T O s w p h3).mono fun e w' ⟨h6, h7⟩ => ⟨h6, Lib.hid (h.on h7.out), Lib.hid (h.kept h7.out)⟩
/-- The blocks of a row of entries that is not empty. -/
def rowK (A : Option Addr) (l : List Ky.T) (k : Nat) : Prop := 0 < l.length ∧ ∃ a, A = some a ∧ k = a.block
theorem Ents.kept {w w' : World} {O G : Nat → Prop} {A : Option Addr} {l : List Ky.T} (h : Ents w O A l) (hk : KeptG G w w') (hs : ∀ k, rowK A l k → G k) : Ents w' O A l := by
  intro h0
  obtain ⟨b, off, e, ho, hb, hc⟩ := h h0
  have hblk := hk.2 b (hs b ⟨h0, _, e, rfl⟩)
  have hcell : ∀ o, w'.cell? ⟨b, o, none⟩ = w.cell? ⟨b, o, none⟩ := fun o => World.cell?_of_block (w := w) hblk
  exact ⟨b, off, e, ho, Nat.lt_of_lt_of_le hb hk.1, fun i hi => ⟨(hcell _).trans (hc i hi).1, (hcell _).trans (hc i hi).2.1, (hcell _).trans (hc i hi).2.2⟩⟩
theorem Ents.on {w w' : World} {O : Nat → Prop} {A : Option Addr} {l : List Ky.T} (h : Ents w O A l) (hb : Below w.heap.size w w') : Ents w' O A l := h.keep hb.size fun b _ hlt => hb.block b hlt
/-- The entries that come stand beside it from then on. -/
theorem oneAll (h : OneK w0 w T s G) : Calls Try.prog 11 #[.pointer (some ⟨T, 0, none⟩)] w fun e w' => ∃ A c, e = .returned (.slice A s.l.length c) ∧ Hid (OneK w0 w' T s (fun k => G k ∨ rowK A s.l k)) ∧ Hid (KeptG G w w') ∧ Hid (Ents w' (fun b => w.heap.size ≤ b) A s.l) := by
  obtain ⟨O, p, h1, h2, h3, h5⟩ := id h
  refine (keysAll_any T O s w p h3).mono ?_
  rintro e w' ⟨A, c, rfl, h7, h8⟩
  refine ⟨A, c, rfl, Lib.hid (h.join h7.out fun k hk => ?_), Lib.hid (h.kept h7.out), h8⟩
  rcases hk with hk | ⟨hl, a, ha, rfl⟩
  · exact .inl hk
  · obtain ⟨b, off, e, ho, hb, _⟩ := h8.out hl
    rw [ha] at e
    injection e with e
    subst e
    exact .inr ⟨ho, hb⟩
end
/-! ### With the answers written out -/
section
variable {w0 w : World} {T : Nat} {s : Ky.S} {G : Nat → Prop}
theorem kyPut (h : OneK w0 w T s G) (n k : ByteArray) (id : Int) (hx : Ky.ok n k id) {v : Int} {b : Bool} {s' : Ky.S} (hv : Ky.putV s n k id = v) (hb : Ky.putB s n k = b) (hs : Ky.putS s n k id = s') :
    Calls Try.prog 9 #[.pointer (some ⟨T, 0, none⟩), .agg #[.string n, .string k], .int .i64 id] w fun e w' => e = .returned (.tuple #[.int .i64 v, .bool b]) ∧ Hid (OneK w0 w' T s' G) ∧ Hid (KeptG G w w') := by
  subst hv hb hs
  exact onePut h n k id hx
theorem kyGet (h : OneK w0 w T s G) (n k : ByteArray) (hx : Ky.okk n k) {v : Int} {b : Bool} (hv : Ky.getV s n k = v) (hb : Ky.getB s n k = b) :
    Calls Try.prog 10 #[.pointer (some ⟨T, 0, none⟩), .agg #[.string n, .string k]] w fun e w' => e = .returned (.tuple #[.int .i64 v, .bool b]) ∧ Hid (OneK w0 w' T s G) ∧ Hid (KeptG G w w') := by
  subst hv hb
  exact oneGet h n k hx
theorem kyLen (h : OneK w0 w T s G) {m : Int} (hm : (s.l.length : Int) = m) : Calls Try.prog 12 #[.pointer (some ⟨T, 0, none⟩)] w fun e w' => e = .returned (.int .i64 m) ∧ Hid (OneK w0 w' T s G) ∧ Hid (KeptG G w w') := by
  subst hm
  exact oneLen h
end
set_option maxRecDepth 20000 in
set_option maxHeartbeats 4000000 in
theorem awake_any (w : World) : Calls Try.prog 7 #[] w (BoolP w true) := by
  have NW := Lib.hid (oneNew 3 w)
  go_enter Try.func7, Try.ntmps7
  go_wp2_with fail
  (with_reducible refine NW.out.mono ?_); rintro e w1 ⟨T, rfl, O1, -⟩
  go_wp2_with fail
  (with_reducible refine (kyPut O1.out ⟨#[97]⟩ ⟨#[49]⟩ 7 (Ky.okd (by kernel_rfl)) (v := 7) (b := true) (s' := ⟨3, [⟨⟨#[97]⟩, ⟨#[49]⟩, 7⟩]⟩) (by kernel_rfl) (by kernel_rfl) (by kernel_rfl)).mono ?_); rintro e w2 ⟨rfl, O2, -⟩
  go_wp2_with fail
  (with_reducible refine (kyPut O2.out ⟨#[97]⟩ ⟨#[49]⟩ 8 (Ky.okd (by kernel_rfl)) (v := 7) (b := false) (s' := ⟨3, [⟨⟨#[97]⟩, ⟨#[49]⟩, 7⟩]⟩) (by kernel_rfl) (by kernel_rfl) (by kernel_rfl)).mono ?_); rintro e w3 ⟨rfl, O3, -⟩
  go_wp2_with fail
  (with_reducible refine (kyLen O3.out (m := 1) (by kernel_rfl)).mono ?_); rintro e w4 ⟨rfl, O4, -⟩
  go_wp2
  go_ret
  exact ⟨rfl, Lib.hid O4.out.below⟩
end Go.Proofs.Yteppokokabgniaa
