/-
  One wheel of the program's, made since w0, in a state that keeps the order; beside it blocks G that are none of its own.
-/
import Derived.Test.YtaieoneilljagaaWhProg
import Derived.Deep.RegionHeld
namespace Go.Proofs.Ytaieoneilljagaa
open Go.RowKit
/-- The blocks of a row of timers that is not empty. -/
def rowG (A : Option Addr) (l : List Wh.T) (k : Nat) : Prop := 0 < l.length ∧ ∃ a, A = some a ∧ k = a.block
/-- The blocks G are as they were. -/
def KeptG (G : Nat → Prop) (w w' : World) : Prop := w.heap.size ≤ w'.heap.size ∧ ∀ k, G k → w'.heap[k]? = w.heap[k]?
theorem KeptG.trans {G : Nat → Prop} {a b c : World} (h : KeptG G a b) (k : KeptG G b c) : KeptG G a c := ⟨Nat.le_trans h.1 k.1, fun i hi => (k.2 i hi).trans (h.2 i hi)⟩
theorem KeptG.fewer {G G' : Nat → Prop} {w w' : World} (h : KeptG G w w') (hs : ∀ k, G' k → G k) : KeptG G' w w' := ⟨h.1, fun k hk => h.2 k (hs k hk)⟩
theorem Dues.kept {w w' : World} {O G : Nat → Prop} {A : Option Addr} {l : List Wh.T} (h : Dues w O A l) (hk : KeptG G w w') (hs : ∀ k, rowG A l k → G k) : Dues w' O A l := by
  rcases Nat.eq_zero_or_pos l.length with h0 | h0
  · rw [List.eq_nil_of_length_eq_zero h0]; exact Dues.nil_
  · exact h.keep hk.1 fun b _ _ ⟨off, e⟩ => hk.2 b (hs b ⟨h0, _, e, rfl⟩)
/-- The wheel at T, of blocks made since w0, is in state s of at most m timers; G are blocks beside it. -/
def OneW (w0 w : World) (T : Nat) (s : Wh.S) (m : Nat) (G : Nat → Prop) : Prop := ∃ O, PW w T O s ∧ (∀ k, O k → w0.heap.size ≤ k) ∧ Below w0.heap.size w0 w ∧ Wh.Inv s ∧ s.l.length ≤ m ∧ ∀ k, G k → ¬ O k ∧ k < w.heap.size
def noG (_ : Nat) : Prop := False
section
variable {w0 w w' : World} {T : Nat} {s s' : Wh.S} {m m' : Nat} {G G' : Nat → Prop}
theorem OneW.below (h : OneW w0 w T s m G) : Below w0.heap.size w0 w := by obtain ⟨_, _, _, h, _⟩ := h; exact h
theorem OneW.inv (h : OneW w0 w T s m G) : Wh.Inv s := by obtain ⟨_, _, _, _, h, _⟩ := h; exact h
theorem OneW.len (h : OneW w0 w T s m G) : s.l.length ≤ m := by obtain ⟨_, _, _, _, _, h, _⟩ := h; exact h
theorem OneW.on (h : OneW w0 w T s m G) (hb : Below w.heap.size w w') : OneW w0 w' T s m G := by
  obtain ⟨O, p, h1, h2, h3, h4, h5⟩ := h
  exact ⟨O, p.keep hb.size fun i hi => hb.block i (p.lt i hi), h1, h2.trans (hb.mono h2.size), h3, h4, fun k hk => ⟨(h5 k hk).1, Nat.lt_of_lt_of_le (h5 k hk).2 hb.size⟩⟩
theorem OneW.kept (h : OneW w0 w T s m G) (hb : Below w.heap.size w w') : KeptG G w w' := by
  obtain ⟨O, p, h1, h2, h3, h4, h5⟩ := h
  exact ⟨hb.size, fun k hk => hb.block k (h5 k hk).2⟩
theorem OneW.more (h : OneW w0 w T s m G) (hm : m ≤ m') : OneW w0 w T s m' G := by
  obtain ⟨O, p, h1, h2, h3, h4, h5⟩ := h
  exact ⟨O, p, h1, h2, h3, Nat.le_trans h4 hm, h5⟩
theorem OneW.fewer (h : OneW w0 w T s m G) (hs : ∀ k, G' k → G k) : OneW w0 w T s m G' := by
  obtain ⟨O, p, h1, h2, h3, h4, h5⟩ := h
  exact ⟨O, p, h1, h2, h3, h4, fun k hk => h5 k (hs k hk)⟩
/-- Blocks made since stand beside it. -/
theorem OneW.join (h : OneW w0 w T s m G) (hb : Below w.heap.size w w') (hs : ∀ k, G' k → G k ∨ (w.heap.size ≤ k ∧ k < w'.heap.size)) : OneW w0 w' T s m G' := by
  obtain ⟨O, p, h1, h2, h3, h4, h5⟩ := h
  refine ⟨O, p.keep hb.size fun i hi => hb.block i (p.lt i hi), h1, h2.trans (hb.mono h2.size), h3, h4, fun k hk => ?_⟩
  rcases hs k hk with h | h
  · exact ⟨(h5 k h).1, Nat.lt_of_lt_of_le (h5 k h).2 hb.size⟩
  · exact ⟨fun ho => by have := p.lt k ho; omega, h.2⟩
/-- Another object, of blocks Q among G, has changed. -/
theorem OneW.other {Q : Nat → Prop} (h : OneW w0 w T s m G) (hQ : ∀ k, Q k → G k ∧ w0.heap.size ≤ k) (ho : Only Q w w') (hs : ∀ k, G' k → G k ∨ (w.heap.size ≤ k ∧ k < w'.heap.size)) : OneW w0 w' T s m G' := by
  obtain ⟨O, p, h1, h2, h3, h4, h5⟩ := h
  refine ⟨O, p.keep ho.size fun i hi => ho.block i (p.lt i hi) fun hq => (h5 i (hQ i hq).1).1 hi, h1, h2.trans (ho.below h2.size fun k hk => (hQ k hk).2), h3, h4, fun k hk => ?_⟩
  rcases hs k hk with h | h
  · exact ⟨(h5 k h).1, Nat.lt_of_lt_of_le (h5 k h).2 ho.size⟩
  · exact ⟨fun hO => by have := p.lt k hO; omega, h.2⟩
/-- From an earlier world on. -/
theorem OneW.from {w1 : World} (h : OneW w1 w T s m G) (hb : Below w0.heap.size w0 w1) : OneW w0 w T s m G := by
  obtain ⟨O, p, h1, h2, h3⟩ := h
  exact ⟨O, p, fun k hk => Nat.le_trans hb.size (h1 k hk), hb.trans (h2.mono hb.size), h3⟩
theorem Wh.set_len (s : Wh.S) (run task at_ : Int) : (Wh.setS s run task at_).l.length ≤ s.l.length + 1 := by
  unfold Wh.setS
  split
  · omega
  · show (Wh.ins _ _).length ≤ _
    rw [Wh.ins_len]
    have := Wh.del_len run task s.l
    omega
theorem Wh.to_le (s : Wh.S) (now : Int) : (Wh.toS s now).l.length ≤ s.l.length := by
  unfold Wh.toS
  split
  · exact Nat.le_refl _
  · exact (List.dropWhile_sublist _).length_le
theorem oneNew (w : World) : Calls Try.prog 7 #[] w fun e w' => ∃ T, e = .returned (.pointer (some ⟨T, 0, none⟩)) ∧ Hid (OneW w w' T Wh.s0 0 noG) ∧ Hid (Below w.heap.size w w') ∧ T < w'.heap.size :=
  (wheelNew_any w).mono fun e w' ⟨g, O, h1, h2, h3, h4⟩ => ⟨g, h1, Lib.hid ⟨O, h2, h3, h4, Wh.s0_inv, Nat.le_refl _, fun k hk => hk.elim⟩, Lib.hid h4, h2.lt _ h2.own⟩
/-- Beside it: blocks of before. -/
theorem OneW.beside (h : OneW w0 w T s m noG) (hG : ∀ k, G k → k < w0.heap.size) : OneW w0 w T s m G := by
  obtain ⟨O, p, h1, h2, h3, h4, h5⟩ := h
  exact ⟨O, p, h1, h2, h3, h4, fun k hk => ⟨fun ho => by have := h1 k ho; have := hG k hk; omega, Nat.lt_of_lt_of_le (hG k hk) h2.size⟩⟩
theorem one_step {O O2 : Nat → Prop} (p : PW w T O s) (h1 : ∀ k, O k → w0.heap.size ≤ k) (h2 : Below w0.heap.size w0 w) (h5 : ∀ k, G k → ¬ O k ∧ k < w.heap.size) (p2 : PW w' T O2 s') (st : Step O O2 w w') (hI : Wh.Inv s') (hm : s'.l.length ≤ m') : OneW w0 w' T s' m' G ∧ KeptG G w w' := by
  refine ⟨⟨O2, p2, fun k hk => ?_, h2.trans (st.only.below h2.size h1), hI, hm, fun k hk => ⟨fun ho => ?_, Nat.lt_of_lt_of_le (h5 k hk).2 st.only.size⟩⟩, st.only.size, fun k hk => st.only.block k (h5 k hk).2 (h5 k hk).1⟩
  · rcases st.sub k hk with h | h
    · exact h1 k h
    · exact Nat.le_trans h2.size h
  · rcases st.sub k ho with h | h
    · exact (h5 k hk).1 h
    · have := (h5 k hk).2; omega
theorem oneSet (h : OneW w0 w T s m G) (hm : m ≤ 999999) (run task at_ : Int) (hx : Wh.T.ok ⟨run, task, at_⟩) :
    Calls Try.prog 8 #[.pointer (some ⟨T, 0, none⟩), .agg #[.int .i64 run, .int .i64 task], .int .i64 at_] w fun e w' => e = .returned (.int .i64 (Wh.setE s at_)) ∧ Hid (OneW w0 w' T (Wh.setS s run task at_) (m + 1) G) ∧ Hid (KeptG G w w') := by
  obtain ⟨O, p, h1, h2, h3, h4, h5⟩ := h
  refine (wheelSet_any T O s run task at_ w p h3 hx (by omega)).mono ?_
  rintro e w' ⟨rfl, O2, p2, st⟩
  have := one_step p h1 h2 h5 p2 st (h3.set _ _ _) (m' := m + 1) (Nat.le_trans (Wh.set_len _ _ _ _) (by omega))
  exact ⟨rfl, Lib.hid this.1, Lib.hid this.2⟩
theorem oneDrop (h : OneW w0 w T s m G) (run task : Int) (hr : is64 run) (ht : is64 task) :
    Calls Try.prog 9 #[.pointer (some ⟨T, 0, none⟩), .agg #[.int .i64 run, .int .i64 task]] w fun e w' => e = .returned (.bool (Wh.dropB s run task)) ∧ Hid (OneW w0 w' T (Wh.dropS s run task) m G) ∧ Hid (KeptG G w w') := by
  obtain ⟨O, p, h1, h2, h3, h4, h5⟩ := h
  refine (wheelDrop_any T O s run task w p h3 hr ht).mono ?_
  rintro e w' ⟨rfl, O2, p2, st⟩
  have := one_step p h1 h2 h5 p2 st (h3.drop _ _) (m' := m) (Nat.le_trans (Wh.del_len _ _ _) h4)
  exact ⟨rfl, Lib.hid this.1, Lib.hid this.2⟩
/-- The timers that come stand beside it from then on. -/
theorem oneTo (h : OneW w0 w T s m G) (hm : m ≤ 999999) (now : Int) (hn : is64 now) :
    Calls Try.prog 12 #[.pointer (some ⟨T, 0, none⟩), .int .i64 now] w fun e w' => ∃ A c, e = .returned (.tuple #[.slice A (Wh.toL s now).length c, .int .i64 (Wh.toE s now)]) ∧ Hid (OneW w0 w' T (Wh.toS s now) m (fun k => G k ∨ rowG A (Wh.toL s now) k)) ∧ Hid (KeptG G w w') ∧ Hid (Dues w' (fun b => w.heap.size ≤ b) A (Wh.toL s now)) := by
  obtain ⟨O, p, h1, h2, h3, h4, h5⟩ := h
  refine (wheelTo_any T O s now w p h3 hn (by omega)).mono ?_
  rintro e w' ⟨A, c, rfl, O2, p2, st, hd⟩
  have := one_step p h1 h2 h5 p2 st (h3.to now) (m' := m) (Nat.le_trans (Wh.to_le _ _) h4)
  refine ⟨A, c, rfl, Lib.hid ?_, Lib.hid this.2, Lib.hid ⟨hd.1, fun hl => ?_⟩⟩
  · refine ⟨O2, p2, fun k hk => ?_, h2.trans (st.only.below h2.size h1), h3.to now, Nat.le_trans (Wh.to_le _ _) h4, fun k hk => ?_⟩
    · rcases st.sub k hk with h | h
      · exact h1 k h
      · exact Nat.le_trans h2.size h
    · rcases hk with hk | ⟨hl, a, ha, rfl⟩
      · refine ⟨fun ho => ?_, Nat.lt_of_lt_of_le (h5 k hk).2 st.only.size⟩
        rcases st.sub k ho with h | h
        · exact (h5 k hk).1 h
        · have := (h5 k hk).2; omega
      · obtain ⟨b, off, e, ho, hb, _⟩ := hd.2 hl
        rw [ha] at e
        injection e with e
        subst e
        exact ⟨ho.2, hb⟩
  · obtain ⟨b, off, e, ho, r⟩ := hd.2 hl
    exact ⟨b, off, e, ho.1, r⟩
theorem oneAt (h : OneW w0 w T s m G) (run task : Int) (hr : is64 run) (ht : is64 task) :
    Calls Try.prog 11 #[.pointer (some ⟨T, 0, none⟩), .agg #[.int .i64 run, .int .i64 task]] w fun e w' => e = .returned (.tuple #[.int .i64 ((Wh.atV s run task).getD 0), .bool (Wh.atV s run task).isSome]) ∧ Hid (Below w.heap.size w w') := by
  obtain ⟨O, p, h1, h2, h3, h4, h5⟩ := h
  exact wheelAt_any T O s run task w p h3 hr ht
theorem oneNow (h : OneW w0 w T s m G) : Calls Try.prog 20 #[.pointer (some ⟨T, 0, none⟩)] w fun e w' => e = .returned (.int .i64 s.now) ∧ Hid (Below w.heap.size w w') := by
  obtain ⟨O, p, h1, h2, h3, h4, h5⟩ := h
  exact wheelNow_any T O s w p h3
theorem oneLen (h : OneW w0 w T s m G) : Calls Try.prog 13 #[.pointer (some ⟨T, 0, none⟩)] w fun e w' => e = .returned (.int .i64 (s.l.length : Int)) ∧ Hid (Below w.heap.size w w') := by
  obtain ⟨O, p, h1, h2, h3, h4, h5⟩ := h
  exact wheelLen_any T O s w p h3
theorem oneNext (h : OneW w0 w T s m G) (hm : m ≤ 999999) : Calls Try.prog 10 #[.pointer (some ⟨T, 0, none⟩)] w fun e w' => e = .returned (.tuple #[.int .i64 ((Wh.nextV s).getD 0), .bool (Wh.nextV s).isSome]) ∧ Hid (Below w.heap.size w w') := by
  obtain ⟨O, p, h1, h2, h3, h4, h5⟩ := h
  exact wheelNext_any T O s w p h3 (by omega)
end
end Go.Proofs.Ytaieoneilljagaa
