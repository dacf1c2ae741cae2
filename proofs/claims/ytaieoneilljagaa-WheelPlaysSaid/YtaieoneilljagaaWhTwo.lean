/-
  The program's wheel and the reference's beside each other: each call of one leaves the other as it was.
-/
import Derived.Test.YtaieoneilljagaaWhOne
namespace Go.Proofs.Ytaieoneilljagaa
open Go.RowKit
/-- The program's wheel at T in state s, the reference's at R in state r; G are blocks beside both. -/
def TwoW (w0 w : World) (T R : Nat) (s r : Wh.S) (ms mr : Nat) (G : Nat → Prop) : Prop := ∃ Q, RW w R Q r ∧ (∀ k, Q k → w0.heap.size ≤ k) ∧ OneW w0 w T s ms (fun k => Q k ∨ G k) ∧ (∀ k, G k → ¬ Q k) ∧ Wh.Inv r ∧ r.l.length ≤ mr
section
variable {w0 w w' : World} {T R : Nat} {s s' r r' : Wh.S} {ms ms' mr mr' : Nat} {G G' : Nat → Prop}
theorem OneW.gone (h : OneW w0 w T s ms G) (k : Nat) (hk : G k) : k < w.heap.size := by obtain ⟨_, _, _, _, _, _, h⟩ := h; exact (h k hk).2
theorem TwoW.below (h : TwoW w0 w T R s r ms mr G) : Below w0.heap.size w0 w := by obtain ⟨_, _, _, h, _⟩ := h; exact h.below
theorem TwoW.fewer (h : TwoW w0 w T R s r ms mr G) (hs : ∀ k, G' k → G k) : TwoW w0 w T R s r ms mr G' := by
  obtain ⟨Q, q, h1, h2, h3, h4⟩ := h
  exact ⟨Q, q, h1, h2.fewer fun k hk => hk.elim .inl fun h => .inr (hs k h), fun k hk => h3 k (hs k hk), h4⟩
theorem TwoW.more (h : TwoW w0 w T R s r ms mr G) (h1 : ms ≤ ms') (h2 : mr ≤ mr') : TwoW w0 w T R s r ms' mr' G := by
  obtain ⟨Q, q, h3, h4, h5, h6, h7⟩ := h
  exact ⟨Q, q, h3, h4.more h1, h5, h6, Nat.le_trans h7 h2⟩
theorem TwoW.join (h : TwoW w0 w T R s r ms mr G) (hb : Below w.heap.size w w') (hs : ∀ k, G' k → G k ∨ (w.heap.size ≤ k ∧ k < w'.heap.size)) : TwoW w0 w' T R s r ms mr G' := by
  obtain ⟨Q, q, h1, h2, h3, h4⟩ := h
  refine ⟨Q, q.on hb, h1, h2.join hb fun k hk => ?_, fun k hk hq => ?_, h4⟩
  · rcases hk with hk | hk
    · exact .inl (.inl hk)
    · exact (hs k hk).elim (fun h => .inl (.inr h)) .inr
  · rcases hs k hk with h | h
    · exact h3 k h hq
    · have := q.lt k hq; omega
theorem TwoW.on (h : TwoW w0 w T R s r ms mr G) (hb : Below w.heap.size w w') : TwoW w0 w' T R s r ms mr G := h.join hb fun _ h => .inl h
theorem TwoW.kept (h : TwoW w0 w T R s r ms mr G) (hb : Below w.heap.size w w') : KeptG G w w' := by
  obtain ⟨Q, q, h1, h2, h3, h4⟩ := h
  exact (h2.kept hb).fewer fun k hk => .inr hk
/-- A call of the program's wheel. -/
theorem TwoW.prog (h : TwoW w0 w T R s r ms mr G) {f : FuncId} {args : Array Value} {E : Ending → Prop}
    (hc : ∀ G1 : Nat → Prop, OneW w0 w T s ms G1 → Calls Try.prog f args w fun e w' => E e ∧ Hid (OneW w0 w' T s' ms' G1) ∧ Hid (KeptG G1 w w')) :
    Calls Try.prog f args w fun e w' => E e ∧ Hid (TwoW w0 w' T R s' r ms' mr G) ∧ Hid (KeptG G w w') := by
  obtain ⟨Q, q, h1, h2, h3, h4⟩ := h
  refine (hc _ h2).mono ?_
  rintro e w' ⟨he, o, k⟩
  exact ⟨he, Lib.hid ⟨Q, q.keep k.out.1 fun i hi => k.out.2 i (.inl hi), h1, o.out, h3, h4⟩, Lib.hid (k.out.fewer fun i hi => .inr hi)⟩
/-- A call of the reference's wheel. -/
theorem TwoW.ref (h : TwoW w0 w T R s r ms mr G) {f : FuncId} {args : Array Value} {E : Ending → World → Prop} (hI : Wh.Inv r') (hm : r'.l.length ≤ mr')
    (hc : ∀ Q, RW w R Q r → (∀ k, Q k → w0.heap.size ≤ k) → Wh.Inv r → r.l.length ≤ mr → Calls Try.prog f args w fun e w' => E e w' ∧ ∃ Q2, RW w' R Q2 r' ∧ Step Q Q2 w w') :
    Calls Try.prog f args w fun e w' => E e w' ∧ Hid (TwoW w0 w' T R s r' ms mr' G) ∧ Hid (KeptG G w w') := by
  obtain ⟨Q, q, h1, h2, h3, h4, h5⟩ := h
  refine (hc Q q h1 h4 h5).mono ?_
  rintro e w' ⟨he, Q2, q2, st⟩
  refine ⟨he, Lib.hid ⟨Q2, q2, fun k hk => ?_, h2.other (Q := Q) (fun k hk => ⟨.inl hk, h1 k hk⟩) st.only (fun k hk => ?_), fun k hk hq => ?_, hI, hm⟩, Lib.hid ⟨st.only.size, fun k hk => st.only.block k (h2.gone k (.inr hk)) (h3 k hk)⟩⟩
  · rcases st.sub k hk with h | h
    · exact h1 k h
    · exact Nat.le_trans h2.below.size h
  · rcases hk with hk | hk
    · rcases st.sub k hk with h | h
      · exact .inl (.inl h)
      · exact .inr ⟨h, q2.lt k hk⟩
    · exact .inl (.inr hk)
  · rcases st.sub k hq with h | h
    · exact h3 k hk h
    · have := h2.gone k (.inr hk); omega
theorem twoSet_p (h : TwoW w0 w T R s r ms mr G) (hm : ms ≤ 999999) (run task at_ : Int) (hx : Wh.T.ok ⟨run, task, at_⟩) :
    Calls Try.prog 8 #[.pointer (some ⟨T, 0, none⟩), .agg #[.int .i64 run, .int .i64 task], .int .i64 at_] w fun e w' => e = .returned (.int .i64 (Wh.setE s at_)) ∧ Hid (TwoW w0 w' T R (Wh.setS s run task at_) r (ms + 1) mr G) ∧ Hid (KeptG G w w') :=
  h.prog fun _ o => oneSet o hm run task at_ hx
theorem twoSet_r (h : TwoW w0 w T R s r ms mr G) (hI : Wh.Inv r) (hm : mr ≤ 999999) (hl : r.l.length ≤ mr) (run task at_ : Int) (hx : Wh.T.ok ⟨run, task, at_⟩) :
    Calls Try.prog 15 #[.pointer (some ⟨R, 0, none⟩), .int .i64 run, .int .i64 task, .int .i64 at_] w fun e w' => e = .returned (.int .i64 (Wh.setE r at_)) ∧ Hid (TwoW w0 w' T R s (Wh.setS r run task at_) ms (mr + 1) G) ∧ Hid (KeptG G w w') :=
  h.ref (E := fun e _ => e = .returned (.int .i64 (Wh.setE r at_))) (hI.set _ _ _) (Nat.le_trans (Wh.set_len _ _ _ _) (by omega)) fun Q q _ hI hl => (refSet_any R Q r run task at_ w q hI hx (by omega)).mono fun _ _ ⟨h1, O2, h2, h3, _⟩ => ⟨h1, O2, h2, h3⟩
theorem twoDrop_p (h : TwoW w0 w T R s r ms mr G) (run task : Int) (hr : is64 run) (ht : is64 task) :
    Calls Try.prog 9 #[.pointer (some ⟨T, 0, none⟩), .agg #[.int .i64 run, .int .i64 task]] w fun e w' => e = .returned (.bool (Wh.dropB s run task)) ∧ Hid (TwoW w0 w' T R (Wh.dropS s run task) r ms mr G) ∧ Hid (KeptG G w w') :=
  h.prog fun _ o => oneDrop o run task hr ht
theorem twoDrop_r (h : TwoW w0 w T R s r ms mr G) (hI : Wh.Inv r) (hl : r.l.length ≤ mr) (run task : Int) :
    Calls Try.prog 16 #[.pointer (some ⟨R, 0, none⟩), .int .i64 run, .int .i64 task] w fun e w' => e = .returned (.bool (Wh.dropB r run task)) ∧ Hid (TwoW w0 w' T R s (Wh.dropS r run task) ms mr G) ∧ Hid (KeptG G w w') :=
  h.ref (E := fun e _ => e = .returned (.bool (Wh.dropB r run task))) (hI.drop _ _) (Nat.le_trans (Wh.del_len _ _ _) hl) fun Q q _ hI _ => (refDrop_any R Q r run task w q hI).mono fun _ _ ⟨h1, O2, h2, h3, _⟩ => ⟨h1, O2, h2, h3⟩
theorem twoTo_p (h : TwoW w0 w T R s r ms mr G) (hm : ms ≤ 999999) (now : Int) (hn : is64 now) :
    Calls Try.prog 12 #[.pointer (some ⟨T, 0, none⟩), .int .i64 now] w fun e w' => ∃ A c, e = .returned (.tuple #[.slice A (Wh.toL s now).length c, .int .i64 (Wh.toE s now)]) ∧ Hid (TwoW w0 w' T R (Wh.toS s now) r ms mr (fun k => G k ∨ rowG A (Wh.toL s now) k)) ∧ Hid (KeptG G w w') ∧ Hid (Dues w' (fun b => w.heap.size ≤ b) A (Wh.toL s now)) := by
  obtain ⟨Q, q, h1, h2, h3, h4⟩ := h
  refine (oneTo h2 hm now hn).mono ?_
  rintro e w' ⟨A, c, rfl, o, k, d⟩
  refine ⟨A, c, rfl, Lib.hid ⟨Q, q.keep k.out.1 fun i hi => k.out.2 i (.inl hi), h1, o.out.fewer fun k hk => ?_, fun k hk hq => ?_, h4⟩, Lib.hid (k.out.fewer fun i hi => .inr hi), d⟩
  · rcases hk with hk | hk | hk
    · exact .inl (.inl hk)
    · exact .inl (.inr hk)
    · exact .inr hk
  · rcases hk with hk | ⟨hl, a, ha, rfl⟩
    · exact h3 k hk hq
    · obtain ⟨b, off, e, ho, _⟩ := d.out.2 hl
      rw [ha] at e
      injection e with e
      subst e
      have hq' : b < w.heap.size := q.lt b hq
      have ho : w.heap.size ≤ b := ho
      omega
theorem twoTo_r (h : TwoW w0 w T R s r ms mr G) (hI : Wh.Inv r) (hl : r.l.length ≤ mr) (now : Int) :
    Calls Try.prog 17 #[.pointer (some ⟨R, 0, none⟩), .int .i64 now] w fun e w' => (∃ A c, e = .returned (.tuple #[.slice A (Wh.toL r now).length c, .int .i64 (Wh.toE r now)]) ∧ Hid (Dues w' (fun b => w.heap.size ≤ b) A (Wh.toL r now))) ∧ Hid (TwoW w0 w' T R s (Wh.toS r now) ms mr G) ∧ Hid (KeptG G w w') :=
  h.ref (E := fun e w' => ∃ A c, e = .returned (.tuple #[.slice A (Wh.toL r now).length c, .int .i64 (Wh.toE r now)]) ∧ Hid (Dues w' (fun b => w.heap.size ≤ b) A (Wh.toL r now))) (hI.to _) (Nat.le_trans (Wh.to_le _ _) hl) fun Q q _ hI _ => (refTo_any R Q r now w q hI).mono fun _ _ ⟨v, h1, ⟨A, c, h2, h3⟩, h4, h5⟩ => ⟨⟨A, c, by rw [h1, h2], Lib.hid h3⟩, Q, h4, h5⟩
theorem twoAt_p (h : TwoW w0 w T R s r ms mr G) (run task : Int) (hr : is64 run) (ht : is64 task) :
    Calls Try.prog 11 #[.pointer (some ⟨T, 0, none⟩), .agg #[.int .i64 run, .int .i64 task]] w fun e w' => e = .returned (.tuple #[.int .i64 ((Wh.atV s run task).getD 0), .bool (Wh.atV s run task).isSome]) ∧ Hid (Below w.heap.size w w') := by
  obtain ⟨Q, q, h1, h2, h3, h4⟩ := h
  exact oneAt h2 run task hr ht
theorem twoAt_r (h : TwoW w0 w T R s r ms mr G) (run task : Int) :
    Calls Try.prog 18 #[.pointer (some ⟨R, 0, none⟩), .int .i64 run, .int .i64 task] w fun e w' => e = .returned (.tuple #[.int .i64 ((Wh.atV r run task).getD 0), .bool (Wh.atV r run task).isSome]) ∧ w = w' := by
  obtain ⟨Q, q, h1, h2, h3, h4⟩ := h
  exact refAt_any R Q r run task w q
theorem twoNext_p (h : TwoW w0 w T R s r ms mr G) (hm : ms ≤ 999999) : Calls Try.prog 10 #[.pointer (some ⟨T, 0, none⟩)] w fun e w' => e = .returned (.tuple #[.int .i64 ((Wh.nextV s).getD 0), .bool (Wh.nextV s).isSome]) ∧ Hid (Below w.heap.size w w') := by
  obtain ⟨Q, q, h1, h2, h3, h4⟩ := h
  exact oneNext h2 hm
theorem twoNext_r (h : TwoW w0 w T R s r ms mr G) : Calls Try.prog 19 #[.pointer (some ⟨R, 0, none⟩)] w fun e w' => e = .returned (.tuple #[.int .i64 ((Wh.nextV r).getD 0), .bool (Wh.nextV r).isSome]) ∧ w = w' := by
  obtain ⟨Q, q, h1, h2, h3, h4⟩ := h
  exact refNext_any R Q r w q
theorem twoNow_p (h : TwoW w0 w T R s r ms mr G) : Calls Try.prog 20 #[.pointer (some ⟨T, 0, none⟩)] w fun e w' => e = .returned (.int .i64 s.now) ∧ Hid (Below w.heap.size w w') := by
  obtain ⟨Q, q, h1, h2, h3, h4⟩ := h
  exact oneNow h2
theorem twoLen_p (h : TwoW w0 w T R s r ms mr G) : Calls Try.prog 13 #[.pointer (some ⟨T, 0, none⟩)] w fun e w' => e = .returned (.int .i64 (s.l.length : Int)) ∧ Hid (Below w.heap.size w w') := by
  obtain ⟨Q, q, h1, h2, h3, h4⟩ := h
  exact oneLen h2
theorem twoLen_r (h : TwoW w0 w T R s r ms mr G) : Calls Try.prog 21 #[.pointer (some ⟨R, 0, none⟩)] w fun e w' => e = .returned (.int .i64 (r.l.length : Int)) ∧ w = w' := by
  obtain ⟨Q, q, h1, h2, h3, h4⟩ := h
  exact refLen_any R Q r w q
/-- The reference's tick, read. -/
theorem TwoW.now (h : TwoW w0 w T R s r ms mr G) : w.cell? ⟨R, 0, none⟩ = some (.int .i64 r.now) := by
  obtain ⟨Q, q, h1, h2, h3, h4⟩ := h
  obtain ⟨A, cap, e, _⟩ := q.obj
  exact (obW e).1.1
theorem TwoW.inv (h : TwoW w0 w T R s r ms mr G) : Wh.Inv r := by obtain ⟨_, _, _, _, _, h, _⟩ := h; exact h
theorem TwoW.lenr (h : TwoW w0 w T R s r ms mr G) : r.l.length ≤ mr := by obtain ⟨_, _, _, _, _, _, h⟩ := h; exact h
end
/-- The reference's new wheel beside the program's. -/
theorem two_start {w0 w w' : World} {T : Nat} (h : OneW w0 w T Wh.s0 0 noG) {R : Nat} (hb : Below w.heap.size w w') (hR : w.heap.size ≤ R) (ho : w'.heap[R]? = some (.cells #[.int .i64 0, .slice none 0 0] 44 (0, 0))) : TwoW w0 w' T R Wh.s0 Wh.s0 0 0 noG := by
  have hlt := lt_of_block ho
  refine ⟨fun k => k = R, ⟨⟨none, 0, ho, Nat.le_refl _, Dues.nil_⟩, rfl, fun i hi => by subst hi; exact hlt, ⟨by decide, by decide⟩, by decide⟩, fun k hk => by subst hk; exact Nat.le_trans h.below.size hR, h.join hb fun k hk => ?_, fun k hk => hk.elim, Wh.s0_inv, Nat.le_refl _⟩
  rcases hk with rfl | hk
  · exact .inr ⟨hR, hlt⟩
  · exact hk.elim
end Go.Proofs.Ytaieoneilljagaa
