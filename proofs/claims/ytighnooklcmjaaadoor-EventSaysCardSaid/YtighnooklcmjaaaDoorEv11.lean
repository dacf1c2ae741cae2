/-
  Part 11 of the texts behind the law: EvBox, EvGood, EvPutRef, EvGetP, EvReadV.
-/
import Derived.Test.YtighnooklcmjaaaDoorEv4
import Derived.Deep.QuietTactic
import Derived.BigQuiet
import Derived.Deep.Cut
import Derived.Test.YtighnooklcmjaaaDoorEv10
import Derived.IntWalk
/-
  Events in memory: their boxes.
-/
namespace Go.Proofs.YtighnooklcmjaaaDoor
open Go.RowKit
theorem Ev.most_ge (k : Int) : 0 ≤ Ev.most k := by
  unfold Ev.most
  repeat' split
  all_goals omega
/-- An event's cells. -/
def evc (e : Ev.E) : Array Value := #[.int .i64 e.kind, .int .i64 e.run, .int .i64 e.task, .int .i64 e.try_, .int .i64 e.n, .string e.name, .string e.key, .string e.data]
structure EvIn (e : Ev.E) : Prop where
  kind : is64 e.kind
  run : is64 e.run
  task : is64 e.task
  try_ : is64 e.try_
  n : is64 e.n
  name : e.name.size ≤ 9223372036854775807
  key : e.key.size ≤ 9223372036854775807
  data : e.data.size ≤ 9223372036854775807
/-- The box of an event that a call has made, and the world besides. -/
structure Bx (w : World) (T : TypeId) (e : Ev.E) (wr : World) : Prop where
  b : Below w.heap.size w wr
  x : wr.heap[w.heap.size]? = some (.cells (evc e) T (0, 0))
theorem Bx.more {w : World} {T : TypeId} {e : Ev.E} {wr w' : World} (h : Bx w T e wr) (hb : Below wr.heap.size wr w') : Bx w T e w' :=
  ⟨h.b.trans (hb.mono h.b.size), (hb.block _ (lt_of_block h.x)).trans h.x⟩
theorem Bx.start (w : World) (T : TypeId) (e : Ev.E) : Bx w T e (w.alloc (.cells (evc e) T (0, 0))) :=
  ⟨(Below.refl _ w).alloc (Nat.le_refl _) _, by unfold World.alloc; simp⟩
theorem Bx.drew {w : World} {T : TypeId} {e : Ev.E} {wr : World} (h : Bx w T e wr) : Bx w T e wr.drew := ⟨h.b.drew, h.x⟩
/-- A world in which that box stands. (A structure of its own: the walk's simp wants 'exists p, W = p.W'.) -/
structure InBx (w : World) (T : TypeId) (e : Ev.E) where
  W : World
  h : Bx w T e W
instance (w : World) (T : TypeId) (e : Ev.E) : Inhabited (InBx w T e) := ⟨⟨_, Bx.start w T e⟩⟩
theorem wp_region_quiet_bx {P : Program} {id : Nat} {Q : Exit → Act → World → Prop} {a : Act} {wr : World} {l l2 : List Oper} {w : World} {T : TypeId} {e : Ev.E} (hX : Bx w T e wr) (hm : P.follows .mixedOrders = true) (hl : l = l2) (hB : Region.lexB .any l2.toArray = true)
    (h : wpQuiet P l2.toArray (fun w' => ∃ p : InBx w T e, w' = p.W) (fun a' => ∀ w', (∃ p : InBx w T e, w' = p.W) → Q .normal a' w') l2 a) : (Code.region id l.toArray true).wp P Q a wr := by
  subst hl
  exact wp_region_quiet (C := fun w' => ∃ p : InBx w T e, w' = p.W) hm hB ⟨⟨_, hX.drew⟩, rfl⟩ (by simpa using h)
theorem bx_call {P : Program} {f : FuncId} {args : Array Value} {w : World} {T : TypeId} {e : Ev.E} {v : Value} (h : ∀ W, Calls P f args W fun r w' => r = .returned v ∧ Below W.heap.size W w') (p : InBx w T e) :
    Calls P f args p.W fun r w' => r = .returned v ∧ ∃ q : InBx w T e, w' = q.W := (h p.W).mono fun _ w' ⟨h1, h2⟩ => ⟨h1, ⟨w', p.h.more h2⟩, rfl⟩
theorem bx_same {P : Program} {f : FuncId} {args : Array Value} {w : World} {T : TypeId} {e : Ev.E} {v : Value} (h : ∀ W, Calls P f args W fun r w' => r = .returned v ∧ W = w') (p : InBx w T e) :
    Calls P f args p.W fun r w' => r = .returned v ∧ ∃ q : InBx w T e, w' = q.W := (h p.W).mono fun _ _ ⟨h1, h2⟩ => ⟨h1, p, h2.symm⟩
theorem Bx.c {w : World} {T : TypeId} {e : Ev.E} {wr : World} (h : Bx w T e wr) :
    wr.cell? ⟨w.heap.size, 0, none⟩ = some (.int .i64 e.kind) ∧ wr.cell? ⟨w.heap.size, 1, none⟩ = some (.int .i64 e.run) ∧ wr.cell? ⟨w.heap.size, 2, none⟩ = some (.int .i64 e.task) ∧ wr.cell? ⟨w.heap.size, 3, none⟩ = some (.int .i64 e.try_) ∧
    wr.cell? ⟨w.heap.size, 4, none⟩ = some (.int .i64 e.n) ∧ wr.cell? ⟨w.heap.size, 5, none⟩ = some (.string e.name) ∧ wr.cell? ⟨w.heap.size, 6, none⟩ = some (.string e.key) ∧ wr.cell? ⟨w.heap.size, 7, none⟩ = some (.string e.data) := by
  have hx := h.x
  unfold evc at hx
  refine ⟨?_, ?_, ?_, ?_, ?_, ?_, ?_, ?_⟩ <;> simp [World.cell?, hx]
end Go.Proofs.YtighnooklcmjaaaDoor
/-
  The reference's GoodEvent at every event.
-/
namespace Go.Proofs.YtighnooklcmjaaaDoor
open Go.RowKit
set_option maxRecDepth 100000 in
set_option maxHeartbeats 16000000 in
theorem goodEvent_any (e : Ev.E) (he : EvIn e) (w : World) : Calls Tryd.prog 13 #[.agg (evc e)] w fun r w' => r = .returned (.bool (Ev.good e)) ∧ Below w.heap.size w w' := by
  have X0 := Lib.hid (Bx.start w 33 e)
  have G : Hid (Ev.good e = (decide (1 ≤ e.kind ∧ e.kind ≤ 9) && (Ev.within (Ev.has e.kind 114) e.run 1 64 && (Ev.within (Ev.has e.kind 116) e.task 0 15 && (Ev.within (Ev.has e.kind 121) e.try_ 1 9 && (Ev.within (Ev.has e.kind 110) e.n 1 (Ev.top e.kind) && (Ev.goodName e.kind e.name && (Ev.goodKey e.kind e.key && Ev.goodData e.kind e.data)))))))) := Lib.hid rfl
  have GN : Hid (Ev.goodName e.kind e.name = if Ev.has e.kind 97 = true then Nm.isName e.name.data.toList else decide (e.name.size = 0)) := Lib.hid rfl
  have GK : Hid (Ev.goodKey e.kind e.key = ((Ev.has e.kind 107 && decide (e.key.size ≤ 16)) || decide (e.key.size = 0))) := Lib.hid rfl
  have GD : Hid (Ev.goodData e.kind e.data = ((Ev.has e.kind 100 && decide ((e.data.size : Int) ≤ Ev.most e.kind)) || decide (e.data.size = 0))) := Lib.hid rfl
  have FL := Lib.hid (fields_any e.kind he.kind)
  have NM := Lib.hid (refName_at e.name he.name)
  have H114 : Hid (∀ w, Calls Tryd.prog 34 #[.int .i64 e.kind, .int .u8 114] w fun r w' => r = .returned (.bool (Ev.has e.kind 114)) ∧ Below w.heap.size w w') := Lib.hid (hasField_any e.kind he.kind 114)
  have H116 : Hid (∀ w, Calls Tryd.prog 34 #[.int .i64 e.kind, .int .u8 116] w fun r w' => r = .returned (.bool (Ev.has e.kind 116)) ∧ Below w.heap.size w w') := Lib.hid (hasField_any e.kind he.kind 116)
  have H121 : Hid (∀ w, Calls Tryd.prog 34 #[.int .i64 e.kind, .int .u8 121] w fun r w' => r = .returned (.bool (Ev.has e.kind 121)) ∧ Below w.heap.size w w') := Lib.hid (hasField_any e.kind he.kind 121)
  have H110 : Hid (∀ w, Calls Tryd.prog 34 #[.int .i64 e.kind, .int .u8 110] w fun r w' => r = .returned (.bool (Ev.has e.kind 110)) ∧ Below w.heap.size w w') := Lib.hid (hasField_any e.kind he.kind 110)
  have H97 : Hid (∀ w, Calls Tryd.prog 34 #[.int .i64 e.kind, .int .u8 97] w fun r w' => r = .returned (.bool (Ev.has e.kind 97)) ∧ Below w.heap.size w w') := Lib.hid (hasField_any e.kind he.kind 97)
  have H107 : Hid (∀ w, Calls Tryd.prog 34 #[.int .i64 e.kind, .int .u8 107] w fun r w' => r = .returned (.bool (Ev.has e.kind 107)) ∧ Below w.heap.size w w') := Lib.hid (hasField_any e.kind he.kind 107)
  have H100 : Hid (∀ w, Calls Tryd.prog 34 #[.int .i64 e.kind, .int .u8 100] w fun r w' => r = .returned (.bool (Ev.has e.kind 100)) ∧ Below w.heap.size w w') := Lib.hid (hasField_any e.kind he.kind 100)
  have TP : Hid ((e.kind = 9 → Ev.top e.kind = 1048575) ∧ (e.kind ≠ 9 → Ev.top e.kind = 1099511627776)) := Lib.hid ⟨fun h => by unfold Ev.top; rw [if_pos h], fun h => by unfold Ev.top; rw [if_neg h]⟩
  have sk := he.key
  have sd := he.data
  have ml := Lib.hid (Ev.most_le e.kind)
  have mg := Ev.most_ge e.kind
  have ml2 := ml.out
  obtain ⟨k0, k1⟩ := he.kind
  clear he
  obtain ⟨kd, ru, ta, tr, n, na, ke, da⟩ := e
  simp only at *
  change Calls _ _ #[.agg #[.int .i64 kd, .int .i64 ru, .int .i64 ta, .int .i64 tr, .int .i64 n, .string na, .string ke, .string da]] _ _
  obtain ⟨W0, hW0⟩ : ∃ W0, W0 = w.alloc (.cells #[.int .i64 kd, .int .i64 ru, .int .i64 ta, .int .i64 tr, .int .i64 n, .string na, .string ke, .string da] 33) := ⟨_, rfl⟩
  change Hid (Bx w _ _ (w.alloc (.cells #[.int .i64 kd, .int .i64 ru, .int .i64 ta, .int .i64 tr, .int .i64 n, .string na, .string ke, .string da] 33))) at X0
  rw [← hW0] at X0
  have HW := Lib.hid hW0
  clear hW0
  generalize Ev.most kd = mo at *
  by_cases h1 : kd < 1
  · have D : decide (1 ≤ kd ∧ kd ≤ 9) = false := decide_eq_false (by omega)
    rw [D] at G
    have h99 : ¬ kd = 9 := by omega
    have d1 : decide (1 ≤ kd) = false := decide_eq_false (by omega)
    clear D
    go_enter Tryd.func13, Tryd.ntmps13
    go_wp2_with fail
    rw [← HW.out]
    clear HW
    refine (FL.out _).mono ?_; rintro e w1 ⟨rfl, b⟩
    have X := Lib.hid (X0.out.more b)
    clear b X0
    go_upto_region 6 with fail
    have C1 : ∀ q : InBx w 33 ⟨kd, ru, ta, tr, n, na, ke, da⟩, q.W.cell? ⟨w.heap.size, 1, none⟩ = some (.int .i64 ru) := fun q => q.h.c.2.1
    have C2 : ∀ q : InBx w 33 ⟨kd, ru, ta, tr, n, na, ke, da⟩, q.W.cell? ⟨w.heap.size, 2, none⟩ = some (.int .i64 ta) := fun q => q.h.c.2.2.1
    have C3 : ∀ q : InBx w 33 ⟨kd, ru, ta, tr, n, na, ke, da⟩, q.W.cell? ⟨w.heap.size, 3, none⟩ = some (.int .i64 tr) := fun q => q.h.c.2.2.2.1
    have C4 : ∀ q : InBx w 33 ⟨kd, ru, ta, tr, n, na, ke, da⟩, q.W.cell? ⟨w.heap.size, 4, none⟩ = some (.int .i64 n) := fun q => q.h.c.2.2.2.2.1
    have C5 : ∀ q : InBx w 33 ⟨kd, ru, ta, tr, n, na, ke, da⟩, q.W.cell? ⟨w.heap.size, 5, none⟩ = some (.string na) := fun q => q.h.c.2.2.2.2.2.1
    have C6 : ∀ q : InBx w 33 ⟨kd, ru, ta, tr, n, na, ke, da⟩, q.W.cell? ⟨w.heap.size, 6, none⟩ = some (.string ke) := fun q => q.h.c.2.2.2.2.2.2.1
    have C7 : ∀ q : InBx w 33 ⟨kd, ru, ta, tr, n, na, ke, da⟩, q.W.cell? ⟨w.heap.size, 7, none⟩ = some (.string da) := fun q => q.h.c.2.2.2.2.2.2.2
    refine wp_region_quiet_bx (l2 := ?evl1) X.out (by kernel_rfl) ?evh1 ?evb1 ?evg1
    case evh1 => (simp only [List.append_eq, List.cons_append, List.nil_append]; exact rfl)
    case evb1 => kernel_rfl
    repeat (go_big_quiet_step (fail))
    (try simp only [d1])
    repeat (go_big_quiet_step (fail))
    refine wpQuiet_nil ?_
    intro _ hw'
    obtain ⟨⟨W, hW⟩, rfl⟩ := hw'
    go_wp2
    go_ret
    exact ⟨ret_bool (by rw [G.out]; simp), hW.b⟩
  by_cases h9 : 9 < kd
  · have D : decide (1 ≤ kd ∧ kd ≤ 9) = false := decide_eq_false (by omega)
    rw [D] at G
    have h99 : ¬ kd = 9 := by omega
    have d1 : decide (1 ≤ kd) = true := decide_eq_true (by omega)
    have d9 : decide (kd ≤ 9) = false := decide_eq_false (by omega)
    clear h1
    clear D
    go_enter Tryd.func13, Tryd.ntmps13
    go_wp2_with fail
    rw [← HW.out]
    clear HW
    refine (FL.out _).mono ?_; rintro e w1 ⟨rfl, b⟩
    have X := Lib.hid (X0.out.more b)
    clear b X0
    go_upto_region 6 with fail
    have C1 : ∀ q : InBx w 33 ⟨kd, ru, ta, tr, n, na, ke, da⟩, q.W.cell? ⟨w.heap.size, 1, none⟩ = some (.int .i64 ru) := fun q => q.h.c.2.1
    have C2 : ∀ q : InBx w 33 ⟨kd, ru, ta, tr, n, na, ke, da⟩, q.W.cell? ⟨w.heap.size, 2, none⟩ = some (.int .i64 ta) := fun q => q.h.c.2.2.1
    have C3 : ∀ q : InBx w 33 ⟨kd, ru, ta, tr, n, na, ke, da⟩, q.W.cell? ⟨w.heap.size, 3, none⟩ = some (.int .i64 tr) := fun q => q.h.c.2.2.2.1
    have C4 : ∀ q : InBx w 33 ⟨kd, ru, ta, tr, n, na, ke, da⟩, q.W.cell? ⟨w.heap.size, 4, none⟩ = some (.int .i64 n) := fun q => q.h.c.2.2.2.2.1
    have C5 : ∀ q : InBx w 33 ⟨kd, ru, ta, tr, n, na, ke, da⟩, q.W.cell? ⟨w.heap.size, 5, none⟩ = some (.string na) := fun q => q.h.c.2.2.2.2.2.1
    have C6 : ∀ q : InBx w 33 ⟨kd, ru, ta, tr, n, na, ke, da⟩, q.W.cell? ⟨w.heap.size, 6, none⟩ = some (.string ke) := fun q => q.h.c.2.2.2.2.2.2.1
    have C7 : ∀ q : InBx w 33 ⟨kd, ru, ta, tr, n, na, ke, da⟩, q.W.cell? ⟨w.heap.size, 7, none⟩ = some (.string da) := fun q => q.h.c.2.2.2.2.2.2.2
    refine wp_region_quiet_bx (l2 := ?evl2) X.out (by kernel_rfl) ?evh2 ?evb2 ?evg2
    case evh2 => (simp only [List.append_eq, List.cons_append, List.nil_append]; exact rfl)
    case evb2 => kernel_rfl
    repeat (go_big_quiet_step (fail))
    (try simp only [d1])
    repeat (go_big_quiet_step (fail))
    (try simp only [d9])
    repeat (go_big_quiet_step (fail))
    refine wpQuiet_nil ?_
    intro _ hw'
    obtain ⟨⟨W, hW⟩, rfl⟩ := hw'
    go_wp2
    go_ret
    exact ⟨ret_bool (by rw [G.out]; simp), hW.b⟩
  have D : decide (1 ≤ kd ∧ kd ≤ 9) = true := decide_eq_true (by omega)
  rw [D] at G
  have d1 : decide (1 ≤ kd) = true := decide_eq_true (by omega)
  have d9 : decide (kd ≤ 9) = true := decide_eq_true (by omega)
  clear D h1 h9 k0 k1
  by_cases h99 : kd = 9
  · as_aux_lemma =>
    rw [TP.out.1 h99] at G
    clear TP d1 d9
    subst h99
    go_enter Tryd.func13, Tryd.ntmps13
    go_wp2_with fail
    rw [← HW.out]
    clear HW
    refine (FL.out _).mono ?_; rintro e w1 ⟨rfl, b⟩
    have X := Lib.hid (X0.out.more b)
    clear b X0
    go_upto_region 6 with fail
    have C1 : ∀ q : InBx w 33 ⟨9, ru, ta, tr, n, na, ke, da⟩, q.W.cell? ⟨w.heap.size, 1, none⟩ = some (.int .i64 ru) := fun q => q.h.c.2.1
    have C2 : ∀ q : InBx w 33 ⟨9, ru, ta, tr, n, na, ke, da⟩, q.W.cell? ⟨w.heap.size, 2, none⟩ = some (.int .i64 ta) := fun q => q.h.c.2.2.1
    have C3 : ∀ q : InBx w 33 ⟨9, ru, ta, tr, n, na, ke, da⟩, q.W.cell? ⟨w.heap.size, 3, none⟩ = some (.int .i64 tr) := fun q => q.h.c.2.2.2.1
    have C4 : ∀ q : InBx w 33 ⟨9, ru, ta, tr, n, na, ke, da⟩, q.W.cell? ⟨w.heap.size, 4, none⟩ = some (.int .i64 n) := fun q => q.h.c.2.2.2.2.1
    have C5 : ∀ q : InBx w 33 ⟨9, ru, ta, tr, n, na, ke, da⟩, q.W.cell? ⟨w.heap.size, 5, none⟩ = some (.string na) := fun q => q.h.c.2.2.2.2.2.1
    have C6 : ∀ q : InBx w 33 ⟨9, ru, ta, tr, n, na, ke, da⟩, q.W.cell? ⟨w.heap.size, 6, none⟩ = some (.string ke) := fun q => q.h.c.2.2.2.2.2.2.1
    have C7 : ∀ q : InBx w 33 ⟨9, ru, ta, tr, n, na, ke, da⟩, q.W.cell? ⟨w.heap.size, 7, none⟩ = some (.string da) := fun q => q.h.c.2.2.2.2.2.2.2
    refine wp_region_quiet_bx (l2 := ?evl3) X.out (by kernel_rfl) ?evh3 ?evb3 ?evg3
    case evh3 => (simp only [List.append_eq, List.cons_append, List.nil_append]; exact rfl)
    case evb3 => kernel_rfl
    repeat (go_big_quiet_step (fail))
    go_big_quiet_step ((go_at_call 34; exact bx_call H114.out _))
    repeat (go_big_quiet_step (fail))
    go_big_quiet_step ((go_at_call 33; exact bx_same (within_any _ _ _ _) _))
    generalize Ev.within (Ev.has 9 114) ru 1 64 = b at *
    cases b
    · as_aux_lemma =>
      have st := 0
      clear st
      repeat (go_big_quiet_step (fail))
      refine wpQuiet_nil ?_
      intro _ hw'
      obtain ⟨⟨W, hW⟩, rfl⟩ := hw'
      go_wp2
      go_ret
      exact ⟨ret_bool (by rw [G.out]; simp), hW.b⟩
    repeat (go_big_quiet_step (fail))
    go_big_quiet_step ((go_at_call 34; exact bx_call H116.out _))
    repeat (go_big_quiet_step (fail))
    go_big_quiet_step ((go_at_call 33; exact bx_same (within_any _ _ _ _) _))
    generalize Ev.within (Ev.has 9 116) ta 0 15 = b at *
    cases b
    · as_aux_lemma =>
      have st := 0
      clear st
      repeat (go_big_quiet_step (fail))
      refine wpQuiet_nil ?_
      intro _ hw'
      obtain ⟨⟨W, hW⟩, rfl⟩ := hw'
      go_wp2
      go_ret
      exact ⟨ret_bool (by rw [G.out]; simp), hW.b⟩
    repeat (go_big_quiet_step (fail))
    go_big_quiet_step ((go_at_call 34; exact bx_call H121.out _))
    repeat (go_big_quiet_step (fail))
    go_big_quiet_step ((go_at_call 33; exact bx_same (within_any _ _ _ _) _))
    generalize Ev.within (Ev.has 9 121) tr 1 9 = b at *
    cases b
    · as_aux_lemma =>
      have st := 0
      clear st
      repeat (go_big_quiet_step (fail))
      refine wpQuiet_nil ?_
      intro _ hw'
      obtain ⟨⟨W, hW⟩, rfl⟩ := hw'
      go_wp2
      go_ret
      exact ⟨ret_bool (by rw [G.out]; simp), hW.b⟩
    repeat (go_big_quiet_step (fail))
    go_big_quiet_step ((go_at_call 34; exact bx_call H110.out _))
    repeat (go_big_quiet_step (fail))
    go_big_quiet_step ((go_at_call 33; exact bx_same (within_any _ _ _ _) _))
    generalize Ev.within (Ev.has 9 110) n 1 1048575 = b at *
    cases b
    · as_aux_lemma =>
      have st := 0
      clear st
      repeat (go_big_quiet_step (fail))
      refine wpQuiet_nil ?_
      intro _ hw'
      obtain ⟨⟨W, hW⟩, rfl⟩ := hw'
      go_wp2
      go_ret
      exact ⟨ret_bool (by rw [G.out]; simp), hW.b⟩
    repeat (go_big_quiet_step (fail))
    go_big_quiet_step ((go_at_call 34; exact bx_call H97.out _))
    generalize hh : Ev.has 9 97 = h at *
    cases h
    · as_aux_lemma =>
      have st := 0
      clear st
      repeat (go_big_quiet_step (fail))
      go_big_quiet_step ((go_at_call 34; exact bx_call H97.out _))
      by_cases hn : na.size = 0
      · obtain rfl := emptyB hn
        have GN' : Ev.goodName 9 ⟨#[]⟩ = true := by rw [GN.out]; rfl
        rw [GN'] at G
        clear GN' GN hn
        repeat (go_big_quiet_step (fail))
        go_big_quiet_step ((go_at_call 34; exact bx_call H107.out _))
        generalize Ev.has 9 107 = h at *
        cases h
        · as_aux_lemma =>
          have st := 0
          clear st
          by_cases hk0 : ke.size = 0
          · obtain rfl := emptyB hk0
            have GK' : Ev.goodKey 9 ⟨#[]⟩ = true := by rw [GK.out]; rfl
            rw [GK'] at G
            clear GK' GK hk0
            repeat (go_big_quiet_step (fail))
            go_big_quiet_step ((go_at_call 34; exact bx_call H100.out _))
            generalize Ev.has 9 100 = h at *
            cases h
            · as_aux_lemma =>
              have st := 0
              clear st
              by_cases hd0 : da.size = 0
              · obtain rfl := emptyB hd0
                have GD' : Ev.goodData 9 ⟨#[]⟩ = true := by rw [GD.out]; rfl
                rw [GD'] at G
                clear GD' GD hd0
                repeat (go_big_quiet_step (fail))
                refine wpQuiet_nil ?_
                intro _ hw'
                obtain ⟨⟨W, hW⟩, rfl⟩ := hw'
                go_wp2
                go_ret
                exact ⟨ret_bool (by rw [G.out]; simp), hW.b⟩
              · obtain ⟨q3, q4⟩ := nonemptyB hd0
                have GD' : Ev.goodData 9 da = false := by rw [GD.out, decide_eq_false hd0]; rfl
                rw [GD'] at G
                clear GD' GD hd0
                repeat (go_big_quiet_step (fail))
                refine wpQuiet_nil ?_
                intro _ hw'
                obtain ⟨⟨W, hW⟩, rfl⟩ := hw'
                go_wp2
                go_ret
                exact ⟨ret_bool (by rw [G.out]; simp), hW.b⟩
            · as_aux_lemma =>
              have st := 0
              clear st
              by_cases hm : (da.size : Int) ≤ mo
              · have GD' : Ev.goodData 9 da = true := by rw [GD.out, decide_eq_true hm]; rfl
                rw [GD'] at G
                have hm' : decide ((da.size : Int) ≤ mo) = true := decide_eq_true hm
                clear hm GD' GD
                repeat (go_big_quiet_step (fail))
                (try simp only [hm'])
                repeat (go_big_quiet_step (fail))
                refine wpQuiet_nil ?_
                intro _ hw'
                obtain ⟨⟨W, hW⟩, rfl⟩ := hw'
                go_wp2
                go_ret
                exact ⟨ret_bool (by rw [G.out]; simp), hW.b⟩
              · have hd0 : ¬ da.size = 0 := by omega
                obtain ⟨q3, q4⟩ := nonemptyB hd0
                have GD' : Ev.goodData 9 da = false := by rw [GD.out, decide_eq_false hm, decide_eq_false hd0]; rfl
                rw [GD'] at G
                have hm' : decide ((da.size : Int) ≤ mo) = false := decide_eq_false hm
                clear hm GD' GD hd0
                repeat (go_big_quiet_step (fail))
                (try simp only [hm'])
                repeat (go_big_quiet_step (fail))
                refine wpQuiet_nil ?_
                intro _ hw'
                obtain ⟨⟨W, hW⟩, rfl⟩ := hw'
                go_wp2
                go_ret
                exact ⟨ret_bool (by rw [G.out]; simp), hW.b⟩
          · obtain ⟨q1, q2⟩ := nonemptyB hk0
            have GK' : Ev.goodKey 9 ke = false := by rw [GK.out, decide_eq_false hk0]; rfl
            rw [GK'] at G
            clear GK' GK hk0
            repeat (go_big_quiet_step (fail))
            (try simp only [q1])
            repeat (go_big_quiet_step (fail))
            (try simp only [q2])
            repeat (go_big_quiet_step (fail))
            refine wpQuiet_nil ?_
            intro _ hw'
            obtain ⟨⟨W, hW⟩, rfl⟩ := hw'
            go_wp2
            go_ret
            exact ⟨ret_bool (by rw [G.out]; simp), hW.b⟩
        · as_aux_lemma =>
          have st := 0
          clear st
          by_cases h16 : ke.size ≤ 16
          · have GK' : Ev.goodKey 9 ke = true := by rw [GK.out, decide_eq_true h16]; rfl
            rw [GK'] at G
            have h16' : decide ((ke.size : Int) ≤ 16) = true := decide_eq_true (by omega)
            clear h16 GK' GK
            repeat (go_big_quiet_step (fail))
            (try simp only [h16'])
            repeat (go_big_quiet_step (fail))
            go_big_quiet_step ((go_at_call 34; exact bx_call H100.out _))
            generalize Ev.has 9 100 = h at *
            cases h
            · as_aux_lemma =>
              have st := 0
              clear st
              by_cases hd0 : da.size = 0
              · obtain rfl := emptyB hd0
                have GD' : Ev.goodData 9 ⟨#[]⟩ = true := by rw [GD.out]; rfl
                rw [GD'] at G
                clear GD' GD hd0
                repeat (go_big_quiet_step (fail))
                refine wpQuiet_nil ?_
                intro _ hw'
                obtain ⟨⟨W, hW⟩, rfl⟩ := hw'
                go_wp2
                go_ret
                exact ⟨ret_bool (by rw [G.out]; simp), hW.b⟩
              · obtain ⟨q3, q4⟩ := nonemptyB hd0
                have GD' : Ev.goodData 9 da = false := by rw [GD.out, decide_eq_false hd0]; rfl
                rw [GD'] at G
                clear GD' GD hd0
                repeat (go_big_quiet_step (fail))
                refine wpQuiet_nil ?_
                intro _ hw'
                obtain ⟨⟨W, hW⟩, rfl⟩ := hw'
                go_wp2
                go_ret
                exact ⟨ret_bool (by rw [G.out]; simp), hW.b⟩
            · as_aux_lemma =>
              have st := 0
              clear st
              by_cases hm : (da.size : Int) ≤ mo
              · have GD' : Ev.goodData 9 da = true := by rw [GD.out, decide_eq_true hm]; rfl
                rw [GD'] at G
                have hm' : decide ((da.size : Int) ≤ mo) = true := decide_eq_true hm
                clear hm GD' GD
                repeat (go_big_quiet_step (fail))
                (try simp only [hm'])
                repeat (go_big_quiet_step (fail))
                refine wpQuiet_nil ?_
                intro _ hw'
                obtain ⟨⟨W, hW⟩, rfl⟩ := hw'
                go_wp2
                go_ret
                exact ⟨ret_bool (by rw [G.out]; simp), hW.b⟩
              · have hd0 : ¬ da.size = 0 := by omega
                obtain ⟨q3, q4⟩ := nonemptyB hd0
                have GD' : Ev.goodData 9 da = false := by rw [GD.out, decide_eq_false hm, decide_eq_false hd0]; rfl
                rw [GD'] at G
                have hm' : decide ((da.size : Int) ≤ mo) = false := decide_eq_false hm
                clear hm GD' GD hd0
                repeat (go_big_quiet_step (fail))
                (try simp only [hm'])
                repeat (go_big_quiet_step (fail))
                refine wpQuiet_nil ?_
                intro _ hw'
                obtain ⟨⟨W, hW⟩, rfl⟩ := hw'
                go_wp2
                go_ret
                exact ⟨ret_bool (by rw [G.out]; simp), hW.b⟩
          · have hk0 : ¬ ke.size = 0 := by omega
            obtain ⟨q1, q2⟩ := nonemptyB hk0
            have GK' : Ev.goodKey 9 ke = false := by rw [GK.out, decide_eq_false h16, decide_eq_false hk0]; rfl
            rw [GK'] at G
            have h16' : decide ((ke.size : Int) ≤ 16) = false := decide_eq_false (by omega)
            clear h16 GK' GK hk0
            repeat (go_big_quiet_step (fail))
            (try simp only [h16'])
            repeat (go_big_quiet_step (fail))
            refine wpQuiet_nil ?_
            intro _ hw'
            obtain ⟨⟨W, hW⟩, rfl⟩ := hw'
            go_wp2
            go_ret
            exact ⟨ret_bool (by rw [G.out]; simp), hW.b⟩
      · obtain ⟨q1, q2⟩ := nonemptyB hn
        have GN' : Ev.goodName 9 na = false := by rw [GN.out, if_neg (by decide)]; exact decide_eq_false hn
        rw [GN'] at G
        clear GN' GN hn
        repeat (go_big_quiet_step (fail))
        refine wpQuiet_nil ?_
        intro _ hw'
        obtain ⟨⟨W, hW⟩, rfl⟩ := hw'
        go_wp2
        go_ret
        exact ⟨ret_bool (by rw [G.out]; simp), hW.b⟩
    · have GN' := GN.out
      rw [if_pos rfl] at GN'
      rw [GN'] at G
      clear GN' GN
      repeat (go_big_quiet_step (fail))
      go_big_quiet_step ((go_at_call 35; exact bx_same NM.out _))
      generalize Nm.isName na.data.toList = b at *
      cases b
      · as_aux_lemma =>
        have st := 0
        clear st
        repeat (go_big_quiet_step (fail))
        go_big_quiet_step ((go_at_call 34; exact bx_call H97.out _))
        repeat (go_big_quiet_step (fail))
        refine wpQuiet_nil ?_
        intro _ hw'
        obtain ⟨⟨W, hW⟩, rfl⟩ := hw'
        go_wp2
        go_ret
        exact ⟨ret_bool (by rw [G.out]; simp), hW.b⟩
      · as_aux_lemma =>
        have st := 0
        clear st
        repeat (go_big_quiet_step (fail))
        go_big_quiet_step ((go_at_call 34; exact bx_call H107.out _))
        generalize Ev.has 9 107 = h at *
        cases h
        · as_aux_lemma =>
          have st := 0
          clear st
          by_cases hk0 : ke.size = 0
          · obtain rfl := emptyB hk0
            have GK' : Ev.goodKey 9 ⟨#[]⟩ = true := by rw [GK.out]; rfl
            rw [GK'] at G
            clear GK' GK hk0
            repeat (go_big_quiet_step (fail))
            go_big_quiet_step ((go_at_call 34; exact bx_call H100.out _))
            generalize Ev.has 9 100 = h at *
            cases h
            · as_aux_lemma =>
              have st := 0
              clear st
              by_cases hd0 : da.size = 0
              · obtain rfl := emptyB hd0
                have GD' : Ev.goodData 9 ⟨#[]⟩ = true := by rw [GD.out]; rfl
                rw [GD'] at G
                clear GD' GD hd0
                repeat (go_big_quiet_step (fail))
                refine wpQuiet_nil ?_
                intro _ hw'
                obtain ⟨⟨W, hW⟩, rfl⟩ := hw'
                go_wp2
                go_ret
                exact ⟨ret_bool (by rw [G.out]; simp), hW.b⟩
              · obtain ⟨q3, q4⟩ := nonemptyB hd0
                have GD' : Ev.goodData 9 da = false := by rw [GD.out, decide_eq_false hd0]; rfl
                rw [GD'] at G
                clear GD' GD hd0
                repeat (go_big_quiet_step (fail))
                refine wpQuiet_nil ?_
                intro _ hw'
                obtain ⟨⟨W, hW⟩, rfl⟩ := hw'
                go_wp2
                go_ret
                exact ⟨ret_bool (by rw [G.out]; simp), hW.b⟩
            · as_aux_lemma =>
              have st := 0
              clear st
              by_cases hm : (da.size : Int) ≤ mo
              · have GD' : Ev.goodData 9 da = true := by rw [GD.out, decide_eq_true hm]; rfl
                rw [GD'] at G
                have hm' : decide ((da.size : Int) ≤ mo) = true := decide_eq_true hm
                clear hm GD' GD
                repeat (go_big_quiet_step (fail))
                (try simp only [hm'])
                repeat (go_big_quiet_step (fail))
                refine wpQuiet_nil ?_
                intro _ hw'
                obtain ⟨⟨W, hW⟩, rfl⟩ := hw'
                go_wp2
                go_ret
                exact ⟨ret_bool (by rw [G.out]; simp), hW.b⟩
              · have hd0 : ¬ da.size = 0 := by omega
                obtain ⟨q3, q4⟩ := nonemptyB hd0
                have GD' : Ev.goodData 9 da = false := by rw [GD.out, decide_eq_false hm, decide_eq_false hd0]; rfl
                rw [GD'] at G
                have hm' : decide ((da.size : Int) ≤ mo) = false := decide_eq_false hm
                clear hm GD' GD hd0
                repeat (go_big_quiet_step (fail))
                (try simp only [hm'])
                repeat (go_big_quiet_step (fail))
                refine wpQuiet_nil ?_
                intro _ hw'
                obtain ⟨⟨W, hW⟩, rfl⟩ := hw'
                go_wp2
                go_ret
                exact ⟨ret_bool (by rw [G.out]; simp), hW.b⟩
          · obtain ⟨q1, q2⟩ := nonemptyB hk0
            have GK' : Ev.goodKey 9 ke = false := by rw [GK.out, decide_eq_false hk0]; rfl
            rw [GK'] at G
            clear GK' GK hk0
            repeat (go_big_quiet_step (fail))
            (try simp only [q1])
            repeat (go_big_quiet_step (fail))
            (try simp only [q2])
            repeat (go_big_quiet_step (fail))
            refine wpQuiet_nil ?_
            intro _ hw'
            obtain ⟨⟨W, hW⟩, rfl⟩ := hw'
            go_wp2
            go_ret
            exact ⟨ret_bool (by rw [G.out]; simp), hW.b⟩
        · as_aux_lemma =>
          have st := 0
          clear st
          by_cases h16 : ke.size ≤ 16
          · have GK' : Ev.goodKey 9 ke = true := by rw [GK.out, decide_eq_true h16]; rfl
            rw [GK'] at G
            have h16' : decide ((ke.size : Int) ≤ 16) = true := decide_eq_true (by omega)
            clear h16 GK' GK
            repeat (go_big_quiet_step (fail))
            (try simp only [h16'])
            repeat (go_big_quiet_step (fail))
            go_big_quiet_step ((go_at_call 34; exact bx_call H100.out _))
            generalize Ev.has 9 100 = h at *
            cases h
            · as_aux_lemma =>
              have st := 0
              clear st
              by_cases hd0 : da.size = 0
              · obtain rfl := emptyB hd0
                have GD' : Ev.goodData 9 ⟨#[]⟩ = true := by rw [GD.out]; rfl
                rw [GD'] at G
                clear GD' GD hd0
                repeat (go_big_quiet_step (fail))
                refine wpQuiet_nil ?_
                intro _ hw'
                obtain ⟨⟨W, hW⟩, rfl⟩ := hw'
                go_wp2
                go_ret
                exact ⟨ret_bool (by rw [G.out]; simp), hW.b⟩
              · obtain ⟨q3, q4⟩ := nonemptyB hd0
                have GD' : Ev.goodData 9 da = false := by rw [GD.out, decide_eq_false hd0]; rfl
                rw [GD'] at G
                clear GD' GD hd0
                repeat (go_big_quiet_step (fail))
                refine wpQuiet_nil ?_
                intro _ hw'
                obtain ⟨⟨W, hW⟩, rfl⟩ := hw'
                go_wp2
                go_ret
                exact ⟨ret_bool (by rw [G.out]; simp), hW.b⟩
            · as_aux_lemma =>
              have st := 0
              clear st
              by_cases hm : (da.size : Int) ≤ mo
              · have GD' : Ev.goodData 9 da = true := by rw [GD.out, decide_eq_true hm]; rfl
                rw [GD'] at G
                have hm' : decide ((da.size : Int) ≤ mo) = true := decide_eq_true hm
                clear hm GD' GD
                repeat (go_big_quiet_step (fail))
                (try simp only [hm'])
                repeat (go_big_quiet_step (fail))
                refine wpQuiet_nil ?_
                intro _ hw'
                obtain ⟨⟨W, hW⟩, rfl⟩ := hw'
                go_wp2
                go_ret
                exact ⟨ret_bool (by rw [G.out]; simp), hW.b⟩
              · have hd0 : ¬ da.size = 0 := by omega
                obtain ⟨q3, q4⟩ := nonemptyB hd0
                have GD' : Ev.goodData 9 da = false := by rw [GD.out, decide_eq_false hm, decide_eq_false hd0]; rfl
                rw [GD'] at G
                have hm' : decide ((da.size : Int) ≤ mo) = false := decide_eq_false hm
                clear hm GD' GD hd0
                repeat (go_big_quiet_step (fail))
                (try simp only [hm'])
                repeat (go_big_quiet_step (fail))
                refine wpQuiet_nil ?_
                intro _ hw'
                obtain ⟨⟨W, hW⟩, rfl⟩ := hw'
                go_wp2
                go_ret
                exact ⟨ret_bool (by rw [G.out]; simp), hW.b⟩
          · have hk0 : ¬ ke.size = 0 := by omega
            obtain ⟨q1, q2⟩ := nonemptyB hk0
            have GK' : Ev.goodKey 9 ke = false := by rw [GK.out, decide_eq_false h16, decide_eq_false hk0]; rfl
            rw [GK'] at G
            have h16' : decide ((ke.size : Int) ≤ 16) = false := decide_eq_false (by omega)
            clear h16 GK' GK hk0
            repeat (go_big_quiet_step (fail))
            (try simp only [h16'])
            repeat (go_big_quiet_step (fail))
            refine wpQuiet_nil ?_
            intro _ hw'
            obtain ⟨⟨W, hW⟩, rfl⟩ := hw'
            go_wp2
            go_ret
            exact ⟨ret_bool (by rw [G.out]; simp), hW.b⟩
  · as_aux_lemma =>
    rw [TP.out.2 h99] at G
    clear TP
    go_enter Tryd.func13, Tryd.ntmps13
    go_wp2_with fail
    rw [← HW.out]
    clear HW
    refine (FL.out _).mono ?_; rintro e w1 ⟨rfl, b⟩
    have X := Lib.hid (X0.out.more b)
    clear b X0
    go_upto_region 6 with fail
    have C1 : ∀ q : InBx w 33 ⟨kd, ru, ta, tr, n, na, ke, da⟩, q.W.cell? ⟨w.heap.size, 1, none⟩ = some (.int .i64 ru) := fun q => q.h.c.2.1
    have C2 : ∀ q : InBx w 33 ⟨kd, ru, ta, tr, n, na, ke, da⟩, q.W.cell? ⟨w.heap.size, 2, none⟩ = some (.int .i64 ta) := fun q => q.h.c.2.2.1
    have C3 : ∀ q : InBx w 33 ⟨kd, ru, ta, tr, n, na, ke, da⟩, q.W.cell? ⟨w.heap.size, 3, none⟩ = some (.int .i64 tr) := fun q => q.h.c.2.2.2.1
    have C4 : ∀ q : InBx w 33 ⟨kd, ru, ta, tr, n, na, ke, da⟩, q.W.cell? ⟨w.heap.size, 4, none⟩ = some (.int .i64 n) := fun q => q.h.c.2.2.2.2.1
    have C5 : ∀ q : InBx w 33 ⟨kd, ru, ta, tr, n, na, ke, da⟩, q.W.cell? ⟨w.heap.size, 5, none⟩ = some (.string na) := fun q => q.h.c.2.2.2.2.2.1
    have C6 : ∀ q : InBx w 33 ⟨kd, ru, ta, tr, n, na, ke, da⟩, q.W.cell? ⟨w.heap.size, 6, none⟩ = some (.string ke) := fun q => q.h.c.2.2.2.2.2.2.1
    have C7 : ∀ q : InBx w 33 ⟨kd, ru, ta, tr, n, na, ke, da⟩, q.W.cell? ⟨w.heap.size, 7, none⟩ = some (.string da) := fun q => q.h.c.2.2.2.2.2.2.2
    refine wp_region_quiet_bx (l2 := ?evl4) X.out (by kernel_rfl) ?evh4 ?evb4 ?evg4
    case evh4 => (simp only [List.append_eq, List.cons_append, List.nil_append]; exact rfl)
    case evb4 => kernel_rfl
    repeat (go_big_quiet_step (fail))
    (try simp only [d1])
    repeat (go_big_quiet_step (fail))
    (try simp only [d9])
    repeat (go_big_quiet_step (fail))
    go_big_quiet_step ((go_at_call 34; exact bx_call H114.out _))
    repeat (go_big_quiet_step (fail))
    go_big_quiet_step ((go_at_call 33; exact bx_same (within_any _ _ _ _) _))
    generalize Ev.within (Ev.has kd 114) ru 1 64 = b at *
    cases b
    · as_aux_lemma =>
      have st := 0
      clear st
      repeat (go_big_quiet_step (fail))
      refine wpQuiet_nil ?_
      intro _ hw'
      obtain ⟨⟨W, hW⟩, rfl⟩ := hw'
      go_wp2
      go_ret
      exact ⟨ret_bool (by rw [G.out]; simp), hW.b⟩
    repeat (go_big_quiet_step (fail))
    go_big_quiet_step ((go_at_call 34; exact bx_call H116.out _))
    repeat (go_big_quiet_step (fail))
    go_big_quiet_step ((go_at_call 33; exact bx_same (within_any _ _ _ _) _))
    generalize Ev.within (Ev.has kd 116) ta 0 15 = b at *
    cases b
    · as_aux_lemma =>
      have st := 0
      clear st
      repeat (go_big_quiet_step (fail))
      refine wpQuiet_nil ?_
      intro _ hw'
      obtain ⟨⟨W, hW⟩, rfl⟩ := hw'
      go_wp2
      go_ret
      exact ⟨ret_bool (by rw [G.out]; simp), hW.b⟩
    repeat (go_big_quiet_step (fail))
    go_big_quiet_step ((go_at_call 34; exact bx_call H121.out _))
    repeat (go_big_quiet_step (fail))
    go_big_quiet_step ((go_at_call 33; exact bx_same (within_any _ _ _ _) _))
    generalize Ev.within (Ev.has kd 121) tr 1 9 = b at *
    cases b
    · as_aux_lemma =>
      have st := 0
      clear st
      repeat (go_big_quiet_step (fail))
      refine wpQuiet_nil ?_
      intro _ hw'
      obtain ⟨⟨W, hW⟩, rfl⟩ := hw'
      go_wp2
      go_ret
      exact ⟨ret_bool (by rw [G.out]; simp), hW.b⟩
    repeat (go_big_quiet_step (fail))
    go_big_quiet_step ((go_at_call 34; exact bx_call H110.out _))
    repeat (go_big_quiet_step (fail))
    go_big_quiet_step ((go_at_call 33; exact bx_same (within_any _ _ _ _) _))
    generalize Ev.within (Ev.has kd 110) n 1 1099511627776 = b at *
    cases b
    · as_aux_lemma =>
      have st := 0
      clear st
      repeat (go_big_quiet_step (fail))
      refine wpQuiet_nil ?_
      intro _ hw'
      obtain ⟨⟨W, hW⟩, rfl⟩ := hw'
      go_wp2
      go_ret
      exact ⟨ret_bool (by rw [G.out]; simp), hW.b⟩
    repeat (go_big_quiet_step (fail))
    go_big_quiet_step ((go_at_call 34; exact bx_call H97.out _))
    generalize hh : Ev.has kd 97 = h at *
    cases h
    · as_aux_lemma =>
      have st := 0
      clear st
      repeat (go_big_quiet_step (fail))
      go_big_quiet_step ((go_at_call 34; exact bx_call H97.out _))
      by_cases hn : na.size = 0
      · obtain rfl := emptyB hn
        have GN' : Ev.goodName kd ⟨#[]⟩ = true := by rw [GN.out]; rfl
        rw [GN'] at G
        clear GN' GN hn
        repeat (go_big_quiet_step (fail))
        go_big_quiet_step ((go_at_call 34; exact bx_call H107.out _))
        generalize Ev.has kd 107 = h at *
        cases h
        · as_aux_lemma =>
          have st := 0
          clear st
          by_cases hk0 : ke.size = 0
          · obtain rfl := emptyB hk0
            have GK' : Ev.goodKey kd ⟨#[]⟩ = true := by rw [GK.out]; rfl
            rw [GK'] at G
            clear GK' GK hk0
            repeat (go_big_quiet_step (fail))
            go_big_quiet_step ((go_at_call 34; exact bx_call H100.out _))
            generalize Ev.has kd 100 = h at *
            cases h
            · as_aux_lemma =>
              have st := 0
              clear st
              by_cases hd0 : da.size = 0
              · obtain rfl := emptyB hd0
                have GD' : Ev.goodData kd ⟨#[]⟩ = true := by rw [GD.out]; rfl
                rw [GD'] at G
                clear GD' GD hd0
                repeat (go_big_quiet_step (fail))
                refine wpQuiet_nil ?_
                intro _ hw'
                obtain ⟨⟨W, hW⟩, rfl⟩ := hw'
                go_wp2
                go_ret
                exact ⟨ret_bool (by rw [G.out]; simp), hW.b⟩
              · obtain ⟨q3, q4⟩ := nonemptyB hd0
                have GD' : Ev.goodData kd da = false := by rw [GD.out, decide_eq_false hd0]; rfl
                rw [GD'] at G
                clear GD' GD hd0
                repeat (go_big_quiet_step (fail))
                refine wpQuiet_nil ?_
                intro _ hw'
                obtain ⟨⟨W, hW⟩, rfl⟩ := hw'
                go_wp2
                go_ret
                exact ⟨ret_bool (by rw [G.out]; simp), hW.b⟩
            · as_aux_lemma =>
              have st := 0
              clear st
              by_cases hm : (da.size : Int) ≤ mo
              · have GD' : Ev.goodData kd da = true := by rw [GD.out, decide_eq_true hm]; rfl
                rw [GD'] at G
                have hm' : decide ((da.size : Int) ≤ mo) = true := decide_eq_true hm
                clear hm GD' GD
                repeat (go_big_quiet_step (fail))
                (try simp only [hm'])
                repeat (go_big_quiet_step (fail))
                refine wpQuiet_nil ?_
                intro _ hw'
                obtain ⟨⟨W, hW⟩, rfl⟩ := hw'
                go_wp2
                go_ret
                exact ⟨ret_bool (by rw [G.out]; simp), hW.b⟩
              · have hd0 : ¬ da.size = 0 := by omega
                obtain ⟨q3, q4⟩ := nonemptyB hd0
                have GD' : Ev.goodData kd da = false := by rw [GD.out, decide_eq_false hm, decide_eq_false hd0]; rfl
                rw [GD'] at G
                have hm' : decide ((da.size : Int) ≤ mo) = false := decide_eq_false hm
                clear hm GD' GD hd0
                repeat (go_big_quiet_step (fail))
                (try simp only [hm'])
                repeat (go_big_quiet_step (fail))
                refine wpQuiet_nil ?_
                intro _ hw'
                obtain ⟨⟨W, hW⟩, rfl⟩ := hw'
                go_wp2
                go_ret
                exact ⟨ret_bool (by rw [G.out]; simp), hW.b⟩
          · obtain ⟨q1, q2⟩ := nonemptyB hk0
            have GK' : Ev.goodKey kd ke = false := by rw [GK.out, decide_eq_false hk0]; rfl
            rw [GK'] at G
            clear GK' GK hk0
            repeat (go_big_quiet_step (fail))
            (try simp only [q1])
            repeat (go_big_quiet_step (fail))
            (try simp only [q2])
            repeat (go_big_quiet_step (fail))
            refine wpQuiet_nil ?_
            intro _ hw'
            obtain ⟨⟨W, hW⟩, rfl⟩ := hw'
            go_wp2
            go_ret
            exact ⟨ret_bool (by rw [G.out]; simp), hW.b⟩
        · as_aux_lemma =>
          have st := 0
          clear st
          by_cases h16 : ke.size ≤ 16
          · have GK' : Ev.goodKey kd ke = true := by rw [GK.out, decide_eq_true h16]; rfl
            rw [GK'] at G
            have h16' : decide ((ke.size : Int) ≤ 16) = true := decide_eq_true (by omega)
            clear h16 GK' GK
            repeat (go_big_quiet_step (fail))
            (try simp only [h16'])
            repeat (go_big_quiet_step (fail))
            go_big_quiet_step ((go_at_call 34; exact bx_call H100.out _))
            generalize Ev.has kd 100 = h at *
            cases h
            · as_aux_lemma =>
              have st := 0
              clear st
              by_cases hd0 : da.size = 0
              · obtain rfl := emptyB hd0
                have GD' : Ev.goodData kd ⟨#[]⟩ = true := by rw [GD.out]; rfl
                rw [GD'] at G
                clear GD' GD hd0
                repeat (go_big_quiet_step (fail))
                refine wpQuiet_nil ?_
                intro _ hw'
                obtain ⟨⟨W, hW⟩, rfl⟩ := hw'
                go_wp2
                go_ret
                exact ⟨ret_bool (by rw [G.out]; simp), hW.b⟩
              · obtain ⟨q3, q4⟩ := nonemptyB hd0
                have GD' : Ev.goodData kd da = false := by rw [GD.out, decide_eq_false hd0]; rfl
                rw [GD'] at G
                clear GD' GD hd0
                repeat (go_big_quiet_step (fail))
                refine wpQuiet_nil ?_
                intro _ hw'
                obtain ⟨⟨W, hW⟩, rfl⟩ := hw'
                go_wp2
                go_ret
                exact ⟨ret_bool (by rw [G.out]; simp), hW.b⟩
            · as_aux_lemma =>
              have st := 0
              clear st
              by_cases hm : (da.size : Int) ≤ mo
              · have GD' : Ev.goodData kd da = true := by rw [GD.out, decide_eq_true hm]; rfl
                rw [GD'] at G
                have hm' : decide ((da.size : Int) ≤ mo) = true := decide_eq_true hm
                clear hm GD' GD
                repeat (go_big_quiet_step (fail))
                (try simp only [hm'])
                repeat (go_big_quiet_step (fail))
                refine wpQuiet_nil ?_
                intro _ hw'
                obtain ⟨⟨W, hW⟩, rfl⟩ := hw'
                go_wp2
                go_ret
                exact ⟨ret_bool (by rw [G.out]; simp), hW.b⟩
              · have hd0 : ¬ da.size = 0 := by omega
                obtain ⟨q3, q4⟩ := nonemptyB hd0
                have GD' : Ev.goodData kd da = false := by rw [GD.out, decide_eq_false hm, decide_eq_false hd0]; rfl
                rw [GD'] at G
                have hm' : decide ((da.size : Int) ≤ mo) = false := decide_eq_false hm
                clear hm GD' GD hd0
                repeat (go_big_quiet_step (fail))
                (try simp only [hm'])
                repeat (go_big_quiet_step (fail))
                refine wpQuiet_nil ?_
                intro _ hw'
                obtain ⟨⟨W, hW⟩, rfl⟩ := hw'
                go_wp2
                go_ret
                exact ⟨ret_bool (by rw [G.out]; simp), hW.b⟩
          · have hk0 : ¬ ke.size = 0 := by omega
            obtain ⟨q1, q2⟩ := nonemptyB hk0
            have GK' : Ev.goodKey kd ke = false := by rw [GK.out, decide_eq_false h16, decide_eq_false hk0]; rfl
            rw [GK'] at G
            have h16' : decide ((ke.size : Int) ≤ 16) = false := decide_eq_false (by omega)
            clear h16 GK' GK hk0
            repeat (go_big_quiet_step (fail))
            (try simp only [h16'])
            repeat (go_big_quiet_step (fail))
            refine wpQuiet_nil ?_
            intro _ hw'
            obtain ⟨⟨W, hW⟩, rfl⟩ := hw'
            go_wp2
            go_ret
            exact ⟨ret_bool (by rw [G.out]; simp), hW.b⟩
      · obtain ⟨q1, q2⟩ := nonemptyB hn
        have GN' : Ev.goodName kd na = false := by rw [GN.out, if_neg (by decide)]; exact decide_eq_false hn
        rw [GN'] at G
        clear GN' GN hn
        repeat (go_big_quiet_step (fail))
        refine wpQuiet_nil ?_
        intro _ hw'
        obtain ⟨⟨W, hW⟩, rfl⟩ := hw'
        go_wp2
        go_ret
        exact ⟨ret_bool (by rw [G.out]; simp), hW.b⟩
    · have GN' := GN.out
      rw [if_pos rfl] at GN'
      rw [GN'] at G
      clear GN' GN
      repeat (go_big_quiet_step (fail))
      go_big_quiet_step ((go_at_call 35; exact bx_same NM.out _))
      generalize Nm.isName na.data.toList = b at *
      cases b
      · as_aux_lemma =>
        have st := 0
        clear st
        repeat (go_big_quiet_step (fail))
        go_big_quiet_step ((go_at_call 34; exact bx_call H97.out _))
        repeat (go_big_quiet_step (fail))
        refine wpQuiet_nil ?_
        intro _ hw'
        obtain ⟨⟨W, hW⟩, rfl⟩ := hw'
        go_wp2
        go_ret
        exact ⟨ret_bool (by rw [G.out]; simp), hW.b⟩
      · as_aux_lemma =>
        have st := 0
        clear st
        repeat (go_big_quiet_step (fail))
        go_big_quiet_step ((go_at_call 34; exact bx_call H107.out _))
        generalize Ev.has kd 107 = h at *
        cases h
        · as_aux_lemma =>
          have st := 0
          clear st
          by_cases hk0 : ke.size = 0
          · obtain rfl := emptyB hk0
            have GK' : Ev.goodKey kd ⟨#[]⟩ = true := by rw [GK.out]; rfl
            rw [GK'] at G
            clear GK' GK hk0
            repeat (go_big_quiet_step (fail))
            go_big_quiet_step ((go_at_call 34; exact bx_call H100.out _))
            generalize Ev.has kd 100 = h at *
            cases h
            · as_aux_lemma =>
              have st := 0
              clear st
              by_cases hd0 : da.size = 0
              · obtain rfl := emptyB hd0
                have GD' : Ev.goodData kd ⟨#[]⟩ = true := by rw [GD.out]; rfl
                rw [GD'] at G
                clear GD' GD hd0
                repeat (go_big_quiet_step (fail))
                refine wpQuiet_nil ?_
                intro _ hw'
                obtain ⟨⟨W, hW⟩, rfl⟩ := hw'
                go_wp2
                go_ret
                exact ⟨ret_bool (by rw [G.out]; simp), hW.b⟩
              · obtain ⟨q3, q4⟩ := nonemptyB hd0
                have GD' : Ev.goodData kd da = false := by rw [GD.out, decide_eq_false hd0]; rfl
                rw [GD'] at G
                clear GD' GD hd0
                repeat (go_big_quiet_step (fail))
                refine wpQuiet_nil ?_
                intro _ hw'
                obtain ⟨⟨W, hW⟩, rfl⟩ := hw'
                go_wp2
                go_ret
                exact ⟨ret_bool (by rw [G.out]; simp), hW.b⟩
            · as_aux_lemma =>
              have st := 0
              clear st
              by_cases hm : (da.size : Int) ≤ mo
              · have GD' : Ev.goodData kd da = true := by rw [GD.out, decide_eq_true hm]; rfl
                rw [GD'] at G
                have hm' : decide ((da.size : Int) ≤ mo) = true := decide_eq_true hm
                clear hm GD' GD
                repeat (go_big_quiet_step (fail))
                (try simp only [hm'])
                repeat (go_big_quiet_step (fail))
                refine wpQuiet_nil ?_
                intro _ hw'
                obtain ⟨⟨W, hW⟩, rfl⟩ := hw'
                go_wp2
                go_ret
                exact ⟨ret_bool (by rw [G.out]; simp), hW.b⟩
              · have hd0 : ¬ da.size = 0 := by omega
                obtain ⟨q3, q4⟩ := nonemptyB hd0
                have GD' : Ev.goodData kd da = false := by rw [GD.out, decide_eq_false hm, decide_eq_false hd0]; rfl
                rw [GD'] at G
                have hm' : decide ((da.size : Int) ≤ mo) = false := decide_eq_false hm
                clear hm GD' GD hd0
                repeat (go_big_quiet_step (fail))
                (try simp only [hm'])
                repeat (go_big_quiet_step (fail))
                refine wpQuiet_nil ?_
                intro _ hw'
                obtain ⟨⟨W, hW⟩, rfl⟩ := hw'
                go_wp2
                go_ret
                exact ⟨ret_bool (by rw [G.out]; simp), hW.b⟩
          · obtain ⟨q1, q2⟩ := nonemptyB hk0
            have GK' : Ev.goodKey kd ke = false := by rw [GK.out, decide_eq_false hk0]; rfl
            rw [GK'] at G
            clear GK' GK hk0
            repeat (go_big_quiet_step (fail))
            (try simp only [q1])
            repeat (go_big_quiet_step (fail))
            (try simp only [q2])
            repeat (go_big_quiet_step (fail))
            refine wpQuiet_nil ?_
            intro _ hw'
            obtain ⟨⟨W, hW⟩, rfl⟩ := hw'
            go_wp2
            go_ret
            exact ⟨ret_bool (by rw [G.out]; simp), hW.b⟩
        · as_aux_lemma =>
          have st := 0
          clear st
          by_cases h16 : ke.size ≤ 16
          · have GK' : Ev.goodKey kd ke = true := by rw [GK.out, decide_eq_true h16]; rfl
            rw [GK'] at G
            have h16' : decide ((ke.size : Int) ≤ 16) = true := decide_eq_true (by omega)
            clear h16 GK' GK
            repeat (go_big_quiet_step (fail))
            (try simp only [h16'])
            repeat (go_big_quiet_step (fail))
            go_big_quiet_step ((go_at_call 34; exact bx_call H100.out _))
            generalize Ev.has kd 100 = h at *
            cases h
            · as_aux_lemma =>
              have st := 0
              clear st
              by_cases hd0 : da.size = 0
              · obtain rfl := emptyB hd0
                have GD' : Ev.goodData kd ⟨#[]⟩ = true := by rw [GD.out]; rfl
                rw [GD'] at G
                clear GD' GD hd0
                repeat (go_big_quiet_step (fail))
                refine wpQuiet_nil ?_
                intro _ hw'
                obtain ⟨⟨W, hW⟩, rfl⟩ := hw'
                go_wp2
                go_ret
                exact ⟨ret_bool (by rw [G.out]; simp), hW.b⟩
              · obtain ⟨q3, q4⟩ := nonemptyB hd0
                have GD' : Ev.goodData kd da = false := by rw [GD.out, decide_eq_false hd0]; rfl
                rw [GD'] at G
                clear GD' GD hd0
                repeat (go_big_quiet_step (fail))
                refine wpQuiet_nil ?_
                intro _ hw'
                obtain ⟨⟨W, hW⟩, rfl⟩ := hw'
                go_wp2
                go_ret
                exact ⟨ret_bool (by rw [G.out]; simp), hW.b⟩
            · as_aux_lemma =>
              have st := 0
              clear st
              by_cases hm : (da.size : Int) ≤ mo
              · have GD' : Ev.goodData kd da = true := by rw [GD.out, decide_eq_true hm]; rfl
                rw [GD'] at G
                have hm' : decide ((da.size : Int) ≤ mo) = true := decide_eq_true hm
                clear hm GD' GD
                repeat (go_big_quiet_step (fail))
                (try simp only [hm'])
                repeat (go_big_quiet_step (fail))
                refine wpQuiet_nil ?_
                intro _ hw'
                obtain ⟨⟨W, hW⟩, rfl⟩ := hw'
                go_wp2
                go_ret
                exact ⟨ret_bool (by rw [G.out]; simp), hW.b⟩
              · have hd0 : ¬ da.size = 0 := by omega
                obtain ⟨q3, q4⟩ := nonemptyB hd0
                have GD' : Ev.goodData kd da = false := by rw [GD.out, decide_eq_false hm, decide_eq_false hd0]; rfl
                rw [GD'] at G
                have hm' : decide ((da.size : Int) ≤ mo) = false := decide_eq_false hm
                clear hm GD' GD hd0
                repeat (go_big_quiet_step (fail))
                (try simp only [hm'])
                repeat (go_big_quiet_step (fail))
                refine wpQuiet_nil ?_
                intro _ hw'
                obtain ⟨⟨W, hW⟩, rfl⟩ := hw'
                go_wp2
                go_ret
                exact ⟨ret_bool (by rw [G.out]; simp), hW.b⟩
          · have hk0 : ¬ ke.size = 0 := by omega
            obtain ⟨q1, q2⟩ := nonemptyB hk0
            have GK' : Ev.goodKey kd ke = false := by rw [GK.out, decide_eq_false h16, decide_eq_false hk0]; rfl
            rw [GK'] at G
            have h16' : decide ((ke.size : Int) ≤ 16) = false := decide_eq_false (by omega)
            clear h16 GK' GK hk0
            repeat (go_big_quiet_step (fail))
            (try simp only [h16'])
            repeat (go_big_quiet_step (fail))
            refine wpQuiet_nil ?_
            intro _ hw'
            obtain ⟨⟨W, hW⟩, rfl⟩ := hw'
            go_wp2
            go_ret
            exact ⟨ret_bool (by rw [G.out]; simp), hW.b⟩
end Go.Proofs.YtighnooklcmjaaaDoor
/-
  The reference's PutEvent at every event.
-/
namespace Go.Proofs.YtighnooklcmjaaaDoor
open Go.RowKit
theorem Ev.Good.cases {e : Ev.E} (h : Ev.Good e) : (0 ≤ e.kind ∧ e.kind ≤ 9) ∧ (0 ≤ e.run ∧ e.run ≤ 64) ∧ (0 ≤ e.task ∧ e.task ≤ 64) ∧ (0 ≤ e.try_ ∧ e.try_ ≤ 64) ∧ (0 ≤ e.n ∧ e.n ≤ 1099511627776) ∧ e.name.size ≤ 64 ∧ e.key.size ≤ 64 ∧ e.data.size ≤ 900 :=
  ⟨⟨by have := h.kind; omega, h.kind.2⟩, h.fits.r, h.fits.t, h.fits.y, h.fits.n, h.fits.a, h.fits.k, h.fits.d⟩
/-- The bytes of the kind and of the first j fields. -/
def Ev.upTo (e : Ev.E) (j : Nat) : List Int := En.leb e.kind ++ ((Ev.codes e.kind).take j).flatMap (Ev.field e)
theorem Ev.upTo_next {e : Ev.E} {j : Nat} {c : UInt8} (h : (Ev.codes e.kind)[j]? = some c) : Ev.upTo e (j + 1) = Ev.upTo e j ++ Ev.field e c := by
  unfold Ev.upTo
  rw [List.take_add_one, h, List.flatMap_append, List.append_assoc]
  simp
theorem Ev.upTo_all {e : Ev.E} {j : Nat} (h : (Ev.codes e.kind).length ≤ j) : Ev.upTo e j = Ev.bytes e := by
  unfold Ev.upTo Ev.bytes
  rw [List.take_of_length_le h]
theorem Ev.upTo_len {e : Ev.E} (h : Ev.Good e) (j : Nat) : (Ev.upTo e j).length ≤ 1000 := by
  have h1 := (Ev.put_len h).2
  rw [Ev.put_bytes h] at h1
  refine Nat.le_trans ?_ h1
  unfold Ev.upTo Ev.bytes
  rw [List.length_append, List.length_append]
  have : (List.flatMap (Ev.field e) ((Ev.codes e.kind).take j)).length ≤ (List.flatMap (Ev.field e) (Ev.codes e.kind)).length := by
    conv => rhs; rw [← List.take_append_drop j (Ev.codes e.kind), List.flatMap_append, List.length_append]
    omega
  omega
theorem Bx.grew {w : World} {T : TypeId} {e : Ev.E} {wr w' : World} (h : Bx w T e wr) (g : Grew wr.heap.size wr w') : Bx w T e w' := h.more g.below
theorem Grew.of_below {w w' : World} (h : Below w.heap.size w w') : Grew w.heap.size w w' := ⟨h, fun g cs t fz hh _ => by rw [h.block g (lt_of_block hh)]; exact hh⟩
set_option maxRecDepth 8000 in
set_option maxHeartbeats 8000000 in
theorem putEvent_any (e : Ev.E) (he : EvIn e) (w : World) : Calls Tryd.prog 15 #[.agg (evc e)] w (BytesP w (Ev.put e)) := by
  have X0 := Lib.hid (Bx.start w 33 e)
  have GD := Lib.hid (goodEvent_any e he)
  cases hg : Ev.good e with
  | false =>
    have PE : Hid (Ev.put e = []) := Lib.hid (by unfold Ev.put; rw [hg]; rfl)
    rw [hg] at GD
    clear hg he
    obtain ⟨kd, ru, ta, tr, n, na, ke, da⟩ := e
    change Calls _ _ #[.agg #[.int .i64 kd, .int .i64 ru, .int .i64 ta, .int .i64 tr, .int .i64 n, .string na, .string ke, .string da]] _ _
    change Hid (∀ W, Calls _ _ #[.agg #[.int .i64 kd, .int .i64 ru, .int .i64 ta, .int .i64 tr, .int .i64 n, .string na, .string ke, .string da]] W _) at GD
    go_enter Tryd.func15, Tryd.ntmps15
    go_wp2_with fail
    (with_reducible refine (GD.out _).mono ?_); rintro e w1 ⟨rfl, b1⟩
    go_wp2
    go_ret
    have hb : Below w.heap.size w w1 := ((Below.refl _ w).alloc (Nat.le_refl _) _).trans (b1.mono (by simp))
    rw [PE.out]
    exact ⟨[], none, 0, Lib.hid rfl, rfl, Lib.hid (OwnB.none_ _ _), Lib.hid ⟨hb, fun g cs t fz hh _ => by rw [hb.block g (lt_of_block hh)]; exact hh⟩⟩
  | true =>
    have hG := Ev.good_iff.1 hg
    have PE := Lib.hid (Ev.put_bytes hG)
    have UN := Lib.hid (fun j c h => Ev.upTo_next (e := e) (j := j) (c := c) h)
    have UA := Lib.hid (fun j h => Ev.upTo_all (e := e) (j := j) h)
    have UL := Lib.hid (Ev.upTo_len hG)
    have U0 : Hid (Ev.upTo e 0 = En.leb e.kind) := Lib.hid (by unfold Ev.upTo; simp)
    have CC := Lib.hid (Ev.codes_code e.kind)
    have CG := Lib.hid (cstr_get e.kind)
    have CS := Lib.hid (cstr_size e.kind)
    have C4 := Lib.hid (codes_few e.kind)
    obtain ⟨⟨k0, k1⟩, ⟨r0, r1⟩, ⟨t0, t1⟩, ⟨y0, y1⟩, ⟨n0, n1⟩, na1, ke1, da1⟩ := hG.cases
    have FL := Lib.hid (fields_any e.kind he.kind)
    rw [hg] at GD
    have F114 : Hid (Ev.field e 114 = En.leb e.run) := Lib.hid rfl
    have F116 : Hid (Ev.field e 116 = En.leb e.task) := Lib.hid rfl
    have F121 : Hid (Ev.field e 121 = En.leb e.try_) := Lib.hid rfl
    have F110 : Hid (Ev.field e 110 = En.leb e.n) := Lib.hid rfl
    have F97 : Hid (Ev.field e 97 = En.putS e.name) := Lib.hid rfl
    have F107 : Hid (Ev.field e 107 = En.putS e.key) := Lib.hid rfl
    have F100 : Hid (Ev.field e 100 = En.putS e.data) := Lib.hid rfl
    clear hg he hG
    generalize Ev.upTo e = up at *
    generalize Ev.field e = fi at *
    generalize Ev.put e = pu at *
    generalize Ev.bytes e = by_ at *
    obtain ⟨kd, ru, ta, tr, n, na, ke, da⟩ := e
    simp only at *
    generalize Ev.codes kd = cs at *
    generalize Ev.cstr kd = s at *
    generalize Ev.most kd = mo at *
    change Calls _ _ #[.agg #[.int .i64 kd, .int .i64 ru, .int .i64 ta, .int .i64 tr, .int .i64 n, .string na, .string ke, .string da]] _ _
    change Hid (∀ W, Calls _ _ #[.agg #[.int .i64 kd, .int .i64 ru, .int .i64 ta, .int .i64 tr, .int .i64 n, .string na, .string ke, .string da]] W _) at GD
    have u0 : IntKind.u64.wrap kd = kd := IntWalk.u64_in _ (by omega)
    have u1 : IntKind.u64.wrap ru = ru := IntWalk.u64_in _ (by omega)
    have u2 : IntKind.u64.wrap ta = ta := IntWalk.u64_in _ (by omega)
    have u3 : IntKind.u64.wrap tr = tr := IntWalk.u64_in _ (by omega)
    have u4 : IntKind.u64.wrap n = n := IntWalk.u64_in _ (by omega)
    have PU : Hid (∀ (A : Option Addr) (zs : List Int) (cap : Nat) (v : Int), 0 ≤ v → v < 18446744073709551616 → zs.length ≤ 1000000 → ∀ W, Bytes W W.heap.size A zs → Calls Tryd.prog 36 #[.slice A zs.length cap, .int .u64 v] W (BytesP W (zs ++ En.leb v))) := Lib.hid refPutU_any
    have P0 : Hid (∀ W, Calls Tryd.prog 36 #[.slice none 0 0, .int .u64 kd] W (BytesP W (En.leb kd))) := Lib.hid fun W => refPutU_any none [] 0 kd k0 (by omega) (by simp) W Bytes.nil_
    have PS : Hid (∀ (A : Option Addr) (zs : List Int) (cap : Nat) (v : ByteArray), v.size ≤ 1000000 → zs.length ≤ 1000000 → ∀ W, Bytes W W.heap.size A zs → Calls Tryd.prog 37 #[.slice A zs.length cap, .string v] W (BytesP W (zs ++ En.putS v))) := Lib.hid refPutS_any
    obtain ⟨W0, hW0⟩ : ∃ W0, W0 = w.alloc (.cells #[.int .i64 kd, .int .i64 ru, .int .i64 ta, .int .i64 tr, .int .i64 n, .string na, .string ke, .string da] 33) := ⟨_, rfl⟩
    change Hid (Bx w _ _ (w.alloc (.cells #[.int .i64 kd, .int .i64 ru, .int .i64 ta, .int .i64 tr, .int .i64 n, .string na, .string ke, .string da] 33))) at X0
    rw [← hW0] at X0
    have HW := Lib.hid hW0
    clear hW0
    go_enter Tryd.func15, Tryd.ntmps15
    go_wp2_with fail
    rw [← HW.out]
    clear HW
    (with_reducible refine (GD.out _).mono ?_); rintro e w1 ⟨rfl, b1⟩
    have X1 := Lib.hid (X0.out.more b1)
    have c := X1.out.c.1
    clear X0 b1
    go_wp2_with fail
    (with_reducible refine (P0.out _).mono ?_); rintro e w2 ⟨ys, A2, c2, hy, rfl, o2, g2⟩
    have X2 := Lib.hid (X1.out.grew g2.out)
    have c := X2.out.c.1
    have H2 : Hid (w.heap.size ≤ w1.heap.size) := Lib.hid X1.out.b.size
    have O2 : Hid (OwnB w2 w.heap.size A2 c2 ys) := Lib.hid (o2.out.low H2.out)
    have HY : Hid (ys = up 0) := Lib.hid (by rw [hy.out, U0.out])
    clear X1 o2 g2 hy
    go_wp2_with fail
    (with_reducible refine (FL.out _).mono ?_); rintro e w3 ⟨rfl, b3⟩
    have X3 := Lib.hid (X2.out.more b3)
    have O3 := Lib.hid (O2.out.grew b3 (Nat.le_refl _))
    clear X2 O2 b3 c H2
    go_wp2_with fail
    go_loopw [3, 6] (fun bv iv wr => ∃ (j : Nat) (ys : List Int) (A : Option Addr) (cap : Nat), j ≤ s.size ∧ iv = .int .i64 j ∧ bv = .slice A ys.length cap ∧ Hid (ys = up j) ∧ Hid (OwnB wr w.heap.size A cap ys) ∧ Hid (Bx w 33 ⟨kd, ru, ta, tr, n, na, ke, da⟩ wr)) (fun _ iv _ => s.size - (intOf iv).toNat)
    case atStart => exact ⟨0, ys, A2, c2, Nat.zero_le _, rfl, rfl, HY, O3, X3⟩
    case round =>
      obtain ⟨j, ys, A, cap, hj, rfl, rfl, HY, HO, HX⟩ := hrel
      have HS : w.heap.size ≤ wr.heap.size := HX.out.b.size
      have YL : ys.length ≤ 1000 := by rw [HY.out]; exact UL.out j
      have SL : s.size ≤ 4 := by rw [CS.out]; exact C4.out
      by_cases hlt : j < s.size
      · have hlt' : (j : Int) < (s.size : Int) := by omega
        have hc := CG.out j hlt
        have NX := UN.out j _ hc
        have hm := CC.out _ (List.mem_of_getElem? hc)
        obtain ⟨k0', k1', k2', k3', k4', k5', k6', k7'⟩ := HX.out.c
        unfold Ev.Code at hm
        rcases hm with hm | hm | hm | hm | hm | hm | hm
        · have hm' : ((s[j]).toNat : Int) = 114 := by rw [hm]; rfl
          rw [hm] at NX
          have NY := Lib.hid NX
          clear NX hc hm
          go_wp2_with fail
          (with_reducible refine (PU.out A ys cap ru r0 (by omega) (by omega) _ HO.out.bytes).mono ?_); rintro e w4 ⟨zs, A4, c4, hz, rfl, o4, g4⟩
          have X4 := Lib.hid (HX.out.grew g4.out)
          have O4 : Hid (OwnB w4 w.heap.size A4 c4 zs) := Lib.hid (o4.out.low HS)
          have Z4 : Hid (zs = up (j + 1)) := Lib.hid (by rw [hz.out, NY.out, HY.out, F114.out])
          clear hz o4 g4
          go_wp2
          go_roundw
          case rel => exact ⟨j + 1, zs, A4, c4, by omega, by go_num, rfl, Z4, O4, X4⟩
          case measure => simp [intOf]; omega
        · have hm' : ((s[j]).toNat : Int) = 116 := by rw [hm]; rfl
          rw [hm] at NX
          have NY := Lib.hid NX
          clear NX hc hm
          go_wp2_with fail
          (with_reducible refine (PU.out A ys cap ta t0 (by omega) (by omega) _ HO.out.bytes).mono ?_); rintro e w4 ⟨zs, A4, c4, hz, rfl, o4, g4⟩
          have X4 := Lib.hid (HX.out.grew g4.out)
          have O4 : Hid (OwnB w4 w.heap.size A4 c4 zs) := Lib.hid (o4.out.low HS)
          have Z4 : Hid (zs = up (j + 1)) := Lib.hid (by rw [hz.out, NY.out, HY.out, F116.out])
          clear hz o4 g4
          go_wp2
          go_roundw
          case rel => exact ⟨j + 1, zs, A4, c4, by omega, by go_num, rfl, Z4, O4, X4⟩
          case measure => simp [intOf]; omega
        · have hm' : ((s[j]).toNat : Int) = 121 := by rw [hm]; rfl
          rw [hm] at NX
          have NY := Lib.hid NX
          clear NX hc hm
          go_wp2_with fail
          (with_reducible refine (PU.out A ys cap tr y0 (by omega) (by omega) _ HO.out.bytes).mono ?_); rintro e w4 ⟨zs, A4, c4, hz, rfl, o4, g4⟩
          have X4 := Lib.hid (HX.out.grew g4.out)
          have O4 : Hid (OwnB w4 w.heap.size A4 c4 zs) := Lib.hid (o4.out.low HS)
          have Z4 : Hid (zs = up (j + 1)) := Lib.hid (by rw [hz.out, NY.out, HY.out, F121.out])
          clear hz o4 g4
          go_wp2
          go_roundw
          case rel => exact ⟨j + 1, zs, A4, c4, by omega, by go_num, rfl, Z4, O4, X4⟩
          case measure => simp [intOf]; omega
        · have hm' : ((s[j]).toNat : Int) = 110 := by rw [hm]; rfl
          rw [hm] at NX
          have NY := Lib.hid NX
          clear NX hc hm
          go_wp2_with fail
          (with_reducible refine (PU.out A ys cap n n0 (by omega) (by omega) _ HO.out.bytes).mono ?_); rintro e w4 ⟨zs, A4, c4, hz, rfl, o4, g4⟩
          have X4 := Lib.hid (HX.out.grew g4.out)
          have O4 : Hid (OwnB w4 w.heap.size A4 c4 zs) := Lib.hid (o4.out.low HS)
          have Z4 : Hid (zs = up (j + 1)) := Lib.hid (by rw [hz.out, NY.out, HY.out, F110.out])
          clear hz o4 g4
          go_wp2
          go_roundw
          case rel => exact ⟨j + 1, zs, A4, c4, by omega, by go_num, rfl, Z4, O4, X4⟩
          case measure => simp [intOf]; omega
        · have hm' : ((s[j]).toNat : Int) = 97 := by rw [hm]; rfl
          rw [hm] at NX
          have NY := Lib.hid NX
          clear NX hc hm
          go_wp2_with fail
          (with_reducible refine (PS.out A ys cap na (by omega) (by omega) _ HO.out.bytes).mono ?_); rintro e w4 ⟨zs, A4, c4, hz, rfl, o4, g4⟩
          have X4 := Lib.hid (HX.out.grew g4.out)
          have O4 : Hid (OwnB w4 w.heap.size A4 c4 zs) := Lib.hid (o4.out.low HS)
          have Z4 : Hid (zs = up (j + 1)) := Lib.hid (by rw [hz.out, NY.out, HY.out, F97.out])
          clear hz o4 g4
          go_wp2
          go_roundw
          case rel => exact ⟨j + 1, zs, A4, c4, by omega, by go_num, rfl, Z4, O4, X4⟩
          case measure => simp [intOf]; omega
        · have hm' : ((s[j]).toNat : Int) = 107 := by rw [hm]; rfl
          rw [hm] at NX
          have NY := Lib.hid NX
          clear NX hc hm
          go_wp2_with fail
          (with_reducible refine (PS.out A ys cap ke (by omega) (by omega) _ HO.out.bytes).mono ?_); rintro e w4 ⟨zs, A4, c4, hz, rfl, o4, g4⟩
          have X4 := Lib.hid (HX.out.grew g4.out)
          have O4 : Hid (OwnB w4 w.heap.size A4 c4 zs) := Lib.hid (o4.out.low HS)
          have Z4 : Hid (zs = up (j + 1)) := Lib.hid (by rw [hz.out, NY.out, HY.out, F107.out])
          clear hz o4 g4
          go_wp2
          go_roundw
          case rel => exact ⟨j + 1, zs, A4, c4, by omega, by go_num, rfl, Z4, O4, X4⟩
          case measure => simp [intOf]; omega
        · have hm' : ((s[j]).toNat : Int) = 100 := by rw [hm]; rfl
          rw [hm] at NX
          have NY := Lib.hid NX
          clear NX hc hm
          go_wp2_with fail
          (with_reducible refine (PS.out A ys cap da (by omega) (by omega) _ HO.out.bytes).mono ?_); rintro e w4 ⟨zs, A4, c4, hz, rfl, o4, g4⟩
          have X4 := Lib.hid (HX.out.grew g4.out)
          have O4 : Hid (OwnB w4 w.heap.size A4 c4 zs) := Lib.hid (o4.out.low HS)
          have Z4 : Hid (zs = up (j + 1)) := Lib.hid (by rw [hz.out, NY.out, HY.out, F100.out])
          clear hz o4 g4
          go_wp2
          go_roundw
          case rel => exact ⟨j + 1, zs, A4, c4, by omega, by go_num, rfl, Z4, O4, X4⟩
          case measure => simp [intOf]; omega
      · obtain rfl : j = s.size := by omega
        have E : Hid (ys = pu) := Lib.hid (by rw [HY.out, UA.out _ (by rw [CS.out]; exact Nat.le_refl _), ← PE.out])
        go_wp2
        go_ret
        exact BytesP.mk_ (by rw [E.out]) (by rw [← E.out]; exact HO.out) (Grew.of_below HX.out.b)
end Go.Proofs.YtighnooklcmjaaaDoor
/-
  Reading an event, step by step: the reader, the event that is filled, and their boxes.
-/
namespace Go.Proofs.YtighnooklcmjaaaDoor
open Go.RowKit
namespace Ev
open En
/-- Where the reading stands behind j fields. -/
def rAt (zs : List Int) (j : Nat) : R := ((codes (valM zs false 9)).take j).foldl step (start zs)
theorem rAt_next {zs : List Int} {j : Nat} {c : UInt8} (h : (codes (valM zs false 9))[j]? = some c) : rAt zs (j + 1) = step (rAt zs j) c := by
  unfold rAt
  rw [List.take_add_one, h, List.foldl_append]
  rfl
theorem rAt_all {zs : List Int} {j : Nat} (h : (codes (valM zs false 9)).length ≤ j) : rAt zs j = final zs := by
  unfold rAt final
  rw [List.take_of_length_le h]
theorem valM_in (zs : List Int) (b : Bool) (most : Int) (h0 : 0 ≤ most) (hb : Byte zs) : 0 ≤ valM zs b most ∧ valM zs b most ≤ most := by
  unfold valM
  split
  · next h =>
    unfold okM at h
    simp only [Bool.and_eq_true, decide_eq_true_eq] at h
    exact ⟨(valU_range zs b hb).1, h.1.2⟩
  · exact ⟨Int.le_refl _, h0⟩
theorem valS_size (zs : List Int) (b : Bool) (most : Int) (h0 : 0 ≤ most) : ((valS zs b most).size : Int) ≤ most := by
  unfold valS
  split
  · next h =>
    unfold okS at h
    simp only [Bool.and_eq_true, decide_eq_true_eq] at h
    rw [strOfNums_size, List.length_take]
    omega
  · exact h0
theorem step_in {r : R} {c : UInt8} (h : EvIn r.e) (hb : Byte r.zs) (hn : c = 110 → valU r.zs r.b ≤ 1099511627776) : EvIn (step r c).e := by
  have m64 := valM_in r.zs r.b 64 (by decide) hb
  have s64 := valS_size r.zs r.b 64 (by decide)
  have s900 := valS_size r.zs r.b 900 (by decide)
  have hu := valU_range r.zs r.b hb
  unfold step
  by_cases h1 : c = 114
  · rw [if_pos h1]; exact { h with run := ⟨by show _ ≤ valM _ _ _; omega, by show valM _ _ _ ≤ _; omega⟩ }
  by_cases h2 : c = 116
  · rw [if_neg h1, if_pos h2]; exact { h with task := ⟨by show _ ≤ valM _ _ _; omega, by show valM _ _ _ ≤ _; omega⟩ }
  by_cases h3 : c = 121
  · rw [if_neg h1, if_neg h2, if_pos h3]; exact { h with try_ := ⟨by show _ ≤ valM _ _ _; omega, by show valM _ _ _ ≤ _; omega⟩ }
  by_cases h4 : c = 110
  · rw [if_neg h1, if_neg h2, if_neg h3, if_pos h4]
    have := hn h4
    exact { h with n := ⟨by show _ ≤ valU _ _; omega, by show valU _ _ ≤ _; omega⟩ }
  by_cases h5 : c = 97
  · rw [if_neg h1, if_neg h2, if_neg h3, if_neg h4, if_pos h5]; exact { h with name := by show (valS _ _ _).size ≤ _; omega }
  by_cases h6 : c = 107
  · rw [if_neg h1, if_neg h2, if_neg h3, if_neg h4, if_neg h5, if_pos h6]; exact { h with key := by show (valS _ _ _).size ≤ _; omega }
  · rw [if_neg h1, if_neg h2, if_neg h3, if_neg h4, if_neg h5, if_neg h6]; exact { h with data := by show (valS _ _ _).size ≤ _; omega }
theorem start_in (zs : List Int) (hb : Byte zs) : EvIn (start zs).e := by
  have m := valM_in zs false 9 (by decide) hb
  have z0 : is64 0 := ⟨by decide, by decide⟩
  exact ⟨⟨by show _ ≤ valM _ _ _; omega, by show valM _ _ _ ≤ _; omega⟩, z0, z0, z0, z0, Nat.zero_le _, Nat.zero_le _, Nat.zero_le _⟩
/-- A number beyond the greatest tick: no event. -/
theorem far_bad {zs : List Int} {j : Nat} (h : (codes (valM zs false 9))[j]? = some 110) (hf : 1099511627776 < valU (rAt zs j).zs (rAt zs j).b) : acc zs = false := by
  have hc : codes (valM zs false 9) = [110] ∧ j = 0 := by
    rcases codes_in (valM zs false 9) with e | e | e | e | e | e | e | e | e | e <;> rw [e] at h ⊢ <;> (try simp [codes] at h ⊢)
    all_goals (first | exact h.1 | omega | (rcases j with _ | _ | _ | _ | j <;> simp at h ⊢))
  obtain ⟨h1, rfl⟩ := hc
  have hr : final zs = step (rAt zs 0) 110 := by
    rw [← rAt_all (j := 1) (by rw [h1]; decide), rAt_next (by rw [h1]; rfl)]
  have he : (final zs).e.n = valU (rAt zs 0).zs (rAt zs 0).b := by rw [hr]; rfl
  cases hx : acc zs with
  | false => rfl
  | true =>
    unfold acc at hx
    simp only [Bool.and_eq_true] at hx
    have := (good_iff.1 hx.2.2).fits.n.2
    omega
end Ev
theorem ev_no8 (e : Ev.E) : ∀ (i : Nat) (n : Int), (evc e)[i]? ≠ some (.int .u8 n) := by
  intro i n
  unfold evc
  rcases i with _ | _ | _ | _ | _ | _ | _ | _ | i <;> simp
/-- While an event is read: the result's cell, the reader, the event that is filled. -/
structure GS (w wr : World) (g1 g2 : Nat) (r : Ev.R) : Prop where
  b : Below w.heap.size w wr
  z : wr.heap[w.heap.size]? = some (.cells (evc Ev.zero) 33 (0, 0))
  i : InAt wr 63 g1 r.zs r.b
  e : wr.heap[g2]? = some (.cells (evc r.e) 33 (0, 0))
  n0 : w.heap.size < g1
  n1 : g1 ≠ g2
  n2 : w.heap.size < g2
theorem GS.read {w wr w' : World} {g1 g2 : Nat} {r : Ev.R} {zs : List Int} {b : Bool} (h : GS w wr g1 g2 r) (hp : InPost wr 63 g1 zs b w') : GS w w' g1 g2 ⟨zs, b, r.e⟩ :=
  ⟨h.b.trans (hp.2.below h.b.size (by have := h.n0; omega)), (hp.2.block _ (lt_of_block h.z) (by have := h.n0; omega)).trans h.z, hp.1, (hp.2.block _ (lt_of_block h.e) (Ne.symm h.n1)).trans h.e, h.n0, h.n1, h.n2⟩
theorem GS.store {w wr : World} {g1 g2 : Nat} {r : Ev.R} (h : GS w wr g1 g2 r) {j : Nat} {v : Value} {x : Ev.E} (hx : (evc r.e).setIfInBounds j v = evc x) : GS w (wr.setCell ⟨g2, j, none⟩ v) g1 g2 ⟨r.zs, r.b, x⟩ :=
  ⟨h.b.setCell (p := ⟨g2, j, none⟩) (by have := h.n2; show _ ≤ g2; omega) _, (Below.heap_setCell _ _ _ _ (by have := h.n2; show _ ≠ g2; omega)).trans h.z,
    h.i.keep (But.set _ _ _ _ _) h.e (ev_no8 _) h.n1, by rw [← hx]; exact obj_set h.e v, h.n0, h.n1, h.n2⟩
theorem GS.more {w wr w' : World} {g1 g2 : Nat} {r : Ev.R} (h : GS w wr g1 g2 r) (hb : Below wr.heap.size wr w') : GS w w' g1 g2 r :=
  ⟨h.b.trans (hb.mono h.b.size), (hb.block _ (lt_of_block h.z)).trans h.z, h.i.below hb (Nat.le_refl _), (hb.block _ (lt_of_block h.e)).trans h.e, h.n0, h.n1, h.n2⟩
end Go.Proofs.YtighnooklcmjaaaDoor
/-
  How the program reads an event, in plain words; it accepts just what the reference accepts.
-/
namespace Go.Proofs.YtighnooklcmjaaaDoor.Ev
open En Go.RowKit
def stepP (r : R) (c : UInt8) : R :=
  if c = 114 then ⟨restM r.zs r.b 64, !okM r.zs r.b 64, { r.e with run := valM r.zs r.b 64 }⟩
  else if c = 116 then ⟨restM r.zs r.b 15, !okM r.zs r.b 15, { r.e with task := valM r.zs r.b 15 }⟩
  else if c = 121 then ⟨restM r.zs r.b 9, !okM r.zs r.b 9, { r.e with try_ := valM r.zs r.b 9 }⟩
  else if c = 110 then ⟨restU r.zs r.b, !okU r.zs r.b, { r.e with n := wrap64 (valU r.zs r.b) }⟩
  else if c = 97 then ⟨restS r.zs r.b 16, !okS r.zs r.b 16, { r.e with name := valS r.zs r.b 16 }⟩
  else if c = 107 then ⟨restS r.zs r.b 16, !okS r.zs r.b 16, { r.e with key := valS r.zs r.b 16 }⟩
  else ⟨restS r.zs r.b (most r.e.kind), !okS r.zs r.b (most r.e.kind), { r.e with data := valS r.zs r.b (most r.e.kind) }⟩
def rdP (zs : List Int) : R := (codes (valM zs false 9)).foldl stepP (start zs)
def accP (zs : List Int) : Bool := !(rdP zs).b && (decide ((rdP zs).zs.length = 0) && good (rdP zs).e)
theorem stepP_kind (r : R) (c : UInt8) : (stepP r c).e.kind = r.e.kind := by
  unfold stepP
  repeat' split
  all_goals rfl
theorem stepP_bad (r : R) (c : UInt8) (h : r.b = true) : (stepP r c).b = true := by
  obtain ⟨zs, b, e⟩ := r
  simp only at h
  subst h
  unfold stepP
  repeat' split
  all_goals rfl
theorem foldP_bad (cs : List UInt8) : ∀ r : R, r.b = true → (cs.foldl stepP r).b = true := by
  induction cs with
  | nil => intro r h; exact h
  | cons c cs ih => intro r h; rw [List.foldl_cons]; exact ih _ (stepP_bad r c h)
theorem foldP_kind (cs : List UInt8) : ∀ r : R, (cs.foldl stepP r).e.kind = r.e.kind := by
  induction cs with
  | nil => intro r; rfl
  | cons c cs ih => intro r; rw [List.foldl_cons, ih, stepP_kind]
theorem rdP_kind (zs : List Int) : (rdP zs).e.kind = valM zs false 9 := foldP_kind _ _
theorem stepP_byte (r : R) (c : UInt8) (h : Byte r.zs) : Byte (stepP r c).zs := by
  unfold stepP
  repeat' split
  · exact restM_byte _ _ _ h
  · exact restM_byte _ _ _ h
  · exact restM_byte _ _ _ h
  · exact restU_byte _ _ h
  · exact restS_byte _ _ _ h
  · exact restS_byte _ _ _ h
  · exact restS_byte _ _ _ h
theorem stepP_sound (r : R) (c : UInt8) (hb : Byte r.zs) (h : (stepP r c).b = false) (hn : c = 110 → 0 ≤ (stepP r c).e.n) : r.b = false ∧ r.zs = field (stepP r c).e c ++ (stepP r c).zs := by
  have hr : r.b = false := by
    cases hx : r.b with
    | false => rfl
    | true => rw [stepP_bad r c hx] at h; cases h
  obtain ⟨zs, b, e⟩ := r
  simp only at hr hb
  subst hr
  refine ⟨rfl, ?_⟩
  unfold stepP at h hn ⊢
  unfold field
  by_cases h1 : c = 114
  · simp only [if_pos h1] at h ⊢
    exact (canonM hb (by simpa using h)).1
  by_cases h2 : c = 116
  · simp only [if_neg h1, if_pos h2] at h ⊢
    exact (canonM hb (by simpa using h)).1
  by_cases h3 : c = 121
  · simp only [if_neg h1, if_neg h2, if_pos h3] at h ⊢
    exact (canonM hb (by simpa using h)).1
  by_cases h4 : c = 110
  · simp only [if_neg h1, if_neg h2, if_neg h3, if_pos h4] at h hn ⊢
    have hu := valU_range zs false hb
    have hw : wrap64 (valU zs false) = valU zs false := by
      have h0 := hn h4
      unfold wrap64 at h0 ⊢
      omega
    rw [hw]
    exact (canonU hb (by simpa using h)).1
  by_cases h5 : c = 97
  · simp only [if_neg h1, if_neg h2, if_neg h3, if_neg h4, if_pos h5] at h ⊢
    exact (canonS hb (by simpa using h)).1
  by_cases h6 : c = 107
  · simp only [if_neg h1, if_neg h2, if_neg h3, if_neg h4, if_neg h5, if_pos h6] at h ⊢
    exact (canonS hb (by simpa using h)).1
  · simp only [if_neg h1, if_neg h2, if_neg h3, if_neg h4, if_neg h5, if_neg h6] at h ⊢
    exact (canonS hb (by simpa using h)).1
theorem stepP_other (r : R) (c d : UInt8) (hc : Code c) (hd : Code d) (h : c ≠ d) : field (stepP r c).e d = field r.e d := by
  unfold Code at hc hd
  rcases hc with rfl | rfl | rfl | rfl | rfl | rfl | rfl <;> rcases hd with rfl | rfl | rfl | rfl | rfl | rfl | rfl <;> first | exact absurd rfl h | rfl
theorem foldP_other (d : UInt8) (hd : Code d) : ∀ (cs : List UInt8) (r : R), (∀ c ∈ cs, Code c) → d ∉ cs → field (cs.foldl stepP r).e d = field r.e d
  | [], _, _, _ => rfl
  | c :: cs, r, hc, hn => by
    rw [List.foldl_cons, foldP_other d hd cs _ (fun x hx => hc x (List.mem_cons_of_mem _ hx)) (fun hm => hn (List.mem_cons_of_mem _ hm))]
    exact stepP_other r c d (hc c (List.mem_cons_self ..)) hd (fun e => hn (e ▸ List.mem_cons_self ..))
theorem stepP_n (r : R) (c : UInt8) (h : c ≠ 110) : (stepP r c).e.n = r.e.n := by
  unfold stepP
  repeat' split
  all_goals first | rfl | (exact absurd (by assumption) h)
theorem foldP_n : ∀ (cs : List UInt8) (r : R), 110 ∉ cs → (cs.foldl stepP r).e.n = r.e.n
  | [], _, _ => rfl
  | c :: cs, r, hn => by
    rw [List.foldl_cons, foldP_n cs _ (fun hm => hn (List.mem_cons_of_mem _ hm))]
    exact stepP_n r c (fun e => hn (e ▸ List.mem_cons_self ..))
theorem foldP_sound : ∀ (cs : List UInt8) (r : R), (∀ c ∈ cs, Code c) → cs.Nodup → Byte r.zs → (cs.foldl stepP r).b = false → 0 ≤ (cs.foldl stepP r).e.n → r.b = false ∧ r.zs = cs.flatMap (field (cs.foldl stepP r).e) ++ (cs.foldl stepP r).zs
  | [], _, _, _, _, h, _ => ⟨h, rfl⟩
  | c :: cs, r, hc, hn, hb, h, h0 => by
    rw [List.nodup_cons] at hn
    rw [List.foldl_cons] at h h0 ⊢
    have hcs : ∀ x ∈ cs, Code x := fun x hx => hc x (List.mem_cons_of_mem _ hx)
    obtain ⟨h1, h2⟩ := foldP_sound cs (stepP r c) hcs hn.2 (stepP_byte r c hb) h h0
    obtain ⟨h3, h4⟩ := stepP_sound r c hb h1 (fun e => by
      subst e
      rw [foldP_n cs _ hn.1] at h0
      exact h0)
    refine ⟨h3, ?_⟩
    rw [List.flatMap_cons, foldP_other c (hc c (List.mem_cons_self ..)) cs _ hcs hn.1, List.append_assoc, ← h2]
    exact h4
theorem accP_put {zs : List Int} (hb : Byte zs) (h : accP zs = true) : good (rdP zs).e = true ∧ zs = put (rdP zs).e := by
  unfold accP at h
  simp only [Bool.and_eq_true, Bool.not_eq_true', decide_eq_true_eq] at h
  obtain ⟨h1, h2, h3⟩ := h
  refine ⟨h3, ?_⟩
  unfold put
  rw [if_pos h3]
  unfold bytes
  have hk : okM zs false 9 = true := by
    cases hx : okM zs false 9 with
    | true => rfl
    | false =>
      have := foldP_bad (codes (valM zs false 9)) (start zs) (by show (!okM zs false 9) = true; rw [hx]; rfl)
      rw [show (codes (valM zs false 9)).foldl stepP (start zs) = rdP zs from rfl, h1] at this
      cases this
  obtain ⟨c1, _, _⟩ := canonM hb hk
  obtain ⟨_, s2⟩ := foldP_sound (codes (valM zs false 9)) (start zs) (codes_code _) (codes_nodup _) (restM_byte _ _ _ hb) h1 (good_iff.1 h3).fits.n.1
  rw [show (codes (valM zs false 9)).foldl stepP (start zs) = rdP zs from rfl] at s2
  rw [List.eq_nil_of_length_eq_zero h2, List.append_nil] at s2
  rw [rdP_kind, ← s2]
  exact c1
/-! ### What was written is read -/
structure FitsP (e : E) : Prop where
  r : 0 ≤ e.run ∧ e.run ≤ 64
  t : 0 ≤ e.task ∧ e.task ≤ 15
  y : 0 ≤ e.try_ ∧ e.try_ ≤ 9
  n : 0 ≤ e.n ∧ e.n ≤ 1099511627776
  a : e.name.size ≤ 16
  k : e.key.size ≤ 16
  d : (e.data.size : Int) ≤ most e.kind
theorem Good.fitsP {e : E} (h : Good e) : FitsP e := by
  have h1 := within_in h.run
  have h2 := within_in h.task
  have h3 := within_in h.try_
  have h4 := within_in h.n
  have h5 := h.nameIn
  have h6 := h.keyIn
  have h7 := h.dataIn
  have h8 := top_le e.kind
  have h9 := most_ge e.kind
  exact ⟨by omega, by omega, by omega, by omega, by omega, by omega, by omega⟩
theorem stepP_full (e : E) (c : UInt8) (hc : Code c) (he : FitsP e) (rest : List Int) (x : E) (hk : x.kind = e.kind) : stepP ⟨field e c ++ rest, false, x⟩ c = ⟨rest, false, ov e x [c]⟩ := by
  have hm := most_le e.kind
  have hd := he.d
  unfold Code at hc
  rcases hc with rfl | rfl | rfl | rfl | rfl | rfl | rfl
  · obtain ⟨q1, q2, q3⟩ := readM e.run rest 64 he.r.1 he.r.2 (by have := he.r.2; omega)
    show (⟨restM (leb e.run ++ rest) false 64, !okM (leb e.run ++ rest) false 64, { x with run := valM (leb e.run ++ rest) false 64 }⟩ : R) = _
    rw [q1, q2, q3]; rfl
  · obtain ⟨q1, q2, q3⟩ := readM e.task rest 15 he.t.1 he.t.2 (by have := he.t.2; omega)
    show (⟨restM (leb e.task ++ rest) false 15, !okM (leb e.task ++ rest) false 15, { x with task := valM (leb e.task ++ rest) false 15 }⟩ : R) = _
    rw [q1, q2, q3]; rfl
  · obtain ⟨q1, q2, q3⟩ := readM e.try_ rest 9 he.y.1 he.y.2 (by have := he.y.2; omega)
    show (⟨restM (leb e.try_ ++ rest) false 9, !okM (leb e.try_ ++ rest) false 9, { x with try_ := valM (leb e.try_ ++ rest) false 9 }⟩ : R) = _
    rw [q1, q2, q3]; rfl
  · obtain ⟨q1, q2, q3⟩ := readU e.n rest he.n.1 (by have := he.n.2; omega)
    have hw : wrap64 e.n = e.n := by have h0 := he.n.1; have h1 := he.n.2; unfold wrap64; omega
    show (⟨restU (leb e.n ++ rest) false, !okU (leb e.n ++ rest) false, { x with n := wrap64 (valU (leb e.n ++ rest) false) }⟩ : R) = _
    rw [q1, q2, q3, hw]; rfl
  · obtain ⟨q1, q2, q3⟩ := readS e.name rest 16 (by have := he.a; omega) (by have := he.a; omega)
    show (⟨restS (putS e.name ++ rest) false 16, !okS (putS e.name ++ rest) false 16, { x with name := valS (putS e.name ++ rest) false 16 }⟩ : R) = _
    rw [q1, q2, q3]; rfl
  · obtain ⟨q1, q2, q3⟩ := readS e.key rest 16 (by have := he.k; omega) (by have := he.k; omega)
    show (⟨restS (putS e.key ++ rest) false 16, !okS (putS e.key ++ rest) false 16, { x with key := valS (putS e.key ++ rest) false 16 }⟩ : R) = _
    rw [q1, q2, q3]; rfl
  · obtain ⟨q1, q2, q3⟩ := readS e.data rest (most e.kind) hd (by omega)
    show (⟨restS (putS e.data ++ rest) false (most x.kind), !okS (putS e.data ++ rest) false (most x.kind), { x with data := valS (putS e.data ++ rest) false (most x.kind) }⟩ : R) = _
    rw [show most x.kind = most e.kind by rw [hk], q1, q2, q3]; rfl
theorem foldP_full {e : E} (he : FitsP e) (rest : List Int) : ∀ (cs : List UInt8) (x : E), (∀ c ∈ cs, Code c) → x.kind = e.kind → cs.foldl stepP ⟨cs.flatMap (field e) ++ rest, false, x⟩ = ⟨rest, false, ov e x cs⟩
  | [], x, _, _ => by simp [ov]
  | c :: cs, x, hc, hk => by
    have hC := hc c (List.mem_cons_self ..)
    rw [List.flatMap_cons, List.append_assoc, List.foldl_cons, stepP_full e c hC he _ x hk, foldP_full he rest cs _ (fun d hd => hc d (List.mem_cons_of_mem _ hd)) (by exact hk)]
    congr 1
    unfold Code at hC
    rcases hC with rfl | rfl | rfl | rfl | rfl | rfl | rfl
    · by_cases hm : (114 : UInt8) ∈ cs <;> simp [ov, hm]
    · by_cases hm : (116 : UInt8) ∈ cs <;> simp [ov, hm]
    · by_cases hm : (121 : UInt8) ∈ cs <;> simp [ov, hm]
    · by_cases hm : (110 : UInt8) ∈ cs <;> simp [ov, hm]
    · by_cases hm : (97 : UInt8) ∈ cs <;> simp [ov, hm]
    · by_cases hm : (107 : UInt8) ∈ cs <;> simp [ov, hm]
    · by_cases hm : (100 : UInt8) ∈ cs <;> simp [ov, hm]
theorem rdP_bytes {e : E} (h : Good e) (rest : List Int) : rdP (bytes e ++ rest) = ⟨rest, false, e⟩ := by
  have hk := h.kind
  obtain ⟨q1, q2, q3⟩ := readM e.kind ((codes e.kind).flatMap (field e) ++ rest) 9 (by omega) (by omega) (by omega)
  have hb : bytes e ++ rest = leb e.kind ++ ((codes e.kind).flatMap (field e) ++ rest) := by unfold bytes; rw [List.append_assoc]
  unfold rdP start
  rw [hb, q1, q2, q3]
  rw [show (!true) = false from rfl, foldP_full h.fitsP rest (codes e.kind) { zero with kind := e.kind } (codes_code _) rfl, h.ov_eq]
theorem accP_bytes {e : E} (h : Good e) : accP (bytes e) = true ∧ (rdP (bytes e)).e = e := by
  have h1 := rdP_bytes h []
  rw [List.append_nil] at h1
  unfold accP
  rw [h1]
  exact ⟨by rw [good_iff.2 h]; rfl, rfl⟩
/-- The program accepts just what the reference accepts, and reads it as the same event. -/
theorem accP_acc {zs : List Int} (hb : Byte zs) : accP zs = acc zs ∧ (acc zs = true → (rdP zs).e = (final zs).e) := by
  have key : ∀ e, Good e → zs = put e → accP zs = true ∧ acc zs = true ∧ (rdP zs).e = e ∧ (final zs).e = e := by
    rintro e h rfl
    rw [put_bytes h]
    exact ⟨(accP_bytes h).1, (acc_bytes h).1, (accP_bytes h).2, (acc_bytes h).2⟩
  cases h1 : accP zs with
  | true =>
    obtain ⟨h2, h3⟩ := accP_put hb h1
    obtain ⟨k1, k2, k3, k4⟩ := key _ (good_iff.1 h2) h3
    exact ⟨k2.symm, fun _ => k4.symm⟩
  | false =>
    cases h2 : acc zs with
    | false => exact ⟨rfl, fun h => absurd h (by decide)⟩
    | true =>
      obtain ⟨e, h3, h4⟩ := (get_iff hb).1 h2
      rw [(key e h3 h4).1] at h1
      cases h1
end Go.Proofs.YtighnooklcmjaaaDoor.Ev
