/-
  Part 8 of the texts behind the law: EvBox, EvGoodN.
-/
import Derived.Test.YtighnooklcmjaaaDoorEv7
import Derived.Deep.QuietTactic
import Derived.BigQuiet
import Derived.Deep.Cut
/-
  Events in memory: their boxes.
-/
namespace Go.Proofs.YtighnooklcmjaaaDoor
open Go.RowKit
theorem Ev.most_ge (k : Int) : 0 ≤ Ev.most k := by
  unfold Ev.most
  repeat' split
  all_goals omega
/-- An event's cells. -/
def evc (e : Ev.E) : Array Value := #[.int .i64 e.kind, .int .i64 e.run, .int .i64 e.task, .int .i64 e.try_, .int .i64 e.n, .string e.name, .string e.key, .string e.data]
structure EvIn (e : Ev.E) : Prop where
  kind : is64 e.kind
  run : is64 e.run
  task : is64 e.task
  try_ : is64 e.try_
  n : is64 e.n
  name : e.name.size ≤ 9223372036854775807
  key : e.key.size ≤ 9223372036854775807
  data : e.data.size ≤ 9223372036854775807
/-- The box of an event that a call has made, and the world besides. -/
structure Bx (w : World) (T : TypeId) (e : Ev.E) (wr : World) : Prop where
  b : Below w.heap.size w wr
  x : wr.heap[w.heap.size]? = some (.cells (evc e) T (0, 0))
theorem Bx.more {w : World} {T : TypeId} {e : Ev.E} {wr w' : World} (h : Bx w T e wr) (hb : Below wr.heap.size wr w') : Bx w T e w' :=
  ⟨h.b.trans (hb.mono h.b.size), (hb.block _ (lt_of_block h.x)).trans h.x⟩
theorem Bx.start (w : World) (T : TypeId) (e : Ev.E) : Bx w T e (w.alloc (.cells (evc e) T (0, 0))) :=
  ⟨(Below.refl _ w).alloc (Nat.le_refl _) _, by unfold World.alloc; simp⟩
theorem Bx.drew {w : World} {T : TypeId} {e : Ev.E} {wr : World} (h : Bx w T e wr) : Bx w T e wr.drew := ⟨h.b.drew, h.x⟩
/-- A world in which that box stands. (A structure of its own: the walk's simp wants 'exists p, W = p.W'.) -/
structure InBx (w : World) (T : TypeId) (e : Ev.E) where
  W : World
  h : Bx w T e W
instance (w : World) (T : TypeId) (e : Ev.E) : Inhabited (InBx w T e) := ⟨⟨_, Bx.start w T e⟩⟩
theorem wp_region_quiet_bx {P : Program} {id : Nat} {Q : Exit → Act → World → Prop} {a : Act} {wr : World} {l l2 : List Oper} {w : World} {T : TypeId} {e : Ev.E} (hX : Bx w T e wr) (hm : P.follows .mixedOrders = true) (hl : l = l2) (hB : Region.lexB .any l2.toArray = true)
    (h : wpQuiet P l2.toArray (fun w' => ∃ p : InBx w T e, w' = p.W) (fun a' => ∀ w', (∃ p : InBx w T e, w' = p.W) → Q .normal a' w') l2 a) : (Code.region id l.toArray true).wp P Q a wr := by
  subst hl
  exact wp_region_quiet (C := fun w' => ∃ p : InBx w T e, w' = p.W) hm hB ⟨⟨_, hX.drew⟩, rfl⟩ (by simpa using h)
theorem bx_call {P : Program} {f : FuncId} {args : Array Value} {w : World} {T : TypeId} {e : Ev.E} {v : Value} (h : ∀ W, Calls P f args W fun r w' => r = .returned v ∧ Below W.heap.size W w') (p : InBx w T e) :
    Calls P f args p.W fun r w' => r = .returned v ∧ ∃ q : InBx w T e, w' = q.W := (h p.W).mono fun _ w' ⟨h1, h2⟩ => ⟨h1, ⟨w', p.h.more h2⟩, rfl⟩
theorem bx_same {P : Program} {f : FuncId} {args : Array Value} {w : World} {T : TypeId} {e : Ev.E} {v : Value} (h : ∀ W, Calls P f args W fun r w' => r = .returned v ∧ W = w') (p : InBx w T e) :
    Calls P f args p.W fun r w' => r = .returned v ∧ ∃ q : InBx w T e, w' = q.W := (h p.W).mono fun _ _ ⟨h1, h2⟩ => ⟨h1, p, h2.symm⟩
theorem Bx.c {w : World} {T : TypeId} {e : Ev.E} {wr : World} (h : Bx w T e wr) :
    wr.cell? ⟨w.heap.size, 0, none⟩ = some (.int .i64 e.kind) ∧ wr.cell? ⟨w.heap.size, 1, none⟩ = some (.int .i64 e.run) ∧ wr.cell? ⟨w.heap.size, 2, none⟩ = some (.int .i64 e.task) ∧ wr.cell? ⟨w.heap.size, 3, none⟩ = some (.int .i64 e.try_) ∧
    wr.cell? ⟨w.heap.size, 4, none⟩ = some (.int .i64 e.n) ∧ wr.cell? ⟨w.heap.size, 5, none⟩ = some (.string e.name) ∧ wr.cell? ⟨w.heap.size, 6, none⟩ = some (.string e.key) ∧ wr.cell? ⟨w.heap.size, 7, none⟩ = some (.string e.data) := by
  have hx := h.x
  unfold evc at hx
  refine ⟨?_, ?_, ?_, ?_, ?_, ?_, ?_, ?_⟩ <;> simp [World.cell?, hx]
end Go.Proofs.YtighnooklcmjaaaDoor
/-
  The reference's GoodEvent at an event of kind 9.
-/
namespace Go.Proofs.YtighnooklcmjaaaDoor
open Go.RowKit
set_option maxRecDepth 100000 in
set_option maxHeartbeats 16000000 in
theorem goodEvent_nine (e : Ev.E) (he : EvIn e) (h99 : e.kind = 9) (w : World) : Calls Tryd.prog 13 #[.agg (evc e)] w fun r w' => r = .returned (.bool (Ev.good e)) ∧ Below w.heap.size w w' := by
  have X0 := Lib.hid (Bx.start w 33 e)
  have G : Hid (Ev.good e = (decide (1 ≤ e.kind ∧ e.kind ≤ 9) && (Ev.within (Ev.has e.kind 114) e.run 1 64 && (Ev.within (Ev.has e.kind 116) e.task 0 15 && (Ev.within (Ev.has e.kind 121) e.try_ 1 9 && (Ev.within (Ev.has e.kind 110) e.n 1 (Ev.top e.kind) && (Ev.goodName e.kind e.name && (Ev.goodKey e.kind e.key && Ev.goodData e.kind e.data)))))))) := Lib.hid rfl
  have GN : Hid (Ev.goodName e.kind e.name = if Ev.has e.kind 97 = true then Nm.isName e.name.data.toList else decide (e.name.size = 0)) := Lib.hid rfl
  have GK : Hid (Ev.goodKey e.kind e.key = ((Ev.has e.kind 107 && decide (e.key.size ≤ 16)) || decide (e.key.size = 0))) := Lib.hid rfl
  have GD : Hid (Ev.goodData e.kind e.data = ((Ev.has e.kind 100 && decide ((e.data.size : Int) ≤ Ev.most e.kind)) || decide (e.data.size = 0))) := Lib.hid rfl
  have FL := Lib.hid (fields_any e.kind he.kind)
  have NM := Lib.hid (refName_at e.name he.name)
  have H114 : Hid (∀ w, Calls Tryd.prog 34 #[.int .i64 e.kind, .int .u8 114] w fun r w' => r = .returned (.bool (Ev.has e.kind 114)) ∧ Below w.heap.size w w') := Lib.hid (hasField_any e.kind he.kind 114)
  have H116 : Hid (∀ w, Calls Tryd.prog 34 #[.int .i64 e.kind, .int .u8 116] w fun r w' => r = .returned (.bool (Ev.has e.kind 116)) ∧ Below w.heap.size w w') := Lib.hid (hasField_any e.kind he.kind 116)
  have H121 : Hid (∀ w, Calls Tryd.prog 34 #[.int .i64 e.kind, .int .u8 121] w fun r w' => r = .returned (.bool (Ev.has e.kind 121)) ∧ Below w.heap.size w w') := Lib.hid (hasField_any e.kind he.kind 121)
  have H110 : Hid (∀ w, Calls Tryd.prog 34 #[.int .i64 e.kind, .int .u8 110] w fun r w' => r = .returned (.bool (Ev.has e.kind 110)) ∧ Below w.heap.size w w') := Lib.hid (hasField_any e.kind he.kind 110)
  have H97 : Hid (∀ w, Calls Tryd.prog 34 #[.int .i64 e.kind, .int .u8 97] w fun r w' => r = .returned (.bool (Ev.has e.kind 97)) ∧ Below w.heap.size w w') := Lib.hid (hasField_any e.kind he.kind 97)
  have H107 : Hid (∀ w, Calls Tryd.prog 34 #[.int .i64 e.kind, .int .u8 107] w fun r w' => r = .returned (.bool (Ev.has e.kind 107)) ∧ Below w.heap.size w w') := Lib.hid (hasField_any e.kind he.kind 107)
  have H100 : Hid (∀ w, Calls Tryd.prog 34 #[.int .i64 e.kind, .int .u8 100] w fun r w' => r = .returned (.bool (Ev.has e.kind 100)) ∧ Below w.heap.size w w') := Lib.hid (hasField_any e.kind he.kind 100)
  have TP : Hid ((e.kind = 9 → Ev.top e.kind = 1048575) ∧ (e.kind ≠ 9 → Ev.top e.kind = 1099511627776)) := Lib.hid ⟨fun h => by unfold Ev.top; rw [if_pos h], fun h => by unfold Ev.top; rw [if_neg h]⟩
  have sk := he.key
  have sd := he.data
  have ml := Lib.hid (Ev.most_le e.kind)
  have mg := Ev.most_ge e.kind
  have ml2 := ml.out
  obtain ⟨k0, k1⟩ := he.kind
  clear he
  obtain ⟨kd, ru, ta, tr, n, na, ke, da⟩ := e
  simp only at *
  change Calls _ _ #[.agg #[.int .i64 kd, .int .i64 ru, .int .i64 ta, .int .i64 tr, .int .i64 n, .string na, .string ke, .string da]] _ _
  obtain ⟨W0, hW0⟩ : ∃ W0, W0 = w.alloc (.cells #[.int .i64 kd, .int .i64 ru, .int .i64 ta, .int .i64 tr, .int .i64 n, .string na, .string ke, .string da] 33) := ⟨_, rfl⟩
  change Hid (Bx w _ _ (w.alloc (.cells #[.int .i64 kd, .int .i64 ru, .int .i64 ta, .int .i64 tr, .int .i64 n, .string na, .string ke, .string da] 33))) at X0
  rw [← hW0] at X0
  have HW := Lib.hid hW0
  clear hW0
  generalize Ev.most kd = mo at *
  have D : decide (1 ≤ kd ∧ kd ≤ 9) = true := decide_eq_true (by omega)
  rw [D] at G
  have d1 : decide (1 ≤ kd) = true := decide_eq_true (by omega)
  have d9 : decide (kd ≤ 9) = true := decide_eq_true (by omega)
  clear D k0 k1
  rw [TP.out.1 h99] at G
  clear TP d1 d9
  subst h99
  go_enter Tryd.func13, Tryd.ntmps13
  go_wp2_with fail
  rw [← HW.out]
  clear HW
  refine (FL.out _).mono ?_; rintro e w1 ⟨rfl, b⟩
  have X := Lib.hid (X0.out.more b)
  clear b X0
  go_upto_region 6 with fail
  have C1 : ∀ q : InBx w 33 ⟨9, ru, ta, tr, n, na, ke, da⟩, q.W.cell? ⟨w.heap.size, 1, none⟩ = some (.int .i64 ru) := fun q => q.h.c.2.1
  have C2 : ∀ q : InBx w 33 ⟨9, ru, ta, tr, n, na, ke, da⟩, q.W.cell? ⟨w.heap.size, 2, none⟩ = some (.int .i64 ta) := fun q => q.h.c.2.2.1
  have C3 : ∀ q : InBx w 33 ⟨9, ru, ta, tr, n, na, ke, da⟩, q.W.cell? ⟨w.heap.size, 3, none⟩ = some (.int .i64 tr) := fun q => q.h.c.2.2.2.1
  have C4 : ∀ q : InBx w 33 ⟨9, ru, ta, tr, n, na, ke, da⟩, q.W.cell? ⟨w.heap.size, 4, none⟩ = some (.int .i64 n) := fun q => q.h.c.2.2.2.2.1
  have C5 : ∀ q : InBx w 33 ⟨9, ru, ta, tr, n, na, ke, da⟩, q.W.cell? ⟨w.heap.size, 5, none⟩ = some (.string na) := fun q => q.h.c.2.2.2.2.2.1
  have C6 : ∀ q : InBx w 33 ⟨9, ru, ta, tr, n, na, ke, da⟩, q.W.cell? ⟨w.heap.size, 6, none⟩ = some (.string ke) := fun q => q.h.c.2.2.2.2.2.2.1
  have C7 : ∀ q : InBx w 33 ⟨9, ru, ta, tr, n, na, ke, da⟩, q.W.cell? ⟨w.heap.size, 7, none⟩ = some (.string da) := fun q => q.h.c.2.2.2.2.2.2.2
  refine wp_region_quiet_bx (l2 := ?evl3) X.out (by kernel_rfl) ?evh3 ?evb3 ?evg3
  case evh3 => (simp only [List.append_eq, List.cons_append, List.nil_append]; exact rfl)
  case evb3 => kernel_rfl
  repeat (go_big_quiet_step (fail))
  go_big_quiet_step ((go_at_call 34; exact bx_call H114.out _))
  repeat (go_big_quiet_step (fail))
  go_big_quiet_step ((go_at_call 33; exact bx_same (within_any _ _ _ _) _))
  generalize Ev.within (Ev.has 9 114) ru 1 64 = b at *
  cases b
  · have st := 0
    clear st
    repeat (go_big_quiet_step (fail))
    refine wpQuiet_nil ?_
    intro _ hw'
    obtain ⟨⟨W, hW⟩, rfl⟩ := hw'
    go_wp2
    go_ret
    exact ⟨ret_bool (by rw [G.out]; simp), hW.b⟩
  repeat (go_big_quiet_step (fail))
  go_big_quiet_step ((go_at_call 34; exact bx_call H116.out _))
  repeat (go_big_quiet_step (fail))
  go_big_quiet_step ((go_at_call 33; exact bx_same (within_any _ _ _ _) _))
  generalize Ev.within (Ev.has 9 116) ta 0 15 = b at *
  cases b
  · have st := 0
    clear st
    repeat (go_big_quiet_step (fail))
    refine wpQuiet_nil ?_
    intro _ hw'
    obtain ⟨⟨W, hW⟩, rfl⟩ := hw'
    go_wp2
    go_ret
    exact ⟨ret_bool (by rw [G.out]; simp), hW.b⟩
  repeat (go_big_quiet_step (fail))
  go_big_quiet_step ((go_at_call 34; exact bx_call H121.out _))
  repeat (go_big_quiet_step (fail))
  go_big_quiet_step ((go_at_call 33; exact bx_same (within_any _ _ _ _) _))
  generalize Ev.within (Ev.has 9 121) tr 1 9 = b at *
  cases b
  · have st := 0
    clear st
    repeat (go_big_quiet_step (fail))
    refine wpQuiet_nil ?_
    intro _ hw'
    obtain ⟨⟨W, hW⟩, rfl⟩ := hw'
    go_wp2
    go_ret
    exact ⟨ret_bool (by rw [G.out]; simp), hW.b⟩
  repeat (go_big_quiet_step (fail))
  go_big_quiet_step ((go_at_call 34; exact bx_call H110.out _))
  repeat (go_big_quiet_step (fail))
  go_big_quiet_step ((go_at_call 33; exact bx_same (within_any _ _ _ _) _))
  generalize Ev.within (Ev.has 9 110) n 1 1048575 = b at *
  cases b
  · have st := 0
    clear st
    repeat (go_big_quiet_step (fail))
    refine wpQuiet_nil ?_
    intro _ hw'
    obtain ⟨⟨W, hW⟩, rfl⟩ := hw'
    go_wp2
    go_ret
    exact ⟨ret_bool (by rw [G.out]; simp), hW.b⟩
  repeat (go_big_quiet_step (fail))
  go_big_quiet_step ((go_at_call 34; exact bx_call H97.out _))
  generalize hh : Ev.has 9 97 = h at *
  cases h
  · have st := 0
    clear st
    repeat (go_big_quiet_step (fail))
    go_big_quiet_step ((go_at_call 34; exact bx_call H97.out _))
    by_cases hn : na.size = 0
    · obtain rfl := emptyB hn
      have GN' : Ev.goodName 9 ⟨#[]⟩ = true := by rw [GN.out]; rfl
      rw [GN'] at G
      clear GN' GN hn
      repeat (go_big_quiet_step (fail))
      go_big_quiet_step ((go_at_call 34; exact bx_call H107.out _))
      generalize Ev.has 9 107 = h at *
      cases h
      · have st := 0
        clear st
        by_cases hk0 : ke.size = 0
        · obtain rfl := emptyB hk0
          have GK' : Ev.goodKey 9 ⟨#[]⟩ = true := by rw [GK.out]; rfl
          rw [GK'] at G
          clear GK' GK hk0
          repeat (go_big_quiet_step (fail))
          go_big_quiet_step ((go_at_call 34; exact bx_call H100.out _))
          generalize Ev.has 9 100 = h at *
          cases h
          · have st := 0
            clear st
            by_cases hd0 : da.size = 0
            · obtain rfl := emptyB hd0
              have GD' : Ev.goodData 9 ⟨#[]⟩ = true := by rw [GD.out]; rfl
              rw [GD'] at G
              clear GD' GD hd0
              repeat (go_big_quiet_step (fail))
              refine wpQuiet_nil ?_
              intro _ hw'
              obtain ⟨⟨W, hW⟩, rfl⟩ := hw'
              go_wp2
              go_ret
              exact ⟨ret_bool (by rw [G.out]; simp), hW.b⟩
            · obtain ⟨q3, q4⟩ := nonemptyB hd0
              have GD' : Ev.goodData 9 da = false := by rw [GD.out, decide_eq_false hd0]; rfl
              rw [GD'] at G
              clear GD' GD hd0
              repeat (go_big_quiet_step (fail))
              refine wpQuiet_nil ?_
              intro _ hw'
              obtain ⟨⟨W, hW⟩, rfl⟩ := hw'
              go_wp2
              go_ret
              exact ⟨ret_bool (by rw [G.out]; simp), hW.b⟩
          · have st := 0
            clear st
            by_cases hm : (da.size : Int) ≤ mo
            · have GD' : Ev.goodData 9 da = true := by rw [GD.out, decide_eq_true hm]; rfl
              rw [GD'] at G
              have hm' : decide ((da.size : Int) ≤ mo) = true := decide_eq_true hm
              clear hm GD' GD
              repeat (go_big_quiet_step (fail))
              (try simp only [hm'])
              repeat (go_big_quiet_step (fail))
              refine wpQuiet_nil ?_
              intro _ hw'
              obtain ⟨⟨W, hW⟩, rfl⟩ := hw'
              go_wp2
              go_ret
              exact ⟨ret_bool (by rw [G.out]; simp), hW.b⟩
            · have hd0 : ¬ da.size = 0 := by omega
              obtain ⟨q3, q4⟩ := nonemptyB hd0
              have GD' : Ev.goodData 9 da = false := by rw [GD.out, decide_eq_false hm, decide_eq_false hd0]; rfl
              rw [GD'] at G
              have hm' : decide ((da.size : Int) ≤ mo) = false := decide_eq_false hm
              clear hm GD' GD hd0
              repeat (go_big_quiet_step (fail))
              (try simp only [hm'])
              repeat (go_big_quiet_step (fail))
              refine wpQuiet_nil ?_
              intro _ hw'
              obtain ⟨⟨W, hW⟩, rfl⟩ := hw'
              go_wp2
              go_ret
              exact ⟨ret_bool (by rw [G.out]; simp), hW.b⟩
        · obtain ⟨q1, q2⟩ := nonemptyB hk0
          have GK' : Ev.goodKey 9 ke = false := by rw [GK.out, decide_eq_false hk0]; rfl
          rw [GK'] at G
          clear GK' GK hk0
          repeat (go_big_quiet_step (fail))
          (try simp only [q1])
          repeat (go_big_quiet_step (fail))
          (try simp only [q2])
          repeat (go_big_quiet_step (fail))
          refine wpQuiet_nil ?_
          intro _ hw'
          obtain ⟨⟨W, hW⟩, rfl⟩ := hw'
          go_wp2
          go_ret
          exact ⟨ret_bool (by rw [G.out]; simp), hW.b⟩
      · have st := 0
        clear st
        by_cases h16 : ke.size ≤ 16
        · have GK' : Ev.goodKey 9 ke = true := by rw [GK.out, decide_eq_true h16]; rfl
          rw [GK'] at G
          have h16' : decide ((ke.size : Int) ≤ 16) = true := decide_eq_true (by omega)
          clear h16 GK' GK
          repeat (go_big_quiet_step (fail))
          (try simp only [h16'])
          repeat (go_big_quiet_step (fail))
          go_big_quiet_step ((go_at_call 34; exact bx_call H100.out _))
          generalize Ev.has 9 100 = h at *
          cases h
          · have st := 0
            clear st
            by_cases hd0 : da.size = 0
            · obtain rfl := emptyB hd0
              have GD' : Ev.goodData 9 ⟨#[]⟩ = true := by rw [GD.out]; rfl
              rw [GD'] at G
              clear GD' GD hd0
              repeat (go_big_quiet_step (fail))
              refine wpQuiet_nil ?_
              intro _ hw'
              obtain ⟨⟨W, hW⟩, rfl⟩ := hw'
              go_wp2
              go_ret
              exact ⟨ret_bool (by rw [G.out]; simp), hW.b⟩
            · obtain ⟨q3, q4⟩ := nonemptyB hd0
              have GD' : Ev.goodData 9 da = false := by rw [GD.out, decide_eq_false hd0]; rfl
              rw [GD'] at G
              clear GD' GD hd0
              repeat (go_big_quiet_step (fail))
              refine wpQuiet_nil ?_
              intro _ hw'
              obtain ⟨⟨W, hW⟩, rfl⟩ := hw'
              go_wp2
              go_ret
              exact ⟨ret_bool (by rw [G.out]; simp), hW.b⟩
          · have st := 0
            clear st
            by_cases hm : (da.size : Int) ≤ mo
            · have GD' : Ev.goodData 9 da = true := by rw [GD.out, decide_eq_true hm]; rfl
              rw [GD'] at G
              have hm' : decide ((da.size : Int) ≤ mo) = true := decide_eq_true hm
              clear hm GD' GD
              repeat (go_big_quiet_step (fail))
              (try simp only [hm'])
              repeat (go_big_quiet_step (fail))
              refine wpQuiet_nil ?_
              intro _ hw'
              obtain ⟨⟨W, hW⟩, rfl⟩ := hw'
              go_wp2
              go_ret
              exact ⟨ret_bool (by rw [G.out]; simp), hW.b⟩
            · have hd0 : ¬ da.size = 0 := by omega
              obtain ⟨q3, q4⟩ := nonemptyB hd0
              have GD' : Ev.goodData 9 da = false := by rw [GD.out, decide_eq_false hm, decide_eq_false hd0]; rfl
              rw [GD'] at G
              have hm' : decide ((da.size : Int) ≤ mo) = false := decide_eq_false hm
              clear hm GD' GD hd0
              repeat (go_big_quiet_step (fail))
              (try simp only [hm'])
              repeat (go_big_quiet_step (fail))
              refine wpQuiet_nil ?_
              intro _ hw'
              obtain ⟨⟨W, hW⟩, rfl⟩ := hw'
              go_wp2
              go_ret
              exact ⟨ret_bool (by rw [G.out]; simp), hW.b⟩
        · have hk0 : ¬ ke.size = 0 := by omega
          obtain ⟨q1, q2⟩ := nonemptyB hk0
          have GK' : Ev.goodKey 9 ke = false := by rw [GK.out, decide_eq_false h16, decide_eq_false hk0]; rfl
          rw [GK'] at G
          have h16' : decide ((ke.size : Int) ≤ 16) = false := decide_eq_false (by omega)
          clear h16 GK' GK hk0
          repeat (go_big_quiet_step (fail))
          (try simp only [h16'])
          repeat (go_big_quiet_step (fail))
          refine wpQuiet_nil ?_
          intro _ hw'
          obtain ⟨⟨W, hW⟩, rfl⟩ := hw'
          go_wp2
          go_ret
          exact ⟨ret_bool (by rw [G.out]; simp), hW.b⟩
    · obtain ⟨q1, q2⟩ := nonemptyB hn
      have GN' : Ev.goodName 9 na = false := by rw [GN.out, if_neg (by decide)]; exact decide_eq_false hn
      rw [GN'] at G
      clear GN' GN hn
      repeat (go_big_quiet_step (fail))
      refine wpQuiet_nil ?_
      intro _ hw'
      obtain ⟨⟨W, hW⟩, rfl⟩ := hw'
      go_wp2
      go_ret
      exact ⟨ret_bool (by rw [G.out]; simp), hW.b⟩
  · have GN' := GN.out
    rw [if_pos rfl] at GN'
    rw [GN'] at G
    clear GN' GN
    repeat (go_big_quiet_step (fail))
    go_big_quiet_step ((go_at_call 35; exact bx_same NM.out _))
    generalize Nm.isName na.data.toList = b at *
    cases b
    · have st := 0
      clear st
      repeat (go_big_quiet_step (fail))
      go_big_quiet_step ((go_at_call 34; exact bx_call H97.out _))
      repeat (go_big_quiet_step (fail))
      refine wpQuiet_nil ?_
      intro _ hw'
      obtain ⟨⟨W, hW⟩, rfl⟩ := hw'
      go_wp2
      go_ret
      exact ⟨ret_bool (by rw [G.out]; simp), hW.b⟩
    · have st := 0
      clear st
      repeat (go_big_quiet_step (fail))
      go_big_quiet_step ((go_at_call 34; exact bx_call H107.out _))
      generalize Ev.has 9 107 = h at *
      cases h
      · have st := 0
        clear st
        by_cases hk0 : ke.size = 0
        · obtain rfl := emptyB hk0
          have GK' : Ev.goodKey 9 ⟨#[]⟩ = true := by rw [GK.out]; rfl
          rw [GK'] at G
          clear GK' GK hk0
          repeat (go_big_quiet_step (fail))
          go_big_quiet_step ((go_at_call 34; exact bx_call H100.out _))
          generalize Ev.has 9 100 = h at *
          cases h
          · have st := 0
            clear st
            by_cases hd0 : da.size = 0
            · obtain rfl := emptyB hd0
              have GD' : Ev.goodData 9 ⟨#[]⟩ = true := by rw [GD.out]; rfl
              rw [GD'] at G
              clear GD' GD hd0
              repeat (go_big_quiet_step (fail))
              refine wpQuiet_nil ?_
              intro _ hw'
              obtain ⟨⟨W, hW⟩, rfl⟩ := hw'
              go_wp2
              go_ret
              exact ⟨ret_bool (by rw [G.out]; simp), hW.b⟩
            · obtain ⟨q3, q4⟩ := nonemptyB hd0
              have GD' : Ev.goodData 9 da = false := by rw [GD.out, decide_eq_false hd0]; rfl
              rw [GD'] at G
              clear GD' GD hd0
              repeat (go_big_quiet_step (fail))
              refine wpQuiet_nil ?_
              intro _ hw'
              obtain ⟨⟨W, hW⟩, rfl⟩ := hw'
              go_wp2
              go_ret
              exact ⟨ret_bool (by rw [G.out]; simp), hW.b⟩
          · have st := 0
            clear st
            by_cases hm : (da.size : Int) ≤ mo
            · have GD' : Ev.goodData 9 da = true := by rw [GD.out, decide_eq_true hm]; rfl
              rw [GD'] at G
              have hm' : decide ((da.size : Int) ≤ mo) = true := decide_eq_true hm
              clear hm GD' GD
              repeat (go_big_quiet_step (fail))
              (try simp only [hm'])
              repeat (go_big_quiet_step (fail))
              refine wpQuiet_nil ?_
              intro _ hw'
              obtain ⟨⟨W, hW⟩, rfl⟩ := hw'
              go_wp2
              go_ret
              exact ⟨ret_bool (by rw [G.out]; simp), hW.b⟩
            · have hd0 : ¬ da.size = 0 := by omega
              obtain ⟨q3, q4⟩ := nonemptyB hd0
              have GD' : Ev.goodData 9 da = false := by rw [GD.out, decide_eq_false hm, decide_eq_false hd0]; rfl
              rw [GD'] at G
              have hm' : decide ((da.size : Int) ≤ mo) = false := decide_eq_false hm
              clear hm GD' GD hd0
              repeat (go_big_quiet_step (fail))
              (try simp only [hm'])
              repeat (go_big_quiet_step (fail))
              refine wpQuiet_nil ?_
              intro _ hw'
              obtain ⟨⟨W, hW⟩, rfl⟩ := hw'
              go_wp2
              go_ret
              exact ⟨ret_bool (by rw [G.out]; simp), hW.b⟩
        · obtain ⟨q1, q2⟩ := nonemptyB hk0
          have GK' : Ev.goodKey 9 ke = false := by rw [GK.out, decide_eq_false hk0]; rfl
          rw [GK'] at G
          clear GK' GK hk0
          repeat (go_big_quiet_step (fail))
          (try simp only [q1])
          repeat (go_big_quiet_step (fail))
          (try simp only [q2])
          repeat (go_big_quiet_step (fail))
          refine wpQuiet_nil ?_
          intro _ hw'
          obtain ⟨⟨W, hW⟩, rfl⟩ := hw'
          go_wp2
          go_ret
          exact ⟨ret_bool (by rw [G.out]; simp), hW.b⟩
      · have st := 0
        clear st
        by_cases h16 : ke.size ≤ 16
        · have GK' : Ev.goodKey 9 ke = true := by rw [GK.out, decide_eq_true h16]; rfl
          rw [GK'] at G
          have h16' : decide ((ke.size : Int) ≤ 16) = true := decide_eq_true (by omega)
          clear h16 GK' GK
          repeat (go_big_quiet_step (fail))
          (try simp only [h16'])
          repeat (go_big_quiet_step (fail))
          go_big_quiet_step ((go_at_call 34; exact bx_call H100.out _))
          generalize Ev.has 9 100 = h at *
          cases h
          · have st := 0
            clear st
            by_cases hd0 : da.size = 0
            · obtain rfl := emptyB hd0
              have GD' : Ev.goodData 9 ⟨#[]⟩ = true := by rw [GD.out]; rfl
              rw [GD'] at G
              clear GD' GD hd0
              repeat (go_big_quiet_step (fail))
              refine wpQuiet_nil ?_
              intro _ hw'
              obtain ⟨⟨W, hW⟩, rfl⟩ := hw'
              go_wp2
              go_ret
              exact ⟨ret_bool (by rw [G.out]; simp), hW.b⟩
            · obtain ⟨q3, q4⟩ := nonemptyB hd0
              have GD' : Ev.goodData 9 da = false := by rw [GD.out, decide_eq_false hd0]; rfl
              rw [GD'] at G
              clear GD' GD hd0
              repeat (go_big_quiet_step (fail))
              refine wpQuiet_nil ?_
              intro _ hw'
              obtain ⟨⟨W, hW⟩, rfl⟩ := hw'
              go_wp2
              go_ret
              exact ⟨ret_bool (by rw [G.out]; simp), hW.b⟩
          · have st := 0
            clear st
            by_cases hm : (da.size : Int) ≤ mo
            · have GD' : Ev.goodData 9 da = true := by rw [GD.out, decide_eq_true hm]; rfl
              rw [GD'] at G
              have hm' : decide ((da.size : Int) ≤ mo) = true := decide_eq_true hm
              clear hm GD' GD
              repeat (go_big_quiet_step (fail))
              (try simp only [hm'])
              repeat (go_big_quiet_step (fail))
              refine wpQuiet_nil ?_
              intro _ hw'
              obtain ⟨⟨W, hW⟩, rfl⟩ := hw'
              go_wp2
              go_ret
              exact ⟨ret_bool (by rw [G.out]; simp), hW.b⟩
            · have hd0 : ¬ da.size = 0 := by omega
              obtain ⟨q3, q4⟩ := nonemptyB hd0
              have GD' : Ev.goodData 9 da = false := by rw [GD.out, decide_eq_false hm, decide_eq_false hd0]; rfl
              rw [GD'] at G
              have hm' : decide ((da.size : Int) ≤ mo) = false := decide_eq_false hm
              clear hm GD' GD hd0
              repeat (go_big_quiet_step (fail))
              (try simp only [hm'])
              repeat (go_big_quiet_step (fail))
              refine wpQuiet_nil ?_
              intro _ hw'
              obtain ⟨⟨W, hW⟩, rfl⟩ := hw'
              go_wp2
              go_ret
              exact ⟨ret_bool (by rw [G.out]; simp), hW.b⟩
        · have hk0 : ¬ ke.size = 0 := by omega
          obtain ⟨q1, q2⟩ := nonemptyB hk0
          have GK' : Ev.goodKey 9 ke = false := by rw [GK.out, decide_eq_false h16, decide_eq_false hk0]; rfl
          rw [GK'] at G
          have h16' : decide ((ke.size : Int) ≤ 16) = false := decide_eq_false (by omega)
          clear h16 GK' GK hk0
          repeat (go_big_quiet_step (fail))
          (try simp only [h16'])
          repeat (go_big_quiet_step (fail))
          refine wpQuiet_nil ?_
          intro _ hw'
          obtain ⟨⟨W, hW⟩, rfl⟩ := hw'
          go_wp2
          go_ret
          exact ⟨ret_bool (by rw [G.out]; simp), hW.b⟩
end Go.Proofs.YtighnooklcmjaaaDoor
