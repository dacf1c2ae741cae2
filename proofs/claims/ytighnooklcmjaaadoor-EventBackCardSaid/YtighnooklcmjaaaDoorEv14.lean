/-
  Part 14 of the texts behind the law: EvGood, EvPutRef.
-/
import Derived.Test.YtighnooklcmjaaaDoorEv8
import Derived.Test.YtighnooklcmjaaaDoorEv12
/-
  The reference's GoodEvent at every event.
-/
namespace Go.Proofs.YtighnooklcmjaaaDoor
open Go.RowKit
set_option maxRecDepth 100000 in
set_option maxHeartbeats 16000000 in
theorem goodEvent_any (e : Ev.E) (he : EvIn e) (w : World) : Calls Tryd.prog 13 #[.agg (evc e)] w fun r w' => r = .returned (.bool (Ev.good e)) ∧ Below w.heap.size w w' := by
  by_cases hn : e.kind = 9
  · exact goodEvent_nine e he hn w
  have X0 := Lib.hid (Bx.start w 33 e)
  have G : Hid (Ev.good e = (decide (1 ≤ e.kind ∧ e.kind ≤ 9) && (Ev.within (Ev.has e.kind 114) e.run 1 64 && (Ev.within (Ev.has e.kind 116) e.task 0 15 && (Ev.within (Ev.has e.kind 121) e.try_ 1 9 && (Ev.within (Ev.has e.kind 110) e.n 1 (Ev.top e.kind) && (Ev.goodName e.kind e.name && (Ev.goodKey e.kind e.key && Ev.goodData e.kind e.data)))))))) := Lib.hid rfl
  have GN : Hid (Ev.goodName e.kind e.name = if Ev.has e.kind 97 = true then Nm.isName e.name.data.toList else decide (e.name.size = 0)) := Lib.hid rfl
  have GK : Hid (Ev.goodKey e.kind e.key = ((Ev.has e.kind 107 && decide (e.key.size ≤ 16)) || decide (e.key.size = 0))) := Lib.hid rfl
  have GD : Hid (Ev.goodData e.kind e.data = ((Ev.has e.kind 100 && decide ((e.data.size : Int) ≤ Ev.most e.kind)) || decide (e.data.size = 0))) := Lib.hid rfl
  have FL := Lib.hid (fields_any e.kind he.kind)
  have NM := Lib.hid (refName_at e.name he.name)
  have H114 : Hid (∀ w, Calls Tryd.prog 34 #[.int .i64 e.kind, .int .u8 114] w fun r w' => r = .returned (.bool (Ev.has e.kind 114)) ∧ Below w.heap.size w w') := Lib.hid (hasField_any e.kind he.kind 114)
  have H116 : Hid (∀ w, Calls Tryd.prog 34 #[.int .i64 e.kind, .int .u8 116] w fun r w' => r = .returned (.bool (Ev.has e.kind 116)) ∧ Below w.heap.size w w') := Lib.hid (hasField_any e.kind he.kind 116)
  have H121 : Hid (∀ w, Calls Tryd.prog 34 #[.int .i64 e.kind, .int .u8 121] w fun r w' => r = .returned (.bool (Ev.has e.kind 121)) ∧ Below w.heap.size w w') := Lib.hid (hasField_any e.kind he.kind 121)
  have H110 : Hid (∀ w, Calls Tryd.prog 34 #[.int .i64 e.kind, .int .u8 110] w fun r w' => r = .returned (.bool (Ev.has e.kind 110)) ∧ Below w.heap.size w w') := Lib.hid (hasField_any e.kind he.kind 110)
  have H97 : Hid (∀ w, Calls Tryd.prog 34 #[.int .i64 e.kind, .int .u8 97] w fun r w' => r = .returned (.bool (Ev.has e.kind 97)) ∧ Below w.heap.size w w') := Lib.hid (hasField_any e.kind he.kind 97)
  have H107 : Hid (∀ w, Calls Tryd.prog 34 #[.int .i64 e.kind, .int .u8 107] w fun r w' => r = .returned (.bool (Ev.has e.kind 107)) ∧ Below w.heap.size w w') := Lib.hid (hasField_any e.kind he.kind 107)
  have H100 : Hid (∀ w, Calls Tryd.prog 34 #[.int .i64 e.kind, .int .u8 100] w fun r w' => r = .returned (.bool (Ev.has e.kind 100)) ∧ Below w.heap.size w w') := Lib.hid (hasField_any e.kind he.kind 100)
  have TP : Hid ((e.kind = 9 → Ev.top e.kind = 1048575) ∧ (e.kind ≠ 9 → Ev.top e.kind = 1099511627776)) := Lib.hid ⟨fun h => by unfold Ev.top; rw [if_pos h], fun h => by unfold Ev.top; rw [if_neg h]⟩
  have sk := he.key
  have sd := he.data
  have ml := Lib.hid (Ev.most_le e.kind)
  have mg := Ev.most_ge e.kind
  have ml2 := ml.out
  obtain ⟨k0, k1⟩ := he.kind
  clear he
  obtain ⟨kd, ru, ta, tr, n, na, ke, da⟩ := e
  simp only at *
  change Calls _ _ #[.agg #[.int .i64 kd, .int .i64 ru, .int .i64 ta, .int .i64 tr, .int .i64 n, .string na, .string ke, .string da]] _ _
  obtain ⟨W0, hW0⟩ : ∃ W0, W0 = w.alloc (.cells #[.int .i64 kd, .int .i64 ru, .int .i64 ta, .int .i64 tr, .int .i64 n, .string na, .string ke, .string da] 33) := ⟨_, rfl⟩
  change Hid (Bx w _ _ (w.alloc (.cells #[.int .i64 kd, .int .i64 ru, .int .i64 ta, .int .i64 tr, .int .i64 n, .string na, .string ke, .string da] 33))) at X0
  rw [← hW0] at X0
  have HW := Lib.hid hW0
  clear hW0
  generalize Ev.most kd = mo at *
  by_cases h1 : kd < 1
  · have D : decide (1 ≤ kd ∧ kd ≤ 9) = false := decide_eq_false (by omega)
    rw [D] at G
    have h99 : ¬ kd = 9 := by omega
    have d1 : decide (1 ≤ kd) = false := decide_eq_false (by omega)
    clear D
    go_enter Tryd.func13, Tryd.ntmps13
    go_wp2_with fail
    rw [← HW.out]
    clear HW
    refine (FL.out _).mono ?_; rintro e w1 ⟨rfl, b⟩
    have X := Lib.hid (X0.out.more b)
    clear b X0
    go_upto_region 6 with fail
    have C1 : ∀ q : InBx w 33 ⟨kd, ru, ta, tr, n, na, ke, da⟩, q.W.cell? ⟨w.heap.size, 1, none⟩ = some (.int .i64 ru) := fun q => q.h.c.2.1
    have C2 : ∀ q : InBx w 33 ⟨kd, ru, ta, tr, n, na, ke, da⟩, q.W.cell? ⟨w.heap.size, 2, none⟩ = some (.int .i64 ta) := fun q => q.h.c.2.2.1
    have C3 : ∀ q : InBx w 33 ⟨kd, ru, ta, tr, n, na, ke, da⟩, q.W.cell? ⟨w.heap.size, 3, none⟩ = some (.int .i64 tr) := fun q => q.h.c.2.2.2.1
    have C4 : ∀ q : InBx w 33 ⟨kd, ru, ta, tr, n, na, ke, da⟩, q.W.cell? ⟨w.heap.size, 4, none⟩ = some (.int .i64 n) := fun q => q.h.c.2.2.2.2.1
    have C5 : ∀ q : InBx w 33 ⟨kd, ru, ta, tr, n, na, ke, da⟩, q.W.cell? ⟨w.heap.size, 5, none⟩ = some (.string na) := fun q => q.h.c.2.2.2.2.2.1
    have C6 : ∀ q : InBx w 33 ⟨kd, ru, ta, tr, n, na, ke, da⟩, q.W.cell? ⟨w.heap.size, 6, none⟩ = some (.string ke) := fun q => q.h.c.2.2.2.2.2.2.1
    have C7 : ∀ q : InBx w 33 ⟨kd, ru, ta, tr, n, na, ke, da⟩, q.W.cell? ⟨w.heap.size, 7, none⟩ = some (.string da) := fun q => q.h.c.2.2.2.2.2.2.2
    refine wp_region_quiet_bx (l2 := ?evl1) X.out (by kernel_rfl) ?evh1 ?evb1 ?evg1
    case evh1 => (simp only [List.append_eq, List.cons_append, List.nil_append]; exact rfl)
    case evb1 => kernel_rfl
    repeat (go_big_quiet_step (fail))
    (try simp only [d1])
    repeat (go_big_quiet_step (fail))
    refine wpQuiet_nil ?_
    intro _ hw'
    obtain ⟨⟨W, hW⟩, rfl⟩ := hw'
    go_wp2
    go_ret
    exact ⟨ret_bool (by rw [G.out]; simp), hW.b⟩
  by_cases h9 : 9 < kd
  · have D : decide (1 ≤ kd ∧ kd ≤ 9) = false := decide_eq_false (by omega)
    rw [D] at G
    have h99 : ¬ kd = 9 := by omega
    have d1 : decide (1 ≤ kd) = true := decide_eq_true (by omega)
    have d9 : decide (kd ≤ 9) = false := decide_eq_false (by omega)
    clear h1
    clear D
    go_enter Tryd.func13, Tryd.ntmps13
    go_wp2_with fail
    rw [← HW.out]
    clear HW
    refine (FL.out _).mono ?_; rintro e w1 ⟨rfl, b⟩
    have X := Lib.hid (X0.out.more b)
    clear b X0
    go_upto_region 6 with fail
    have C1 : ∀ q : InBx w 33 ⟨kd, ru, ta, tr, n, na, ke, da⟩, q.W.cell? ⟨w.heap.size, 1, none⟩ = some (.int .i64 ru) := fun q => q.h.c.2.1
    have C2 : ∀ q : InBx w 33 ⟨kd, ru, ta, tr, n, na, ke, da⟩, q.W.cell? ⟨w.heap.size, 2, none⟩ = some (.int .i64 ta) := fun q => q.h.c.2.2.1
    have C3 : ∀ q : InBx w 33 ⟨kd, ru, ta, tr, n, na, ke, da⟩, q.W.cell? ⟨w.heap.size, 3, none⟩ = some (.int .i64 tr) := fun q => q.h.c.2.2.2.1
    have C4 : ∀ q : InBx w 33 ⟨kd, ru, ta, tr, n, na, ke, da⟩, q.W.cell? ⟨w.heap.size, 4, none⟩ = some (.int .i64 n) := fun q => q.h.c.2.2.2.2.1
    have C5 : ∀ q : InBx w 33 ⟨kd, ru, ta, tr, n, na, ke, da⟩, q.W.cell? ⟨w.heap.size, 5, none⟩ = some (.string na) := fun q => q.h.c.2.2.2.2.2.1
    have C6 : ∀ q : InBx w 33 ⟨kd, ru, ta, tr, n, na, ke, da⟩, q.W.cell? ⟨w.heap.size, 6, none⟩ = some (.string ke) := fun q => q.h.c.2.2.2.2.2.2.1
    have C7 : ∀ q : InBx w 33 ⟨kd, ru, ta, tr, n, na, ke, da⟩, q.W.cell? ⟨w.heap.size, 7, none⟩ = some (.string da) := fun q => q.h.c.2.2.2.2.2.2.2
    refine wp_region_quiet_bx (l2 := ?evl2) X.out (by kernel_rfl) ?evh2 ?evb2 ?evg2
    case evh2 => (simp only [List.append_eq, List.cons_append, List.nil_append]; exact rfl)
    case evb2 => kernel_rfl
    repeat (go_big_quiet_step (fail))
    (try simp only [d1])
    repeat (go_big_quiet_step (fail))
    (try simp only [d9])
    repeat (go_big_quiet_step (fail))
    refine wpQuiet_nil ?_
    intro _ hw'
    obtain ⟨⟨W, hW⟩, rfl⟩ := hw'
    go_wp2
    go_ret
    exact ⟨ret_bool (by rw [G.out]; simp), hW.b⟩
  have D : decide (1 ≤ kd ∧ kd ≤ 9) = true := decide_eq_true (by omega)
  rw [D] at G
  have d1 : decide (1 ≤ kd) = true := decide_eq_true (by omega)
  have d9 : decide (kd ≤ 9) = true := decide_eq_true (by omega)
  clear D h1 h9 k0 k1
  have h99 : ¬ kd = 9 := hn
  rw [TP.out.2 h99] at G
  clear TP
  go_enter Tryd.func13, Tryd.ntmps13
  go_wp2_with fail
  rw [← HW.out]
  clear HW
  refine (FL.out _).mono ?_; rintro e w1 ⟨rfl, b⟩
  have X := Lib.hid (X0.out.more b)
  clear b X0
  go_upto_region 6 with fail
  have C1 : ∀ q : InBx w 33 ⟨kd, ru, ta, tr, n, na, ke, da⟩, q.W.cell? ⟨w.heap.size, 1, none⟩ = some (.int .i64 ru) := fun q => q.h.c.2.1
  have C2 : ∀ q : InBx w 33 ⟨kd, ru, ta, tr, n, na, ke, da⟩, q.W.cell? ⟨w.heap.size, 2, none⟩ = some (.int .i64 ta) := fun q => q.h.c.2.2.1
  have C3 : ∀ q : InBx w 33 ⟨kd, ru, ta, tr, n, na, ke, da⟩, q.W.cell? ⟨w.heap.size, 3, none⟩ = some (.int .i64 tr) := fun q => q.h.c.2.2.2.1
  have C4 : ∀ q : InBx w 33 ⟨kd, ru, ta, tr, n, na, ke, da⟩, q.W.cell? ⟨w.heap.size, 4, none⟩ = some (.int .i64 n) := fun q => q.h.c.2.2.2.2.1
  have C5 : ∀ q : InBx w 33 ⟨kd, ru, ta, tr, n, na, ke, da⟩, q.W.cell? ⟨w.heap.size, 5, none⟩ = some (.string na) := fun q => q.h.c.2.2.2.2.2.1
  have C6 : ∀ q : InBx w 33 ⟨kd, ru, ta, tr, n, na, ke, da⟩, q.W.cell? ⟨w.heap.size, 6, none⟩ = some (.string ke) := fun q => q.h.c.2.2.2.2.2.2.1
  have C7 : ∀ q : InBx w 33 ⟨kd, ru, ta, tr, n, na, ke, da⟩, q.W.cell? ⟨w.heap.size, 7, none⟩ = some (.string da) := fun q => q.h.c.2.2.2.2.2.2.2
  refine wp_region_quiet_bx (l2 := ?evl4) X.out (by kernel_rfl) ?evh4 ?evb4 ?evg4
  case evh4 => (simp only [List.append_eq, List.cons_append, List.nil_append]; exact rfl)
  case evb4 => kernel_rfl
  repeat (go_big_quiet_step (fail))
  (try simp only [d1])
  repeat (go_big_quiet_step (fail))
  (try simp only [d9])
  repeat (go_big_quiet_step (fail))
  go_big_quiet_step ((go_at_call 34; exact bx_call H114.out _))
  repeat (go_big_quiet_step (fail))
  go_big_quiet_step ((go_at_call 33; exact bx_same (within_any _ _ _ _) _))
  generalize Ev.within (Ev.has kd 114) ru 1 64 = b at *
  cases b
  · have st := 0
    clear st
    repeat (go_big_quiet_step (fail))
    refine wpQuiet_nil ?_
    intro _ hw'
    obtain ⟨⟨W, hW⟩, rfl⟩ := hw'
    go_wp2
    go_ret
    exact ⟨ret_bool (by rw [G.out]; simp), hW.b⟩
  repeat (go_big_quiet_step (fail))
  go_big_quiet_step ((go_at_call 34; exact bx_call H116.out _))
  repeat (go_big_quiet_step (fail))
  go_big_quiet_step ((go_at_call 33; exact bx_same (within_any _ _ _ _) _))
  generalize Ev.within (Ev.has kd 116) ta 0 15 = b at *
  cases b
  · have st := 0
    clear st
    repeat (go_big_quiet_step (fail))
    refine wpQuiet_nil ?_
    intro _ hw'
    obtain ⟨⟨W, hW⟩, rfl⟩ := hw'
    go_wp2
    go_ret
    exact ⟨ret_bool (by rw [G.out]; simp), hW.b⟩
  repeat (go_big_quiet_step (fail))
  go_big_quiet_step ((go_at_call 34; exact bx_call H121.out _))
  repeat (go_big_quiet_step (fail))
  go_big_quiet_step ((go_at_call 33; exact bx_same (within_any _ _ _ _) _))
  generalize Ev.within (Ev.has kd 121) tr 1 9 = b at *
  cases b
  · have st := 0
    clear st
    repeat (go_big_quiet_step (fail))
    refine wpQuiet_nil ?_
    intro _ hw'
    obtain ⟨⟨W, hW⟩, rfl⟩ := hw'
    go_wp2
    go_ret
    exact ⟨ret_bool (by rw [G.out]; simp), hW.b⟩
  repeat (go_big_quiet_step (fail))
  go_big_quiet_step ((go_at_call 34; exact bx_call H110.out _))
  repeat (go_big_quiet_step (fail))
  go_big_quiet_step ((go_at_call 33; exact bx_same (within_any _ _ _ _) _))
  generalize Ev.within (Ev.has kd 110) n 1 1099511627776 = b at *
  cases b
  · have st := 0
    clear st
    repeat (go_big_quiet_step (fail))
    refine wpQuiet_nil ?_
    intro _ hw'
    obtain ⟨⟨W, hW⟩, rfl⟩ := hw'
    go_wp2
    go_ret
    exact ⟨ret_bool (by rw [G.out]; simp), hW.b⟩
  repeat (go_big_quiet_step (fail))
  go_big_quiet_step ((go_at_call 34; exact bx_call H97.out _))
  generalize hh : Ev.has kd 97 = h at *
  cases h
  · have st := 0
    clear st
    repeat (go_big_quiet_step (fail))
    go_big_quiet_step ((go_at_call 34; exact bx_call H97.out _))
    by_cases hn : na.size = 0
    · obtain rfl := emptyB hn
      have GN' : Ev.goodName kd ⟨#[]⟩ = true := by rw [GN.out]; rfl
      rw [GN'] at G
      clear GN' GN hn
      repeat (go_big_quiet_step (fail))
      go_big_quiet_step ((go_at_call 34; exact bx_call H107.out _))
      generalize Ev.has kd 107 = h at *
      cases h
      · have st := 0
        clear st
        by_cases hk0 : ke.size = 0
        · obtain rfl := emptyB hk0
          have GK' : Ev.goodKey kd ⟨#[]⟩ = true := by rw [GK.out]; rfl
          rw [GK'] at G
          clear GK' GK hk0
          repeat (go_big_quiet_step (fail))
          go_big_quiet_step ((go_at_call 34; exact bx_call H100.out _))
          generalize Ev.has kd 100 = h at *
          cases h
          · have st := 0
            clear st
            by_cases hd0 : da.size = 0
            · obtain rfl := emptyB hd0
              have GD' : Ev.goodData kd ⟨#[]⟩ = true := by rw [GD.out]; rfl
              rw [GD'] at G
              clear GD' GD hd0
              repeat (go_big_quiet_step (fail))
              refine wpQuiet_nil ?_
              intro _ hw'
              obtain ⟨⟨W, hW⟩, rfl⟩ := hw'
              go_wp2
              go_ret
              exact ⟨ret_bool (by rw [G.out]; simp), hW.b⟩
            · obtain ⟨q3, q4⟩ := nonemptyB hd0
              have GD' : Ev.goodData kd da = false := by rw [GD.out, decide_eq_false hd0]; rfl
              rw [GD'] at G
              clear GD' GD hd0
              repeat (go_big_quiet_step (fail))
              refine wpQuiet_nil ?_
              intro _ hw'
              obtain ⟨⟨W, hW⟩, rfl⟩ := hw'
              go_wp2
              go_ret
              exact ⟨ret_bool (by rw [G.out]; simp), hW.b⟩
          · have st := 0
            clear st
            by_cases hm : (da.size : Int) ≤ mo
            · have GD' : Ev.goodData kd da = true := by rw [GD.out, decide_eq_true hm]; rfl
              rw [GD'] at G
              have hm' : decide ((da.size : Int) ≤ mo) = true := decide_eq_true hm
              clear hm GD' GD
              repeat (go_big_quiet_step (fail))
              (try simp only [hm'])
              repeat (go_big_quiet_step (fail))
              refine wpQuiet_nil ?_
              intro _ hw'
              obtain ⟨⟨W, hW⟩, rfl⟩ := hw'
              go_wp2
              go_ret
              exact ⟨ret_bool (by rw [G.out]; simp), hW.b⟩
            · have hd0 : ¬ da.size = 0 := by omega
              obtain ⟨q3, q4⟩ := nonemptyB hd0
              have GD' : Ev.goodData kd da = false := by rw [GD.out, decide_eq_false hm, decide_eq_false hd0]; rfl
              rw [GD'] at G
              have hm' : decide ((da.size : Int) ≤ mo) = false := decide_eq_false hm
              clear hm GD' GD hd0
              repeat (go_big_quiet_step (fail))
              (try simp only [hm'])
              repeat (go_big_quiet_step (fail))
              refine wpQuiet_nil ?_
              intro _ hw'
              obtain ⟨⟨W, hW⟩, rfl⟩ := hw'
              go_wp2
              go_ret
              exact ⟨ret_bool (by rw [G.out]; simp), hW.b⟩
        · obtain ⟨q1, q2⟩ := nonemptyB hk0
          have GK' : Ev.goodKey kd ke = false := by rw [GK.out, decide_eq_false hk0]; rfl
          rw [GK'] at G
          clear GK' GK hk0
          repeat (go_big_quiet_step (fail))
          (try simp only [q1])
          repeat (go_big_quiet_step (fail))
          (try simp only [q2])
          repeat (go_big_quiet_step (fail))
          refine wpQuiet_nil ?_
          intro _ hw'
          obtain ⟨⟨W, hW⟩, rfl⟩ := hw'
          go_wp2
          go_ret
          exact ⟨ret_bool (by rw [G.out]; simp), hW.b⟩
      · have st := 0
        clear st
        by_cases h16 : ke.size ≤ 16
        · have GK' : Ev.goodKey kd ke = true := by rw [GK.out, decide_eq_true h16]; rfl
          rw [GK'] at G
          have h16' : decide ((ke.size : Int) ≤ 16) = true := decide_eq_true (by omega)
          clear h16 GK' GK
          repeat (go_big_quiet_step (fail))
          (try simp only [h16'])
          repeat (go_big_quiet_step (fail))
          go_big_quiet_step ((go_at_call 34; exact bx_call H100.out _))
          generalize Ev.has kd 100 = h at *
          cases h
          · have st := 0
            clear st
            by_cases hd0 : da.size = 0
            · obtain rfl := emptyB hd0
              have GD' : Ev.goodData kd ⟨#[]⟩ = true := by rw [GD.out]; rfl
              rw [GD'] at G
              clear GD' GD hd0
              repeat (go_big_quiet_step (fail))
              refine wpQuiet_nil ?_
              intro _ hw'
              obtain ⟨⟨W, hW⟩, rfl⟩ := hw'
              go_wp2
              go_ret
              exact ⟨ret_bool (by rw [G.out]; simp), hW.b⟩
            · obtain ⟨q3, q4⟩ := nonemptyB hd0
              have GD' : Ev.goodData kd da = false := by rw [GD.out, decide_eq_false hd0]; rfl
              rw [GD'] at G
              clear GD' GD hd0
              repeat (go_big_quiet_step (fail))
              refine wpQuiet_nil ?_
              intro _ hw'
              obtain ⟨⟨W, hW⟩, rfl⟩ := hw'
              go_wp2
              go_ret
              exact ⟨ret_bool (by rw [G.out]; simp), hW.b⟩
          · have st := 0
            clear st
            by_cases hm : (da.size : Int) ≤ mo
            · have GD' : Ev.goodData kd da = true := by rw [GD.out, decide_eq_true hm]; rfl
              rw [GD'] at G
              have hm' : decide ((da.size : Int) ≤ mo) = true := decide_eq_true hm
              clear hm GD' GD
              repeat (go_big_quiet_step (fail))
              (try simp only [hm'])
              repeat (go_big_quiet_step (fail))
              refine wpQuiet_nil ?_
              intro _ hw'
              obtain ⟨⟨W, hW⟩, rfl⟩ := hw'
              go_wp2
              go_ret
              exact ⟨ret_bool (by rw [G.out]; simp), hW.b⟩
            · have hd0 : ¬ da.size = 0 := by omega
              obtain ⟨q3, q4⟩ := nonemptyB hd0
              have GD' : Ev.goodData kd da = false := by rw [GD.out, decide_eq_false hm, decide_eq_false hd0]; rfl
              rw [GD'] at G
              have hm' : decide ((da.size : Int) ≤ mo) = false := decide_eq_false hm
              clear hm GD' GD hd0
              repeat (go_big_quiet_step (fail))
              (try simp only [hm'])
              repeat (go_big_quiet_step (fail))
              refine wpQuiet_nil ?_
              intro _ hw'
              obtain ⟨⟨W, hW⟩, rfl⟩ := hw'
              go_wp2
              go_ret
              exact ⟨ret_bool (by rw [G.out]; simp), hW.b⟩
        · have hk0 : ¬ ke.size = 0 := by omega
          obtain ⟨q1, q2⟩ := nonemptyB hk0
          have GK' : Ev.goodKey kd ke = false := by rw [GK.out, decide_eq_false h16, decide_eq_false hk0]; rfl
          rw [GK'] at G
          have h16' : decide ((ke.size : Int) ≤ 16) = false := decide_eq_false (by omega)
          clear h16 GK' GK hk0
          repeat (go_big_quiet_step (fail))
          (try simp only [h16'])
          repeat (go_big_quiet_step (fail))
          refine wpQuiet_nil ?_
          intro _ hw'
          obtain ⟨⟨W, hW⟩, rfl⟩ := hw'
          go_wp2
          go_ret
          exact ⟨ret_bool (by rw [G.out]; simp), hW.b⟩
    · obtain ⟨q1, q2⟩ := nonemptyB hn
      have GN' : Ev.goodName kd na = false := by rw [GN.out, if_neg (by decide)]; exact decide_eq_false hn
      rw [GN'] at G
      clear GN' GN hn
      repeat (go_big_quiet_step (fail))
      refine wpQuiet_nil ?_
      intro _ hw'
      obtain ⟨⟨W, hW⟩, rfl⟩ := hw'
      go_wp2
      go_ret
      exact ⟨ret_bool (by rw [G.out]; simp), hW.b⟩
  · have GN' := GN.out
    rw [if_pos rfl] at GN'
    rw [GN'] at G
    clear GN' GN
    repeat (go_big_quiet_step (fail))
    go_big_quiet_step ((go_at_call 35; exact bx_same NM.out _))
    generalize Nm.isName na.data.toList = b at *
    cases b
    · have st := 0
      clear st
      repeat (go_big_quiet_step (fail))
      go_big_quiet_step ((go_at_call 34; exact bx_call H97.out _))
      repeat (go_big_quiet_step (fail))
      refine wpQuiet_nil ?_
      intro _ hw'
      obtain ⟨⟨W, hW⟩, rfl⟩ := hw'
      go_wp2
      go_ret
      exact ⟨ret_bool (by rw [G.out]; simp), hW.b⟩
    · have st := 0
      clear st
      repeat (go_big_quiet_step (fail))
      go_big_quiet_step ((go_at_call 34; exact bx_call H107.out _))
      generalize Ev.has kd 107 = h at *
      cases h
      · have st := 0
        clear st
        by_cases hk0 : ke.size = 0
        · obtain rfl := emptyB hk0
          have GK' : Ev.goodKey kd ⟨#[]⟩ = true := by rw [GK.out]; rfl
          rw [GK'] at G
          clear GK' GK hk0
          repeat (go_big_quiet_step (fail))
          go_big_quiet_step ((go_at_call 34; exact bx_call H100.out _))
          generalize Ev.has kd 100 = h at *
          cases h
          · have st := 0
            clear st
            by_cases hd0 : da.size = 0
            · obtain rfl := emptyB hd0
              have GD' : Ev.goodData kd ⟨#[]⟩ = true := by rw [GD.out]; rfl
              rw [GD'] at G
              clear GD' GD hd0
              repeat (go_big_quiet_step (fail))
              refine wpQuiet_nil ?_
              intro _ hw'
              obtain ⟨⟨W, hW⟩, rfl⟩ := hw'
              go_wp2
              go_ret
              exact ⟨ret_bool (by rw [G.out]; simp), hW.b⟩
            · obtain ⟨q3, q4⟩ := nonemptyB hd0
              have GD' : Ev.goodData kd da = false := by rw [GD.out, decide_eq_false hd0]; rfl
              rw [GD'] at G
              clear GD' GD hd0
              repeat (go_big_quiet_step (fail))
              refine wpQuiet_nil ?_
              intro _ hw'
              obtain ⟨⟨W, hW⟩, rfl⟩ := hw'
              go_wp2
              go_ret
              exact ⟨ret_bool (by rw [G.out]; simp), hW.b⟩
          · have st := 0
            clear st
            by_cases hm : (da.size : Int) ≤ mo
            · have GD' : Ev.goodData kd da = true := by rw [GD.out, decide_eq_true hm]; rfl
              rw [GD'] at G
              have hm' : decide ((da.size : Int) ≤ mo) = true := decide_eq_true hm
              clear hm GD' GD
              repeat (go_big_quiet_step (fail))
              (try simp only [hm'])
              repeat (go_big_quiet_step (fail))
              refine wpQuiet_nil ?_
              intro _ hw'
              obtain ⟨⟨W, hW⟩, rfl⟩ := hw'
              go_wp2
              go_ret
              exact ⟨ret_bool (by rw [G.out]; simp), hW.b⟩
            · have hd0 : ¬ da.size = 0 := by omega
              obtain ⟨q3, q4⟩ := nonemptyB hd0
              have GD' : Ev.goodData kd da = false := by rw [GD.out, decide_eq_false hm, decide_eq_false hd0]; rfl
              rw [GD'] at G
              have hm' : decide ((da.size : Int) ≤ mo) = false := decide_eq_false hm
              clear hm GD' GD hd0
              repeat (go_big_quiet_step (fail))
              (try simp only [hm'])
              repeat (go_big_quiet_step (fail))
              refine wpQuiet_nil ?_
              intro _ hw'
              obtain ⟨⟨W, hW⟩, rfl⟩ := hw'
              go_wp2
              go_ret
              exact ⟨ret_bool (by rw [G.out]; simp), hW.b⟩
        · obtain ⟨q1, q2⟩ := nonemptyB hk0
          have GK' : Ev.goodKey kd ke = false := by rw [GK.out, decide_eq_false hk0]; rfl
          rw [GK'] at G
          clear GK' GK hk0
          repeat (go_big_quiet_step (fail))
          (try simp only [q1])
          repeat (go_big_quiet_step (fail))
          (try simp only [q2])
          repeat (go_big_quiet_step (fail))
          refine wpQuiet_nil ?_
          intro _ hw'
          obtain ⟨⟨W, hW⟩, rfl⟩ := hw'
          go_wp2
          go_ret
          exact ⟨ret_bool (by rw [G.out]; simp), hW.b⟩
      · have st := 0
        clear st
        by_cases h16 : ke.size ≤ 16
        · have GK' : Ev.goodKey kd ke = true := by rw [GK.out, decide_eq_true h16]; rfl
          rw [GK'] at G
          have h16' : decide ((ke.size : Int) ≤ 16) = true := decide_eq_true (by omega)
          clear h16 GK' GK
          repeat (go_big_quiet_step (fail))
          (try simp only [h16'])
          repeat (go_big_quiet_step (fail))
          go_big_quiet_step ((go_at_call 34; exact bx_call H100.out _))
          generalize Ev.has kd 100 = h at *
          cases h
          · have st := 0
            clear st
            by_cases hd0 : da.size = 0
            · obtain rfl := emptyB hd0
              have GD' : Ev.goodData kd ⟨#[]⟩ = true := by rw [GD.out]; rfl
              rw [GD'] at G
              clear GD' GD hd0
              repeat (go_big_quiet_step (fail))
              refine wpQuiet_nil ?_
              intro _ hw'
              obtain ⟨⟨W, hW⟩, rfl⟩ := hw'
              go_wp2
              go_ret
              exact ⟨ret_bool (by rw [G.out]; simp), hW.b⟩
            · obtain ⟨q3, q4⟩ := nonemptyB hd0
              have GD' : Ev.goodData kd da = false := by rw [GD.out, decide_eq_false hd0]; rfl
              rw [GD'] at G
              clear GD' GD hd0
              repeat (go_big_quiet_step (fail))
              refine wpQuiet_nil ?_
              intro _ hw'
              obtain ⟨⟨W, hW⟩, rfl⟩ := hw'
              go_wp2
              go_ret
              exact ⟨ret_bool (by rw [G.out]; simp), hW.b⟩
          · have st := 0
            clear st
            by_cases hm : (da.size : Int) ≤ mo
            · have GD' : Ev.goodData kd da = true := by rw [GD.out, decide_eq_true hm]; rfl
              rw [GD'] at G
              have hm' : decide ((da.size : Int) ≤ mo) = true := decide_eq_true hm
              clear hm GD' GD
              repeat (go_big_quiet_step (fail))
              (try simp only [hm'])
              repeat (go_big_quiet_step (fail))
              refine wpQuiet_nil ?_
              intro _ hw'
              obtain ⟨⟨W, hW⟩, rfl⟩ := hw'
              go_wp2
              go_ret
              exact ⟨ret_bool (by rw [G.out]; simp), hW.b⟩
            · have hd0 : ¬ da.size = 0 := by omega
              obtain ⟨q3, q4⟩ := nonemptyB hd0
              have GD' : Ev.goodData kd da = false := by rw [GD.out, decide_eq_false hm, decide_eq_false hd0]; rfl
              rw [GD'] at G
              have hm' : decide ((da.size : Int) ≤ mo) = false := decide_eq_false hm
              clear hm GD' GD hd0
              repeat (go_big_quiet_step (fail))
              (try simp only [hm'])
              repeat (go_big_quiet_step (fail))
              refine wpQuiet_nil ?_
              intro _ hw'
              obtain ⟨⟨W, hW⟩, rfl⟩ := hw'
              go_wp2
              go_ret
              exact ⟨ret_bool (by rw [G.out]; simp), hW.b⟩
        · have hk0 : ¬ ke.size = 0 := by omega
          obtain ⟨q1, q2⟩ := nonemptyB hk0
          have GK' : Ev.goodKey kd ke = false := by rw [GK.out, decide_eq_false h16, decide_eq_false hk0]; rfl
          rw [GK'] at G
          have h16' : decide ((ke.size : Int) ≤ 16) = false := decide_eq_false (by omega)
          clear h16 GK' GK hk0
          repeat (go_big_quiet_step (fail))
          (try simp only [h16'])
          repeat (go_big_quiet_step (fail))
          refine wpQuiet_nil ?_
          intro _ hw'
          obtain ⟨⟨W, hW⟩, rfl⟩ := hw'
          go_wp2
          go_ret
          exact ⟨ret_bool (by rw [G.out]; simp), hW.b⟩
end Go.Proofs.YtighnooklcmjaaaDoor
/-
  The reference's PutEvent at every event.
-/
namespace Go.Proofs.YtighnooklcmjaaaDoor
open Go.RowKit
theorem Ev.Good.cases {e : Ev.E} (h : Ev.Good e) : (0 ≤ e.kind ∧ e.kind ≤ 9) ∧ (0 ≤ e.run ∧ e.run ≤ 64) ∧ (0 ≤ e.task ∧ e.task ≤ 64) ∧ (0 ≤ e.try_ ∧ e.try_ ≤ 64) ∧ (0 ≤ e.n ∧ e.n ≤ 1099511627776) ∧ e.name.size ≤ 64 ∧ e.key.size ≤ 64 ∧ e.data.size ≤ 900 :=
  ⟨⟨by have := h.kind; omega, h.kind.2⟩, h.fits.r, h.fits.t, h.fits.y, h.fits.n, h.fits.a, h.fits.k, h.fits.d⟩
/-- The bytes of the kind and of the first j fields. -/
def Ev.upTo (e : Ev.E) (j : Nat) : List Int := En.leb e.kind ++ ((Ev.codes e.kind).take j).flatMap (Ev.field e)
theorem Ev.upTo_next {e : Ev.E} {j : Nat} {c : UInt8} (h : (Ev.codes e.kind)[j]? = some c) : Ev.upTo e (j + 1) = Ev.upTo e j ++ Ev.field e c := by
  unfold Ev.upTo
  rw [List.take_add_one, h, List.flatMap_append, List.append_assoc]
  simp
theorem Ev.upTo_all {e : Ev.E} {j : Nat} (h : (Ev.codes e.kind).length ≤ j) : Ev.upTo e j = Ev.bytes e := by
  unfold Ev.upTo Ev.bytes
  rw [List.take_of_length_le h]
theorem Ev.upTo_len {e : Ev.E} (h : Ev.Good e) (j : Nat) : (Ev.upTo e j).length ≤ 1000 := by
  have h1 := (Ev.put_len h).2
  rw [Ev.put_bytes h] at h1
  refine Nat.le_trans ?_ h1
  unfold Ev.upTo Ev.bytes
  rw [List.length_append, List.length_append]
  have : (List.flatMap (Ev.field e) ((Ev.codes e.kind).take j)).length ≤ (List.flatMap (Ev.field e) (Ev.codes e.kind)).length := by
    conv => rhs; rw [← List.take_append_drop j (Ev.codes e.kind), List.flatMap_append, List.length_append]
    omega
  omega
theorem Bx.grew {w : World} {T : TypeId} {e : Ev.E} {wr w' : World} (h : Bx w T e wr) (g : Grew wr.heap.size wr w') : Bx w T e w' := h.more g.below
theorem Grew.of_below {w w' : World} (h : Below w.heap.size w w') : Grew w.heap.size w w' := ⟨h, fun g cs t fz hh _ => by rw [h.block g (lt_of_block hh)]; exact hh⟩
set_option maxRecDepth 8000 in
set_option maxHeartbeats 8000000 in
theorem putEvent_any (e : Ev.E) (he : EvIn e) (w : World) : Calls Tryd.prog 15 #[.agg (evc e)] w (BytesP w (Ev.put e)) := by
  have X0 := Lib.hid (Bx.start w 33 e)
  have GD := Lib.hid (goodEvent_any e he)
  cases hg : Ev.good e with
  | false =>
    have PE : Hid (Ev.put e = []) := Lib.hid (by unfold Ev.put; rw [hg]; rfl)
    rw [hg] at GD
    clear hg he
    obtain ⟨kd, ru, ta, tr, n, na, ke, da⟩ := e
    change Calls _ _ #[.agg #[.int .i64 kd, .int .i64 ru, .int .i64 ta, .int .i64 tr, .int .i64 n, .string na, .string ke, .string da]] _ _
    change Hid (∀ W, Calls _ _ #[.agg #[.int .i64 kd, .int .i64 ru, .int .i64 ta, .int .i64 tr, .int .i64 n, .string na, .string ke, .string da]] W _) at GD
    go_enter Tryd.func15, Tryd.ntmps15
    go_wp2_with fail
    (with_reducible refine (GD.out _).mono ?_); rintro e w1 ⟨rfl, b1⟩
    go_wp2
    go_ret
    have hb : Below w.heap.size w w1 := ((Below.refl _ w).alloc (Nat.le_refl _) _).trans (b1.mono (by simp))
    rw [PE.out]
    exact ⟨[], none, 0, Lib.hid rfl, rfl, Lib.hid (OwnB.none_ _ _), Lib.hid ⟨hb, fun g cs t fz hh _ => by rw [hb.block g (lt_of_block hh)]; exact hh⟩⟩
  | true =>
    have hG := Ev.good_iff.1 hg
    have PE := Lib.hid (Ev.put_bytes hG)
    have UN := Lib.hid (fun j c h => Ev.upTo_next (e := e) (j := j) (c := c) h)
    have UA := Lib.hid (fun j h => Ev.upTo_all (e := e) (j := j) h)
    have UL := Lib.hid (Ev.upTo_len hG)
    have U0 : Hid (Ev.upTo e 0 = En.leb e.kind) := Lib.hid (by unfold Ev.upTo; simp)
    have CC := Lib.hid (Ev.codes_code e.kind)
    have CG := Lib.hid (cstr_get e.kind)
    have CS := Lib.hid (cstr_size e.kind)
    have C4 := Lib.hid (codes_few e.kind)
    obtain ⟨⟨k0, k1⟩, ⟨r0, r1⟩, ⟨t0, t1⟩, ⟨y0, y1⟩, ⟨n0, n1⟩, na1, ke1, da1⟩ := hG.cases
    have FL := Lib.hid (fields_any e.kind he.kind)
    rw [hg] at GD
    have F114 : Hid (Ev.field e 114 = En.leb e.run) := Lib.hid rfl
    have F116 : Hid (Ev.field e 116 = En.leb e.task) := Lib.hid rfl
    have F121 : Hid (Ev.field e 121 = En.leb e.try_) := Lib.hid rfl
    have F110 : Hid (Ev.field e 110 = En.leb e.n) := Lib.hid rfl
    have F97 : Hid (Ev.field e 97 = En.putS e.name) := Lib.hid rfl
    have F107 : Hid (Ev.field e 107 = En.putS e.key) := Lib.hid rfl
    have F100 : Hid (Ev.field e 100 = En.putS e.data) := Lib.hid rfl
    clear hg he hG
    generalize Ev.upTo e = up at *
    generalize Ev.field e = fi at *
    generalize Ev.put e = pu at *
    generalize Ev.bytes e = by_ at *
    obtain ⟨kd, ru, ta, tr, n, na, ke, da⟩ := e
    simp only at *
    generalize Ev.codes kd = cs at *
    generalize Ev.cstr kd = s at *
    generalize Ev.most kd = mo at *
    change Calls _ _ #[.agg #[.int .i64 kd, .int .i64 ru, .int .i64 ta, .int .i64 tr, .int .i64 n, .string na, .string ke, .string da]] _ _
    change Hid (∀ W, Calls _ _ #[.agg #[.int .i64 kd, .int .i64 ru, .int .i64 ta, .int .i64 tr, .int .i64 n, .string na, .string ke, .string da]] W _) at GD
    have u0 : IntKind.u64.wrap kd = kd := IntWalk.u64_in _ (by omega)
    have u1 : IntKind.u64.wrap ru = ru := IntWalk.u64_in _ (by omega)
    have u2 : IntKind.u64.wrap ta = ta := IntWalk.u64_in _ (by omega)
    have u3 : IntKind.u64.wrap tr = tr := IntWalk.u64_in _ (by omega)
    have u4 : IntKind.u64.wrap n = n := IntWalk.u64_in _ (by omega)
    have PU : Hid (∀ (A : Option Addr) (zs : List Int) (cap : Nat) (v : Int), 0 ≤ v → v < 18446744073709551616 → zs.length ≤ 1000000 → ∀ W, Bytes W W.heap.size A zs → Calls Tryd.prog 36 #[.slice A zs.length cap, .int .u64 v] W (BytesP W (zs ++ En.leb v))) := Lib.hid refPutU_any
    have P0 : Hid (∀ W, Calls Tryd.prog 36 #[.slice none 0 0, .int .u64 kd] W (BytesP W (En.leb kd))) := Lib.hid fun W => refPutU_any none [] 0 kd k0 (by omega) (by simp) W Bytes.nil_
    have PS : Hid (∀ (A : Option Addr) (zs : List Int) (cap : Nat) (v : ByteArray), v.size ≤ 1000000 → zs.length ≤ 1000000 → ∀ W, Bytes W W.heap.size A zs → Calls Tryd.prog 37 #[.slice A zs.length cap, .string v] W (BytesP W (zs ++ En.putS v))) := Lib.hid refPutS_any
    obtain ⟨W0, hW0⟩ : ∃ W0, W0 = w.alloc (.cells #[.int .i64 kd, .int .i64 ru, .int .i64 ta, .int .i64 tr, .int .i64 n, .string na, .string ke, .string da] 33) := ⟨_, rfl⟩
    change Hid (Bx w _ _ (w.alloc (.cells #[.int .i64 kd, .int .i64 ru, .int .i64 ta, .int .i64 tr, .int .i64 n, .string na, .string ke, .string da] 33))) at X0
    rw [← hW0] at X0
    have HW := Lib.hid hW0
    clear hW0
    go_enter Tryd.func15, Tryd.ntmps15
    go_wp2_with fail
    rw [← HW.out]
    clear HW
    (with_reducible refine (GD.out _).mono ?_); rintro e w1 ⟨rfl, b1⟩
    have X1 := Lib.hid (X0.out.more b1)
    have c := X1.out.c.1
    clear X0 b1
    go_wp2_with fail
    (with_reducible refine (P0.out _).mono ?_); rintro e w2 ⟨ys, A2, c2, hy, rfl, o2, g2⟩
    have X2 := Lib.hid (X1.out.grew g2.out)
    have c := X2.out.c.1
    have H2 : Hid (w.heap.size ≤ w1.heap.size) := Lib.hid X1.out.b.size
    have O2 : Hid (OwnB w2 w.heap.size A2 c2 ys) := Lib.hid (o2.out.low H2.out)
    have HY : Hid (ys = up 0) := Lib.hid (by rw [hy.out, U0.out])
    clear X1 o2 g2 hy
    go_wp2_with fail
    (with_reducible refine (FL.out _).mono ?_); rintro e w3 ⟨rfl, b3⟩
    have X3 := Lib.hid (X2.out.more b3)
    have O3 := Lib.hid (O2.out.grew b3 (Nat.le_refl _))
    clear X2 O2 b3 c H2
    go_wp2_with fail
    go_loopw [3, 6] (fun bv iv wr => ∃ (j : Nat) (ys : List Int) (A : Option Addr) (cap : Nat), j ≤ s.size ∧ iv = .int .i64 j ∧ bv = .slice A ys.length cap ∧ Hid (ys = up j) ∧ Hid (OwnB wr w.heap.size A cap ys) ∧ Hid (Bx w 33 ⟨kd, ru, ta, tr, n, na, ke, da⟩ wr)) (fun _ iv _ => s.size - (intOf iv).toNat)
    case atStart => exact ⟨0, ys, A2, c2, Nat.zero_le _, rfl, rfl, HY, O3, X3⟩
    case round =>
      obtain ⟨j, ys, A, cap, hj, rfl, rfl, HY, HO, HX⟩ := hrel
      have HS : w.heap.size ≤ wr.heap.size := HX.out.b.size
      have YL : ys.length ≤ 1000 := by rw [HY.out]; exact UL.out j
      have SL : s.size ≤ 4 := by rw [CS.out]; exact C4.out
      by_cases hlt : j < s.size
      · have hlt' : (j : Int) < (s.size : Int) := by omega
        have hc := CG.out j hlt
        have NX := UN.out j _ hc
        have hm := CC.out _ (List.mem_of_getElem? hc)
        obtain ⟨k0', k1', k2', k3', k4', k5', k6', k7'⟩ := HX.out.c
        unfold Ev.Code at hm
        rcases hm with hm | hm | hm | hm | hm | hm | hm
        · have hm' : ((s[j]).toNat : Int) = 114 := by rw [hm]; rfl
          rw [hm] at NX
          have NY := Lib.hid NX
          clear NX hc hm
          go_wp2_with fail
          (with_reducible refine (PU.out A ys cap ru r0 (by omega) (by omega) _ HO.out.bytes).mono ?_); rintro e w4 ⟨zs, A4, c4, hz, rfl, o4, g4⟩
          have X4 := Lib.hid (HX.out.grew g4.out)
          have O4 : Hid (OwnB w4 w.heap.size A4 c4 zs) := Lib.hid (o4.out.low HS)
          have Z4 : Hid (zs = up (j + 1)) := Lib.hid (by rw [hz.out, NY.out, HY.out, F114.out])
          clear hz o4 g4
          go_wp2
          go_roundw
          case rel => exact ⟨j + 1, zs, A4, c4, by omega, by go_num, rfl, Z4, O4, X4⟩
          case measure => simp [intOf]; omega
        · have hm' : ((s[j]).toNat : Int) = 116 := by rw [hm]; rfl
          rw [hm] at NX
          have NY := Lib.hid NX
          clear NX hc hm
          go_wp2_with fail
          (with_reducible refine (PU.out A ys cap ta t0 (by omega) (by omega) _ HO.out.bytes).mono ?_); rintro e w4 ⟨zs, A4, c4, hz, rfl, o4, g4⟩
          have X4 := Lib.hid (HX.out.grew g4.out)
          have O4 : Hid (OwnB w4 w.heap.size A4 c4 zs) := Lib.hid (o4.out.low HS)
          have Z4 : Hid (zs = up (j + 1)) := Lib.hid (by rw [hz.out, NY.out, HY.out, F116.out])
          clear hz o4 g4
          go_wp2
          go_roundw
          case rel => exact ⟨j + 1, zs, A4, c4, by omega, by go_num, rfl, Z4, O4, X4⟩
          case measure => simp [intOf]; omega
        · have hm' : ((s[j]).toNat : Int) = 121 := by rw [hm]; rfl
          rw [hm] at NX
          have NY := Lib.hid NX
          clear NX hc hm
          go_wp2_with fail
          (with_reducible refine (PU.out A ys cap tr y0 (by omega) (by omega) _ HO.out.bytes).mono ?_); rintro e w4 ⟨zs, A4, c4, hz, rfl, o4, g4⟩
          have X4 := Lib.hid (HX.out.grew g4.out)
          have O4 : Hid (OwnB w4 w.heap.size A4 c4 zs) := Lib.hid (o4.out.low HS)
          have Z4 : Hid (zs = up (j + 1)) := Lib.hid (by rw [hz.out, NY.out, HY.out, F121.out])
          clear hz o4 g4
          go_wp2
          go_roundw
          case rel => exact ⟨j + 1, zs, A4, c4, by omega, by go_num, rfl, Z4, O4, X4⟩
          case measure => simp [intOf]; omega
        · have hm' : ((s[j]).toNat : Int) = 110 := by rw [hm]; rfl
          rw [hm] at NX
          have NY := Lib.hid NX
          clear NX hc hm
          go_wp2_with fail
          (with_reducible refine (PU.out A ys cap n n0 (by omega) (by omega) _ HO.out.bytes).mono ?_); rintro e w4 ⟨zs, A4, c4, hz, rfl, o4, g4⟩
          have X4 := Lib.hid (HX.out.grew g4.out)
          have O4 : Hid (OwnB w4 w.heap.size A4 c4 zs) := Lib.hid (o4.out.low HS)
          have Z4 : Hid (zs = up (j + 1)) := Lib.hid (by rw [hz.out, NY.out, HY.out, F110.out])
          clear hz o4 g4
          go_wp2
          go_roundw
          case rel => exact ⟨j + 1, zs, A4, c4, by omega, by go_num, rfl, Z4, O4, X4⟩
          case measure => simp [intOf]; omega
        · have hm' : ((s[j]).toNat : Int) = 97 := by rw [hm]; rfl
          rw [hm] at NX
          have NY := Lib.hid NX
          clear NX hc hm
          go_wp2_with fail
          (with_reducible refine (PS.out A ys cap na (by omega) (by omega) _ HO.out.bytes).mono ?_); rintro e w4 ⟨zs, A4, c4, hz, rfl, o4, g4⟩
          have X4 := Lib.hid (HX.out.grew g4.out)
          have O4 : Hid (OwnB w4 w.heap.size A4 c4 zs) := Lib.hid (o4.out.low HS)
          have Z4 : Hid (zs = up (j + 1)) := Lib.hid (by rw [hz.out, NY.out, HY.out, F97.out])
          clear hz o4 g4
          go_wp2
          go_roundw
          case rel => exact ⟨j + 1, zs, A4, c4, by omega, by go_num, rfl, Z4, O4, X4⟩
          case measure => simp [intOf]; omega
        · have hm' : ((s[j]).toNat : Int) = 107 := by rw [hm]; rfl
          rw [hm] at NX
          have NY := Lib.hid NX
          clear NX hc hm
          go_wp2_with fail
          (with_reducible refine (PS.out A ys cap ke (by omega) (by omega) _ HO.out.bytes).mono ?_); rintro e w4 ⟨zs, A4, c4, hz, rfl, o4, g4⟩
          have X4 := Lib.hid (HX.out.grew g4.out)
          have O4 : Hid (OwnB w4 w.heap.size A4 c4 zs) := Lib.hid (o4.out.low HS)
          have Z4 : Hid (zs = up (j + 1)) := Lib.hid (by rw [hz.out, NY.out, HY.out, F107.out])
          clear hz o4 g4
          go_wp2
          go_roundw
          case rel => exact ⟨j + 1, zs, A4, c4, by omega, by go_num, rfl, Z4, O4, X4⟩
          case measure => simp [intOf]; omega
        · have hm' : ((s[j]).toNat : Int) = 100 := by rw [hm]; rfl
          rw [hm] at NX
          have NY := Lib.hid NX
          clear NX hc hm
          go_wp2_with fail
          (with_reducible refine (PS.out A ys cap da (by omega) (by omega) _ HO.out.bytes).mono ?_); rintro e w4 ⟨zs, A4, c4, hz, rfl, o4, g4⟩
          have X4 := Lib.hid (HX.out.grew g4.out)
          have O4 : Hid (OwnB w4 w.heap.size A4 c4 zs) := Lib.hid (o4.out.low HS)
          have Z4 : Hid (zs = up (j + 1)) := Lib.hid (by rw [hz.out, NY.out, HY.out, F100.out])
          clear hz o4 g4
          go_wp2
          go_roundw
          case rel => exact ⟨j + 1, zs, A4, c4, by omega, by go_num, rfl, Z4, O4, X4⟩
          case measure => simp [intOf]; omega
      · obtain rfl : j = s.size := by omega
        have E : Hid (ys = pu) := Lib.hid (by rw [HY.out, UA.out _ (by rw [CS.out]; exact Nat.le_refl _), ← PE.out])
        go_wp2
        go_ret
        exact BytesP.mk_ (by rw [E.out]) (by rw [← E.out]; exact HO.out) (Grew.of_below HX.out.b)
end Go.Proofs.YtighnooklcmjaaaDoor
