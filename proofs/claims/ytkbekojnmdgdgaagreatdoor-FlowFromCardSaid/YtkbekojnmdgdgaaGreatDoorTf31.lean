/-
  Part 31 of the texts behind the law: TEvShape, TEvGoodP.
-/
import Derived.Test.YtkbekojnmdgdgaaGreatDoorTf7
import Derived.Test.YtkbekojnmdgdgaaGreatDoorTf6
import Derived.Test.YtkbekojnmdgdgaaGreatDoorTf30
import Derived.Test.YtkbekojnmdgdgaaGreatDoorTf2
/- EvShape -/
namespace Go.Proofs.YtkbekojnmdgdgaaGreatDoor
open Go.RowKit
def strOfV : Value → ByteArray | .string s => s | _ => ⟨#[]⟩
def numOfV : Value → Int | .int _ z => z | _ => 0
def shW (k : Nat) : ByteArray := strOfV ((shapeRow k).getD 0 (.bool false))
def shV (k j : Nat) : Int := numOfV ((shapeRow k).getD j (.bool false))
theorem nine {j : Nat} (h1 : 1 ≤ j) (h9 : j ≤ 9) : j = 1 ∨ j = 2 ∨ j = 3 ∨ j = 4 ∨ j = 5 ∨ j = 6 ∨ j = 7 ∨ j = 8 ∨ j = 9 := by omega
theorem ten {j : Nat} (h9 : j ≤ 9) : j = 0 ∨ j = 1 ∨ j = 2 ∨ j = 3 ∨ j = 4 ∨ j = 5 ∨ j = 6 ∨ j = 7 ∨ j = 8 ∨ j = 9 := by omega
theorem shapeRow_eq {k : Nat} (h9 : k ≤ 9) : shapeRow k = [.string (shW k), .int .i64 (shV k 1), .int .i64 (shV k 2), .int .i64 (shV k 3), .int .i64 (shV k 4), .int .i64 (shV k 5), .int .i64 (shV k 6), .int .i64 (shV k 7)] := by
 rcases ten h9 with rfl | rfl | rfl | rfl | rfl | rfl | rfl | rfl | rfl | rfl <;> rfl
theorem FactsS.row {w : World} (h : FactsS w) {k : Nat} (h9 : k ≤ 9) :
  w.cell? ⟨0, k * 8, none⟩ = some (.string (shW k)) ∧ w.cell? ⟨0, k * 8 + 1, none⟩ = some (.int .i64 (shV k 1)) ∧ w.cell? ⟨0, k * 8 + 2, none⟩ = some (.int .i64 (shV k 2)) ∧
  w.cell? ⟨0, k * 8 + 3, none⟩ = some (.int .i64 (shV k 3)) ∧ w.cell? ⟨0, k * 8 + 4, none⟩ = some (.int .i64 (shV k 4)) ∧ w.cell? ⟨0, k * 8 + 5, none⟩ = some (.int .i64 (shV k 5)) ∧
  w.cell? ⟨0, k * 8 + 6, none⟩ = some (.int .i64 (shV k 6)) ∧ w.cell? ⟨0, k * 8 + 7, none⟩ = some (.int .i64 (shV k 7)) := by
 have hr := shapeRow_eq h9
 refine ⟨?_, ?_, ?_, ?_, ?_, ?_, ?_, ?_⟩
 ·have := h.cell k 0 (by omega) (by decide); rw [hr] at this; exact this
 ·have := h.cell k 1 (by omega) (by decide); rw [hr] at this; exact this
 ·have := h.cell k 2 (by omega) (by decide); rw [hr] at this; exact this
 ·have := h.cell k 3 (by omega) (by decide); rw [hr] at this; exact this
 ·have := h.cell k 4 (by omega) (by decide); rw [hr] at this; exact this
 ·have := h.cell k 5 (by omega) (by decide); rw [hr] at this; exact this
 ·have := h.cell k 6 (by omega) (by decide); rw [hr] at this; exact this
 ·have := h.cell k 7 (by omega) (by decide); rw [hr] at this; exact this
theorem from_within (k : Nat) (h1 : 1 ≤ k) (h9 : k ≤ 9) (e : Ev.E) : fromV 1 e.run (shV k 1) = Ev.within (Ev.has k 114) e.run 1 64 ∧ fromV 0 e.task (shV k 2) = Ev.within (Ev.has k 116) e.task 0 15 ∧
  fromV 1 e.try_ (shV k 3) = Ev.within (Ev.has k 121) e.try_ 1 9 ∧ fromV 1 e.n (shV k 4) = Ev.within (Ev.has k 110) e.n 1 (Ev.top k) := by
 have key : ∀ (a v m : Int), a ≤ m → fromV a v m = Ev.within true v a m := by
  intro a v m h
  unfold fromV Ev.within
  rw [if_pos rfl, Int.min_eq_left h]
  by_cases h1 : a ≤ v <;> by_cases h2 : v ≤ m <;> simp [h1, h2]
 have key2 : ∀ (a v m lo hi : Int), m = 0 ∧ 0 ≤ a → fromV a v m = Ev.within false v lo hi := by
  rintro a v m lo hi ⟨rfl, h⟩
  unfold fromV Ev.within
  rw [if_neg (by decide), Int.min_eq_right h]
  by_cases h1 : 0 ≤ v <;> by_cases h2 : v ≤ 0 <;> simp [h1, h2] <;> omega
 refine ⟨?_, ?_, ?_, ?_⟩
 all_goals
  rcases nine h1 h9 with rfl | rfl | rfl | rfl | rfl | rfl | rfl | rfl | rfl
  all_goals
   first
    | exact key _ _ _ (by decide)
    | exact key2 _ _ _ _ _ (by decide)
theorem name_shape (k : Nat) (h1 : 1 ≤ k) (h9 : k ≤ 9) (s : ByteArray) : (shV k 5 = 0 → Ev.goodName k s = decide (s.size = 0)) ∧ (shV k 5 ≠ 0 → 0 < shV k 5 ∧ Ev.goodName k s = Nm.isName s.data.toList) := by
 rcases nine h1 h9 with rfl | rfl | rfl | rfl | rfl | rfl | rfl | rfl | rfl <;> refine ⟨fun h => ?_, fun h => ?_⟩ <;> first | (exact absurd h (by decide)) | rfl | exact ⟨by decide, rfl⟩
theorem key_shape (k : Nat) (h1 : 1 ≤ k) (h9 : k ≤ 9) (s : ByteArray) : Ev.goodKey k s = decide ((s.size : Int) ≤ shV k 6) := by
 have key : ∀ (b : Bool) (m : Int), (b = true → m = 16) → (b = false → m = 0) → ((b && decide (s.size ≤ 16)) || decide (s.size = 0)) = decide ((s.size : Int) ≤ m) := by
  intro b m ht hf
  cases b with
  | true => rw [ht rfl]; by_cases h : s.size ≤ 16 <;> by_cases h2 : s.size = 0 <;> simp [h, h2] <;> omega
  | false => rw [hf rfl]; by_cases h2 : s.size = 0 <;> simp [h2]
 rcases nine h1 h9 with rfl | rfl | rfl | rfl | rfl | rfl | rfl | rfl | rfl
 all_goals
  first
   | exact key true _ (by decide) (by decide)
   | exact key false _ (by decide) (by decide)
theorem data_shape (k : Nat) (h1 : 1 ≤ k) (h9 : k ≤ 9) (s : ByteArray) : Ev.goodData k s = decide ((s.size : Int) ≤ shV k 7) := by
 have key : ∀ (b : Bool) (m m2 : Int), (b = true → m = m2 ∧ 0 ≤ m2) → (b = false → m = 0) → ((b && decide ((s.size : Int) ≤ m2)) || decide (s.size = 0)) = decide ((s.size : Int) ≤ m) := by
  intro b m m2 ht hf
  cases b with
  | true =>
   obtain ⟨rfl, h0⟩ := ht rfl
   by_cases h : (s.size : Int) ≤ m <;> by_cases h2 : s.size = 0 <;> simp [h, h2] <;> omega
  | false => rw [hf rfl]; by_cases h2 : s.size = 0 <;> simp [h2]
 rcases nine h1 h9 with rfl | rfl | rfl | rfl | rfl | rfl | rfl | rfl | rfl
 all_goals
  first
   | exact key true _ _ (by decide) (by decide)
   | exact key false _ _ (by decide) (by decide)
end Go.Proofs.YtkbekojnmdgdgaaGreatDoor
/- EvGoodP -/
namespace Go.Proofs.YtkbekojnmdgdgaaGreatDoor
open Go.RowKit
structure Fl (w : World) (e : Ev.E) (cs : Array Value) (W : World) : Prop where
 b : Below w.heap.size w W
 x : W.heap[w.heap.size]? = some (.cells (evc e) 28 (0, 0))
 y : W.heap[w.heap.size + 1]? = some (.cells cs 103 (0, 0))
theorem Fl.start (w : World) (e : Ev.E) (cs : Array Value) : Fl w e cs ((w.alloc (.cells (evc e) 28 (0, 0))).alloc (.cells cs 103 (0, 0))) :=
 ⟨((Below.refl _ w).alloc (Nat.le_refl _) _).alloc (by simp) _, by rw [Below.heap_alloc _ _ _ (by simp)]; exact heap_alloc_new w _, by have := heap_alloc_new (w.alloc (.cells (evc e) 28 (0, 0))) (.cells cs 103 (0, 0)); rwa [World.size_alloc] at this⟩
theorem Ev.bad_kind {e : Ev.E} (h : ¬ (1 ≤ e.kind ∧ e.kind ≤ 9)) : Ev.good e = false := by
 unfold Ev.good
 rw [decide_eq_false h]; rfl
set_option maxRecDepth 100000 in
set_option maxHeartbeats 16000000 in
theorem good_p (e : Ev.E) (he : EvIn e) (w : World) (hF : FactsS w) : Calls Tryz.prog 28 #[.agg (evc e)] w fun r w' => r = .returned (.bool (Ev.good e)) ∧ Below w.heap.size w w' := by
 obtain ⟨kd, ru, ta, tr, n, na, ke, da⟩ := e
 by_cases hk : 1 ≤ kd ∧ kd ≤ 9
 ·obtain ⟨j, rfl⟩ : ∃ j : Nat, kd = j := ⟨kd.toNat, by omega⟩
  have k1 : 1 ≤ j := by omega
  have k2 : j ≤ 9 := by omega
  have hF2 := hF.on ((Below.refl _ w).alloc (Nat.le_refl _) (.cells #[.int .i64 j, .int .i64 ru, .int .i64 ta, .int .i64 tr, .int .i64 n, .string na, .string ke, .string da] 28))
  obtain ⟨c0, c1, c2, c3, c4, c5, c6, c7⟩ := hF2.row k2
  obtain ⟨W1, W2, W3, W4⟩ := from_within j k1 k2 ⟨j, ru, ta, tr, n, na, ke, da⟩
  have NS := Lib.hid (name_shape j k1 k2 na)
  have KS := key_shape j k1 k2 ke
  have DS := data_shape j k1 k2 da
  have NM := Lib.hid (name_at na he.name)
  have sk := he.key
  have sd := he.data
  have G : Hid (Ev.good ⟨j, ru, ta, tr, n, na, ke, da⟩ = (fromV 1 ru (shV j 1) && (fromV 0 ta (shV j 2) && (fromV 1 tr (shV j 3) && (fromV 1 n (shV j 4) && (Ev.goodName j na && (decide ((ke.size : Int) ≤ shV j 6) && decide ((da.size : Int) ≤ shV j 7)))))))) := Lib.hid (by
   unfold Ev.good
   rw [decide_eq_true (show (1 : Int) ≤ j ∧ (j : Int) ≤ 9 by omega), Bool.true_and]
   simp only at W1 W2 W3 W4
   rw [W1, W2, W3, W4, ← KS, ← DS])
  clear hF hF2 W1 W2 W3 W4 KS DS he
  have X0 := Lib.hid (Fl.start w ⟨j, ru, ta, tr, n, na, ke, da⟩ #[.string (shW j), .int .i64 (shV j 1), .int .i64 (shV j 2), .int .i64 (shV j 3), .int .i64 (shV j 4), .int .i64 (shV j 5), .int .i64 (shV j 6), .int .i64 (shV j 7)])
  generalize Ev.good ⟨j, ru, ta, tr, n, na, ke, da⟩ = g at *
  generalize Ev.goodName j na = gn at *
  generalize shW j = wd at *
  generalize shV j 1 = s1 at *
  generalize shV j 2 = s2 at *
  generalize shV j 3 = s3 at *
  generalize shV j 4 = s4 at *
  generalize shV j 5 = s5 at *
  generalize shV j 6 = s6 at *
  generalize shV j 7 = s7 at *
  change Calls _ _ #[.agg #[.int .i64 j, .int .i64 ru, .int .i64 ta, .int .i64 tr, .int .i64 n, .string na, .string ke, .string da]] _ _
  obtain ⟨W0, hW0⟩ : ∃ W0, W0 = (w.alloc (.cells #[.int .i64 j, .int .i64 ru, .int .i64 ta, .int .i64 tr, .int .i64 n, .string na, .string ke, .string da] 28)).alloc (.cells #[.string wd, .int .i64 s1, .int .i64 s2, .int .i64 s3, .int .i64 s4, .int .i64 s5, .int .i64 s6, .int .i64 s7] 103) := ⟨_, rfl⟩
  change Hid (Fl w _ _ ((w.alloc (.cells #[.int .i64 j, .int .i64 ru, .int .i64 ta, .int .i64 tr, .int .i64 n, .string na, .string ke, .string da] 28)).alloc (.cells #[.string wd, .int .i64 s1, .int .i64 s2, .int .i64 s3, .int .i64 s4, .int .i64 s5, .int .i64 s6, .int .i64 s7] 103))) at X0
  rw [← hW0] at X0
  have HW := Lib.hid hW0
  clear hW0
  have j1 : (1 : Int) ≤ j := by omega
  have j9 : (j : Int) ≤ 9 := by omega
  go_enter Tryz.func28, Tryz.ntmps28
  go_upto_region 4 with fail
  rw [← HW.out]
  clear HW c0 c1 c2 c3 c4 c5 c6 c7
  have E1 := X0.out.x
  have E2 := X0.out.y
  unfold evc at E1
  obtain ⟨c0, c1, c2, c3, c4, c5, c6, c7⟩ := ob8 E1
  obtain ⟨d0, d1, d2, d3, d4, d5, d6, d7⟩ := ob8 E2
  clear E1 E2
  go_wp2_with fail
  (with_reducible refine (isFrom_any _ _ _ _).mono ?_); rintro e w1 ⟨rfl, rfl⟩
  generalize fromV 1 ru s1 = b at *
  cases b
  ·as_aux_lemma =>
   by_cases z5 : s5 = 0
   ·have GN := NS.out.1 z5
    by_cases hn : na.size = 0
    ·rw [decide_eq_true hn] at GN
     obtain rfl := emptyB hn
     clear hn NS NM
     subst z5
     rw [GN] at G
     go_wp2
     go_ret
     exact ⟨ret_bool (by rw [G.out]; simp), X0.out.b⟩
    ·rw [decide_eq_false hn] at GN
     obtain ⟨q1, q2⟩ := nonemptyB hn
     clear hn NS
     subst z5
     generalize Nm.isName na.data.toList = b at *
     go_wp2_with fail
     (with_reducible refine (NM.out _).mono ?_); rintro e w1 ⟨rfl, rfl⟩
     cases b
     ·as_aux_lemma =>
      rw [GN] at G
      go_wp2
      go_ret
      exact ⟨ret_bool (by rw [G.out]; simp), X0.out.b⟩
     ·as_aux_lemma =>
      rw [GN] at G
      go_wp2
      go_ret
      exact ⟨ret_bool (by rw [G.out]; simp), X0.out.b⟩
   ·obtain ⟨s50, GN⟩ := NS.out.2 z5
    clear NS
    by_cases hn : na.size = 0
    ·obtain rfl := emptyB hn
     clear hn
     have hb : Nm.isName (⟨#[]⟩ : ByteArray).data.toList = false := rfl
     rw [hb] at GN NM
     clear hb
     go_wp2_with fail
     (with_reducible refine (NM.out _).mono ?_); rintro e w1 ⟨rfl, rfl⟩
     rw [GN] at G
     go_wp2
     go_ret
     exact ⟨ret_bool (by rw [G.out]; simp), X0.out.b⟩
    ·obtain ⟨q1, q2⟩ := nonemptyB hn
     clear hn
     generalize Nm.isName na.data.toList = b at *
     go_wp2_with fail
     (with_reducible refine (NM.out _).mono ?_); rintro e w1 ⟨rfl, rfl⟩
     cases b
     ·as_aux_lemma =>
      rw [GN] at G
      go_wp2
      go_ret
      exact ⟨ret_bool (by rw [G.out]; simp), X0.out.b⟩
     ·as_aux_lemma =>
      rw [GN] at G
      go_wp2
      go_ret
      exact ⟨ret_bool (by rw [G.out]; simp), X0.out.b⟩
  go_wp2_with fail
  (with_reducible refine (isFrom_any _ _ _ _).mono ?_); rintro e w1 ⟨rfl, rfl⟩
  generalize fromV 0 ta s2 = b at *
  cases b
  ·as_aux_lemma =>
   by_cases z5 : s5 = 0
   ·have GN := NS.out.1 z5
    by_cases hn : na.size = 0
    ·rw [decide_eq_true hn] at GN
     obtain rfl := emptyB hn
     clear hn NS NM
     subst z5
     rw [GN] at G
     go_wp2
     go_ret
     exact ⟨ret_bool (by rw [G.out]; simp), X0.out.b⟩
    ·rw [decide_eq_false hn] at GN
     obtain ⟨q1, q2⟩ := nonemptyB hn
     clear hn NS
     subst z5
     generalize Nm.isName na.data.toList = b at *
     go_wp2_with fail
     (with_reducible refine (NM.out _).mono ?_); rintro e w1 ⟨rfl, rfl⟩
     cases b
     ·as_aux_lemma =>
      rw [GN] at G
      go_wp2
      go_ret
      exact ⟨ret_bool (by rw [G.out]; simp), X0.out.b⟩
     ·as_aux_lemma =>
      rw [GN] at G
      go_wp2
      go_ret
      exact ⟨ret_bool (by rw [G.out]; simp), X0.out.b⟩
   ·obtain ⟨s50, GN⟩ := NS.out.2 z5
    clear NS
    by_cases hn : na.size = 0
    ·obtain rfl := emptyB hn
     clear hn
     have hb : Nm.isName (⟨#[]⟩ : ByteArray).data.toList = false := rfl
     rw [hb] at GN NM
     clear hb
     go_wp2_with fail
     (with_reducible refine (NM.out _).mono ?_); rintro e w1 ⟨rfl, rfl⟩
     rw [GN] at G
     go_wp2
     go_ret
     exact ⟨ret_bool (by rw [G.out]; simp), X0.out.b⟩
    ·obtain ⟨q1, q2⟩ := nonemptyB hn
     clear hn
     generalize Nm.isName na.data.toList = b at *
     go_wp2_with fail
     (with_reducible refine (NM.out _).mono ?_); rintro e w1 ⟨rfl, rfl⟩
     cases b
     ·as_aux_lemma =>
      rw [GN] at G
      go_wp2
      go_ret
      exact ⟨ret_bool (by rw [G.out]; simp), X0.out.b⟩
     ·as_aux_lemma =>
      rw [GN] at G
      go_wp2
      go_ret
      exact ⟨ret_bool (by rw [G.out]; simp), X0.out.b⟩
  go_wp2_with fail
  (with_reducible refine (isFrom_any _ _ _ _).mono ?_); rintro e w1 ⟨rfl, rfl⟩
  generalize fromV 1 tr s3 = b at *
  cases b
  ·as_aux_lemma =>
   by_cases z5 : s5 = 0
   ·have GN := NS.out.1 z5
    by_cases hn : na.size = 0
    ·rw [decide_eq_true hn] at GN
     obtain rfl := emptyB hn
     clear hn NS NM
     subst z5
     rw [GN] at G
     go_wp2
     go_ret
     exact ⟨ret_bool (by rw [G.out]; simp), X0.out.b⟩
    ·rw [decide_eq_false hn] at GN
     obtain ⟨q1, q2⟩ := nonemptyB hn
     clear hn NS
     subst z5
     generalize Nm.isName na.data.toList = b at *
     go_wp2_with fail
     (with_reducible refine (NM.out _).mono ?_); rintro e w1 ⟨rfl, rfl⟩
     cases b
     ·as_aux_lemma =>
      rw [GN] at G
      go_wp2
      go_ret
      exact ⟨ret_bool (by rw [G.out]; simp), X0.out.b⟩
     ·as_aux_lemma =>
      rw [GN] at G
      go_wp2
      go_ret
      exact ⟨ret_bool (by rw [G.out]; simp), X0.out.b⟩
   ·obtain ⟨s50, GN⟩ := NS.out.2 z5
    clear NS
    by_cases hn : na.size = 0
    ·obtain rfl := emptyB hn
     clear hn
     have hb : Nm.isName (⟨#[]⟩ : ByteArray).data.toList = false := rfl
     rw [hb] at GN NM
     clear hb
     go_wp2_with fail
     (with_reducible refine (NM.out _).mono ?_); rintro e w1 ⟨rfl, rfl⟩
     rw [GN] at G
     go_wp2
     go_ret
     exact ⟨ret_bool (by rw [G.out]; simp), X0.out.b⟩
    ·obtain ⟨q1, q2⟩ := nonemptyB hn
     clear hn
     generalize Nm.isName na.data.toList = b at *
     go_wp2_with fail
     (with_reducible refine (NM.out _).mono ?_); rintro e w1 ⟨rfl, rfl⟩
     cases b
     ·as_aux_lemma =>
      rw [GN] at G
      go_wp2
      go_ret
      exact ⟨ret_bool (by rw [G.out]; simp), X0.out.b⟩
     ·as_aux_lemma =>
      rw [GN] at G
      go_wp2
      go_ret
      exact ⟨ret_bool (by rw [G.out]; simp), X0.out.b⟩
  go_wp2_with fail
  (with_reducible refine (isFrom64_any _ _ _ _).mono ?_); rintro e w1 ⟨rfl, rfl⟩
  generalize fromV 1 n s4 = b at *
  cases b
  ·as_aux_lemma =>
   by_cases z5 : s5 = 0
   ·have GN := NS.out.1 z5
    by_cases hn : na.size = 0
    ·rw [decide_eq_true hn] at GN
     obtain rfl := emptyB hn
     clear hn NS NM
     subst z5
     rw [GN] at G
     go_wp2
     go_ret
     exact ⟨ret_bool (by rw [G.out]; simp), X0.out.b⟩
    ·rw [decide_eq_false hn] at GN
     obtain ⟨q1, q2⟩ := nonemptyB hn
     clear hn NS
     subst z5
     generalize Nm.isName na.data.toList = b at *
     go_wp2_with fail
     (with_reducible refine (NM.out _).mono ?_); rintro e w1 ⟨rfl, rfl⟩
     cases b
     ·as_aux_lemma =>
      rw [GN] at G
      go_wp2
      go_ret
      exact ⟨ret_bool (by rw [G.out]; simp), X0.out.b⟩
     ·as_aux_lemma =>
      rw [GN] at G
      go_wp2
      go_ret
      exact ⟨ret_bool (by rw [G.out]; simp), X0.out.b⟩
   ·obtain ⟨s50, GN⟩ := NS.out.2 z5
    clear NS
    by_cases hn : na.size = 0
    ·obtain rfl := emptyB hn
     clear hn
     have hb : Nm.isName (⟨#[]⟩ : ByteArray).data.toList = false := rfl
     rw [hb] at GN NM
     clear hb
     go_wp2_with fail
     (with_reducible refine (NM.out _).mono ?_); rintro e w1 ⟨rfl, rfl⟩
     rw [GN] at G
     go_wp2
     go_ret
     exact ⟨ret_bool (by rw [G.out]; simp), X0.out.b⟩
    ·obtain ⟨q1, q2⟩ := nonemptyB hn
     clear hn
     generalize Nm.isName na.data.toList = b at *
     go_wp2_with fail
     (with_reducible refine (NM.out _).mono ?_); rintro e w1 ⟨rfl, rfl⟩
     cases b
     ·as_aux_lemma =>
      rw [GN] at G
      go_wp2
      go_ret
      exact ⟨ret_bool (by rw [G.out]; simp), X0.out.b⟩
     ·as_aux_lemma =>
      rw [GN] at G
      go_wp2
      go_ret
      exact ⟨ret_bool (by rw [G.out]; simp), X0.out.b⟩
  by_cases z5 : s5 = 0
  ·have GN := NS.out.1 z5
   by_cases hn : na.size = 0
   ·rw [decide_eq_true hn] at GN
    obtain rfl := emptyB hn
    clear hn NS NM
    subst z5
    by_cases q6 : (ke.size : Int) ≤ s6
    ·rw [GN, decide_eq_true q6] at G
     by_cases q7 : (da.size : Int) ≤ s7
     ·rw [decide_eq_true q7] at G
      go_wp2
      go_ret
      exact ⟨ret_bool (by rw [G.out]; simp), X0.out.b⟩
     ·rw [decide_eq_false q7] at G
      go_wp2
      go_ret
      exact ⟨ret_bool (by rw [G.out]; simp; omega), X0.out.b⟩
    ·rw [GN, decide_eq_false q6] at G
     go_wp2
     go_ret
     exact ⟨ret_bool (by rw [G.out]; simp), X0.out.b⟩
   ·rw [decide_eq_false hn] at GN
    obtain ⟨q1, q2⟩ := nonemptyB hn
    clear hn NS
    subst z5
    generalize Nm.isName na.data.toList = b at *
    go_wp2_with fail
    (with_reducible refine (NM.out _).mono ?_); rintro e w1 ⟨rfl, rfl⟩
    cases b
    ·as_aux_lemma =>
     rw [GN] at G
     go_wp2
     go_ret
     exact ⟨ret_bool (by rw [G.out]; simp), X0.out.b⟩
    ·as_aux_lemma =>
     rw [GN] at G
     go_wp2
     go_ret
     exact ⟨ret_bool (by rw [G.out]; simp), X0.out.b⟩
  ·obtain ⟨s50, GN⟩ := NS.out.2 z5
   clear NS
   by_cases hn : na.size = 0
   ·obtain rfl := emptyB hn
    clear hn
    have hb : Nm.isName (⟨#[]⟩ : ByteArray).data.toList = false := rfl
    rw [hb] at GN NM
    clear hb
    go_wp2_with fail
    (with_reducible refine (NM.out _).mono ?_); rintro e w1 ⟨rfl, rfl⟩
    rw [GN] at G
    go_wp2
    go_ret
    exact ⟨ret_bool (by rw [G.out]; simp), X0.out.b⟩
   ·obtain ⟨q1, q2⟩ := nonemptyB hn
    clear hn
    generalize Nm.isName na.data.toList = b at *
    go_wp2_with fail
    (with_reducible refine (NM.out _).mono ?_); rintro e w1 ⟨rfl, rfl⟩
    cases b
    ·as_aux_lemma =>
     rw [GN] at G
     go_wp2
     go_ret
     exact ⟨ret_bool (by rw [G.out]; simp), X0.out.b⟩
    ·as_aux_lemma =>
     by_cases q6 : (ke.size : Int) ≤ s6
     ·rw [GN, decide_eq_true q6] at G
      by_cases q7 : (da.size : Int) ≤ s7
      ·rw [decide_eq_true q7] at G
       go_wp2
       go_ret
       exact ⟨ret_bool (by rw [G.out]; simp), X0.out.b⟩
      ·rw [decide_eq_false q7] at G
       go_wp2
       go_ret
       exact ⟨ret_bool (by rw [G.out]; simp; omega), X0.out.b⟩
     ·rw [GN, decide_eq_false q6] at G
      go_wp2
      go_ret
      exact ⟨ret_bool (by rw [G.out]; simp), X0.out.b⟩
 ·rw [Ev.bad_kind hk]
  have hb := (Below.refl _ w).alloc (Nat.le_refl _) (.cells #[.int .i64 kd, .int .i64 ru, .int .i64 ta, .int .i64 tr, .int .i64 n, .string na, .string ke, .string da] 28)
  have HB := Lib.hid hb
  clear hb hF he
  change Calls _ _ #[.agg #[.int .i64 kd, .int .i64 ru, .int .i64 ta, .int .i64 tr, .int .i64 n, .string na, .string ke, .string da]] _ _
  by_cases h1 : kd < 1
  ·clear hk
   go_enter Tryz.func28, Tryz.ntmps28
   go_wp2
   go_ret
   exact ⟨rfl, HB.out⟩
  ·have h9 : 10 ≤ kd := by omega
   have h1' : 1 ≤ kd := by omega
   clear hk h1
   go_enter Tryz.func28, Tryz.ntmps28
   go_wp2
   go_ret
   exact ⟨rfl, HB.out⟩
end Go.Proofs.YtkbekojnmdgdgaaGreatDoor
