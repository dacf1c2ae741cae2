/-
  The program's order of timers: by tick, then run, then task.
-/
import Derived.Test.YtaieoneilljagaaWhCmp
import Derived.Sort.Grow
import Derived.Deep.DrawnRows
namespace Go.Proofs.Ytaieoneilljagaa
open Go.RowKit Go.Sort
attribute [local go_sem ↓] Go.wp_at_zero Go.wp_at_succ
set_option maxRecDepth 20000
/-- What 'order' answers. -/
def cfW (x y : Wh.T) : Int := or3 (Lib.compareInt x.at_ y.at_) (Lib.compareInt x.run y.run) (Lib.compareInt x.task y.task)
def encT (x : Wh.T) : List Value := [.int .i64 x.run, .int .i64 x.task, .int .i64 x.at_]
theorem or_new (a b c : Int) (cap : Nat) (w : World) : Calls Try.prog 28 #[.slice (some ⟨w.heap.size, 0, none⟩) 3 cap] (w.alloc (.cells #[.int .i64 a, .int .i64 b, .int .i64 c] 3)).drew fun e w' => e = .returned (.int .i64 (or3 a b c)) ∧ (w.alloc (.cells #[.int .i64 a, .int .i64 b, .int .i64 c] 3)).drew = w' :=
  or_any _ _ a b c _ (by simp) (by simp) (by simp)
set_option maxHeartbeats 2000000 in
theorem order_any (x y : Wh.T) (W : World) : Calls Try.prog 23 #[.agg #[.int .i64 x.run, .int .i64 x.task, .int .i64 x.at_], .agg #[.int .i64 y.run, .int .i64 y.task, .int .i64 y.at_]] W fun e w' => e = .returned (.int .i64 (cfW x y)) ∧ ∃ q os', w' = grow (W.drewN q) os' := by
  unfold cfW
  generalize ea : Lib.compareInt x.at_ y.at_ = a
  generalize eb : Lib.compareInt x.run y.run = b
  generalize ec : Lib.compareInt x.task y.task = c
  have CA : ∀ w, Calls Try.prog 29 #[.int .i64 x.at_, .int .i64 y.at_] w fun e w' => e = .returned (.int .i64 a) ∧ w = w' := fun w => ea ▸ cmp64_any _ _ w
  have CB : ∀ w, Calls Try.prog 30 #[.int .i64 x.run, .int .i64 y.run] w fun e w' => e = .returned (.int .i64 b) ∧ w = w' := fun w => eb ▸ cmpI_any _ _ w
  have CC : ∀ w, Calls Try.prog 30 #[.int .i64 x.task, .int .i64 y.task] w fun e w' => e = .returned (.int .i64 c) ∧ w = w' := fun w => ec ▸ cmpI_any _ _ w
  clear ea eb ec
  go_enter Try.func23, Try.ntmps23
  go_wp2_with fail
  generalize hw1 : ((W.alloc (Obj.cells #[Value.int IntKind.i64 x.run, Value.int IntKind.i64 x.task, Value.int IntKind.i64 x.at_] 56)).alloc (Obj.cells #[Value.int IntKind.i64 y.run, Value.int IntKind.i64 y.task, Value.int IntKind.i64 y.at_] 56)) = w1
  have B1 : w1.heap.size = W.heap.size + 1 + 1 := by rw [← hw1]; simp
  have HW := Lib.hid hw1
  have HB := Lib.hid B1
  have c0 : w1.cell? ⟨W.heap.size, 0, none⟩ = some (.int .i64 x.run) ∧ w1.cell? ⟨W.heap.size, 1, none⟩ = some (.int .i64 x.task) ∧ w1.cell? ⟨W.heap.size, 2, none⟩ = some (.int .i64 x.at_) ∧ w1.cell? ⟨W.heap.size + 1, 0, none⟩ = some (.int .i64 y.run) ∧ w1.cell? ⟨W.heap.size + 1, 1, none⟩ = some (.int .i64 y.task) ∧ w1.cell? ⟨W.heap.size + 1, 2, none⟩ = some (.int .i64 y.at_) := by
    rw [← hw1]
    simp
  clear hw1 B1
  obtain ⟨c0, c1, c2, c3, c4, c5⟩ := c0
  go_region_held3 (fun w' => w'.cell? ⟨W.heap.size, 0, none⟩ = some (.int .i64 x.run) ∧ w'.cell? ⟨W.heap.size, 1, none⟩ = some (.int .i64 x.task) ∧ w'.cell? ⟨W.heap.size, 2, none⟩ = some (.int .i64 x.at_) ∧ w'.cell? ⟨W.heap.size + 1, 0, none⟩ = some (.int .i64 y.run) ∧ w'.cell? ⟨W.heap.size + 1, 1, none⟩ = some (.int .i64 y.task) ∧ w'.cell? ⟨W.heap.size + 1, 2, none⟩ = some (.int .i64 y.at_)) (go_keep)
    (first
      | (go_at_call 29; refine (CA _).mono ?_; rintro e w' ⟨rfl, rfl⟩)
      | (go_at_call 30; (first | ((with_reducible refine (CB _).mono ?_); rintro e w' ⟨rfl, rfl⟩) | ((with_reducible refine (CC _).mono ?_); rintro e w' ⟨rfl, rfl⟩)))
      | (go_at_call 28; refine (or_new a b c _ _).mono ?_; rintro e w' ⟨rfl, rfl⟩))
  go_wp2
  go_ret
  exact ⟨rfl, 1, _, by rw [← HW.out, alloc_eq_grow, alloc_eq_grow, alloc_eq_grow, grow_grow, grow_grow]; rfl⟩
theorem cmpI_lt {a b : Int} : Lib.compareInt a b < 0 ↔ a < b := by unfold Lib.compareInt; (repeat' split) <;> omega
theorem cmpI_ne {a b : Int} : Lib.compareInt a b ≠ 0 ↔ a ≠ b := by unfold Lib.compareInt; (repeat' split) <;> omega
/-- 'order' is below 0 exactly if the first timer comes ahead. -/
theorem cfW_less (x y : Wh.T) : cfW x y < 0 ↔ Wh.less x y = true := by
  unfold cfW or3
  rw [Wh.less_iff]
  by_cases h1 : x.at_ = y.at_
  · rw [if_neg (by rw [cmpI_ne]; simpa using h1)]
    by_cases h2 : x.run = y.run
    · rw [if_neg (by rw [cmpI_ne]; simpa using h2), cmpI_lt]; omega
    · rw [if_pos (cmpI_ne.2 h2), cmpI_lt]; omega
  · rw [if_pos (cmpI_ne.2 h1), cmpI_lt]; omega
end Go.Proofs.Ytaieoneilljagaa
