/-
  Part 30 of the texts behind the law: TEvIs.
-/
import Derived.Test.YtkbekojnmdgdgaaGreatDoorTf1
import Derived.Lib.MinMax
/- EvIs -/
namespace Go.Proofs.YtkbekojnmdgdgaaGreatDoor
open Go.RowKit
def fromV (a v m : Int) : Bool := decide (min a m ≤ v) && decide (v ≤ m)
set_option maxHeartbeats 1000000 in
theorem isFrom_any (a v m : Int) (w : World) : Calls Tryz.prog 53 #[.int .i64 a, .int .i64 v, .int .i64 m] w fun e w' => e = .returned (.bool (fromV a v m)) ∧ w = w' := by
 have F : Hid (fromV a v m = (decide (min a m ≤ v) && decide (v ≤ m))) := Lib.hid rfl
 by_cases h1 : min a m ≤ v
 ·by_cases h2 : v ≤ m
  ·rw [decide_eq_true h1, decide_eq_true h2] at F
   go_enter Tryz.func53, Tryz.ntmps53
   go_wp2
   go_ret
   exact ⟨ret_bool (by rw [F.out]; rfl), rfl⟩
  ·rw [decide_eq_true h1, decide_eq_false h2] at F
   go_enter Tryz.func53, Tryz.ntmps53
   go_wp2
   go_ret
   exact ⟨ret_bool (by rw [F.out]; simp), rfl⟩
 ·rw [decide_eq_false h1] at F
  go_enter Tryz.func53, Tryz.ntmps53
  go_wp2
  go_ret
  exact ⟨ret_bool (by rw [F.out]; simp), rfl⟩
set_option maxHeartbeats 1000000 in
theorem isFrom64_any (a v m : Int) (w : World) : Calls Tryz.prog 54 #[.int .i64 a, .int .i64 v, .int .i64 m] w fun e w' => e = .returned (.bool (fromV a v m)) ∧ w = w' := by
 have F : Hid (fromV a v m = (decide (min a m ≤ v) && decide (v ≤ m))) := Lib.hid rfl
 by_cases h1 : min a m ≤ v
 ·by_cases h2 : v ≤ m
  ·rw [decide_eq_true h1, decide_eq_true h2] at F
   go_enter Tryz.func54, Tryz.ntmps54
   go_wp2
   go_ret
   exact ⟨ret_bool (by rw [F.out]; rfl), rfl⟩
  ·rw [decide_eq_true h1, decide_eq_false h2] at F
   go_enter Tryz.func54, Tryz.ntmps54
   go_wp2
   go_ret
   exact ⟨ret_bool (by rw [F.out]; simp), rfl⟩
 ·rw [decide_eq_false h1] at F
  go_enter Tryz.func54, Tryz.ntmps54
  go_wp2
  go_ret
  exact ⟨ret_bool (by rw [F.out]; simp), rfl⟩
end Go.Proofs.YtkbekojnmdgdgaaGreatDoor
