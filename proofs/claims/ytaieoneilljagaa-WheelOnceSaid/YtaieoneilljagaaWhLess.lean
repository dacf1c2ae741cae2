/-
  The reference's less.
-/
import Derived.Test.YtaieoneilljagaaWhRef
namespace Go.Proofs.Ytaieoneilljagaa
open Go.RowKit
def BoolP (w : World) (b : Bool) (e : Ending) (w' : World) : Prop := e = .returned (.bool b) ∧ Hid (Below w.heap.size w w')
set_option maxHeartbeats 2000000 in
theorem refLess_any (a b : Wh.T) (w : World) : Calls Try.prog 24 #[.agg #[.int .i64 a.run, .int .i64 a.task, .int .i64 a.at_], .agg #[.int .i64 b.run, .int .i64 b.task, .int .i64 b.at_]] w (BoolP w (Wh.less a b)) := by
  have B2 : Hid (Below w.heap.size w ((w.alloc (.cells #[.int .i64 a.run, .int .i64 a.task, .int .i64 a.at_] 39)).alloc (.cells #[.int .i64 b.run, .int .i64 b.task, .int .i64 b.at_] 39))) := Lib.hid (((Below.refl _ _).alloc (Nat.le_refl _) _).alloc (by simp) _)
  go_enter Try.func24, Try.ntmps24
  by_cases h1 : a.at_ = b.at_
  · by_cases h2 : a.run = b.run
    · have E : Hid (Wh.less a b = decide (a.task < b.task)) := Lib.hid (by unfold Wh.less; rw [if_pos h1, if_pos h2])
      rw [h1, h2] at B2 ⊢
      clear h1 h2
      go_wp2
      go_ret
      exact ⟨ret_bool E.out.symm, B2⟩
    · have E : Hid (Wh.less a b = decide (a.run < b.run)) := Lib.hid (by unfold Wh.less; rw [if_pos h1, if_neg h2])
      have hd : (a.run == b.run) = false := by simpa using h2
      rw [h1] at B2 ⊢
      clear h1
      go_wp2
      go_ret
      exact ⟨ret_bool E.out.symm, B2⟩
  · have E : Hid (Wh.less a b = decide (a.at_ < b.at_)) := Lib.hid (by unfold Wh.less; rw [if_neg h1])
    have hd : (a.at_ == b.at_) = false := by simpa using h1
    go_wp2
    go_ret
    exact ⟨ret_bool E.out.symm, B2⟩
end Go.Proofs.Ytaieoneilljagaa
