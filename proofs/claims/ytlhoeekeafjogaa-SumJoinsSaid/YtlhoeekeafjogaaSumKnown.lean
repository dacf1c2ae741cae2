/-
  The law SumKnown: the fixed examples of chapter 2 come out as they are written there.
-/
import Derived.Test.YtlhoeekeafjogaaSumAwake
namespace Go.Proofs.Ytlhoeekeafjogaa
open Go.RowKit
theorem below_on {A B w : World} (h1 : Below A.heap.size A B) (h2 : Below B.heap.size B w) : Below A.heap.size A w := h1.trans (h2.mono h1.size)
theorem on_bad (w : World) : Calls Try.prog 9 #[.int .u32 65521, .slice none 0 0] w fun e w' => e = .returned (.tuple #[.int .u32 0, .bool false]) ∧ w = w' := by
  have h := on_any 65521 (by decide) (by decide) 0 none [] 0 (by decide) w Bytes.nil_
  have e1 : Su.onV 65521 [] = 0 := by decide
  have e2 : Su.okS 65521 = false := by decide
  rw [e1, e2] at h
  exact h
theorem join_at (s t n v : Int) (b : Bool) (h0 : 0 ≤ s ∧ s < 4294967296) (h1 : 0 ≤ t ∧ t < 4294967296) (hv : Su.joinV s t n = v) (hb : Su.joinOk s t n = b) (w : World) :
    Calls Try.prog 10 #[.int .u32 s, .int .u32 t, .int .i64 n] w fun e w' => e = .returned (.tuple #[.int .u32 v, .bool b]) ∧ w = w' := by
  subst hv hb; exact join_any s t n h0.1 h0.2 h1.1 h1.2 w
theorem turn_at (s n i x y v : Int) (b : Bool) (h0 : 0 ≤ s ∧ s < 4294967296) (h1 : n ≤ 9223372036854775807) (h2 : (0 ≤ x ∧ x ≤ 255) ∧ 0 ≤ y ∧ y ≤ 255) (hv : Su.turnV s n i x y = v) (hb : Su.turnOk s n i = b) (w : World) :
    Calls Try.prog 11 #[.int .u32 s, .int .i64 n, .int .i64 i, .int .u8 x, .int .u8 y] w fun e w' => e = .returned (.tuple #[.int .u32 v, .bool b]) ∧ w = w' := by
  subst hv hb; exact turn_any s n i x y h0.1 h0.2 h1 h2.1.1 h2.1.2 h2.2.1 h2.2.2 w
theorem good_at (s : Int) (b : Bool) (h0 : 0 ≤ s ∧ s < 4294967296) (hb : Su.okS s = b) (w : World) :
    Calls Try.prog 13 #[.int .u32 s] w fun e w' => e = .returned (.bool b) ∧ w = w' := by
  subst hb; exact good_any s h0.1 h0.2 w
set_option maxHeartbeats 2000000 in
set_option maxRecDepth 100000 in
theorem known_walk (w : World) : Calls Try.prog 3 #[] w fun e w' => e = .returned (.bool true) ∧ Below w.heap.size w w' := by
  have hcv := conv_lit
  go_enter Try.func3, Try.ntmps3
  go_wp2_with fail
  refine (awake_any _).mono ?_; rintro e w1 ⟨rfl, b1⟩
  go_wp2_with fail
  refine (on_bad _).mono ?_; rintro e w' ⟨rfl, rfl⟩
  go_wp2_with fail
  refine (join_at 1 4293984256 0 0 false (by decide) (by decide) (by decide) (by decide) _).mono ?_; rintro e w' ⟨rfl, rfl⟩
  go_wp2_with fail
  refine (join_at 1 1 (-1) 0 false (by decide) (by decide) (by decide) (by decide) _).mono ?_; rintro e w' ⟨rfl, rfl⟩
  go_wp2_with fail
  refine (turn_at 1 0 0 0 0 0 false (by decide) (by decide) (by decide) (by decide) (by decide) _).mono ?_; rintro e w' ⟨rfl, rfl⟩
  go_wp2_with fail
  refine (turn_at 1 5 5 0 0 0 false (by decide) (by decide) (by decide) (by decide) (by decide) _).mono ?_; rintro e w' ⟨rfl, rfl⟩
  go_wp2_with fail
  refine (turn_at 1 5 (-1) 0 0 0 false (by decide) (by decide) (by decide) (by decide) (by decide) _).mono ?_; rintro e w' ⟨rfl, rfl⟩
  go_wp2_with fail
  refine (lit_any _ [111, 117, 116] (by decide) (by decide) 44958041 (by decide) 3 rfl _ _ rfl).mono ?_; rintro e w2 ⟨rfl, b2⟩
  go_wp2_with fail
  refine (lit_any _ [114, 105, 100, 101, 114] (by decide) (by decide) 105579031 (by decide) 5 rfl _ _ rfl).mono ?_; rintro e w3 ⟨rfl, b3⟩
  go_wp2_with fail
  refine (join_at 44958041 105579031 5 263258991 true (by decide) (by decide) (by decide) (by decide) _).mono ?_; rintro e w' ⟨rfl, rfl⟩
  go_wp2_with fail
  refine (lit_any _ [97, 98, 99] (by decide) (by decide) 38600999 (by decide) 3 rfl _ _ rfl).mono ?_; rintro e w4 ⟨rfl, b4⟩
  go_wp2_with fail
  refine (turn_at 38600999 3 1 98 120 41484605 true (by decide) (by decide) (by decide) (by decide) (by decide) _).mono ?_; rintro e w' ⟨rfl, rfl⟩
  go_wp2_with fail
  refine (good_at 65521 false (by decide) (by decide) _).mono ?_; rintro e w' ⟨rfl, rfl⟩
  go_wp2_with fail
  refine (good_at 4293984256 false (by decide) (by decide) _).mono ?_; rintro e w' ⟨rfl, rfl⟩
  go_wp2_with fail
  refine (good_at 65520 true (by decide) (by decide) _).mono ?_; rintro e w' ⟨rfl, rfl⟩
  go_wp2_with fail
  refine (lit_any _ [111, 117, 116, 114, 105, 100, 101, 114] (by decide) (by decide) 263258991 (by decide) 8 rfl _ _ rfl).mono ?_; rintro e w5 ⟨rfl, b5⟩
  go_wp2_with fail
  refine (lit_any _ [97, 120, 99] (by decide) (by decide) 41484605 (by decide) 3 rfl _ _ rfl).mono ?_; rintro e w6 ⟨rfl, b6⟩
  go_wp2_with fail
  go_ret
  exact ⟨rfl, below_on b1 (below_on b2 (below_on b3 (below_on b4 (below_on b5 b6))))⟩
end Go.Proofs.Ytlhoeekeafjogaa
