/-
  The laws' own awake; the law BackKnown, walked.
-/
import Derived.Test.YtgjkpbibcaodjaaBkProg
namespace Go.Proofs.Ytgjkpbibcaodjaa
open Go.RowKit
namespace Bk
theorem tot_top {b : Nat} (hb : 64000 ≤ b) (n : Nat) : tot b n = 64000 * n := by
  have h : dl b (0 + 1) = 64000 := dl_top (by simpa using hb)
  rw [tot_tail h (Nat.zero_le n)]
  show 0 + 64000 * (n - 0) = _
  omega
theorem k0 : delayI 3 4 = 24 := by decide
theorem k1 : totalI 3 4 = 45 := by decide
theorem k2 : tryI 3 45 = 4 := by rw [show ((3 : Int)) = ((3 : Nat) : Int) from rfl, show ((45 : Int)) = ((45 : Nat) : Int) from rfl, tryI_nat (by decide), tryV_eq (n := 4) (by decide) ⟨by decide, by decide, .inr (by decide)⟩]; try rfl
theorem k3 : delayI 0 1 = 0 := by unfold delayI; rw [if_pos (by decide)]
theorem k4 : delayI 1 0 = 0 := by unfold delayI; rw [if_pos (by decide)]
theorem k5 : delayI 1 1 = 1 := by decide
theorem k6 : delayI 1000 7 = 64000 := by decide
theorem k7 : delayI 1000 8 = 64000 := by decide
theorem k8 : delayI 1099511627776 1 = 64000 := by decide
theorem k9 : delayI 1 1099511627776 = 64000 := by rw [show ((1 : Int)) = ((1 : Nat) : Int) from rfl, show ((1099511627776 : Int)) = ((1099511627776 : Nat) : Int) from rfl, delayI_nat (by decide) (by decide), dl_17 (by decide) (by decide)]; try rfl
theorem k10 : delayI (-5) 3 = 0 := by unfold delayI; rw [if_pos (by decide)]
theorem k11 : totalI 1 0 = 0 := by unfold totalI; rw [if_pos (by decide)]
theorem k12 : totalI 1 (-3) = 0 := by unfold totalI; rw [if_pos (by decide)]
theorem k13 : totalI 64000 1099511627776 = 137438953408000 := by rw [show ((64000 : Int)) = ((64000 : Nat) : Int) from rfl, show ((1099511627776 : Int)) = ((1099511627776 : Nat) : Int) from rfl, totalI_nat (by decide), show min 1099511627776 M = M from by decide, tot_top (by decide)]; try rfl
theorem k14 : tryI 1 0 = 0 := by rw [show ((1 : Int)) = ((1 : Nat) : Int) from rfl, show ((0 : Int)) = ((0 : Nat) : Int) from rfl, tryI_nat (by decide), tryV_eq (n := 0) (by decide) ⟨by decide, by decide, .inr (by decide)⟩]; try rfl
theorem k15 : tryI 1 6 = 2 := by rw [show ((1 : Int)) = ((1 : Nat) : Int) from rfl, show ((6 : Int)) = ((6 : Nat) : Int) from rfl, tryI_nat (by decide), tryV_eq (n := 2) (by decide) ⟨by decide, by decide, .inr (by decide)⟩]; try rfl
theorem k16 : tryI 1 7 = 3 := by rw [show ((1 : Int)) = ((1 : Nat) : Int) from rfl, show ((7 : Int)) = ((7 : Nat) : Int) from rfl, tryI_nat (by decide), tryV_eq (n := 3) (by decide) ⟨by decide, by decide, .inr (by decide)⟩]; try rfl
theorem k17 : tryI 0 9 = 0 := by unfold tryI; rw [if_pos (by decide)]
theorem k18 : tryI 1 (-1) = 0 := by unfold tryI; rw [if_pos (by decide)]
theorem k19 : tryI 64000 4611686018427387904 = 2147483647 := by rw [show ((64000 : Int)) = ((64000 : Nat) : Int) from rfl, show ((4611686018427387904 : Int)) = ((4611686018427387904 : Nat) : Int) from rfl, tryI_nat (by decide), tryV_eq (n := M) (by decide) ⟨Nat.le_refl _, by rw [tot_top (by decide)]; decide, .inl rfl⟩]; try rfl
end Bk
set_option maxRecDepth 20000 in
set_option maxHeartbeats 2000000 in
theorem awake_any (w : World) : Calls Try.prog 8 #[] w (BoolP w true) := by
  have K0 : Hid (∀ W, Calls Try.prog 9 #[.int .i64 3, .int .i64 4] W (NumP W 24)) := Lib.hid fun W => by
    have := delay_any 3 4 ⟨by decide, by decide⟩ ⟨by decide, by decide⟩ W
    rwa [Bk.k0] at this
  have K1 : Hid (∀ W, Calls Try.prog 10 #[.int .i64 3, .int .i64 4] W (NumP W 45)) := Lib.hid fun W => by
    have := total_any 3 4 ⟨by decide, by decide⟩ ⟨by decide, by decide⟩ W
    rwa [Bk.k1] at this
  have K2 : Hid (∀ W, Calls Try.prog 11 #[.int .i64 3, .int .i64 45] W (NumP W 4)) := Lib.hid fun W => by
    have := try_any 3 45 ⟨by decide, by decide⟩ ⟨by decide, by decide⟩ W
    rwa [Bk.k2] at this
  have FB : Hid (Below w.heap.size w w) := Lib.hid (Below.refl _ _)
  go_enter Try.func8, Try.ntmps8
  go_wp2_with fail
  (with_reducible refine (K0.out _).mono ?_); rintro e _ ⟨rfl, cB⟩
  have FB : Hid (Below w.heap.size w _) := Lib.hid (FB.out.trans (cB.out.mono FB.out.size))
  clear cB
  go_wp2_with fail
  (with_reducible refine (K1.out _).mono ?_); rintro e _ ⟨rfl, cB⟩
  have FB : Hid (Below w.heap.size w _) := Lib.hid (FB.out.trans (cB.out.mono FB.out.size))
  clear cB
  go_wp2_with fail
  (with_reducible refine (K2.out _).mono ?_); rintro e _ ⟨rfl, cB⟩
  have FB : Hid (Below w.heap.size w _) := Lib.hid (FB.out.trans (cB.out.mono FB.out.size))
  clear cB
  go_wp2
  go_ret
  exact ⟨rfl, FB⟩
set_option maxRecDepth 20000 in
set_option maxHeartbeats 4000000 in
theorem known_walk (w : World) : Calls Try.prog 3 #[] w (BoolP w true) := by
  have AW : Hid (Calls Try.prog 8 #[] w (BoolP w true)) := Lib.hid (awake_any w)
  have K3 : Hid (∀ W, Calls Try.prog 9 #[.int .i64 0, .int .i64 1] W (NumP W 0)) := Lib.hid fun W => by
    have := delay_any 0 1 ⟨by decide, by decide⟩ ⟨by decide, by decide⟩ W
    rwa [Bk.k3] at this
  have K4 : Hid (∀ W, Calls Try.prog 9 #[.int .i64 1, .int .i64 0] W (NumP W 0)) := Lib.hid fun W => by
    have := delay_any 1 0 ⟨by decide, by decide⟩ ⟨by decide, by decide⟩ W
    rwa [Bk.k4] at this
  have K5 : Hid (∀ W, Calls Try.prog 9 #[.int .i64 1, .int .i64 1] W (NumP W 1)) := Lib.hid fun W => by
    have := delay_any 1 1 ⟨by decide, by decide⟩ ⟨by decide, by decide⟩ W
    rwa [Bk.k5] at this
  have K6 : Hid (∀ W, Calls Try.prog 9 #[.int .i64 1000, .int .i64 7] W (NumP W 64000)) := Lib.hid fun W => by
    have := delay_any 1000 7 ⟨by decide, by decide⟩ ⟨by decide, by decide⟩ W
    rwa [Bk.k6] at this
  have K7 : Hid (∀ W, Calls Try.prog 9 #[.int .i64 1000, .int .i64 8] W (NumP W 64000)) := Lib.hid fun W => by
    have := delay_any 1000 8 ⟨by decide, by decide⟩ ⟨by decide, by decide⟩ W
    rwa [Bk.k7] at this
  have K8 : Hid (∀ W, Calls Try.prog 9 #[.int .i64 1099511627776, .int .i64 1] W (NumP W 64000)) := Lib.hid fun W => by
    have := delay_any 1099511627776 1 ⟨by decide, by decide⟩ ⟨by decide, by decide⟩ W
    rwa [Bk.k8] at this
  have K9 : Hid (∀ W, Calls Try.prog 9 #[.int .i64 1, .int .i64 1099511627776] W (NumP W 64000)) := Lib.hid fun W => by
    have := delay_any 1 1099511627776 ⟨by decide, by decide⟩ ⟨by decide, by decide⟩ W
    rwa [Bk.k9] at this
  have K10 : Hid (∀ W, Calls Try.prog 9 #[.int .i64 (-5), .int .i64 3] W (NumP W 0)) := Lib.hid fun W => by
    have := delay_any (-5) 3 ⟨by decide, by decide⟩ ⟨by decide, by decide⟩ W
    rwa [Bk.k10] at this
  have K11 : Hid (∀ W, Calls Try.prog 10 #[.int .i64 1, .int .i64 0] W (NumP W 0)) := Lib.hid fun W => by
    have := total_any 1 0 ⟨by decide, by decide⟩ ⟨by decide, by decide⟩ W
    rwa [Bk.k11] at this
  have K12 : Hid (∀ W, Calls Try.prog 10 #[.int .i64 1, .int .i64 (-3)] W (NumP W 0)) := Lib.hid fun W => by
    have := total_any 1 (-3) ⟨by decide, by decide⟩ ⟨by decide, by decide⟩ W
    rwa [Bk.k12] at this
  have K13 : Hid (∀ W, Calls Try.prog 10 #[.int .i64 64000, .int .i64 1099511627776] W (NumP W 137438953408000)) := Lib.hid fun W => by
    have := total_any 64000 1099511627776 ⟨by decide, by decide⟩ ⟨by decide, by decide⟩ W
    rwa [Bk.k13] at this
  have K14 : Hid (∀ W, Calls Try.prog 11 #[.int .i64 1, .int .i64 0] W (NumP W 0)) := Lib.hid fun W => by
    have := try_any 1 0 ⟨by decide, by decide⟩ ⟨by decide, by decide⟩ W
    rwa [Bk.k14] at this
  have K15 : Hid (∀ W, Calls Try.prog 11 #[.int .i64 1, .int .i64 6] W (NumP W 2)) := Lib.hid fun W => by
    have := try_any 1 6 ⟨by decide, by decide⟩ ⟨by decide, by decide⟩ W
    rwa [Bk.k15] at this
  have K16 : Hid (∀ W, Calls Try.prog 11 #[.int .i64 1, .int .i64 7] W (NumP W 3)) := Lib.hid fun W => by
    have := try_any 1 7 ⟨by decide, by decide⟩ ⟨by decide, by decide⟩ W
    rwa [Bk.k16] at this
  have K17 : Hid (∀ W, Calls Try.prog 11 #[.int .i64 0, .int .i64 9] W (NumP W 0)) := Lib.hid fun W => by
    have := try_any 0 9 ⟨by decide, by decide⟩ ⟨by decide, by decide⟩ W
    rwa [Bk.k17] at this
  have K18 : Hid (∀ W, Calls Try.prog 11 #[.int .i64 1, .int .i64 (-1)] W (NumP W 0)) := Lib.hid fun W => by
    have := try_any 1 (-1) ⟨by decide, by decide⟩ ⟨by decide, by decide⟩ W
    rwa [Bk.k18] at this
  have K19 : Hid (∀ W, Calls Try.prog 11 #[.int .i64 64000, .int .i64 4611686018427387904] W (NumP W 2147483647)) := Lib.hid fun W => by
    have := try_any 64000 4611686018427387904 ⟨by decide, by decide⟩ ⟨by decide, by decide⟩ W
    rwa [Bk.k19] at this
  go_enter Try.func3, Try.ntmps3
  go_wp2_with fail
  (with_reducible refine AW.out.mono ?_); rintro e _ ⟨rfl, FB⟩
  go_wp2_with fail
  (with_reducible refine (K3.out _).mono ?_); rintro e _ ⟨rfl, cB⟩
  have FB : Hid (Below w.heap.size w _) := Lib.hid (FB.out.trans (cB.out.mono FB.out.size))
  clear cB
  go_wp2_with fail
  (with_reducible refine (K4.out _).mono ?_); rintro e _ ⟨rfl, cB⟩
  have FB : Hid (Below w.heap.size w _) := Lib.hid (FB.out.trans (cB.out.mono FB.out.size))
  clear cB
  go_wp2_with fail
  (with_reducible refine (K5.out _).mono ?_); rintro e _ ⟨rfl, cB⟩
  have FB : Hid (Below w.heap.size w _) := Lib.hid (FB.out.trans (cB.out.mono FB.out.size))
  clear cB
  go_wp2_with fail
  (with_reducible refine (K6.out _).mono ?_); rintro e _ ⟨rfl, cB⟩
  have FB : Hid (Below w.heap.size w _) := Lib.hid (FB.out.trans (cB.out.mono FB.out.size))
  clear cB
  go_wp2_with fail
  (with_reducible refine (K7.out _).mono ?_); rintro e _ ⟨rfl, cB⟩
  have FB : Hid (Below w.heap.size w _) := Lib.hid (FB.out.trans (cB.out.mono FB.out.size))
  clear cB
  go_wp2_with fail
  (with_reducible refine (K8.out _).mono ?_); rintro e _ ⟨rfl, cB⟩
  have FB : Hid (Below w.heap.size w _) := Lib.hid (FB.out.trans (cB.out.mono FB.out.size))
  clear cB
  go_wp2_with fail
  (with_reducible refine (K9.out _).mono ?_); rintro e _ ⟨rfl, cB⟩
  have FB : Hid (Below w.heap.size w _) := Lib.hid (FB.out.trans (cB.out.mono FB.out.size))
  clear cB
  go_wp2_with fail
  (with_reducible refine (K10.out _).mono ?_); rintro e _ ⟨rfl, cB⟩
  have FB : Hid (Below w.heap.size w _) := Lib.hid (FB.out.trans (cB.out.mono FB.out.size))
  clear cB
  go_wp2_with fail
  (with_reducible refine (K11.out _).mono ?_); rintro e _ ⟨rfl, cB⟩
  have FB : Hid (Below w.heap.size w _) := Lib.hid (FB.out.trans (cB.out.mono FB.out.size))
  clear cB
  go_wp2_with fail
  (with_reducible refine (K12.out _).mono ?_); rintro e _ ⟨rfl, cB⟩
  have FB : Hid (Below w.heap.size w _) := Lib.hid (FB.out.trans (cB.out.mono FB.out.size))
  clear cB
  go_wp2_with fail
  (with_reducible refine (K13.out _).mono ?_); rintro e _ ⟨rfl, cB⟩
  have FB : Hid (Below w.heap.size w _) := Lib.hid (FB.out.trans (cB.out.mono FB.out.size))
  clear cB
  go_wp2_with fail
  (with_reducible refine (K14.out _).mono ?_); rintro e _ ⟨rfl, cB⟩
  have FB : Hid (Below w.heap.size w _) := Lib.hid (FB.out.trans (cB.out.mono FB.out.size))
  clear cB
  go_wp2_with fail
  (with_reducible refine (K15.out _).mono ?_); rintro e _ ⟨rfl, cB⟩
  have FB : Hid (Below w.heap.size w _) := Lib.hid (FB.out.trans (cB.out.mono FB.out.size))
  clear cB
  go_wp2_with fail
  (with_reducible refine (K16.out _).mono ?_); rintro e _ ⟨rfl, cB⟩
  have FB : Hid (Below w.heap.size w _) := Lib.hid (FB.out.trans (cB.out.mono FB.out.size))
  clear cB
  go_wp2_with fail
  (with_reducible refine (K17.out _).mono ?_); rintro e _ ⟨rfl, cB⟩
  have FB : Hid (Below w.heap.size w _) := Lib.hid (FB.out.trans (cB.out.mono FB.out.size))
  clear cB
  go_wp2_with fail
  (with_reducible refine (K18.out _).mono ?_); rintro e _ ⟨rfl, cB⟩
  have FB : Hid (Below w.heap.size w _) := Lib.hid (FB.out.trans (cB.out.mono FB.out.size))
  clear cB
  go_wp2_with fail
  (with_reducible refine (K19.out _).mono ?_); rintro e _ ⟨rfl, cB⟩
  have FB : Hid (Below w.heap.size w _) := Lib.hid (FB.out.trans (cB.out.mono FB.out.size))
  clear cB
  go_wp2
  go_ret
  exact ⟨rfl, FB⟩
end Go.Proofs.Ytgjkpbibcaodjaa
