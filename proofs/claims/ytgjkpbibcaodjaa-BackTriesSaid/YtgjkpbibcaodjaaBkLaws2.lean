/-
  The laws BackTries, BackSums, walked.
-/
import Derived.Test.YtgjkpbibcaodjaaBkLaws
namespace Go.Proofs.Ytgjkpbibcaodjaa
open Go.RowKit
set_option maxHeartbeats 4000000 in
theorem tries_walk (b t q : Int) (hb : is64 b) (ht : is64 t) (hq : is64 q) (w : World) : Calls Try.prog 5 #[.int .i64 b, .int .i64 t, .int .i64 q] w (BoolP w true) := by
  have AW : Hid (Calls Try.prog 8 #[] w (BoolP w true)) := Lib.hid (awake_any w)
  by_cases h : 1 ≤ b ∧ 1 ≤ t ∧ t ≤ 1000 ∧ 0 ≤ q
  · obtain ⟨h1, h2, h3, h4⟩ := h
    obtain ⟨B, rfl⟩ : ∃ B : Nat, b = (B : Int) := ⟨b.toNat, by omega⟩
    obtain ⟨T, rfl⟩ : ∃ T : Nat, t = (T : Int) := ⟨t.toNat, by omega⟩
    obtain ⟨Q, rfl⟩ : ∃ Q : Nat, q = (Q : Int) := ⟨q.toNat, by omega⟩
    have hB : 1 ≤ B := by omega
    have IS := Bk.tryV_is B Q
    have EX : ∃ x1 x2 y1 y2 z u v : Int, Bk.delayI B T = x1 ∧ Bk.delayI B ((T : Int) + 1) = x2 ∧ Bk.totalI B T = y1 ∧ Bk.totalI B ((T : Int) + 1) = y2 ∧ Bk.tryI B Q = z ∧ Bk.totalI B z = u ∧ (z < 2147483647 → Bk.totalI B (z + 1) = v ∧ (Q : Int) < v) ∧
        x1 ≤ x2 ∧ (x2 = 2 * x1 ∨ x2 = 64000) ∧ 0 ≤ x1 ∧ x1 ≤ 64000 ∧ y2 = y1 + x2 ∧ u ≤ (Q : Int) ∧ 0 ≤ z ∧ z ≤ 2147483647 ∧ 0 ≤ y1 ∧ y1 ≤ 137438953408000 ∧ x2 ≤ 64000 := by
      refine ⟨Bk.dl B T, Bk.dl B (T + 1), Bk.tot B T, Bk.tot B (T + 1), Bk.tryV B Q, Bk.tot B (Bk.tryV B Q), Bk.tot B (Bk.tryV B Q + 1), ?_, ?_, ?_, ?_, ?_, ?_, ?_, ?_, ?_, ?_, ?_, ?_, ?_, ?_, ?_, ?_, ?_, ?_⟩
      · exact Bk.delayI_nat hB (by omega)
      · exact Bk.delayI_nat (t := T + 1) hB (by omega)
      · rw [Bk.totalI_nat hB, Nat.min_eq_left (by unfold Bk.M; omega)]
      · rw [show ((T : Int) + 1) = ((T + 1 : Nat) : Int) from rfl, Bk.totalI_nat hB, Nat.min_eq_left (by unfold Bk.M; omega)]
      · exact Bk.tryI_nat hB
      · rw [Bk.totalI_nat hB, Nat.min_eq_left IS.most]
      · intro hz
        have hn : Bk.tryV B Q < 2147483647 := by omega
        refine ⟨?_, ?_⟩
        · rw [show ((Bk.tryV B Q : Int) + 1) = ((Bk.tryV B Q + 1 : Nat) : Int) from rfl, Bk.totalI_nat hB, Nat.min_eq_left (by unfold Bk.M; omega)]
        · rcases IS.more with e | e
          · unfold Bk.M at e; omega
          · omega
      · have := Bk.dl_step B T; omega
      · have h5 := Bk.dl_next B (k := T) (by omega)
        rw [h5]
        omega
      · omega
      · have := Bk.dl_le B T; omega
      · show ((Bk.tot B T + Bk.dl B (T + 1) : Nat) : Int) = _; omega
      · have := IS.fits; omega
      · omega
      · have := IS.most; unfold Bk.M at this; omega
      · omega
      · have := Bk.tot_le B T; omega
      · have := Bk.dl_le B (T + 1); omega
    obtain ⟨x1, x2, y1, y2, z, u, v, e1, e2, e3, e4, e5, e6, e7, l1, l2, l3, l4, l5, l6, l7, l8, l9, l10, l11⟩ := EX
    have D1 : Hid (∀ W, Calls Try.prog 9 #[.int .i64 (B : Int), .int .i64 (T : Int)] W (NumP W x1)) := Lib.hid fun W => by rw [← e1]; exact delay_any B T hb ht W
    have D2 : Hid (∀ W, Calls Try.prog 9 #[.int .i64 (B : Int), .int .i64 ((T : Int) + 1)] W (NumP W x2)) := Lib.hid fun W => by rw [← e2]; exact delay_any B _ hb ⟨by omega, by omega⟩ W
    have T1 : Hid (∀ W, Calls Try.prog 10 #[.int .i64 (B : Int), .int .i64 (T : Int)] W (NumP W y1)) := Lib.hid fun W => by rw [← e3]; exact total_any B T hb ht W
    have T2 : Hid (∀ W, Calls Try.prog 10 #[.int .i64 (B : Int), .int .i64 ((T : Int) + 1)] W (NumP W (y1 + x2))) := Lib.hid fun W => by rw [← l5, ← e4]; exact total_any B _ hb ⟨by omega, by omega⟩ W
    have R1 : Hid (∀ W, Calls Try.prog 11 #[.int .i64 (B : Int), .int .i64 (Q : Int)] W (NumP W z)) := Lib.hid fun W => by rw [← e5]; exact try_any B Q hb hq W
    have T3 : Hid (∀ W, Calls Try.prog 10 #[.int .i64 (B : Int), .int .i64 z] W (NumP W u)) := Lib.hid fun W => by rw [← e6]; exact total_any B z hb ⟨by omega, by omega⟩ W
    have T4 : Hid (z < 2147483647 → ∀ W, Calls Try.prog 10 #[.int .i64 (B : Int), .int .i64 (z + 1)] W (NumP W v)) := Lib.hid fun hz W => by rw [← (e7 hz).1]; exact total_any B _ hb ⟨by omega, by omega⟩ W
    have VQ : Hid (z < 2147483647 → (Q : Int) < v) := Lib.hid fun hz => (e7 hz).2
    have hc1 : decide (x2 < x1) = false := decide_eq_false (by omega)
    have hc2 : decide (64000 < x1) = false := decide_eq_false (by omega)
    have hc3 : decide (u ≤ (Q : Int)) = true := decide_eq_true (by omega)

    clear hb ht hq hB IS e1 e2 e3 e4 e5 e6 e7 l5
    go_enter Try.func5, Try.ntmps5
    go_wp2_with fail
    (with_reducible refine AW.out.mono ?_); rintro e _ ⟨rfl, FB⟩
    go_wp2_with fail
    (with_reducible refine (D1.out _).mono ?_); rintro e _ ⟨rfl, cB⟩
    have FB : Hid (Below w.heap.size w _) := Lib.hid (FB.out.trans (cB.out.mono FB.out.size)); clear cB
    go_wp2_with fail
    (with_reducible refine (D2.out _).mono ?_); rintro e _ ⟨rfl, cB⟩
    have FB : Hid (Below w.heap.size w _) := Lib.hid (FB.out.trans (cB.out.mono FB.out.size)); clear cB
    go_wp2_with fail
    (with_reducible refine (R1.out _).mono ?_); rintro e _ ⟨rfl, cB⟩
    have FB : Hid (Below w.heap.size w _) := Lib.hid (FB.out.trans (cB.out.mono FB.out.size)); clear cB
    rcases Classical.em (x2 = 2 * x1) with hx | hx
    · subst hx
      clear l2
      go_wp2_with fail
      (with_reducible refine (T2.out _).mono ?_); rintro e _ ⟨rfl, cB⟩
      have FB : Hid (Below w.heap.size w _) := Lib.hid (FB.out.trans (cB.out.mono FB.out.size)); clear cB
      go_wp2_with fail
      (with_reducible refine (T1.out _).mono ?_); rintro e _ ⟨rfl, cB⟩
      have FB : Hid (Below w.heap.size w _) := Lib.hid (FB.out.trans (cB.out.mono FB.out.size)); clear cB
      go_wp2_with fail
      (with_reducible refine (T3.out _).mono ?_); rintro e _ ⟨rfl, cB⟩
      have FB : Hid (Below w.heap.size w _) := Lib.hid (FB.out.trans (cB.out.mono FB.out.size)); clear cB
      by_cases hz : z = 2147483647
      · subst hz
        go_wp2
        go_ret
        exact ⟨rfl, FB⟩
      · have hz2 : z < 2147483647 := by omega
        have T5 := Lib.hid (T4.out hz2)
        have hv := VQ.out hz2
        have hz3 : (z == 2147483647) = false := by simpa using hz
        have hz4 : IntKind.i64.wrap (z + 1) = z + 1 := IntWalk.i64_in _ (by omega)
        clear hz
        go_wp2_with fail
        (with_reducible refine (T5.out _).mono ?_); rintro e _ ⟨rfl, cB⟩
        have FB : Hid (Below w.heap.size w _) := Lib.hid (FB.out.trans (cB.out.mono FB.out.size)); clear cB
        go_wp2
        go_ret
        exact ⟨rfl, FB⟩
    · obtain rfl : x2 = 64000 := l2.resolve_left hx
      have hn : ((64000 : Int) == 2 * x1) = false := by simpa using hx
      have hn2 : ((64000 : Int) != 2 * x1) = true := by simpa using hx
      have hn3 : IntKind.i64.wrap (2 * x1) = 2 * x1 := IntWalk.i64_in _ (by omega)
      clear l2 l1 l11
      go_wp2_with fail
      (with_reducible refine (T2.out _).mono ?_); rintro e _ ⟨rfl, cB⟩
      have FB : Hid (Below w.heap.size w _) := Lib.hid (FB.out.trans (cB.out.mono FB.out.size)); clear cB
      go_wp2_with fail
      (with_reducible refine (T1.out _).mono ?_); rintro e _ ⟨rfl, cB⟩
      have FB : Hid (Below w.heap.size w _) := Lib.hid (FB.out.trans (cB.out.mono FB.out.size)); clear cB
      go_wp2_with fail
      (with_reducible refine (T3.out _).mono ?_); rintro e _ ⟨rfl, cB⟩
      have FB : Hid (Below w.heap.size w _) := Lib.hid (FB.out.trans (cB.out.mono FB.out.size)); clear cB
      by_cases hz : z = 2147483647
      · subst hz
        go_wp2
        go_ret
        exact ⟨rfl, FB⟩
      · have hz2 : z < 2147483647 := by omega
        have T5 := Lib.hid (T4.out hz2)
        have hv := VQ.out hz2
        have hz3 : (z == 2147483647) = false := by simpa using hz
        have hz4 : IntKind.i64.wrap (z + 1) = z + 1 := IntWalk.i64_in _ (by omega)
        clear hz
        go_wp2_with fail
        (with_reducible refine (T5.out _).mono ?_); rintro e _ ⟨rfl, cB⟩
        have FB : Hid (Below w.heap.size w _) := Lib.hid (FB.out.trans (cB.out.mono FB.out.size)); clear cB
        go_wp2
        go_ret
        exact ⟨rfl, FB⟩
  · clear hb ht hq
    go_enter Try.func5, Try.ntmps5
    go_wp2_with fail
    (with_reducible refine AW.out.mono ?_); rintro e _ ⟨rfl, FB⟩
    by_cases h1 : b < 1
    · clear h
      go_wp2
      go_ret
      exact ⟨rfl, FB⟩
    · by_cases h2 : t < 1
      · clear h
        go_wp2
        go_ret
        exact ⟨rfl, FB⟩
      · by_cases h3 : 1000 < t
        · clear h h2
          go_wp2
          go_ret
          exact ⟨rfl, FB⟩
        · have h4 : q < 0 := by omega
          clear h
          go_wp2
          go_ret
          exact ⟨rfl, FB⟩
end Go.Proofs.Ytgjkpbibcaodjaa
