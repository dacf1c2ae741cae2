/-
  The laws BackSays, BackTries, BackMore, BackSums, walked.
-/
import Derived.Test.YtgjkpbibcaodjaaBkKnown
namespace Go.Proofs.Ytgjkpbibcaodjaa
open Go.RowKit
theorem delay64 (b t : Int) : is64 (Bk.delayI b t) := by have := Bk.delayI_rng b t; exact ⟨by omega, by omega⟩
theorem total64 (b t : Int) : is64 (Bk.totalI b t) := by have := Bk.totalI_rng b t; exact ⟨by omega, by omega⟩
theorem try64 (b t : Int) : is64 (Bk.tryI b t) := by have := Bk.tryI_rng b t; exact ⟨by omega, by omega⟩
set_option maxHeartbeats 2000000 in
theorem says_walk (b t q : Int) (hb : is64 b) (ht : is64 t) (hq : is64 q) (w : World) : Calls Try.prog 4 #[.int .i64 b, .int .i64 t, .int .i64 q] w (BoolP w true) := by
  have AW : Hid (Calls Try.prog 8 #[] w (BoolP w true)) := Lib.hid (awake_any w)
  obtain ⟨x, hx⟩ : ∃ x, x = Bk.delayI b t := ⟨_, rfl⟩
  obtain ⟨y, hy⟩ : ∃ y, y = Bk.totalI b t := ⟨_, rfl⟩
  obtain ⟨z, hz⟩ : ∃ z, z = Bk.tryI b q := ⟨_, rfl⟩
  have D1 : Hid (∀ W, Calls Try.prog 9 #[.int .i64 b, .int .i64 t] W (NumP W x)) := Lib.hid fun W => by rw [hx]; exact delay_any b t hb ht W
  have D2 : Hid (∀ W, Calls Try.prog 12 #[.int .i64 b, .int .i64 t] W (NumP W x)) := Lib.hid fun W => by rw [hx]; exact refDelay_any b t hb ht W
  have T1 : Hid (∀ W, Calls Try.prog 10 #[.int .i64 b, .int .i64 t] W (NumP W y)) := Lib.hid fun W => by rw [hy]; exact total_any b t hb ht W
  have T2 : Hid (∀ W, Calls Try.prog 13 #[.int .i64 b, .int .i64 t] W (NumP W y)) := Lib.hid fun W => by rw [hy]; exact refTotal_any b t hb ht W
  have R1 : Hid (∀ W, Calls Try.prog 11 #[.int .i64 b, .int .i64 q] W (NumP W z)) := Lib.hid fun W => by rw [hz]; exact try_any b q hb hq W
  have R2 : Hid (∀ W, Calls Try.prog 14 #[.int .i64 b, .int .i64 q] W (NumP W z)) := Lib.hid fun W => by rw [hz]; exact refTry_any b q hb hq W
  clear hb ht hq hx hy hz
  go_enter Try.func4, Try.ntmps4
  go_wp2_with fail
  (with_reducible refine AW.out.mono ?_); rintro e _ ⟨rfl, FB⟩
  go_wp2_with fail
  (with_reducible refine (D1.out _).mono ?_); rintro e _ ⟨rfl, cB⟩
  have FB : Hid (Below w.heap.size w _) := Lib.hid (FB.out.trans (cB.out.mono FB.out.size)); clear cB
  go_wp2_with fail
  (with_reducible refine (D2.out _).mono ?_); rintro e _ ⟨rfl, cB⟩
  have FB : Hid (Below w.heap.size w _) := Lib.hid (FB.out.trans (cB.out.mono FB.out.size)); clear cB
  go_wp2_with fail
  (with_reducible refine (T1.out _).mono ?_); rintro e _ ⟨rfl, cB⟩
  have FB : Hid (Below w.heap.size w _) := Lib.hid (FB.out.trans (cB.out.mono FB.out.size)); clear cB
  go_wp2_with fail
  (with_reducible refine (T2.out _).mono ?_); rintro e _ ⟨rfl, cB⟩
  have FB : Hid (Below w.heap.size w _) := Lib.hid (FB.out.trans (cB.out.mono FB.out.size)); clear cB
  go_wp2_with fail
  (with_reducible refine (R1.out _).mono ?_); rintro e _ ⟨rfl, cB⟩
  have FB : Hid (Below w.heap.size w _) := Lib.hid (FB.out.trans (cB.out.mono FB.out.size)); clear cB
  go_wp2_with fail
  (with_reducible refine (R2.out _).mono ?_); rintro e _ ⟨rfl, cB⟩
  have FB : Hid (Below w.heap.size w _) := Lib.hid (FB.out.trans (cB.out.mono FB.out.size)); clear cB
  go_wp2
  go_ret
  exact ⟨rfl, FB⟩
set_option maxHeartbeats 2000000 in
theorem more_walk (a b t q : Int) (ha : is64 a) (hb : is64 b) (ht : is64 t) (hq : is64 q) (w : World) : Calls Try.prog 7 #[.int .i64 a, .int .i64 b, .int .i64 t, .int .i64 q] w (BoolP w true) := by
  have AW : Hid (Calls Try.prog 8 #[] w (BoolP w true)) := Lib.hid (awake_any w)
  by_cases h : 1 ≤ a ∧ a ≤ b ∧ 1 ≤ t ∧ 0 ≤ q
  · obtain ⟨h1, h2, h3, h4⟩ := h
    have EX : ∃ x1 x2 y1 y2 z1 z2 : Int, x1 = Bk.delayI a t ∧ x2 = Bk.delayI b t ∧ y1 = Bk.totalI a t ∧ y2 = Bk.totalI b t ∧ z1 = Bk.tryI a q ∧ z2 = Bk.tryI b q ∧ x1 ≤ x2 ∧ y1 ≤ y2 ∧ z2 ≤ z1 := by
      refine ⟨_, _, _, _, _, _, rfl, rfl, rfl, rfl, rfl, rfl, ?_, ?_, ?_⟩
      · have := Bk.dl_base (show a.toNat ≤ b.toNat by omega) t.toNat
        unfold Bk.delayI
        rw [if_neg (by omega), if_neg (by omega)]
        omega
      · have := Bk.tot_base (show a.toNat ≤ b.toNat by omega) (min t.toNat Bk.M)
        unfold Bk.totalI
        rw [if_neg (by omega), if_neg (by omega)]
        omega
      · have := Bk.try_base (w := q.toNat) (show a.toNat ≤ b.toNat by omega)
        unfold Bk.tryI
        rw [if_neg (by omega), if_neg (by omega)]
        omega
    obtain ⟨x1, x2, y1, y2, z1, z2, e1, e2, e3, e4, e5, e6, l1, l2, l3⟩ := EX
    have D1 : Hid (∀ W, Calls Try.prog 9 #[.int .i64 a, .int .i64 t] W (NumP W x1)) := Lib.hid fun W => by rw [e1]; exact delay_any a t ha ht W
    have D2 : Hid (∀ W, Calls Try.prog 9 #[.int .i64 b, .int .i64 t] W (NumP W x2)) := Lib.hid fun W => by rw [e2]; exact delay_any b t hb ht W
    have T1 : Hid (∀ W, Calls Try.prog 10 #[.int .i64 a, .int .i64 t] W (NumP W y1)) := Lib.hid fun W => by rw [e3]; exact total_any a t ha ht W
    have T2 : Hid (∀ W, Calls Try.prog 10 #[.int .i64 b, .int .i64 t] W (NumP W y2)) := Lib.hid fun W => by rw [e4]; exact total_any b t hb ht W
    have R1 : Hid (∀ W, Calls Try.prog 11 #[.int .i64 a, .int .i64 q] W (NumP W z1)) := Lib.hid fun W => by rw [e5]; exact try_any a q ha hq W
    have R2 : Hid (∀ W, Calls Try.prog 11 #[.int .i64 b, .int .i64 q] W (NumP W z2)) := Lib.hid fun W => by rw [e6]; exact try_any b q hb hq W
    clear ha hb ht hq e1 e2 e3 e4 e5 e6
    go_enter Try.func7, Try.ntmps7
    go_wp2_with fail
    (with_reducible refine AW.out.mono ?_); rintro e _ ⟨rfl, FB⟩
    go_wp2_with fail
    (with_reducible refine (D1.out _).mono ?_); rintro e _ ⟨rfl, cB⟩
    have FB : Hid (Below w.heap.size w _) := Lib.hid (FB.out.trans (cB.out.mono FB.out.size)); clear cB
    go_wp2_with fail
    (with_reducible refine (D2.out _).mono ?_); rintro e _ ⟨rfl, cB⟩
    have FB : Hid (Below w.heap.size w _) := Lib.hid (FB.out.trans (cB.out.mono FB.out.size)); clear cB
    go_wp2_with fail
    (with_reducible refine (T1.out _).mono ?_); rintro e _ ⟨rfl, cB⟩
    have FB : Hid (Below w.heap.size w _) := Lib.hid (FB.out.trans (cB.out.mono FB.out.size)); clear cB
    go_wp2_with fail
    (with_reducible refine (T2.out _).mono ?_); rintro e _ ⟨rfl, cB⟩
    have FB : Hid (Below w.heap.size w _) := Lib.hid (FB.out.trans (cB.out.mono FB.out.size)); clear cB
    go_wp2_with fail
    (with_reducible refine (R1.out _).mono ?_); rintro e _ ⟨rfl, cB⟩
    have FB : Hid (Below w.heap.size w _) := Lib.hid (FB.out.trans (cB.out.mono FB.out.size)); clear cB
    go_wp2_with fail
    (with_reducible refine (R2.out _).mono ?_); rintro e _ ⟨rfl, cB⟩
    have FB : Hid (Below w.heap.size w _) := Lib.hid (FB.out.trans (cB.out.mono FB.out.size)); clear cB
    go_wp2
    go_ret
    exact ⟨rfl, FB⟩
  · clear ha hb ht hq
    go_enter Try.func7, Try.ntmps7
    go_wp2_with fail
    (with_reducible refine AW.out.mono ?_); rintro e _ ⟨rfl, FB⟩
    by_cases h1 : a < 1
    · clear h
      go_wp2
      go_ret
      exact ⟨rfl, FB⟩
    · by_cases h2 : b < a
      · clear h
        go_wp2
        go_ret
        exact ⟨rfl, FB⟩
      · by_cases h3 : t < 1
        · clear h
          go_wp2
          go_ret
          exact ⟨rfl, FB⟩
        · have h4 : q < 0 := by omega
          clear h
          go_wp2
          go_ret
          exact ⟨rfl, FB⟩
end Go.Proofs.Ytgjkpbibcaodjaa
