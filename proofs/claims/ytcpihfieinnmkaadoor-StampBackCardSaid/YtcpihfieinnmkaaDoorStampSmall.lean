/-
  The laws on order, steps, width and folding: each returns true at every argument of its types, and the world is as it was.
-/
import Derived.Test.YtcpihfieinnmkaaDoorStampAwake
namespace Go.Proofs.YtcpihfieinnmkaaDoor
open Go.RowKit
theorem epoch_lin (e o : Int) (h0 : 0 ≤ e) (h1 : e ≤ 1048575) (h2 : 0 ≤ o) (h3 : o ≤ 17592186044415) (w : World) :
    Calls Tryd.prog 24 #[.int .u64 (e * 17592186044416 + o)] w fun x w' => x = .returned (.int .i64 e) ∧ w = w' := by
  refine (epoch_any _ (by omega) (by omega) w).mono ?_
  rintro x w' ⟨rfl, rfl⟩
  exact ⟨ret_int (by unfold Pl.epochV; omega), rfl⟩
theorem off_lin (e o : Int) (h0 : 0 ≤ e) (h1 : e ≤ 1048575) (h2 : 0 ≤ o) (h3 : o ≤ 17592186044415) (w : World) :
    Calls Tryd.prog 25 #[.int .u64 (e * 17592186044416 + o)] w fun x w' => x = .returned (.int .i64 o) ∧ w = w' := by
  refine (off_any _ (by omega) (by omega) w).mono ?_
  rintro x w' ⟨rfl, rfl⟩
  exact ⟨ret_int (by unfold Pl.offV; omega), rfl⟩
theorem next_lin (e o : Int) (h0 : 0 ≤ e) (h1 : e ≤ 1048575) (h2 : 0 ≤ o) (h3 : o < 17592186044415) (w : World) :
    Calls Tryd.prog 13 #[.int .u64 (e * 17592186044416 + o)] w fun x w' => x = .returned (.tuple #[.int .u64 (e * 17592186044416 + (o + 1)), .bool true]) ∧ w = w' := by
  refine (next_any _ (by omega) (by omega) w).mono ?_
  rintro x w' ⟨rfl, rfl⟩
  have h4 : Pl.epochV (e * 17592186044416 + o) = e := by unfold Pl.epochV; omega
  have h5 : Pl.offV (e * 17592186044416 + o) = o := by unfold Pl.offV; omega
  have h6 : Pl.packOk e (o + 1) = true := by simp [Pl.packOk]; omega
  rw [h4, h5]
  exact ⟨ret_pair (by simp [Pl.packV, h6]) h6, rfl⟩
theorem next_end (e o : Int) (h0 : 0 ≤ e) (h1 : e ≤ 1048575) (h2 : 17592186044415 ≤ o) (h3 : o ≤ 17592186044415) (w : World) :
    Calls Tryd.prog 13 #[.int .u64 (e * 17592186044416 + o)] w fun x w' => x = .returned (.tuple #[.int .u64 0, .bool false]) ∧ w = w' := by
  refine (next_any _ (by omega) (by omega) w).mono ?_
  rintro x w' ⟨rfl, rfl⟩
  have h4 : Pl.epochV (e * 17592186044416 + o) = e := by unfold Pl.epochV; omega
  have h5 : Pl.offV (e * 17592186044416 + o) = o := by unfold Pl.offV; omega
  have h6 : Pl.packOk e (o + 1) = false := by simp [Pl.packOk]; omega
  rw [h4, h5]
  exact ⟨ret_pair (by simp [Pl.packV, h6]) h6, rfl⟩
theorem up_lin (e o : Int) (h0 : 0 ≤ e) (h1 : e < 1048575) (h2 : 0 ≤ o) (h3 : o ≤ 17592186044415) (w : World) :
    Calls Tryd.prog 14 #[.int .u64 (e * 17592186044416 + o)] w fun x w' => x = .returned (.tuple #[.int .u64 ((e + 1) * 17592186044416 + o), .bool true]) ∧ w = w' := by
  refine (up_any _ (by omega) (by omega) w).mono ?_
  rintro x w' ⟨rfl, rfl⟩
  have h4 : Pl.epochV (e * 17592186044416 + o) = e := by unfold Pl.epochV; omega
  have h5 : Pl.offV (e * 17592186044416 + o) = o := by unfold Pl.offV; omega
  have h6 : Pl.packOk (e + 1) o = true := by simp [Pl.packOk]; omega
  rw [h4, h5]
  exact ⟨ret_pair (by simp [Pl.packV, h6]) h6, rfl⟩
theorem pack_lin (e o : Int) (h0 : 0 ≤ e) (h1 : e ≤ 1048575) (h2 : 0 ≤ o) (h3 : o ≤ 17592186044415) (w : World) :
    Calls Tryd.prog 12 #[.int .i64 e, .int .i64 o] w fun x w' => x = .returned (.tuple #[.int .u64 (e * 17592186044416 + o), .bool true]) ∧ w = w' := by
  refine (pack_any _ _ w).mono ?_
  rintro x w' ⟨rfl, rfl⟩
  have h6 : Pl.packOk e o = true := by simp [Pl.packOk]; omega
  exact ⟨ret_pair (by simp [Pl.packV, h6]) h6, rfl⟩
theorem pack_no (e o : Int) (h : ¬ (0 ≤ e ∧ e ≤ 1048575 ∧ 0 ≤ o ∧ o ≤ 17592186044415)) (w : World) :
    Calls Tryd.prog 12 #[.int .i64 e, .int .i64 o] w fun x w' => x = .returned (.tuple #[.int .u64 0, .bool false]) ∧ w = w' := by
  refine (pack_any _ _ w).mono ?_
  rintro x w' ⟨rfl, rfl⟩
  have h6 : Pl.packOk e o = false := by simp [Pl.packOk]; omega
  exact ⟨ret_pair (by simp [Pl.packV, h6]) h6, rfl⟩

/-! ### Order -/
set_option maxHeartbeats 400000 in
theorem order_lin (e1 o1 e2 o2 : Int) (h0 : 0 ≤ e1) (h1 : e1 ≤ 1048575) (h2 : 0 ≤ o1) (h3 : o1 ≤ 17592186044415) (h4 : 0 ≤ e2) (h5 : e2 ≤ 1048575) (h6 : 0 ≤ o2) (h7 : o2 ≤ 17592186044415) (w : World) :
    Calls Tryd.prog 6 #[.int .u64 (e1 * 17592186044416 + o1), .int .u64 (e2 * 17592186044416 + o2)] w fun e w' => e = .returned (.bool true) ∧ w = w' := by
  have hc : e1 < e2 ∨ e2 < e1 ∨ (e1 = e2 ∧ o1 < o2) ∨ (e1 = e2 ∧ o2 ≤ o1) := by omega
  have hn : o1 < 17592186044415 ∨ 17592186044415 ≤ o1 := by omega
  rcases hc with h | h | ⟨rfl, h⟩ | ⟨rfl, h⟩ <;> rcases hn with hn | hn
  all_goals
    go_enter Tryd.func6, Tryd.ntmps6
    go_wp2_with (first
      | (go_at_call 10; refine (awake_any _).mono ?_; rintro e w' ⟨rfl, rfl⟩)
      | (go_at_call 24; refine (epoch_lin _ _ (by omega) (by omega) (by omega) (by omega) _).mono ?_; rintro e w' ⟨rfl, rfl⟩)
      | (go_at_call 25; refine (off_lin _ _ (by omega) (by omega) (by omega) (by omega) _).mono ?_; rintro e w' ⟨rfl, rfl⟩)
      | (go_at_call 13; (first | refine (next_lin _ _ (by omega) (by omega) (by omega) (by omega) _).mono ?_ | refine (next_end _ _ (by omega) (by omega) (by omega) (by omega) _).mono ?_); rintro e w' ⟨rfl, rfl⟩))
    all_goals go_ret
    all_goals exact ⟨rfl, rfl⟩
theorem order_walk (a b : Int) (h0 : 0 ≤ a) (h1 : a < 18446744073709551616) (h2 : 0 ≤ b) (h3 : b < 18446744073709551616) (w : World) :
    Calls Tryd.prog 6 #[.int .u64 a, .int .u64 b] w fun e w' => e = .returned (.bool true) ∧ w = w' := by
  have h := order_lin (a / 17592186044416) (a % 17592186044416) (b / 17592186044416) (b % 17592186044416) (by omega) (by omega) (by omega) (by omega) (by omega) (by omega) (by omega) (by omega) w
  have e1 : a / 17592186044416 * 17592186044416 + a % 17592186044416 = a := by omega
  have e2 : b / 17592186044416 * 17592186044416 + b % 17592186044416 = b := by omega
  rw [e1, e2] at h
  exact h

/-! ### Wide -/
set_option maxHeartbeats 400000 in
theorem wide_mid (v b H : Int) (_h0 : -9223372036854775808 ≤ v) (_h1 : v ≤ 9223372036854775807) (h2 : 1 ≤ b) (h3 : b ≤ 63) (hP : wrap64 (2 ^ (b.toNat - 1)) = H) (hH : 1 ≤ H) (hH2 : H ≤ 4611686018427387904)
    (hw : ∀ w, -H ≤ v → v < H → Calls Tryd.prog 18 #[.int .u64 (IntKind.u64.wrap v), .int .i64 b] w fun e w' => e = .returned (.int .i64 v) ∧ w = w') (w : World) :
    Calls Tryd.prog 8 #[.int .i64 v, .int .i64 b] w fun e w' => e = .returned (.bool true) ∧ w = w' := by
  have hc : v < -H ∨ H ≤ v ∨ (-H ≤ v ∧ v < H) := by omega
  rcases hc with h | h | ⟨h, h'⟩
  · clear hw
    go_enter Tryd.func8, Tryd.ntmps8
    go_wp2_with (go_at_call 10; refine (awake_any _).mono ?_; rintro e w' ⟨rfl, rfl⟩)
    go_ret
    exact ⟨rfl, rfl⟩
  · clear hw
    go_enter Tryd.func8, Tryd.ntmps8
    go_wp2_with (go_at_call 10; refine (awake_any _).mono ?_; rintro e w' ⟨rfl, rfl⟩)
    go_ret
    exact ⟨rfl, rfl⟩
  · have HW := Lib.hid (fun w => hw w h h'); clear hw
    go_enter Tryd.func8, Tryd.ntmps8
    go_wp2_with (first
      | (go_at_call 10; refine (awake_any _).mono ?_; rintro e w' ⟨rfl, rfl⟩)
      | (go_at_call 18; refine (HW.out _).mono ?_; rintro e w' ⟨rfl, rfl⟩))
    go_ret
    exact ⟨rfl, rfl⟩
theorem wide_call (v b : Int) (h2 : 1 ≤ b) (h3 : b ≤ 64) (h4 : -2 ^ (b.toNat - 1) ≤ v) (h5 : v < 2 ^ (b.toNat - 1)) (w : World) :
    Calls Tryd.prog 18 #[.int .u64 (IntKind.u64.wrap v), .int .i64 b] w fun e w' => e = .returned (.int .i64 v) ∧ w = w' := by
  refine (wide_any _ _ w).mono ?_
  rintro e w' ⟨rfl, rfl⟩
  exact ⟨ret_int (by rw [IntKind.wrap_u64]; exact Pl.wide_again v b h2 h3 h4 h5), rfl⟩
set_option maxHeartbeats 400000 in
theorem wide_walk (v b : Int) (h0 : -9223372036854775808 ≤ v) (h1 : v ≤ 9223372036854775807) (w : World) :
    Calls Tryd.prog 8 #[.int .i64 v, .int .i64 b] w fun e w' => e = .returned (.bool true) ∧ w = w' := by
  have hc : b < 1 ∨ 64 < b ∨ (64 ≤ b ∧ b ≤ 64) ∨ (1 ≤ b ∧ b ≤ 63) := by omega
  rcases hc with h | h | ⟨h, h'⟩ | ⟨h, h'⟩
  · go_enter Tryd.func8, Tryd.ntmps8
    go_wp2_with (go_at_call 10; refine (awake_any _).mono ?_; rintro e w' ⟨rfl, rfl⟩)
    go_ret
    exact ⟨rfl, rfl⟩
  · go_enter Tryd.func8, Tryd.ntmps8
    go_wp2_with (go_at_call 10; refine (awake_any _).mono ?_; rintro e w' ⟨rfl, rfl⟩)
    go_ret
    exact ⟨rfl, rfl⟩
  · have HW := Lib.hid (fun w => wide_call v b (by omega) (by omega) (by have e : b.toNat - 1 = 63 := by omega
                                                                         rw [e]; exact h0) (by have e : b.toNat - 1 = 63 := by omega
                                                                                               rw [e]; exact (by omega : v < 9223372036854775808)) w)
    go_enter Tryd.func8, Tryd.ntmps8
    go_wp2_with (first
      | (go_at_call 10; refine (awake_any _).mono ?_; rintro e w' ⟨rfl, rfl⟩)
      | (go_at_call 18; refine (HW.out _).mono ?_; rintro e w' ⟨rfl, rfl⟩))
    go_ret
    exact ⟨rfl, rfl⟩
  · obtain ⟨p1, p2, p3⟩ := Pl.half_wrap b h h'
    exact wide_mid v b _ h0 h1 h h' p1 p2 p3 (fun w a1 a2 => wide_call v b h (by omega) a1 a2 w) w

/-! ### Folds -/
set_option maxHeartbeats 400000 in
theorem folds_mid (v b H : Int) (_h0 : -9223372036854775808 ≤ v) (_h1 : v ≤ 9223372036854775807) (h2 : 1 ≤ b) (h3 : b ≤ 62) (hP : wrap64 (2 ^ (b.toNat - 1)) = H) (hH : 1 ≤ H) (hH2 : H ≤ 4611686018427387904)
    (F N : Int) (ok : Bool) (hf : ∀ w, Calls Tryd.prog 16 #[.int .i64 v] w fun e w' => e = .returned (.int .u64 F) ∧ w = w')
    (hn : ∀ w, Calls Tryd.prog 15 #[.int .u64 F, .int .i64 b] w fun e w' => e = .returned (.tuple #[.int .u64 N, .bool ok]) ∧ w = w')
    (hok : ok = (decide (-H ≤ v) && decide (v < H))) (w : World) :
    Calls Tryd.prog 9 #[.int .i64 v, .int .i64 b] w fun e w' => e = .returned (.bool true) ∧ w = w' := by
  have HF := Lib.hid hf
  have HN := Lib.hid hn
  have HO := Lib.hid hok
  clear hf hn hok
  by_cases h : -H ≤ v
  · go_enter Tryd.func9, Tryd.ntmps9
    go_wp2_with (first
      | (go_at_call 10; refine (awake_any _).mono ?_; rintro e w' ⟨rfl, rfl⟩)
      | (go_at_call 16; refine (HF.out _).mono ?_; rintro e w' ⟨rfl, rfl⟩)
      | (go_at_call 15; refine (HN.out _).mono ?_; rintro e w' ⟨rfl, rfl⟩))
    go_ret
    exact ⟨ret_bool (by rw [HO.out]; simp [h]), rfl⟩
  · have h' : v < -H := by omega
    go_enter Tryd.func9, Tryd.ntmps9
    go_wp2_with (first
      | (go_at_call 10; refine (awake_any _).mono ?_; rintro e w' ⟨rfl, rfl⟩)
      | (go_at_call 16; refine (HF.out _).mono ?_; rintro e w' ⟨rfl, rfl⟩)
      | (go_at_call 15; refine (HN.out _).mono ?_; rintro e w' ⟨rfl, rfl⟩))
    go_ret
    exact ⟨ret_bool (by rw [HO.out]; simp; omega), rfl⟩
set_option maxHeartbeats 400000 in
theorem folds_walk (v b : Int) (h0 : -9223372036854775808 ≤ v) (h1 : v ≤ 9223372036854775807) (w : World) :
    Calls Tryd.prog 9 #[.int .i64 v, .int .i64 b] w fun e w' => e = .returned (.bool true) ∧ w = w' := by
  have hc : b < 1 ∨ 62 < b ∨ (1 ≤ b ∧ b ≤ 62) := by omega
  rcases hc with h | h | ⟨h, h'⟩
  · go_enter Tryd.func9, Tryd.ntmps9
    go_wp2_with (go_at_call 10; refine (awake_any _).mono ?_; rintro e w' ⟨rfl, rfl⟩)
    go_ret
    exact ⟨rfl, rfl⟩
  · go_enter Tryd.func9, Tryd.ntmps9
    go_wp2_with (go_at_call 10; refine (awake_any _).mono ?_; rintro e w' ⟨rfl, rfl⟩)
    go_ret
    exact ⟨rfl, rfl⟩
  · obtain ⟨p1, p2, p3⟩ := Pl.half_wrap b h (by omega)
    obtain ⟨f1, f2⟩ := Pl.foldV_range v h0 h1
    exact folds_mid v b _ h0 h1 h h' p1 p2 p3 (Pl.foldV v) (Pl.narrowV (Pl.foldV v) b) (Pl.narrowOk (Pl.foldV v) b) (fold_any v h0 h1) (fun w => narrow_any _ _ f1 f2 w) (Pl.fold_fits v b h (by omega)) w

/-! ### Steps -/
set_option maxHeartbeats 400000 in
theorem steps_loop (e o n : Int) (h0 : 0 ≤ e) (h1 : e ≤ 1048376) (h2 : 0 ≤ o) (h3 : o ≤ 17592186044216) (h4 : 0 ≤ n) (h5 : n ≤ 100) (w : World) :
    Calls Tryd.prog 7 #[.int .i64 e, .int .i64 o, .int .i64 n] w fun x w' => x = .returned (.bool true) ∧ w = w' := by
  go_enter Tryd.func7, Tryd.ntmps7
  go_wp2_with (first
    | (go_at_call 10; refine (awake_any _).mono ?_; rintro e w' ⟨rfl, rfl⟩)
    | (go_at_call 12; refine (pack_lin _ _ (by omega) (by omega) (by omega) (by omega) _).mono ?_; rintro e w' ⟨rfl, rfl⟩))
  go_loop [9, 10, 11] (fun t u i => ∃ k : Nat, (k : Int) ≤ n ∧ i = .int .i64 k ∧ t = .int .u64 (e * 17592186044416 + (o + k)) ∧ u = .int .u64 ((e + k) * 17592186044416 + o)) (fun _ _ i => (n - intOf i).toNat)
  case atStart => exact ⟨0, by omega, rfl, by simp, by simp⟩
  case round =>
    obtain ⟨k, hk, rfl, rfl, rfl⟩ := hrel
    by_cases hlt : (k : Int) < n
    · go_wp2_with (first
        | (go_at_call 13; refine (next_lin _ _ (by omega) (by omega) (by omega) (by omega) _).mono ?_; rintro e w' ⟨rfl, rfl⟩)
        | (go_at_call 14; refine (up_lin _ _ (by omega) (by omega) (by omega) (by omega) _).mono ?_; rintro e w' ⟨rfl, rfl⟩))
      go_round
      case rel => exact ⟨k + 1, by omega, by go_num, by go_num, by go_num⟩
      case measure => simp [intOf]; omega
    · have hn : n ≤ (k : Int) := by omega
      go_wp2_with (first
        | (go_at_call 24; refine (epoch_lin _ _ (by omega) (by omega) (by omega) (by omega) _).mono ?_; rintro e w' ⟨rfl, rfl⟩)
        | (go_at_call 25; refine (off_lin _ _ (by omega) (by omega) (by omega) (by omega) _).mono ?_; rintro e w' ⟨rfl, rfl⟩))
      go_ret
      exact ⟨rfl, rfl⟩
set_option maxHeartbeats 400000 in
theorem steps_walk (e o n : Int) (w : World) :
    Calls Tryd.prog 7 #[.int .i64 e, .int .i64 o, .int .i64 n] w fun x w' => x = .returned (.bool true) ∧ w = w' := by
  by_cases hp : 0 ≤ e ∧ e ≤ 1048575 ∧ 0 ≤ o ∧ o ≤ 17592186044415
  · obtain ⟨h0, h1, h2, h3⟩ := hp
    have hc : n < 0 ∨ (0 ≤ n ∧ 100 < n) ∨ ((0 ≤ n ∧ n ≤ 100) ∧ 17592186044216 < o) ∨ (((0 ≤ n ∧ n ≤ 100) ∧ o ≤ 17592186044216) ∧ 1048376 < e) ∨ (((0 ≤ n ∧ n ≤ 100) ∧ o ≤ 17592186044216) ∧ e ≤ 1048376) := by omega
    rcases hc with h | ⟨h, h4⟩ | ⟨⟨h, h4⟩, h5⟩ | ⟨⟨⟨h, h4⟩, h5⟩, h6⟩ | ⟨⟨⟨h, h4⟩, h5⟩, h6⟩
    · go_enter Tryd.func7, Tryd.ntmps7
      go_wp2_with (first
        | (go_at_call 10; refine (awake_any _).mono ?_; rintro e w' ⟨rfl, rfl⟩)
        | (go_at_call 12; refine (pack_lin _ _ (by omega) (by omega) (by omega) (by omega) _).mono ?_; rintro e w' ⟨rfl, rfl⟩))
      go_ret
      exact ⟨rfl, rfl⟩
    · go_enter Tryd.func7, Tryd.ntmps7
      go_wp2_with (first
        | (go_at_call 10; refine (awake_any _).mono ?_; rintro e w' ⟨rfl, rfl⟩)
        | (go_at_call 12; refine (pack_lin _ _ (by omega) (by omega) (by omega) (by omega) _).mono ?_; rintro e w' ⟨rfl, rfl⟩))
      go_ret
      exact ⟨rfl, rfl⟩
    · go_enter Tryd.func7, Tryd.ntmps7
      go_wp2_with (first
        | (go_at_call 10; refine (awake_any _).mono ?_; rintro e w' ⟨rfl, rfl⟩)
        | (go_at_call 12; refine (pack_lin _ _ (by omega) (by omega) (by omega) (by omega) _).mono ?_; rintro e w' ⟨rfl, rfl⟩))
      go_ret
      exact ⟨rfl, rfl⟩
    · go_enter Tryd.func7, Tryd.ntmps7
      go_wp2_with (first
        | (go_at_call 10; refine (awake_any _).mono ?_; rintro e w' ⟨rfl, rfl⟩)
        | (go_at_call 12; refine (pack_lin _ _ (by omega) (by omega) (by omega) (by omega) _).mono ?_; rintro e w' ⟨rfl, rfl⟩))
      go_ret
      exact ⟨rfl, rfl⟩
    · exact steps_loop e o n h0 h6 h2 h5 h h4 w
  · have HP := Lib.hid (pack_no e o hp)
    clear hp
    go_enter Tryd.func7, Tryd.ntmps7
    go_wp2_with (first
      | (go_at_call 10; refine (awake_any _).mono ?_; rintro e w' ⟨rfl, rfl⟩)
      | (go_at_call 12; refine (HP.out _).mono ?_; rintro e w' ⟨rfl, rfl⟩))
    go_ret
    exact ⟨rfl, rfl⟩
end Go.Proofs.YtcpihfieinnmkaaDoor
