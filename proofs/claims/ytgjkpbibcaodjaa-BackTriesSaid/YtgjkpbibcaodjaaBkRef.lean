/-
  The reference's Delay, Total and Try.
-/
import Derived.Test.YtgjkpbibcaodjaaBkPlain
namespace Go.Proofs.Ytgjkpbibcaodjaa
open Go.RowKit
/-- A number handed back. -/
def NumP (w : World) (v : Int) (e : Ending) (w' : World) : Prop := e = .returned (.int .i64 v) ∧ Hid (Below w.heap.size w w')
def BoolP (w : World) (b : Bool) (e : Ending) (w' : World) : Prop := e = .returned (.bool b) ∧ Hid (Below w.heap.size w w')
def is64 (z : Int) : Prop := -9223372036854775808 ≤ z ∧ z ≤ 9223372036854775807
set_option maxRecDepth 100000 in
set_option maxHeartbeats 2000000 in
theorem refDelay_any (b t : Int) (hb : is64 b) (ht : is64 t) (w : World) : Calls Try.prog 12 #[.int .i64 b, .int .i64 t] w (NumP w (Bk.delayI b t)) := by
  obtain ⟨hb0, hb1⟩ := hb
  obtain ⟨ht0, ht1⟩ := ht
  by_cases h1 : b < 1
  · have E : Hid (Bk.delayI b t = 0) := Lib.hid (by unfold Bk.delayI; rw [if_pos (.inl h1)])
    go_enter Try.func12, Try.ntmps12
    go_wp2
    go_ret
    exact ⟨ret_int E.out.symm, Lib.hid (Below.refl _ _)⟩
  by_cases h2 : t < 1
  · have E : Hid (Bk.delayI b t = 0) := Lib.hid (by unfold Bk.delayI; rw [if_pos (.inr h2)])
    have h1' : 1 ≤ b := by omega
    clear h1
    go_enter Try.func12, Try.ntmps12
    go_wp2
    go_ret
    exact ⟨ret_int E.out.symm, Lib.hid (Below.refl _ _)⟩
  obtain ⟨B, rfl⟩ : ∃ B : Nat, b = (B : Int) := ⟨b.toNat, by omega⟩
  obtain ⟨T, rfl⟩ : ∃ T : Nat, t = (T : Int) := ⟨t.toNat, by omega⟩
  have hB : 1 ≤ B := by omega
  have hT : 1 ≤ T := by omega
  have hB' : 1 ≤ (B : Int) := by omega
  have hT' : 1 ≤ (T : Int) := by omega
  have E : Hid (Bk.delayI B T = (Bk.dl B T : Int)) := Lib.hid (Bk.delayI_nat hB hT)
  clear h1 h2 hb0 ht0
  go_enter Try.func12, Try.ntmps12
  go_wp2_with fail
  go_loopw [5, 6] (fun vv iv wr => ∃ k v : Nat, 1 ≤ k ∧ k ≤ T ∧ iv = .int .i64 k ∧ vv = .int .i64 v ∧ Hid (v = B * 2 ^ (k - 1)) ∧ Hid (Below w.heap.size w wr)) (fun _ iv _ => T - (intOf iv).toNat)
  case atStart => exact ⟨1, B, Nat.le_refl _, hT, rfl, rfl, Lib.hid (by simp), Lib.hid (Below.refl _ _)⟩
  case round =>
    obtain ⟨k, v, hk1, hk, rfl, rfl, HV, HB⟩ := hrel
    by_cases hlt : k < T
    · have hlt' : (k : Int) < (T : Int) := by omega
      by_cases hv : v < 64000
      · have hv' : (v : Int) < 64000 := by omega
        have HV' : Hid (v * 2 = B * 2 ^ (k + 1 - 1)) := Lib.hid (by
          rw [HV.out, Nat.mul_assoc, ← Nat.pow_succ, show (k - 1).succ = k + 1 - 1 by omega])
        clear hB'
        go_wp2
        go_roundw
        case rel => exact ⟨k + 1, v * 2, by omega, by omega, by go_num, by go_num, HV', HB⟩
        case measure => simp [intOf]; omega
      · have hv' : (64000 : Int) ≤ (v : Int) := by omega
        have E2 : Hid (Bk.dl B T = 64000) := Lib.hid (Bk.dl_top (Nat.le_trans (show 64000 ≤ B * 2 ^ (k - 1) by rw [← HV.out]; omega) (Nat.mul_le_mul_left B (Nat.pow_le_pow_right (by decide) (by omega)))))
        clear hB'
        by_cases hv2 : v = 64000
        · subst hv2
          go_wp2
          go_ret
          exact ⟨ret_int (by rw [E.out, E2.out]), HB⟩
        · obtain ⟨z, hz⟩ : ∃ z : Int, z = (v : Int) := ⟨_, rfl⟩
          have hz2 : 64000 < z := by omega
          rw [← hz]
          clear hz hv' hv hv2 hlt hT' hT hb1 ht1 hk hk1 HV
          go_wp2
          go_ret
          exact ⟨ret_int (by simp [E.out, E2.out]), HB⟩
    · obtain rfl : T = k := by omega
      clear hB'
      by_cases hv2 : v ≤ 64000
      · have hv3 : (v : Int) ≤ 64000 := by omega
        have E2 : Hid (Bk.dl B T = v) := Lib.hid (by rw [HV.out]; exact Bk.dl_low (by rw [← HV.out]; exact hv2))
        go_wp2
        go_ret
        exact ⟨ret_int (by rw [E.out, E2.out]), HB⟩
      · have d2 : decide ((64000 : Int) < (v : Int)) = true := decide_eq_true (by omega)
        have E2 : Hid (Bk.dl B T = 64000) := Lib.hid (Bk.dl_top (by rw [← HV.out]; omega))
        clear hv2
        go_wp2
        go_ret
        exact ⟨ret_int (by simp [E.out, E2.out]), HB⟩
set_option maxHeartbeats 2000000 in
theorem refTotal_any (b t : Int) (hb : is64 b) (ht : is64 t) (w : World) : Calls Try.prog 13 #[.int .i64 b, .int .i64 t] w (NumP w (Bk.totalI b t)) := by
  obtain ⟨hb0, hb1⟩ := hb
  obtain ⟨ht0, ht1⟩ := ht
  by_cases h1 : b < 1
  · have E : Hid (Bk.totalI b t = 0) := Lib.hid (by unfold Bk.totalI; rw [if_pos (.inl h1)])
    go_enter Try.func13, Try.ntmps13
    go_wp2
    go_ret
    exact ⟨ret_int E.out.symm, Lib.hid (Below.refl _ _)⟩
  by_cases h2 : t < 1
  · have E : Hid (Bk.totalI b t = 0) := Lib.hid (by unfold Bk.totalI; rw [if_pos (.inr h2)])
    have h1' : 1 ≤ b := by omega
    have hc1 : decide ((1 : Int) ≤ t) = false := decide_eq_false (by omega)
    have hc2 : decide ((2147483647 : Int) < t) = false := decide_eq_false (by omega)
    clear h1
    go_enter Try.func13, Try.ntmps13
    go_wp2_with fail
    go_loopw [5, 6] (fun sv iv wr => sv = .int .i64 0 ∧ iv = .int .i64 1 ∧ Hid (Below w.heap.size w wr)) (fun _ _ _ => 0)
    case atStart => exact ⟨rfl, rfl, Lib.hid (Below.refl _ _)⟩
    case round =>
      obtain ⟨rfl, rfl, HB⟩ := hrel
      go_wp2
      go_ret
      exact ⟨ret_int E.out.symm, HB⟩
  obtain ⟨B, rfl⟩ : ∃ B : Nat, b = (B : Int) := ⟨b.toNat, by omega⟩
  obtain ⟨T, rfl⟩ : ∃ T : Nat, t = (T : Int) := ⟨t.toNat, by omega⟩
  have hB : 1 ≤ B := by omega
  have hB' : 1 ≤ (B : Int) := by omega
  obtain ⟨N, hN⟩ : ∃ N, N = min T Bk.M := ⟨_, rfl⟩
  have hNM : N ≤ 2147483647 := by rw [hN]; exact Nat.min_le_right _ _
  have hN1 : 1 ≤ N := by rw [hN]; unfold Bk.M; omega
  have E : Hid (Bk.totalI B T = (Bk.tot B N : Int)) := Lib.hid (by rw [Bk.totalI_nat hB, hN])
  have DL : Hid (∀ (k : Nat) W, 1 ≤ k → k ≤ N → Calls Try.prog 12 #[.int .i64 (B : Int), .int .i64 (k : Int)] W (NumP W (Bk.dl B k : Int))) := Lib.hid fun k W hk hkN => by
    have := refDelay_any (B : Int) (k : Int) ⟨by omega, by omega⟩ ⟨by omega, by omega⟩ W
    rwa [Bk.delayI_nat hB hk] at this
  have tail : ∀ (a : Act), a.tmps.size = 38 → True := fun _ _ => trivial
  clear tail h1 h2 hb0 ht0
  by_cases hM : T ≤ 2147483647
  · obtain rfl : N = T := by rw [hN]; unfold Bk.M; omega
    have hc : decide ((2147483647 : Int) < (N : Int)) = false := decide_eq_false (by omega)
    clear hN hM
    go_enter Try.func13, Try.ntmps13
    go_wp2_with fail
    go_loopw [5, 6] (fun sv iv wr => ∃ k s : Nat, 1 ≤ k ∧ k ≤ 17 ∧ k ≤ N + 1 ∧ iv = .int .i64 k ∧ sv = .int .i64 s ∧ Hid (s = Bk.tot B (k - 1)) ∧ Hid (Below w.heap.size w wr)) (fun _ iv _ => 17 - (intOf iv).toNat)
    case atStart => exact ⟨1, 0, Nat.le_refl _, by decide, by omega, rfl, rfl, Lib.hid rfl, Lib.hid (Below.refl _ _)⟩
    case round =>
      obtain ⟨k, s, hk1, hk17, hkN, rfl, rfl, HS, HB⟩ := hrel
      have hs : s ≤ 1024000 := by
        have := Bk.tot_le B (k - 1)
        rw [← HS.out] at this
        omega
      by_cases hlt : k ≤ N
      · have hle : decide ((k : Int) ≤ (N : Int)) = true := decide_eq_true (by omega)
        go_wp2_with fail
        (with_reducible refine (DL.out k _ hk1 hlt).mono ?_); rintro e w2 ⟨rfl, b2⟩
        have HB2 : Hid (Below w.heap.size w w2) := Lib.hid (HB.out.trans (b2.out.mono HB.out.size))
        obtain ⟨d, hd⟩ : ∃ d, d = Bk.dl B k := ⟨_, rfl⟩
        have HD := Lib.hid hd
        have hd64 : d ≤ 64000 := by rw [hd]; exact Bk.dl_le _ _
        rw [← hd]
        by_cases hd4 : d < 64000
        · have hd4' : decide ((d : Int) < 64000) = true := decide_eq_true (by omega)
          have hk16 : k ≤ 16 := by
            apply Classical.byContradiction
            intro h
            have := Bk.dl_17 hB (show 17 ≤ k by omega)
            omega
          have HS' : Hid (s + d = Bk.tot B (k + 1 - 1)) := Lib.hid (by
            obtain ⟨j, rfl⟩ : ∃ j, k = j + 1 := ⟨k - 1, by omega⟩
            rw [Nat.add_sub_cancel] at *
            rw [HS.out, HD.out]; rfl)
          clear hd
          go_wp2_with fail
          (with_reducible refine (DL.out k _ hk1 hlt).mono ?_); rintro e w3 ⟨rfl, b3⟩
          rw [← HD.out]
          go_wp2
          go_roundw
          case rel => exact ⟨k + 1, s + d, by omega, by omega, by omega, by go_num, by go_num, HS', Lib.hid (HB2.out.trans (b3.out.mono HB2.out.size))⟩
          case measure => simp [intOf]; omega
        · have hd4' : decide ((d : Int) < 64000) = false := decide_eq_false (by omega)
          have E2 : Hid ((Bk.tot B N : Int) = (s : Int) + 64000 * ((N : Int) - (k : Int) + 1)) := Lib.hid (by
            obtain ⟨j, rfl⟩ : ∃ j, k = j + 1 := ⟨k - 1, by omega⟩
            have := Bk.tot_tail (b := B) (k := j) (by rw [← HD.out]; omega) (show j ≤ N by omega)
            rw [Nat.add_sub_cancel] at HS
            rw [this, ← HS.out]
            omega)
          clear hd hd64 hd4
          go_wp2
          go_ret
          exact ⟨ret_int (by rw [E.out, E2.out]), HB2⟩
      · obtain rfl : k = N + 1 := by omega
        have hle : decide (((N + 1 : Nat) : Int) ≤ (N : Int)) = false := decide_eq_false (by omega)
        have E2 : Hid (Bk.tot B N = s) := Lib.hid (by rw [HS.out, Nat.add_sub_cancel])
        go_wp2
        go_ret
        exact ⟨ret_int (by rw [E.out, E2.out]), HB⟩
  · have hc : decide ((2147483647 : Int) < (T : Int)) = true := decide_eq_true (by omega)
    obtain rfl : N = 2147483647 := by rw [hN]; unfold Bk.M; omega
    clear hN hM hNM hN1
    go_enter Try.func13, Try.ntmps13
    go_wp2_with fail
    go_loopw [5, 6] (fun sv iv wr => ∃ k s : Nat, 1 ≤ k ∧ k ≤ 17 ∧ k ≤ 2147483648 ∧ iv = .int .i64 k ∧ sv = .int .i64 s ∧ Hid (s = Bk.tot B (k - 1)) ∧ Hid (Below w.heap.size w wr)) (fun _ iv _ => 17 - (intOf iv).toNat)
    case atStart => exact ⟨1, 0, Nat.le_refl _, by decide, by omega, rfl, rfl, Lib.hid rfl, Lib.hid (Below.refl _ _)⟩
    case round =>
      obtain ⟨k, s, hk1, hk17, hkN, rfl, rfl, HS, HB⟩ := hrel
      have hs : s ≤ 1024000 := by
        have := Bk.tot_le B (k - 1)
        rw [← HS.out] at this
        omega
      by_cases hlt : k ≤ 2147483647
      · have hle : decide ((k : Int) ≤ (2147483647 : Int)) = true := decide_eq_true (by omega)
        go_wp2_with fail
        (with_reducible refine (DL.out k _ hk1 hlt).mono ?_); rintro e w2 ⟨rfl, b2⟩
        have HB2 : Hid (Below w.heap.size w w2) := Lib.hid (HB.out.trans (b2.out.mono HB.out.size))
        obtain ⟨d, hd⟩ : ∃ d, d = Bk.dl B k := ⟨_, rfl⟩
        have HD := Lib.hid hd
        have hd64 : d ≤ 64000 := by rw [hd]; exact Bk.dl_le _ _
        rw [← hd]
        by_cases hd4 : d < 64000
        · have hd4' : decide ((d : Int) < 64000) = true := decide_eq_true (by omega)
          have hk16 : k ≤ 16 := by
            apply Classical.byContradiction
            intro h
            have := Bk.dl_17 hB (show 17 ≤ k by omega)
            omega
          have HS' : Hid (s + d = Bk.tot B (k + 1 - 1)) := Lib.hid (by
            obtain ⟨j, rfl⟩ : ∃ j, k = j + 1 := ⟨k - 1, by omega⟩
            rw [Nat.add_sub_cancel] at *
            rw [HS.out, HD.out]; rfl)
          clear hd
          go_wp2_with fail
          (with_reducible refine (DL.out k _ hk1 hlt).mono ?_); rintro e w3 ⟨rfl, b3⟩
          rw [← HD.out]
          go_wp2
          go_roundw
          case rel => exact ⟨k + 1, s + d, by omega, by omega, by omega, by go_num, by go_num, HS', Lib.hid (HB2.out.trans (b3.out.mono HB2.out.size))⟩
          case measure => simp [intOf]; omega
        · have hd4' : decide ((d : Int) < 64000) = false := decide_eq_false (by omega)
          have E2 : Hid ((Bk.tot B 2147483647 : Int) = (s : Int) + 64000 * ((2147483647 : Int) - (k : Int) + 1)) := Lib.hid (by
            obtain ⟨j, rfl⟩ : ∃ j, k = j + 1 := ⟨k - 1, by omega⟩
            have := Bk.tot_tail (b := B) (k := j) (by rw [← HD.out]; omega) (show j ≤ 2147483647 by omega)
            rw [Nat.add_sub_cancel] at HS
            rw [this, ← HS.out]
            omega)
          clear hd hd64 hd4
          go_wp2
          go_ret
          exact ⟨ret_int (by rw [E.out, E2.out]), HB2⟩
      · omega
end Go.Proofs.Ytgjkpbibcaodjaa
