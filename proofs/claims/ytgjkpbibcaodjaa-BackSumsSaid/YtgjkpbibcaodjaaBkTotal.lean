/-
  Package back: Delay and Total.
-/
import Derived.Test.YtgjkpbibcaodjaaBkRefTry
namespace Go.Proofs.Ytgjkpbibcaodjaa
open Go.RowKit
/-- A number handed back, the world as it was. -/
def StI (w : World) (v : Int) (e : Ending) (w' : World) : Prop := e = .returned (.int .i64 v) ∧ w = w'
theorem StI.num {w w' : World} {v : Int} {e : Ending} (h : StI w v e w') : NumP w v e w' := ⟨h.1, Lib.hid (by rw [← h.2]; exact Below.refl _ _)⟩
theorem Bk.pow_int (k : Nat) : (2 : Int) ^ k = ((2 ^ k : Nat) : Int) := by
  rw [Int.natCast_pow]; rfl
theorem Bk.dl_over {b t : Int} (hb : 1 ≤ b) (h : (64000 : Int) / 2 ^ min (t.toNat - 1) 64 < b) : (Bk.dl b.toNat t.toNat : Int) = 64000 := by
  have e : Bk.dl b.toNat t.toNat = 64000 := by
    rcases Nat.lt_or_ge 16 t.toNat with h17 | h16
    · exact Bk.dl_17 (by omega) h17
    · rw [show min (t.toNat - 1) 64 = t.toNat - 1 by omega, Bk.pow_int, Int.ediv_lt_iff_lt_mul (by have := Bk.pow_pos2 (t.toNat - 1); omega)] at h
      refine Bk.dl_top ?_
      rw [show b = (b.toNat : Int) by omega, ← Int.natCast_mul] at h
      omega
  omega
theorem Bk.dl_under {b t : Int} (hb : 1 ≤ b) (h : b ≤ (64000 : Int) / 2 ^ min (t.toNat - 1) 64) : wrap64 (b * 2 ^ min (t.toNat - 1) 64) = (Bk.dl b.toNat t.toNat : Int) := by
  have h16 : t.toNat ≤ 16 := by
    apply Classical.byContradiction
    intro h2
    have e : (64000 : Int) / 2 ^ min (t.toNat - 1) 64 = 0 := by
      rw [Bk.pow_int]
      refine Int.ediv_eq_zero_of_lt (by decide) ?_
      have : 2 ^ 16 ≤ 2 ^ min (t.toNat - 1) 64 := Nat.pow_le_pow_right (by decide) (by omega)
      omega
    omega
  have hp := Bk.pow_pos2 (t.toNat - 1)
  rw [show min (t.toNat - 1) 64 = t.toNat - 1 by omega, Bk.pow_int] at h ⊢
  rw [Int.le_ediv_iff_mul_le (by omega)] at h
  rw [show b = (b.toNat : Int) by omega, ← Int.natCast_mul] at h ⊢
  rw [Int.toNat_natCast]
  have h3 : b.toNat * 2 ^ (t.toNat - 1) ≤ 64000 := by omega
  rw [Bk.dl_low h3]
  unfold wrap64; omega
set_option maxHeartbeats 2000000 in
theorem delay_same (b t : Int) (hb : is64 b) (ht : is64 t) (w : World) : Calls Try.prog 9 #[.int .i64 b, .int .i64 t] w (StI w (Bk.delayI b t)) := by
  obtain ⟨hb0, hb1⟩ := hb
  obtain ⟨ht0, ht1⟩ := ht
  by_cases h1 : b < 1
  · have E : Hid (Bk.delayI b t = 0) := Lib.hid (by unfold Bk.delayI; rw [if_pos (.inl h1)])
    go_enter Try.func9, Try.ntmps9
    go_wp2
    go_ret
    exact ⟨ret_int E.out.symm, rfl⟩
  by_cases h2 : t < 1
  · have E : Hid (Bk.delayI b t = 0) := Lib.hid (by unfold Bk.delayI; rw [if_pos (.inr h2)])
    have h1' : 1 ≤ b := by omega
    clear h1
    go_enter Try.func9, Try.ntmps9
    go_wp2
    go_ret
    exact ⟨ret_int E.out.symm, rfl⟩
  have h1' : 1 ≤ b := by omega
  have h2' : 1 ≤ t := by omega
  have E : Hid (Bk.delayI b t = (Bk.dl b.toNat t.toNat : Int)) := Lib.hid (by unfold Bk.delayI; rw [if_neg (by omega)])
  clear h1 h2
  go_enter Try.func9, Try.ntmps9
  go_wp2
  · rename_i hlt
    go_ret
    exact ⟨ret_int (by rw [E.out]; exact (Bk.dl_over h1' hlt).symm), rfl⟩
  · rename_i hle
    go_ret
    exact ⟨ret_int (by rw [E.out]; exact Bk.dl_under h1' hle), rfl⟩
theorem delay_any (b t : Int) (hb : is64 b) (ht : is64 t) (w : World) : Calls Try.prog 9 #[.int .i64 b, .int .i64 t] w (NumP w (Bk.delayI b t)) :=
  (delay_same b t hb ht w).mono fun _ _ h => h.num
set_option maxHeartbeats 2000000 in
theorem total_same (b t : Int) (hb : is64 b) (ht : is64 t) (w : World) : Calls Try.prog 10 #[.int .i64 b, .int .i64 t] w (StI w (Bk.totalI b t)) := by
  obtain ⟨hb0, hb1⟩ := hb
  obtain ⟨ht0, ht1⟩ := ht
  by_cases h1 : b < 1
  · have E : Hid (Bk.totalI b t = 0) := Lib.hid (by unfold Bk.totalI; rw [if_pos (.inl h1)])
    go_enter Try.func10, Try.ntmps10
    go_wp2
    go_ret
    exact ⟨ret_int E.out.symm, rfl⟩
  by_cases h2 : t < 1
  · have E : Hid (Bk.totalI b t = 0) := Lib.hid (by unfold Bk.totalI; rw [if_pos (.inr h2)])
    have h1' : 1 ≤ b := by omega
    clear h1
    go_enter Try.func10, Try.ntmps10
    go_wp2
    go_ret
    exact ⟨ret_int E.out.symm, rfl⟩
  obtain ⟨B, rfl⟩ : ∃ B : Nat, b = (B : Int) := ⟨b.toNat, by omega⟩
  obtain ⟨T, rfl⟩ : ∃ T : Nat, t = (T : Int) := ⟨t.toNat, by omega⟩
  have hB : 1 ≤ B := by omega
  have hB' : 1 ≤ (B : Int) := by omega
  obtain ⟨N, hN⟩ : ∃ N, N = min T Bk.M := ⟨_, rfl⟩
  have hNM : N ≤ 2147483647 := by rw [hN]; exact Nat.min_le_right _ _
  have hN1 : 1 ≤ N := by rw [hN]; unfold Bk.M; omega
  have E : Hid (Bk.totalI B T = (Bk.tot B N : Int)) := Lib.hid (by rw [Bk.totalI_nat hB, hN])
  have DL : Hid (∀ (k : Nat) W, 1 ≤ k → k ≤ N → Calls Try.prog 9 #[.int .i64 (B : Int), .int .i64 (k : Int)] W (StI W (Bk.dl B k : Int))) := Lib.hid fun k W hk hkN => by
    have := delay_same (B : Int) (k : Int) ⟨by omega, by omega⟩ ⟨by omega, by omega⟩ W
    rwa [Bk.delayI_nat hB hk] at this
  clear h1 h2 hb0 ht0
  by_cases hM : T ≤ 2147483647
  · obtain rfl : N = T := by rw [hN]; unfold Bk.M; omega
    have hc : ¬ (2147483647 : Int) < (N : Int) := by omega
    clear hN hM
    go_enter Try.func10, Try.ntmps10
    go_wp2_with fail
    go_loopw [5, 6] (fun sv iv wr => ∃ k s : Nat, 1 ≤ k ∧ k ≤ 17 ∧ k ≤ N + 1 ∧ iv = .int .i64 k ∧ sv = .int .i64 s ∧ Hid (s = Bk.tot B (k - 1)) ∧ w = wr) (fun _ iv _ => 17 - (intOf iv).toNat)
    case atStart => exact ⟨1, 0, Nat.le_refl _, by decide, by omega, rfl, rfl, Lib.hid rfl, rfl⟩
    case round =>
      obtain ⟨k, s, hk1, hk17, hkN, rfl, rfl, HS, rfl⟩ := hrel
      have hs : s ≤ 1024000 := by
        have := Bk.tot_le B (k - 1)
        rw [← HS.out] at this
        omega
      by_cases hlt : k ≤ N
      · have hle : decide ((k : Int) ≤ (N : Int)) = true := decide_eq_true (by omega)
        go_wp2_with fail
        (with_reducible refine (DL.out k _ hk1 hlt).mono ?_); rintro e w2 ⟨rfl, rfl⟩
        obtain ⟨d, hd⟩ : ∃ d, d = Bk.dl B k := ⟨_, rfl⟩
        have HD := Lib.hid hd
        have hd64 : d ≤ 64000 := by rw [hd]; exact Bk.dl_le _ _
        rw [← hd]
        by_cases hd4 : d < 64000
        · have hk16 : k ≤ 16 := by
            apply Classical.byContradiction
            intro h
            have := Bk.dl_17 hB (show 17 ≤ k by omega)
            omega
          have HS' : Hid (s + d = Bk.tot B (k + 1 - 1)) := Lib.hid (by
            obtain ⟨j, rfl⟩ : ∃ j, k = j + 1 := ⟨k - 1, by omega⟩
            rw [Nat.add_sub_cancel] at *
            rw [HS.out, HD.out]; rfl)
          have hne : ¬ (d : Int) = 64000 := by omega
          clear hd
          go_wp2
          go_roundw
          case rel => exact ⟨k + 1, s + d, by omega, by omega, by omega, by go_num, by go_num, HS', trivial⟩
          case measure => simp [intOf]; omega
        · obtain rfl : d = 64000 := by omega
          have E2 : Hid ((Bk.tot B N : Int) = (s : Int) + 64000 * ((N : Int) - (k : Int) + 1)) := Lib.hid (by
            obtain ⟨j, rfl⟩ : ∃ j, k = j + 1 := ⟨k - 1, by omega⟩
            have := Bk.tot_tail (b := B) (k := j) (by rw [← HD.out]) (show j ≤ N by omega)
            rw [Nat.add_sub_cancel] at HS
            rw [this, ← HS.out]
            omega)
          clear hd hd64 hd4
          go_wp2
          go_ret
          exact ⟨ret_int (by rw [E.out, E2.out]), rfl⟩
      · obtain rfl : k = N + 1 := by omega
        have hle : decide (((N + 1 : Nat) : Int) ≤ (N : Int)) = false := decide_eq_false (by omega)
        have E2 : Hid (Bk.tot B N = s) := Lib.hid (by rw [HS.out, Nat.add_sub_cancel])
        go_wp2
        go_ret
        exact ⟨ret_int (by rw [E.out, E2.out]), rfl⟩
  · have hc : (2147483647 : Int) < (T : Int) := by omega
    obtain rfl : N = 2147483647 := by rw [hN]; unfold Bk.M; omega
    clear hN hM hNM hN1
    go_enter Try.func10, Try.ntmps10
    go_wp2_with fail
    go_loopw [5, 6] (fun sv iv wr => ∃ k s : Nat, 1 ≤ k ∧ k ≤ 17 ∧ k ≤ 2147483648 ∧ iv = .int .i64 k ∧ sv = .int .i64 s ∧ Hid (s = Bk.tot B (k - 1)) ∧ w = wr) (fun _ iv _ => 17 - (intOf iv).toNat)
    case atStart => exact ⟨1, 0, Nat.le_refl _, by decide, by omega, rfl, rfl, Lib.hid rfl, rfl⟩
    case round =>
      obtain ⟨k, s, hk1, hk17, hkN, rfl, rfl, HS, rfl⟩ := hrel
      have hs : s ≤ 1024000 := by
        have := Bk.tot_le B (k - 1)
        rw [← HS.out] at this
        omega
      by_cases hlt : k ≤ 2147483647
      · have hle : decide ((k : Int) ≤ (2147483647 : Int)) = true := decide_eq_true (by omega)
        go_wp2_with fail
        (with_reducible refine (DL.out k _ hk1 hlt).mono ?_); rintro e w2 ⟨rfl, rfl⟩
        obtain ⟨d, hd⟩ : ∃ d, d = Bk.dl B k := ⟨_, rfl⟩
        have HD := Lib.hid hd
        have hd64 : d ≤ 64000 := by rw [hd]; exact Bk.dl_le _ _
        rw [← hd]
        by_cases hd4 : d < 64000
        · have hk16 : k ≤ 16 := by
            apply Classical.byContradiction
            intro h
            have := Bk.dl_17 hB (show 17 ≤ k by omega)
            omega
          have HS' : Hid (s + d = Bk.tot B (k + 1 - 1)) := Lib.hid (by
            obtain ⟨j, rfl⟩ : ∃ j, k = j + 1 := ⟨k - 1, by omega⟩
            rw [Nat.add_sub_cancel] at *
            rw [HS.out, HD.out]; rfl)
          have hne : ¬ (d : Int) = 64000 := by omega
          clear hd
          go_wp2
          go_roundw
          case rel => exact ⟨k + 1, s + d, by omega, by omega, by omega, by go_num, by go_num, HS', trivial⟩
          case measure => simp [intOf]; omega
        · obtain rfl : d = 64000 := by omega
          have E2 : Hid ((Bk.tot B 2147483647 : Int) = (s : Int) + 64000 * ((2147483647 : Int) - (k : Int) + 1)) := Lib.hid (by
            obtain ⟨j, rfl⟩ : ∃ j, k = j + 1 := ⟨k - 1, by omega⟩
            have := Bk.tot_tail (b := B) (k := j) (by rw [← HD.out]) (show j ≤ 2147483647 by omega)
            rw [Nat.add_sub_cancel] at HS
            rw [this, ← HS.out]
            omega)
          clear hd hd64 hd4
          go_wp2
          go_ret
          exact ⟨ret_int (by rw [E.out, E2.out]), rfl⟩
      · obtain rfl : k = 2147483648 := by omega
        omega
end Go.Proofs.Ytgjkpbibcaodjaa
