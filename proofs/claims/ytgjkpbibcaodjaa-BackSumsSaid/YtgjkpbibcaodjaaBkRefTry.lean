/-
  The reference's Try.
-/
import Derived.Test.YtgjkpbibcaodjaaBkRef
namespace Go.Proofs.Ytgjkpbibcaodjaa
open Go.RowKit
set_option maxHeartbeats 2000000 in
theorem refTry_any (b t : Int) (hb : is64 b) (ht : is64 t) (w : World) : Calls Try.prog 14 #[.int .i64 b, .int .i64 t] w (NumP w (Bk.tryI b t)) := by
  obtain ⟨hb0, hb1⟩ := hb
  obtain ⟨ht0, ht1⟩ := ht
  by_cases h1 : b < 1
  · have E : Hid (Bk.tryI b t = 0) := Lib.hid (by unfold Bk.tryI; rw [if_pos (.inl h1)])
    go_enter Try.func14, Try.ntmps14
    go_wp2
    go_ret
    exact ⟨ret_int E.out.symm, Lib.hid (Below.refl _ _)⟩
  by_cases h2 : t < 0
  · have E : Hid (Bk.tryI b t = 0) := Lib.hid (by unfold Bk.tryI; rw [if_pos (.inr h2)])
    have h1' : 1 ≤ b := by omega
    clear h1
    go_enter Try.func14, Try.ntmps14
    go_wp2
    go_ret
    exact ⟨ret_int E.out.symm, Lib.hid (Below.refl _ _)⟩
  obtain ⟨B, rfl⟩ : ∃ B : Nat, b = (B : Int) := ⟨b.toNat, by omega⟩
  obtain ⟨T, rfl⟩ : ∃ T : Nat, t = (T : Int) := ⟨t.toNat, by omega⟩
  have hB : 1 ≤ B := by omega
  have hB' : 1 ≤ (B : Int) := by omega
  have hT' : 0 ≤ (T : Int) := by omega
  have E : Hid (Bk.tryI B T = (Bk.tryV B T : Int)) := Lib.hid (Bk.tryI_nat hB)
  have TL : Hid (∀ (k : Nat) W, k ≤ 2147483647 → Calls Try.prog 13 #[.int .i64 (B : Int), .int .i64 (k : Int)] W (NumP W (Bk.tot B k : Int))) := Lib.hid fun k W hk => by
    have := refTotal_any (B : Int) (k : Int) ⟨by omega, by omega⟩ ⟨by omega, by omega⟩ W
    rwa [Bk.totalI_nat hB, Nat.min_eq_left (by unfold Bk.M; omega)] at this
  have HB1 := Lib.hid hB
  clear h1 h2 hb0 ht0 hb1 ht1 hB
  go_enter Try.func14, Try.ntmps14
  go_wp2_with fail
  clear hB' hT'
  go_loopw [5, 6] (fun lv hv wr => ∃ lo hi : Nat, lo ≤ hi ∧ hi ≤ 2147483647 ∧ lv = .int .i64 lo ∧ hv = .int .i64 hi ∧ Hid (Bk.tot B lo ≤ T) ∧ Hid (hi = Bk.M ∨ T < Bk.tot B (hi + 1)) ∧ Hid (Below w.heap.size w wr)) (fun lv hv _ => (intOf hv).toNat - (intOf lv).toNat)
  case atStart => exact ⟨0, 2147483647, Nat.zero_le _, Nat.le_refl _, rfl, rfl, Lib.hid (Nat.zero_le _), Lib.hid (.inl rfl), Lib.hid (Below.refl _ _)⟩
  case round =>
    obtain ⟨lo, hi, hlh, hhi, rfl, rfl, HL, HH, HB⟩ := hrel
    by_cases hlt : lo < hi
    · have hlt' : (lo : Int) < (hi : Int) := by omega
      have hlo0 : 0 ≤ (lo : Int) := by omega
      have hhi' : (hi : Int) ≤ 2147483647 := by omega
      obtain ⟨m, hm, hm1, hm2⟩ : ∃ m : Nat, (lo : Int) + ((hi : Int) - (lo : Int) + 1) / 2 = (m : Int) ∧ lo < m ∧ m ≤ hi := ⟨lo + (hi - lo + 1) / 2, by omega, by omega, by omega⟩
      have HM := Lib.hid hm
      clear hm
      go_wp2_with fail
      rw [HM.out]
      (with_reducible refine (TL.out m _ (by omega)).mono ?_); rintro e w2 ⟨rfl, b2⟩
      have HB2 : Hid (Below w.heap.size w w2) := Lib.hid (HB.out.trans (b2.out.mono HB.out.size))
      obtain ⟨x, hx⟩ : ∃ x : Int, x = (Bk.tot B m : Int) := ⟨_, rfl⟩
      rw [← hx]
      by_cases hc : Bk.tot B m ≤ T
      · have hd : decide (x ≤ (T : Int)) = true := decide_eq_true (by omega)
        have HL' : Hid (Bk.tot B m ≤ T) := Lib.hid hc
        clear hc HM hx
        go_wp2
        go_roundw
        case rel => exact ⟨m, hi, hm2, hhi, rfl, rfl, HL', HH, HB2⟩
        case measure => simp [intOf]; omega
      · have hd : decide (x ≤ (T : Int)) = false := decide_eq_false (by omega)
        have HH' : Hid (m - 1 = Bk.M ∨ T < Bk.tot B (m - 1 + 1)) := Lib.hid (.inr (by rw [show m - 1 + 1 = m by omega]; omega))
        have hm3 : (m : Int) - 1 = ((m - 1 : Nat) : Int) := by omega
        have M3 := Lib.hid hm3
        have hm0 : 1 ≤ (m : Int) := by omega
        have hm4 : (m : Int) ≤ 2147483647 := by omega
        clear hc HM hm3 hx
        go_wp2
        go_roundw
        case rel => exact ⟨lo, m - 1, by omega, by omega, rfl, by rw [M3.out], HL, HH', HB2⟩
        case measure => simp [intOf]; omega
    · obtain rfl : lo = hi := by omega
      have E2 : Hid (Bk.tryV B T = lo) := Lib.hid (Bk.tryV_eq HB1.out ⟨hhi, HL.out, HH.out⟩)
      go_wp2
      go_ret
      exact ⟨ret_int (by rw [E.out, E2.out]), HB⟩
end Go.Proofs.Ytgjkpbibcaodjaa
