/-
  The law BackSums, walked.
-/
import Derived.Test.YtgjkpbibcaodjaaBkLaws
namespace Go.Proofs.Ytgjkpbibcaodjaa
open Go.RowKit
theorem Bk.total_step (b : Int) {k : Nat} (hk : k < 2147483647) : Bk.totalI b (k : Int) + Bk.delayI b ((k : Int) + 1) = Bk.totalI b ((k : Int) + 1) := by
  by_cases hb : b < 1
  · unfold Bk.totalI Bk.delayI
    rw [if_pos (.inl hb), if_pos (.inl hb), if_pos (.inl hb)]
    rfl
  · obtain ⟨B, rfl⟩ : ∃ B : Nat, b = (B : Int) := ⟨b.toNat, by omega⟩
    have hB : 1 ≤ B := by omega
    rw [show ((k : Int) + 1) = ((k + 1 : Nat) : Int) from rfl, Bk.totalI_nat hB, Bk.totalI_nat hB, Bk.delayI_nat hB (by omega), Nat.min_eq_left (by unfold Bk.M; omega), Nat.min_eq_left (by unfold Bk.M; omega)]
    rfl
theorem Bk.total_none (b : Int) {n : Int} (h : n < 1) : Bk.totalI b n = 0 := by unfold Bk.totalI; rw [if_pos (.inr h)]
set_option maxHeartbeats 2000000 in
theorem sums_walk (b n : Int) (hb : is64 b) (hn : is64 n) (w : World) : Calls Try.prog 6 #[.int .i64 b, .int .i64 n] w (BoolP w true) := by
  have AW : Hid (Calls Try.prog 8 #[] w (BoolP w true)) := Lib.hid (awake_any w)
  by_cases h : 300 < n
  · clear hb hn
    go_enter Try.func6, Try.ntmps6
    go_wp2_with fail
    (with_reducible refine AW.out.mono ?_); rintro e _ ⟨rfl, FB⟩
    go_wp2
    go_ret
    exact ⟨rfl, FB⟩
  · have h' : n ≤ 300 := by omega
    have DL : Hid (∀ (k : Nat) W, k ≤ 300 → Calls Try.prog 9 #[.int .i64 b, .int .i64 ((k : Int) + 1)] W (NumP W (Bk.delayI b ((k : Int) + 1)))) := Lib.hid fun k W hk => delay_any b _ hb ⟨by omega, by omega⟩ W
    have TL : Hid (∀ W, Calls Try.prog 10 #[.int .i64 b, .int .i64 n] W (NumP W (Bk.totalI b n))) := Lib.hid fun W => total_any b n hb hn W
    clear h hb hn
    go_enter Try.func6, Try.ntmps6
    go_wp2_with fail
    (with_reducible refine AW.out.mono ?_); rintro e w1 ⟨rfl, FB⟩
    go_wp2_with fail
    go_loopw [5, 6] (fun sv iv wr => ∃ (k : Nat) (s : Int), k ≤ 300 ∧ ((k : Int) ≤ n ∨ k = 0) ∧ iv = .int .i64 ((k : Int) + 1) ∧ sv = .int .i64 s ∧ Hid (s = Bk.totalI b (k : Int)) ∧ Hid (Below w.heap.size w wr)) (fun _ iv _ => 301 - (intOf iv).toNat)
    case atStart => exact ⟨0, 0, by decide, .inr rfl, rfl, rfl, Lib.hid (Bk.total_none b (by decide)).symm, FB⟩
    case round =>
      obtain ⟨k, s, hk, hkn, rfl, rfl, HS, HB⟩ := hrel
      have hs0 : 0 ≤ s ∧ s ≤ 137438953408000 := by rw [HS.out]; exact Bk.totalI_rng b k
      obtain ⟨s0, s1⟩ := hs0
      by_cases hlt : (k : Int) + 1 ≤ n
      · have hk3 : k < 300 := by omega
        have HS' : Hid (s + Bk.delayI b ((k : Int) + 1) = Bk.totalI b ((k + 1 : Nat) : Int)) := Lib.hid (by rw [HS.out]; exact Bk.total_step b (by omega))
        obtain ⟨d, hd⟩ : ∃ d, d = Bk.delayI b ((k : Int) + 1) := ⟨_, rfl⟩
        have hd0 : 0 ≤ d ∧ d ≤ 64000 := by rw [hd]; exact Bk.delayI_rng b _
        obtain ⟨d0, d1⟩ := hd0
        have DK : Hid (∀ W, Calls Try.prog 9 #[.int .i64 b, .int .i64 ((k : Int) + 1)] W (NumP W d)) := Lib.hid fun W => by rw [hd]; exact DL.out k W hk
        rw [← hd] at HS'
        clear hd hkn
        go_wp2_with fail
        (with_reducible refine (DK.out _).mono ?_); rintro e w2 ⟨rfl, b2⟩
        have HB2 : Hid (Below w.heap.size w w2) := Lib.hid (HB.out.trans (b2.out.mono HB.out.size))
        go_wp2
        go_roundw
        case rel => exact ⟨k + 1, s + d, by omega, .inl (by omega), by go_num, by go_num, HS', HB2⟩
        case measure => simp [intOf]; omega
      · have ET : Hid (Bk.totalI b n = s) := Lib.hid (by
          rw [HS.out]
          rcases hkn with hkn | hkn
          · rw [show n = (k : Int) by omega]
          · subst hkn
            rw [Bk.total_none b (show ((0 : Nat) : Int) < 1 by decide), Bk.total_none b (by omega)])
        have hlt' : n < (k : Int) + 1 := by omega
        have TK : Hid (∀ W, Calls Try.prog 10 #[.int .i64 b, .int .i64 n] W (NumP W s)) := Lib.hid fun W => by have := TL.out W; rwa [ET.out] at this
        clear hlt hkn s0 s1
        go_wp2_with fail
        (with_reducible refine (TK.out _).mono ?_); rintro e w2 ⟨rfl, b2⟩
        go_wp2
        go_ret
        exact ⟨rfl, Lib.hid (HB.out.trans (b2.out.mono HB.out.size))⟩
end Go.Proofs.Ytgjkpbibcaodjaa
