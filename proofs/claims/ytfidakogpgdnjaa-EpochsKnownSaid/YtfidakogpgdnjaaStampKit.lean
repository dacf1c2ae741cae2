/-
  A stamp's epoch and offset, and a stamp packed: package stamp's contracts for the layers above it.
-/
import Derived.Test.YtfidakogpgdnjaaBytesKit
import Derived.Test.YtfidakogpgdnjaaStampPlain
namespace Go.Proofs.Ytfidakogpgdnjaa
open Go.RowKit
set_option maxHeartbeats 400000 in
theorem epoch_any (s : Int) (h0 : 0 ≤ s) (h1 : s < 18446744073709551616) (w : World) :
    Calls Try.prog 15 #[.int .u64 s] w fun e w' => e = .returned (.int .i64 (Pl.epochV s)) ∧ w = w' := by
  go_enter Try.func15, Try.ntmps15
  go_wp2
  go_ret
  exact ⟨rfl, rfl⟩
set_option maxHeartbeats 400000 in
theorem stOff_any (s : Int) (h0 : 0 ≤ s) (h1 : s < 18446744073709551616) (w : World) :
    Calls Try.prog 16 #[.int .u64 s] w fun e w' => e = .returned (.int .i64 (Pl.offV s)) ∧ w = w' := by
  go_enter Try.func16, Try.ntmps16
  go_wp2
  go_ret
  refine ⟨ret_int ?_, rfl⟩
  rw [Pl.and_mask s h0 h1]
  exact IntWalk.wrap64_in _ (by omega)
set_option maxHeartbeats 400000 in
theorem pack_any (e o : Int) (w : World) :
    Calls Try.prog 19 #[.int .i64 e, .int .i64 o] w fun e' w' => e' = .returned (.tuple #[.int .u64 (Pl.packV e o), .bool (Pl.packOk e o)]) ∧ w = w' := by
  by_cases h : 0 ≤ e ∧ e ≤ 1048575 ∧ 0 ≤ o ∧ o ≤ 17592186044415
  · have hp : Pl.packOk e o = true := by simp [Pl.packOk, h]
    have hv : Pl.packV e o = e * 17592186044416 + o := by simp [Pl.packV, hp]
    rw [hp, hv]
    clear hp hv
    obtain ⟨h0, h1, h2, h3⟩ := h
    go_enter Try.func19, Try.ntmps19
    go_wp2
    go_ret2
    exact ⟨ret_pair (Pl.or_pack e o h0 h1 h2 h3) rfl, rfl⟩
  · have hp : Pl.packOk e o = false := by simp [Pl.packOk]; omega
    have hv : Pl.packV e o = 0 := by simp [Pl.packV, hp]
    rw [hp, hv]
    clear hp hv
    have hc : e < 0 ∨ (0 ≤ e ∧ 1048575 < e) ∨ ((0 ≤ e ∧ e ≤ 1048575) ∧ o < 0) ∨ ((0 ≤ e ∧ e ≤ 1048575) ∧ 0 ≤ o ∧ 17592186044415 < o) := by omega
    clear h
    rcases hc with h | ⟨h, h2⟩ | ⟨⟨h, h2⟩, h3⟩ | ⟨⟨h, h2⟩, h3, h4⟩
    all_goals
      go_enter Try.func19, Try.ntmps19
      go_wp2
      go_ret2
      exact ⟨rfl, rfl⟩
end Go.Proofs.Ytfidakogpgdnjaa
