/-
  What each small function of package stamp does, at every argument in range: its result as whole numbers, and the world as it was. (Pack, Epoch, Off, Next, Up, Fold, Unfold, Narrow, Wide and isWidth; nothing on texts.)
-/
import Derived.Test.YtcpihfieinnmkaaDoorProg
import Derived.Test.YtcpihfieinnmkaaDoorStampPlain
import Derived.WalkKit
import Derived.WalkSpells
import Derived.WalkLawsBesides
namespace Go.Proofs.YtcpihfieinnmkaaDoor
open Go.RowKit

theorem ret_int {k : IntKind} {a b : Int} (h : a = b) : Ending.returned (.int k a) = .returned (.int k b) := by rw [h]
theorem ret_pair {k : IntKind} {a b : Int} {x y : Bool} (h : a = b) (h2 : x = y) : Ending.returned (.tuple #[.int k a, .bool x]) = .returned (.tuple #[.int k b, .bool y]) := by rw [h, h2]
theorem ret_bool {a b : Bool} (h : a = b) : Ending.returned (.bool a) = .returned (.bool b) := by rw [h]

set_option maxHeartbeats 400000 in
theorem epoch_any (s : Int) (h0 : 0 ≤ s) (h1 : s < 18446744073709551616) (w : World) :
    Calls Tryd.prog 24 #[.int .u64 s] w fun e w' => e = .returned (.int .i64 (Pl.epochV s)) ∧ w = w' := by
  go_enter Tryd.func24, Tryd.ntmps24
  go_wp2
  go_ret
  exact ⟨rfl, rfl⟩
set_option maxHeartbeats 400000 in
theorem off_any (s : Int) (h0 : 0 ≤ s) (h1 : s < 18446744073709551616) (w : World) :
    Calls Tryd.prog 25 #[.int .u64 s] w fun e w' => e = .returned (.int .i64 (Pl.offV s)) ∧ w = w' := by
  go_enter Tryd.func25, Tryd.ntmps25
  go_wp2
  go_ret
  refine ⟨ret_int ?_, rfl⟩
  rw [Pl.and_mask s h0 h1]
  exact IntWalk.wrap64_in _ (by omega)
set_option maxHeartbeats 400000 in
theorem pack_any (e o : Int) (w : World) :
    Calls Tryd.prog 12 #[.int .i64 e, .int .i64 o] w fun e' w' => e' = .returned (.tuple #[.int .u64 (Pl.packV e o), .bool (Pl.packOk e o)]) ∧ w = w' := by
  by_cases h : 0 ≤ e ∧ e ≤ 1048575 ∧ 0 ≤ o ∧ o ≤ 17592186044415
  · have hp : Pl.packOk e o = true := by simp [Pl.packOk, h]
    have hv : Pl.packV e o = e * 17592186044416 + o := by simp [Pl.packV, hp]
    rw [hp, hv]
    clear hp hv
    obtain ⟨h0, h1, h2, h3⟩ := h
    go_enter Tryd.func12, Tryd.ntmps12
    go_wp2
    go_ret2
    exact ⟨ret_pair (Pl.or_pack e o h0 h1 h2 h3) rfl, rfl⟩
  · have hp : Pl.packOk e o = false := by simp [Pl.packOk]; omega
    have hv : Pl.packV e o = 0 := by simp [Pl.packV, hp]
    rw [hp, hv]
    clear hp hv
    have hc : e < 0 ∨ (0 ≤ e ∧ 1048575 < e) ∨ ((0 ≤ e ∧ e ≤ 1048575) ∧ o < 0) ∨ ((0 ≤ e ∧ e ≤ 1048575) ∧ 0 ≤ o ∧ 17592186044415 < o) := by omega
    clear h
    rcases hc with h | ⟨h, h2⟩ | ⟨⟨h, h2⟩, h3⟩ | ⟨⟨h, h2⟩, h3, h4⟩
    all_goals
      go_enter Tryd.func12, Tryd.ntmps12
      go_wp2
      go_ret2
      exact ⟨rfl, rfl⟩
set_option maxHeartbeats 400000 in
theorem next_any (s : Int) (h0 : 0 ≤ s) (h1 : s < 18446744073709551616) (w : World) :
    Calls Tryd.prog 13 #[.int .u64 s] w fun e' w' => e' = .returned (.tuple #[.int .u64 (Pl.packV (Pl.epochV s) (Pl.offV s + 1)), .bool (Pl.packOk (Pl.epochV s) (Pl.offV s + 1))]) ∧ w = w' := by
  have ho : 0 ≤ Pl.offV s ∧ Pl.offV s < 17592186044416 := by unfold Pl.offV; omega
  obtain ⟨ho1, ho2⟩ := ho
  go_enter Tryd.func13, Tryd.ntmps13
  go_wp2_with (first
    | (go_at_call 24; refine (epoch_any _ h0 h1 _).mono ?_; rintro e w' ⟨rfl, rfl⟩)
    | (go_at_call 25; refine (off_any _ h0 h1 _).mono ?_; rintro e w' ⟨rfl, rfl⟩)
    | (go_at_call 12; refine (pack_any _ _ _).mono ?_; rintro e w' ⟨rfl, rfl⟩))
  go_ret2
  exact ⟨rfl, rfl⟩
set_option maxHeartbeats 400000 in
theorem up_any (s : Int) (h0 : 0 ≤ s) (h1 : s < 18446744073709551616) (w : World) :
    Calls Tryd.prog 14 #[.int .u64 s] w fun e' w' => e' = .returned (.tuple #[.int .u64 (Pl.packV (Pl.epochV s + 1) (Pl.offV s)), .bool (Pl.packOk (Pl.epochV s + 1) (Pl.offV s))]) ∧ w = w' := by
  have ho : 0 ≤ Pl.epochV s ∧ Pl.epochV s < 1048576 := by unfold Pl.epochV; omega
  obtain ⟨ho1, ho2⟩ := ho
  go_enter Tryd.func14, Tryd.ntmps14
  go_wp2_with (first
    | (go_at_call 24; refine (epoch_any _ h0 h1 _).mono ?_; rintro e w' ⟨rfl, rfl⟩)
    | (go_at_call 25; refine (off_any _ h0 h1 _).mono ?_; rintro e w' ⟨rfl, rfl⟩)
    | (go_at_call 12; refine (pack_any _ _ _).mono ?_; rintro e w' ⟨rfl, rfl⟩))
  go_ret2
  exact ⟨rfl, rfl⟩
set_option maxHeartbeats 400000 in
theorem fold_any (v : Int) (h0 : -9223372036854775808 ≤ v) (h1 : v ≤ 9223372036854775807) (w : World) :
    Calls Tryd.prog 16 #[.int .i64 v] w fun e' w' => e' = .returned (.int .u64 (Pl.foldV v)) ∧ w = w' := by
  go_enter Tryd.func16, Tryd.ntmps16
  go_wp2
  go_ret
  exact ⟨ret_int (Pl.fold_bits v h0 h1), rfl⟩
set_option maxHeartbeats 400000 in
theorem unfold_any (u : Int) (h0 : 0 ≤ u) (h1 : u < 18446744073709551616) (w : World) :
    Calls Tryd.prog 17 #[.int .u64 u] w fun e' w' => e' = .returned (.int .i64 (Pl.unfoldV u)) ∧ w = w' := by
  go_enter Tryd.func17, Tryd.ntmps17
  go_wp2
  go_ret
  exact ⟨ret_int (Pl.unfold_bits u h0 h1), rfl⟩
set_option maxHeartbeats 400000 in
theorem isWidth_any (b : Int) (w : World) :
    Calls Tryd.prog 33 #[.int .i64 b] w fun e' w' => e' = .returned (.bool (Pl.isW b)) ∧ w = w' := by
  by_cases h : 1 ≤ b
  · go_enter Tryd.func33, Tryd.ntmps33
    go_wp2
    go_ret
    exact ⟨ret_bool (by simp [Pl.isW, h]), rfl⟩
  · have h' : b < 1 := by omega
    go_enter Tryd.func33, Tryd.ntmps33
    go_wp2
    go_ret
    exact ⟨ret_bool (by simp [Pl.isW]; omega), rfl⟩
set_option maxHeartbeats 400000 in
theorem narrow_any (u b : Int) (h0 : 0 ≤ u) (_h1 : u < 18446744073709551616) (w : World) :
    Calls Tryd.prog 15 #[.int .u64 u, .int .i64 b] w fun e' w' => e' = .returned (.tuple #[.int .u64 (Pl.narrowV u b), .bool (Pl.narrowOk u b)]) ∧ w = w' := by
  by_cases h : 1 ≤ b ∧ b ≤ 64
  · have hw : Pl.isW b = true := by simp [Pl.isW, h]
    by_cases hu : u < 2 ^ b.toNat
    · have ho : Pl.narrowOk u b = true := by simp [Pl.narrowOk, hw, hu]
      have hv : Pl.narrowV u b = u := by simp [Pl.narrowV, ho]
      rw [ho, hv]
      have hd : (u / 2 ^ b.toNat != 0) = false := by rw [Pl.narrow_bits u b h0]; simp [hu]
      clear ho hv hw hu
      obtain ⟨h2, h3⟩ := h
      go_enter Tryd.func15, Tryd.ntmps15
      go_wp2
      go_ret2
      exact ⟨rfl, rfl⟩
    · have ho : Pl.narrowOk u b = false := by simp [Pl.narrowOk, hu]
      have hv : Pl.narrowV u b = 0 := by simp [Pl.narrowV, ho]
      rw [ho, hv]
      have hd : (u / 2 ^ b.toNat != 0) = true := by rw [Pl.narrow_bits u b h0]; simp [hu]
      clear ho hv hw hu
      obtain ⟨h2, h3⟩ := h
      go_enter Tryd.func15, Tryd.ntmps15
      go_wp2
      go_ret2
      exact ⟨rfl, rfl⟩
  · have hw : Pl.isW b = false := by simp [Pl.isW]; omega
    have ho : Pl.narrowOk u b = false := by simp [Pl.narrowOk, hw]
    have hv : Pl.narrowV u b = 0 := by simp [Pl.narrowV, ho]
    rw [ho, hv]
    clear ho hv hw
    have hc : b < 1 ∨ 64 < b := by omega
    clear h
    rcases hc with h | h
    all_goals
      go_enter Tryd.func15, Tryd.ntmps15
      go_wp2
      go_ret2
      exact ⟨rfl, rfl⟩
set_option maxHeartbeats 400000 in
theorem wide_any (u b : Int) (w : World) :
    Calls Tryd.prog 18 #[.int .u64 u, .int .i64 b] w fun e' w' => e' = .returned (.int .i64 (Pl.wideV u b)) ∧ w = w' := by
  by_cases h : 1 ≤ b ∧ b ≤ 64
  · obtain ⟨h2, h3⟩ := h
    go_enter Tryd.func18, Tryd.ntmps18
    go_wp2
    go_ret
    exact ⟨ret_int (Pl.wide_bits u b h2 h3), rfl⟩
  · have hw : Pl.isW b = false := by simp [Pl.isW]; omega
    have hv : Pl.wideV u b = 0 := by simp [Pl.wideV, hw]
    rw [hv]
    clear hv hw
    have hc : b < 1 ∨ 64 < b := by omega
    clear h
    rcases hc with h | h
    · go_enter Tryd.func18, Tryd.ntmps18
      go_wp2
      go_ret
      exact ⟨rfl, rfl⟩
    · have hq : decide (b ≤ 64) = false := decide_eq_false (by omega)
      go_enter Tryd.func18, Tryd.ntmps18
      go_wp2
      go_ret
      exact ⟨rfl, rfl⟩
end Go.Proofs.YtcpihfieinnmkaaDoor
