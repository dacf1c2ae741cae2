/-
  Package epochs' small functions: is a stamp later, the last epoch, where an epoch begins, does a record follow.
-/
import Derived.Test.YtfidakogpgdnjaaEpRow
import Derived.Test.YtfidakogpgdnjaaEpPlain
import Derived.Test.YtfidakogpgdnjaaStampKit
import Derived.Deep.QuietTactic
import Derived.BigQuiet
import Derived.Deep.RegionHeld3
namespace Go.Proofs.Ytfidakogpgdnjaa
open Go.RowKit
set_option maxHeartbeats 400000 in
theorem later_any (s b : Int) (h0 : 0 ≤ s) (h1 : s < 18446744073709551616) (h2 : 0 ≤ b) (h3 : b < 18446744073709551616) (w : World) :
    Calls Try.prog 23 #[.int .u64 s, .int .u64 b] w fun e w' => e = .returned (.bool (Ep.later s b)) ∧ w = w' := by
  have E1 := epoch_any s h0 h1
  have E2 := epoch_any b h2 h3
  have O1 := stOff_any s h0 h1
  have O2 := stOff_any b h2 h3
  unfold Ep.later
  generalize Pl.epochV s = es at *
  generalize Pl.epochV b = eb at *
  generalize Pl.offV s = os at *
  generalize Pl.offV b = ob at *
  clear h0 h1 h2 h3
  by_cases hc : eb < es
  · rw [decide_eq_true hc, Bool.true_and]
    go_enter Try.func23, Try.ntmps23
    go_wp2_with fail
    refine (E1 _).mono ?_; rintro e w' ⟨rfl, rfl⟩
    go_wp2_with fail
    refine (E2 _).mono ?_; rintro e w' ⟨rfl, rfl⟩
    go_wp2_with fail
    refine (O1 _).mono ?_; rintro e w' ⟨rfl, rfl⟩
    go_wp2_with fail
    refine (O2 _).mono ?_; rintro e w' ⟨rfl, rfl⟩
    go_wp2
    go_ret
    exact ⟨rfl, rfl⟩
  · rw [decide_eq_false hc, Bool.false_and]
    go_enter Try.func23, Try.ntmps23
    go_wp2_with fail
    refine (E1 _).mono ?_; rintro e w' ⟨rfl, rfl⟩
    go_wp2_with fail
    refine (E2 _).mono ?_; rintro e w' ⟨rfl, rfl⟩
    go_wp2
    go_ret
    exact ⟨rfl, rfl⟩
def IntB (w : World) (n : Int) (e : Ending) (w' : World) : Prop := e = .returned (.int .i64 n) ∧ Hid (Below w.heap.size w w')
def BoolB (w : World) (b : Bool) (e : Ending) (w' : World) : Prop := e = .returned (.bool b) ∧ Hid (Below w.heap.size w w')
set_option maxHeartbeats 1000000 in
theorem last_any (A : Option Addr) (l : List Int) (cap : Nat) (x : Int) (hl : l.length ≤ 9223372036854775807) (w : World) (h : Sts w w.heap.size A l) :
    Calls Try.prog 25 #[.agg #[.slice A l.length cap, .int .i64 x]] w (IntB w (Ep.lastE l)) := by
  by_cases h0 : l.length = 0
  · have e : Ep.lastE l = -1 := by unfold Ep.lastE; rw [if_pos h0]
    rw [e, h0]
    clear e h0
    go_enter Try.func25, Try.ntmps25
    go_wp2
    go_ret
    exact ⟨rfl, Lib.hid ((Below.refl _ _).alloc (Nat.le_refl _) _)⟩
  · obtain ⟨b, off, z, rfl, hb, hc, hz, z0, z1⟩ := h.at_ (k := l.length - 1) (by omega)
    have e : Ep.lastE l = Pl.epochV z := by unfold Ep.lastE; rw [if_neg h0, hz.out]
    rw [e]
    have E1 := epoch_any z z0 z1
    obtain ⟨m, hm⟩ : ∃ m, l.length = m + 1 := ⟨l.length - 1, by omega⟩
    rw [hm] at hc hl ⊢
    rw [Nat.add_sub_cancel] at hc
    have hc' : (w.alloc (.cells #[.slice (some ⟨b, off, none⟩) (m + 1) cap, .int .i64 x] 25)).cell? ⟨b, off + m, none⟩ = some (.int .u64 z) := ((((Below.refl _ w).alloc (Nat.le_refl _) _).cell (p := ⟨b, off + m, none⟩) hb.out)).trans hc
    clear e h0 hm h hz hc z0 z1
    generalize Pl.epochV z = y at *
    go_enter Try.func25, Try.ntmps25
    go_wp2_with fail
    refine (E1 _).mono ?_; rintro e w' ⟨rfl, rfl⟩
    go_wp2
    go_ret
    exact ⟨rfl, Lib.hid ((Below.refl _ _).alloc (Nat.le_refl _) _)⟩
set_option maxHeartbeats 1000000 in
theorem start_any (A : Option Addr) (l : List Int) (cap : Nat) (x : Int) (i : Nat) (hi : i ≤ 9223372036854775807) (w : World) (h : Sts w w.heap.size A l) :
    Calls Try.prog 20 #[.agg #[.slice A l.length cap, .int .i64 x], .int .i64 (i : Int)] w (IntB w (Ep.startV l x i)) := by
  by_cases h0 : i < l.length
  · obtain ⟨b, off, z, rfl, hb, hc, hz, z0, z1⟩ := h.at_ (k := i) h0
    have e : Ep.startV l x i = Pl.offV z := by unfold Ep.startV; rw [if_pos h0, hz.out]
    rw [e]
    have E1 := stOff_any z z0 z1
    have hc' : (w.alloc (.cells #[.slice (some ⟨b, off, none⟩) l.length cap, .int .i64 x] 25)).cell? ⟨b, off + i, none⟩ = some (.int .u64 z) := ((((Below.refl _ w).alloc (Nat.le_refl _) _).cell (p := ⟨b, off + i, none⟩) hb.out)).trans hc
    have h1 : (i : Int) < (l.length : Int) := by omega
    clear e h hz hc z0 z1
    generalize Pl.offV z = y at *
    go_enter Try.func20, Try.ntmps20
    go_wp2_with fail
    refine (E1 _).mono ?_; rintro e w' ⟨rfl, rfl⟩
    go_wp2
    go_ret
    exact ⟨rfl, Lib.hid ((Below.refl _ _).alloc (Nat.le_refl _) _)⟩
  · have e : Ep.startV l x i = x := by unfold Ep.startV; rw [if_neg h0]
    rw [e]
    have h1 : (l.length : Int) ≤ (i : Int) := by omega
    clear e h
    go_enter Try.func20, Try.ntmps20
    go_wp2
    go_ret
    exact ⟨rfl, Lib.hid ((Below.refl _ _).alloc (Nat.le_refl _) _)⟩
end Go.Proofs.Ytfidakogpgdnjaa
