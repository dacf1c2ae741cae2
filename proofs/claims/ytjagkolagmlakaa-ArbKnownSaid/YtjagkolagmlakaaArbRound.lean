/-
  The law ArbRound: led, alone, both again.
-/
import Derived.Test.YtjagkolagmlakaaArbAwake
namespace Go.Proofs.Ytjagkolagmlakaa
open Go.RowKit
theorem lead_true {e h : Int} {so : Bool} {f who : Int} (hk : Ar.okL ⟨e, h, so, f⟩ who = true) : Ar.leadV ⟨e, h, so, f⟩ who = ⟨e + 1, who, so, f⟩ ∧ Ar.node who = true ∧ 0 ≤ e ∧ e < 1048575 ∧ 0 ≤ who ∧ who ≤ 1 := by
  have h2 : Ar.leadV ⟨e, h, so, f⟩ who = ⟨e + 1, who, so, f⟩ := by unfold Ar.leadV; rw [if_pos hk]
  unfold Ar.okL at hk
  simp only [Bool.and_eq_true, decide_eq_true_eq] at hk
  have h3 : who = 0 ∨ who = 1 := by simpa [Ar.node] using hk.1.1.1
  exact ⟨h2, hk.1.1.1, hk.1.2, hk.2, by omega, by omega⟩
theorem lead_false {e h : Int} {so : Bool} {f who : Int} (hk : Ar.okL ⟨e, h, so, f⟩ who = false) : Ar.leadV ⟨e, h, so, f⟩ who = ⟨0, 0, false, 0⟩ := by
  unfold Ar.leadV; rw [hk]; rfl
theorem turn_true {s : Ar.S} {so : Bool} {who ep fl : Int} (hk : Ar.okT s so who ep fl = true) : Ar.turnV s so who ep fl = ⟨s.ep, s.ho, so, fl⟩ := by
  unfold Ar.turnV; rw [if_pos hk]
theorem turn_false {s : Ar.S} {so : Bool} {who ep fl : Int} (hk : Ar.okT s so who ep fl = false) : Ar.turnV s so who ep fl = ⟨0, 0, false, 0⟩ := by
  unfold Ar.turnV; rw [hk]; rfl
set_option maxHeartbeats 8000000 in
set_option maxRecDepth 20000 in
theorem round_walk (e h : Int) (so : Bool) (f who a b : Int) (w : World) : Calls Try.prog 6 #[.agg #[.int .i64 e, .int .i64 h, .bool so, .int .i64 f], .int .i64 who, .int .i64 a, .int .i64 b] w fun x w' => x = .returned (.bool true) ∧ Below w.heap.size w w' := by
  have SG := st_guard
  have LDA := Lib.hid (lead_any e h so f who)
  by_cases hk : Ar.okL ⟨e, h, so, f⟩ who = true
  · obtain ⟨hv, hn, e0, e1, q0, q1⟩ := lead_true hk
    have LD : Hid (∀ W, Calls Try.prog 10 #[.agg #[.int .i64 e, .int .i64 h, .bool so, .int .i64 f], .int .i64 who] W (TwoB W (e + 1) who so f true)) := Lib.hid fun W => by have := LDA.out W; rw [hv, hk] at this; exact this
    clear LDA hv hk
    cases so
    · by_cases hfa : f ≤ a
      · have AL : Hid (∀ W, Calls Try.prog 13 #[.agg #[.int .i64 (e + 1), .int .i64 who, .bool false, .int .i64 f], .int .i64 who, .int .i64 (e + 1), .int .i64 a] W (TwoB W (e + 1) who true a true)) := Lib.hid fun W => by
          have hk : Ar.okT ⟨e + 1, who, false, f⟩ true who (e + 1) a = true := by simp [Ar.okT, hn, hfa]
          have := alone_any (e + 1) who false f who (e + 1) a W
          rw [turn_true hk, hk] at this
          exact this
        have LN : Hid (∀ W, Calls Try.prog 10 #[.agg #[.int .i64 (e + 1), .int .i64 who, .bool true, .int .i64 a], .int .i64 (1 - who)] W (TwoB W 0 0 false 0 false)) := Lib.hid fun W => by
          have hk : Ar.okL ⟨e + 1, who, true, a⟩ (1 - who) = false := by
            have : ¬ (1 - who = who) := by omega
            simp [Ar.okL, this]
          have := lead_any (e + 1) who true a (1 - who) W
          rw [lead_false hk, hk] at this
          exact this
        by_cases hab : a ≤ b
        · have BO : Hid (∀ W, Calls Try.prog 14 #[.agg #[.int .i64 (e + 1), .int .i64 who, .bool true, .int .i64 a], .int .i64 who, .int .i64 (e + 1), .int .i64 b] W (TwoB W (e + 1) who false b true)) := Lib.hid fun W => by
            have hk : Ar.okT ⟨e + 1, who, true, a⟩ false who (e + 1) b = true := by simp [Ar.okT, hn, hab]
            have := both_any (e + 1) who true a who (e + 1) b W
            rw [turn_true hk, hk] at this
            exact this
          go_enter Try.func6, Try.ntmps6
          go_upto_region 1 with fail
          obtain ⟨W0, hW0⟩ : ∃ W0, W0 = w.alloc (.cells #[.int .i64 e, .int .i64 h, .bool false, .int .i64 f] 26) := ⟨_, rfl⟩
          obtain ⟨X0, hX0⟩ : ∃ X0, X0 = w.heap.size := ⟨_, rfl⟩
          have P0 : Hid (W0.heap[X0]? = some (.cells #[.int .i64 e, .int .i64 h, .bool false, .int .i64 f] 26 (0, 0))) := Lib.hid (by rw [hW0, hX0]; exact heap_alloc_new _ _)
          have B : Hid (Below w.heap.size w W0) := Lib.hid (by rw [hW0]; exact (Below.refl _ _).alloc (Nat.le_refl _) _)
          rw [← hW0, ← hX0]
          clear hW0 hX0
          go_wp2_with fail
          (with_reducible refine (awake_any _).mono ?_); rintro x w1 ⟨rfl, b1⟩
          have P0 : Hid (w1.heap[X0]? = _) := Lib.hid ((b1.out.block _ (lt_of_block P0.out)).trans P0.out)
          have B : Hid (Below w.heap.size w w1) := Lib.hid (B.out.trans (b1.out.mono B.out.size))
          clear b1
          obtain ⟨⟨c0, c1, c2, c3⟩, -⟩ := obj4 P0.out
          go_wp2_with fail
          (with_reducible refine (LD.out _).mono ?_); rintro x w2 ⟨rfl, b2⟩
          clear c0 c1 c2 c3
          have P0 : Hid (w2.heap[X0]? = _) := Lib.hid ((b2.out.block _ (lt_of_block P0.out)).trans P0.out)
          have B : Hid (Below w.heap.size w w2) := Lib.hid (B.out.trans (b2.out.mono B.out.size))
          clear b2
          go_upto_region 4 with fail
          obtain ⟨W2, hW⟩ : ∃ W, W = w2.alloc (.cells #[.int .i64 (e + 1), .int .i64 who, .bool false, .int .i64 f] 26) := ⟨_, rfl⟩
          obtain ⟨X1, hX⟩ : ∃ X, X = w2.heap.size := ⟨_, rfl⟩
          have P1 : Hid (W2.heap[X1]? = some (.cells #[.int .i64 (e + 1), .int .i64 who, .bool false, .int .i64 f] 26 (0, 0))) := Lib.hid (by rw [hW, hX]; exact heap_alloc_new _ _)
          have b2 : Hid (Below w2.heap.size w2 W2) := Lib.hid (by rw [hW]; exact (Below.refl _ _).alloc (Nat.le_refl _) _)
          rw [← hW, ← hX]
          clear hW hX
          have P0 : Hid (W2.heap[X0]? = _) := Lib.hid ((b2.out.block _ (lt_of_block P0.out)).trans P0.out)
          have B : Hid (Below w.heap.size w W2) := Lib.hid (B.out.trans (b2.out.mono B.out.size))
          clear b2
          obtain ⟨⟨c0, c1, c2, c3⟩, -⟩ := obj4 P1.out
          go_wp2_with fail
          (with_reducible refine (AL.out _).mono ?_); rintro x w3 ⟨rfl, b3⟩
          clear c0 c1 c2 c3
          have P0 : Hid (w3.heap[X0]? = _) := Lib.hid ((b3.out.block _ (lt_of_block P0.out)).trans P0.out)
          have P1 : Hid (w3.heap[X1]? = _) := Lib.hid ((b3.out.block _ (lt_of_block P1.out)).trans P1.out)
          have B : Hid (Below w.heap.size w w3) := Lib.hid (B.out.trans (b3.out.mono B.out.size))
          clear b3
          go_upto_region 7 with fail
          obtain ⟨W3, hW⟩ : ∃ W, W = w3.alloc (.cells #[.int .i64 (e + 1), .int .i64 who, .bool true, .int .i64 a] 26) := ⟨_, rfl⟩
          obtain ⟨X2, hX⟩ : ∃ X, X = w3.heap.size := ⟨_, rfl⟩
          have P2 : Hid (W3.heap[X2]? = some (.cells #[.int .i64 (e + 1), .int .i64 who, .bool true, .int .i64 a] 26 (0, 0))) := Lib.hid (by rw [hW, hX]; exact heap_alloc_new _ _)
          have b3 : Hid (Below w3.heap.size w3 W3) := Lib.hid (by rw [hW]; exact (Below.refl _ _).alloc (Nat.le_refl _) _)
          rw [← hW, ← hX]
          clear hW hX
          have P0 : Hid (W3.heap[X0]? = _) := Lib.hid ((b3.out.block _ (lt_of_block P0.out)).trans P0.out)
          have P1 : Hid (W3.heap[X1]? = _) := Lib.hid ((b3.out.block _ (lt_of_block P1.out)).trans P1.out)
          have B : Hid (Below w.heap.size w W3) := Lib.hid (B.out.trans (b3.out.mono B.out.size))
          clear b3
          obtain ⟨⟨c00, c01, c02, c03⟩, -⟩ := obj4 P1.out
          go_upto_region 11 with fail
          clear c00 c01 c02 c03
          obtain ⟨⟨c00, c01, c02, c03⟩, -⟩ := obj4 P2.out
          obtain ⟨⟨c10, c11, c12, c13⟩, -⟩ := obj4 P1.out
          go_wp2_with fail
          (with_reducible refine (BO.out _).mono ?_); rintro x w4 ⟨rfl, b4⟩
          clear c00 c01 c02 c03 c10 c11 c12 c13
          have P0 : Hid (w4.heap[X0]? = _) := Lib.hid ((b4.out.block _ (lt_of_block P0.out)).trans P0.out)
          have P1 : Hid (w4.heap[X1]? = _) := Lib.hid ((b4.out.block _ (lt_of_block P1.out)).trans P1.out)
          have P2 : Hid (w4.heap[X2]? = _) := Lib.hid ((b4.out.block _ (lt_of_block P2.out)).trans P2.out)
          have B : Hid (Below w.heap.size w w4) := Lib.hid (B.out.trans (b4.out.mono B.out.size))
          clear b4
          go_upto_region 12 with fail
          obtain ⟨W4, hW⟩ : ∃ W, W = w4.alloc (.cells #[.int .i64 (e + 1), .int .i64 who, .bool false, .int .i64 b] 26) := ⟨_, rfl⟩
          obtain ⟨X3, hX⟩ : ∃ X, X = w4.heap.size := ⟨_, rfl⟩
          have P3 : Hid (W4.heap[X3]? = some (.cells #[.int .i64 (e + 1), .int .i64 who, .bool false, .int .i64 b] 26 (0, 0))) := Lib.hid (by rw [hW, hX]; exact heap_alloc_new _ _)
          have b4 : Hid (Below w4.heap.size w4 W4) := Lib.hid (by rw [hW]; exact (Below.refl _ _).alloc (Nat.le_refl _) _)
          rw [← hW, ← hX]
          clear hW hX
          have P0 : Hid (W4.heap[X0]? = _) := Lib.hid ((b4.out.block _ (lt_of_block P0.out)).trans P0.out)
          have P1 : Hid (W4.heap[X1]? = _) := Lib.hid ((b4.out.block _ (lt_of_block P1.out)).trans P1.out)
          have P2 : Hid (W4.heap[X2]? = _) := Lib.hid ((b4.out.block _ (lt_of_block P2.out)).trans P2.out)
          have B : Hid (Below w.heap.size w W4) := Lib.hid (B.out.trans (b4.out.mono B.out.size))
          clear b4
          obtain ⟨⟨c0, c1, c2, c3⟩, -⟩ := obj4 P2.out
          go_wp2_with fail
          (with_reducible refine (LN.out _).mono ?_); rintro x w5 ⟨rfl, b5⟩
          clear c0 c1 c2 c3
          have P0 : Hid (w5.heap[X0]? = _) := Lib.hid ((b5.out.block _ (lt_of_block P0.out)).trans P0.out)
          have P1 : Hid (w5.heap[X1]? = _) := Lib.hid ((b5.out.block _ (lt_of_block P1.out)).trans P1.out)
          have P2 : Hid (w5.heap[X2]? = _) := Lib.hid ((b5.out.block _ (lt_of_block P2.out)).trans P2.out)
          have P3 : Hid (w5.heap[X3]? = _) := Lib.hid ((b5.out.block _ (lt_of_block P3.out)).trans P3.out)
          have B : Hid (Below w.heap.size w w5) := Lib.hid (B.out.trans (b5.out.mono B.out.size))
          clear b5
          go_upto_region 13 with fail
          obtain ⟨W5, hW⟩ : ∃ W, W = w5.alloc (.cells #[.int .i64 0, .int .i64 0, .bool false, .int .i64 0] 26) := ⟨_, rfl⟩
          obtain ⟨X4, hX⟩ : ∃ X, X = w5.heap.size := ⟨_, rfl⟩
          have P4 : Hid (W5.heap[X4]? = some (.cells #[.int .i64 0, .int .i64 0, .bool false, .int .i64 0] 26 (0, 0))) := Lib.hid (by rw [hW, hX]; exact heap_alloc_new _ _)
          have b5 : Hid (Below w5.heap.size w5 W5) := Lib.hid (by rw [hW]; exact (Below.refl _ _).alloc (Nat.le_refl _) _)
          rw [← hW, ← hX]
          clear hW hX
          have P0 : Hid (W5.heap[X0]? = _) := Lib.hid ((b5.out.block _ (lt_of_block P0.out)).trans P0.out)
          have P1 : Hid (W5.heap[X1]? = _) := Lib.hid ((b5.out.block _ (lt_of_block P1.out)).trans P1.out)
          have P2 : Hid (W5.heap[X2]? = _) := Lib.hid ((b5.out.block _ (lt_of_block P2.out)).trans P2.out)
          have P3 : Hid (W5.heap[X3]? = _) := Lib.hid ((b5.out.block _ (lt_of_block P3.out)).trans P3.out)
          have B : Hid (Below w.heap.size w W5) := Lib.hid (B.out.trans (b5.out.mono B.out.size))
          clear b5
          obtain ⟨⟨c00, c01, c02, c03⟩, -⟩ := obj4 P3.out
          obtain ⟨⟨c10, c11, c12, c13⟩, -⟩ := obj4 P4.out
          obtain ⟨⟨c20, c21, c22, c23⟩, -⟩ := obj4 P0.out
          go_wp2
          go_ret
          exact ⟨by simp <;> omega, B.out⟩
        · have BO : Hid (∀ W, Calls Try.prog 14 #[.agg #[.int .i64 (e + 1), .int .i64 who, .bool true, .int .i64 a], .int .i64 who, .int .i64 (e + 1), .int .i64 b] W (TwoB W 0 0 false 0 false)) := Lib.hid fun W => by
            have hk : Ar.okT ⟨e + 1, who, true, a⟩ false who (e + 1) b = false := by simp [Ar.okT, hn, hab]
            have := both_any (e + 1) who true a who (e + 1) b W
            rw [turn_false hk, hk] at this
            exact this
          go_enter Try.func6, Try.ntmps6
          go_upto_region 1 with fail
          obtain ⟨W0, hW0⟩ : ∃ W0, W0 = w.alloc (.cells #[.int .i64 e, .int .i64 h, .bool false, .int .i64 f] 26) := ⟨_, rfl⟩
          obtain ⟨X0, hX0⟩ : ∃ X0, X0 = w.heap.size := ⟨_, rfl⟩
          have P0 : Hid (W0.heap[X0]? = some (.cells #[.int .i64 e, .int .i64 h, .bool false, .int .i64 f] 26 (0, 0))) := Lib.hid (by rw [hW0, hX0]; exact heap_alloc_new _ _)
          have B : Hid (Below w.heap.size w W0) := Lib.hid (by rw [hW0]; exact (Below.refl _ _).alloc (Nat.le_refl _) _)
          rw [← hW0, ← hX0]
          clear hW0 hX0
          go_wp2_with fail
          (with_reducible refine (awake_any _).mono ?_); rintro x w1 ⟨rfl, b1⟩
          have P0 : Hid (w1.heap[X0]? = _) := Lib.hid ((b1.out.block _ (lt_of_block P0.out)).trans P0.out)
          have B : Hid (Below w.heap.size w w1) := Lib.hid (B.out.trans (b1.out.mono B.out.size))
          clear b1
          obtain ⟨⟨c0, c1, c2, c3⟩, -⟩ := obj4 P0.out
          go_wp2_with fail
          (with_reducible refine (LD.out _).mono ?_); rintro x w2 ⟨rfl, b2⟩
          clear c0 c1 c2 c3
          have P0 : Hid (w2.heap[X0]? = _) := Lib.hid ((b2.out.block _ (lt_of_block P0.out)).trans P0.out)
          have B : Hid (Below w.heap.size w w2) := Lib.hid (B.out.trans (b2.out.mono B.out.size))
          clear b2
          go_upto_region 4 with fail
          obtain ⟨W2, hW⟩ : ∃ W, W = w2.alloc (.cells #[.int .i64 (e + 1), .int .i64 who, .bool false, .int .i64 f] 26) := ⟨_, rfl⟩
          obtain ⟨X1, hX⟩ : ∃ X, X = w2.heap.size := ⟨_, rfl⟩
          have P1 : Hid (W2.heap[X1]? = some (.cells #[.int .i64 (e + 1), .int .i64 who, .bool false, .int .i64 f] 26 (0, 0))) := Lib.hid (by rw [hW, hX]; exact heap_alloc_new _ _)
          have b2 : Hid (Below w2.heap.size w2 W2) := Lib.hid (by rw [hW]; exact (Below.refl _ _).alloc (Nat.le_refl _) _)
          rw [← hW, ← hX]
          clear hW hX
          have P0 : Hid (W2.heap[X0]? = _) := Lib.hid ((b2.out.block _ (lt_of_block P0.out)).trans P0.out)
          have B : Hid (Below w.heap.size w W2) := Lib.hid (B.out.trans (b2.out.mono B.out.size))
          clear b2
          obtain ⟨⟨c0, c1, c2, c3⟩, -⟩ := obj4 P1.out
          go_wp2_with fail
          (with_reducible refine (AL.out _).mono ?_); rintro x w3 ⟨rfl, b3⟩
          clear c0 c1 c2 c3
          have P0 : Hid (w3.heap[X0]? = _) := Lib.hid ((b3.out.block _ (lt_of_block P0.out)).trans P0.out)
          have P1 : Hid (w3.heap[X1]? = _) := Lib.hid ((b3.out.block _ (lt_of_block P1.out)).trans P1.out)
          have B : Hid (Below w.heap.size w w3) := Lib.hid (B.out.trans (b3.out.mono B.out.size))
          clear b3
          go_upto_region 7 with fail
          obtain ⟨W3, hW⟩ : ∃ W, W = w3.alloc (.cells #[.int .i64 (e + 1), .int .i64 who, .bool true, .int .i64 a] 26) := ⟨_, rfl⟩
          obtain ⟨X2, hX⟩ : ∃ X, X = w3.heap.size := ⟨_, rfl⟩
          have P2 : Hid (W3.heap[X2]? = some (.cells #[.int .i64 (e + 1), .int .i64 who, .bool true, .int .i64 a] 26 (0, 0))) := Lib.hid (by rw [hW, hX]; exact heap_alloc_new _ _)
          have b3 : Hid (Below w3.heap.size w3 W3) := Lib.hid (by rw [hW]; exact (Below.refl _ _).alloc (Nat.le_refl _) _)
          rw [← hW, ← hX]
          clear hW hX
          have P0 : Hid (W3.heap[X0]? = _) := Lib.hid ((b3.out.block _ (lt_of_block P0.out)).trans P0.out)
          have P1 : Hid (W3.heap[X1]? = _) := Lib.hid ((b3.out.block _ (lt_of_block P1.out)).trans P1.out)
          have B : Hid (Below w.heap.size w W3) := Lib.hid (B.out.trans (b3.out.mono B.out.size))
          clear b3
          obtain ⟨⟨c00, c01, c02, c03⟩, -⟩ := obj4 P1.out
          go_upto_region 11 with fail
          clear c00 c01 c02 c03
          obtain ⟨⟨c00, c01, c02, c03⟩, -⟩ := obj4 P2.out
          obtain ⟨⟨c10, c11, c12, c13⟩, -⟩ := obj4 P1.out
          go_wp2_with fail
          (with_reducible refine (BO.out _).mono ?_); rintro x w4 ⟨rfl, b4⟩
          clear c00 c01 c02 c03 c10 c11 c12 c13
          have P0 : Hid (w4.heap[X0]? = _) := Lib.hid ((b4.out.block _ (lt_of_block P0.out)).trans P0.out)
          have P1 : Hid (w4.heap[X1]? = _) := Lib.hid ((b4.out.block _ (lt_of_block P1.out)).trans P1.out)
          have P2 : Hid (w4.heap[X2]? = _) := Lib.hid ((b4.out.block _ (lt_of_block P2.out)).trans P2.out)
          have B : Hid (Below w.heap.size w w4) := Lib.hid (B.out.trans (b4.out.mono B.out.size))
          clear b4
          go_upto_region 12 with fail
          obtain ⟨W4, hW⟩ : ∃ W, W = w4.alloc (.cells #[.int .i64 0, .int .i64 0, .bool false, .int .i64 0] 26) := ⟨_, rfl⟩
          obtain ⟨X3, hX⟩ : ∃ X, X = w4.heap.size := ⟨_, rfl⟩
          have P3 : Hid (W4.heap[X3]? = some (.cells #[.int .i64 0, .int .i64 0, .bool false, .int .i64 0] 26 (0, 0))) := Lib.hid (by rw [hW, hX]; exact heap_alloc_new _ _)
          have b4 : Hid (Below w4.heap.size w4 W4) := Lib.hid (by rw [hW]; exact (Below.refl _ _).alloc (Nat.le_refl _) _)
          rw [← hW, ← hX]
          clear hW hX
          have P0 : Hid (W4.heap[X0]? = _) := Lib.hid ((b4.out.block _ (lt_of_block P0.out)).trans P0.out)
          have P1 : Hid (W4.heap[X1]? = _) := Lib.hid ((b4.out.block _ (lt_of_block P1.out)).trans P1.out)
          have P2 : Hid (W4.heap[X2]? = _) := Lib.hid ((b4.out.block _ (lt_of_block P2.out)).trans P2.out)
          have B : Hid (Below w.heap.size w W4) := Lib.hid (B.out.trans (b4.out.mono B.out.size))
          clear b4
          obtain ⟨⟨c0, c1, c2, c3⟩, -⟩ := obj4 P2.out
          go_wp2_with fail
          (with_reducible refine (LN.out _).mono ?_); rintro x w5 ⟨rfl, b5⟩
          clear c0 c1 c2 c3
          have P0 : Hid (w5.heap[X0]? = _) := Lib.hid ((b5.out.block _ (lt_of_block P0.out)).trans P0.out)
          have P1 : Hid (w5.heap[X1]? = _) := Lib.hid ((b5.out.block _ (lt_of_block P1.out)).trans P1.out)
          have P2 : Hid (w5.heap[X2]? = _) := Lib.hid ((b5.out.block _ (lt_of_block P2.out)).trans P2.out)
          have P3 : Hid (w5.heap[X3]? = _) := Lib.hid ((b5.out.block _ (lt_of_block P3.out)).trans P3.out)
          have B : Hid (Below w.heap.size w w5) := Lib.hid (B.out.trans (b5.out.mono B.out.size))
          clear b5
          go_upto_region 13 with fail
          obtain ⟨W5, hW⟩ : ∃ W, W = w5.alloc (.cells #[.int .i64 0, .int .i64 0, .bool false, .int .i64 0] 26) := ⟨_, rfl⟩
          obtain ⟨X4, hX⟩ : ∃ X, X = w5.heap.size := ⟨_, rfl⟩
          have P4 : Hid (W5.heap[X4]? = some (.cells #[.int .i64 0, .int .i64 0, .bool false, .int .i64 0] 26 (0, 0))) := Lib.hid (by rw [hW, hX]; exact heap_alloc_new _ _)
          have b5 : Hid (Below w5.heap.size w5 W5) := Lib.hid (by rw [hW]; exact (Below.refl _ _).alloc (Nat.le_refl _) _)
          rw [← hW, ← hX]
          clear hW hX
          have P0 : Hid (W5.heap[X0]? = _) := Lib.hid ((b5.out.block _ (lt_of_block P0.out)).trans P0.out)
          have P1 : Hid (W5.heap[X1]? = _) := Lib.hid ((b5.out.block _ (lt_of_block P1.out)).trans P1.out)
          have P2 : Hid (W5.heap[X2]? = _) := Lib.hid ((b5.out.block _ (lt_of_block P2.out)).trans P2.out)
          have P3 : Hid (W5.heap[X3]? = _) := Lib.hid ((b5.out.block _ (lt_of_block P3.out)).trans P3.out)
          have B : Hid (Below w.heap.size w W5) := Lib.hid (B.out.trans (b5.out.mono B.out.size))
          clear b5
          obtain ⟨⟨c00, c01, c02, c03⟩, -⟩ := obj4 P3.out
          obtain ⟨⟨c10, c11, c12, c13⟩, -⟩ := obj4 P4.out
          obtain ⟨⟨c20, c21, c22, c23⟩, -⟩ := obj4 P0.out
          go_wp2
          go_ret
          exact ⟨by simp <;> omega, B.out⟩
      · have AL : Hid (∀ W, Calls Try.prog 13 #[.agg #[.int .i64 (e + 1), .int .i64 who, .bool false, .int .i64 f], .int .i64 who, .int .i64 (e + 1), .int .i64 a] W (TwoB W 0 0 false 0 false)) := Lib.hid fun W => by
          have hk : Ar.okT ⟨e + 1, who, false, f⟩ true who (e + 1) a = false := by simp [Ar.okT, hfa]
          have := alone_any (e + 1) who false f who (e + 1) a W
          rw [turn_false hk, hk] at this
          exact this
        go_enter Try.func6, Try.ntmps6
        go_upto_region 1 with fail
        obtain ⟨W0, hW0⟩ : ∃ W0, W0 = w.alloc (.cells #[.int .i64 e, .int .i64 h, .bool false, .int .i64 f] 26) := ⟨_, rfl⟩
        obtain ⟨X0, hX0⟩ : ∃ X0, X0 = w.heap.size := ⟨_, rfl⟩
        have P0 : Hid (W0.heap[X0]? = some (.cells #[.int .i64 e, .int .i64 h, .bool false, .int .i64 f] 26 (0, 0))) := Lib.hid (by rw [hW0, hX0]; exact heap_alloc_new _ _)
        have B : Hid (Below w.heap.size w W0) := Lib.hid (by rw [hW0]; exact (Below.refl _ _).alloc (Nat.le_refl _) _)
        rw [← hW0, ← hX0]
        clear hW0 hX0
        go_wp2_with fail
        (with_reducible refine (awake_any _).mono ?_); rintro x w1 ⟨rfl, b1⟩
        have P0 : Hid (w1.heap[X0]? = _) := Lib.hid ((b1.out.block _ (lt_of_block P0.out)).trans P0.out)
        have B : Hid (Below w.heap.size w w1) := Lib.hid (B.out.trans (b1.out.mono B.out.size))
        clear b1
        obtain ⟨⟨c0, c1, c2, c3⟩, -⟩ := obj4 P0.out
        go_wp2_with fail
        (with_reducible refine (LD.out _).mono ?_); rintro x w2 ⟨rfl, b2⟩
        clear c0 c1 c2 c3
        have P0 : Hid (w2.heap[X0]? = _) := Lib.hid ((b2.out.block _ (lt_of_block P0.out)).trans P0.out)
        have B : Hid (Below w.heap.size w w2) := Lib.hid (B.out.trans (b2.out.mono B.out.size))
        clear b2
        go_upto_region 4 with fail
        obtain ⟨W2, hW⟩ : ∃ W, W = w2.alloc (.cells #[.int .i64 (e + 1), .int .i64 who, .bool false, .int .i64 f] 26) := ⟨_, rfl⟩
        obtain ⟨X1, hX⟩ : ∃ X, X = w2.heap.size := ⟨_, rfl⟩
        have P1 : Hid (W2.heap[X1]? = some (.cells #[.int .i64 (e + 1), .int .i64 who, .bool false, .int .i64 f] 26 (0, 0))) := Lib.hid (by rw [hW, hX]; exact heap_alloc_new _ _)
        have b2 : Hid (Below w2.heap.size w2 W2) := Lib.hid (by rw [hW]; exact (Below.refl _ _).alloc (Nat.le_refl _) _)
        rw [← hW, ← hX]
        clear hW hX
        have P0 : Hid (W2.heap[X0]? = _) := Lib.hid ((b2.out.block _ (lt_of_block P0.out)).trans P0.out)
        have B : Hid (Below w.heap.size w W2) := Lib.hid (B.out.trans (b2.out.mono B.out.size))
        clear b2
        obtain ⟨⟨c0, c1, c2, c3⟩, -⟩ := obj4 P1.out
        go_wp2_with fail
        (with_reducible refine (AL.out _).mono ?_); rintro x w3 ⟨rfl, b3⟩
        clear c0 c1 c2 c3
        have P0 : Hid (w3.heap[X0]? = _) := Lib.hid ((b3.out.block _ (lt_of_block P0.out)).trans P0.out)
        have P1 : Hid (w3.heap[X1]? = _) := Lib.hid ((b3.out.block _ (lt_of_block P1.out)).trans P1.out)
        have B : Hid (Below w.heap.size w w3) := Lib.hid (B.out.trans (b3.out.mono B.out.size))
        clear b3
        go_upto_region 7 with fail
        obtain ⟨W3, hW⟩ : ∃ W, W = w3.alloc (.cells #[.int .i64 0, .int .i64 0, .bool false, .int .i64 0] 26) := ⟨_, rfl⟩
        obtain ⟨X2, hX⟩ : ∃ X, X = w3.heap.size := ⟨_, rfl⟩
        have P2 : Hid (W3.heap[X2]? = some (.cells #[.int .i64 0, .int .i64 0, .bool false, .int .i64 0] 26 (0, 0))) := Lib.hid (by rw [hW, hX]; exact heap_alloc_new _ _)
        have b3 : Hid (Below w3.heap.size w3 W3) := Lib.hid (by rw [hW]; exact (Below.refl _ _).alloc (Nat.le_refl _) _)
        rw [← hW, ← hX]
        clear hW hX
        have P0 : Hid (W3.heap[X0]? = _) := Lib.hid ((b3.out.block _ (lt_of_block P0.out)).trans P0.out)
        have P1 : Hid (W3.heap[X1]? = _) := Lib.hid ((b3.out.block _ (lt_of_block P1.out)).trans P1.out)
        have B : Hid (Below w.heap.size w W3) := Lib.hid (B.out.trans (b3.out.mono B.out.size))
        clear b3
        obtain ⟨⟨c00, c01, c02, c03⟩, -⟩ := obj4 P1.out
        obtain ⟨⟨c10, c11, c12, c13⟩, -⟩ := obj4 P2.out
        go_wp2
        go_ret
        exact ⟨by simp <;> omega, B.out⟩
    · go_enter Try.func6, Try.ntmps6
      go_upto_region 1 with fail
      obtain ⟨W0, hW0⟩ : ∃ W0, W0 = w.alloc (.cells #[.int .i64 e, .int .i64 h, .bool true, .int .i64 f] 26) := ⟨_, rfl⟩
      obtain ⟨X0, hX0⟩ : ∃ X0, X0 = w.heap.size := ⟨_, rfl⟩
      have P0 : Hid (W0.heap[X0]? = some (.cells #[.int .i64 e, .int .i64 h, .bool true, .int .i64 f] 26 (0, 0))) := Lib.hid (by rw [hW0, hX0]; exact heap_alloc_new _ _)
      have B : Hid (Below w.heap.size w W0) := Lib.hid (by rw [hW0]; exact (Below.refl _ _).alloc (Nat.le_refl _) _)
      rw [← hW0, ← hX0]
      clear hW0 hX0
      go_wp2_with fail
      (with_reducible refine (awake_any _).mono ?_); rintro x w1 ⟨rfl, b1⟩
      have P0 : Hid (w1.heap[X0]? = _) := Lib.hid ((b1.out.block _ (lt_of_block P0.out)).trans P0.out)
      have B : Hid (Below w.heap.size w w1) := Lib.hid (B.out.trans (b1.out.mono B.out.size))
      clear b1
      obtain ⟨⟨c0, c1, c2, c3⟩, -⟩ := obj4 P0.out
      go_wp2_with fail
      (with_reducible refine (LD.out _).mono ?_); rintro x w2 ⟨rfl, b2⟩
      clear c0 c1 c2 c3
      have P0 : Hid (w2.heap[X0]? = _) := Lib.hid ((b2.out.block _ (lt_of_block P0.out)).trans P0.out)
      have B : Hid (Below w.heap.size w w2) := Lib.hid (B.out.trans (b2.out.mono B.out.size))
      clear b2
      go_upto_region 4 with fail
      obtain ⟨W2, hW⟩ : ∃ W, W = w2.alloc (.cells #[.int .i64 (e + 1), .int .i64 who, .bool true, .int .i64 f] 26) := ⟨_, rfl⟩
      obtain ⟨X1, hX⟩ : ∃ X, X = w2.heap.size := ⟨_, rfl⟩
      have P1 : Hid (W2.heap[X1]? = some (.cells #[.int .i64 (e + 1), .int .i64 who, .bool true, .int .i64 f] 26 (0, 0))) := Lib.hid (by rw [hW, hX]; exact heap_alloc_new _ _)
      have b2 : Hid (Below w2.heap.size w2 W2) := Lib.hid (by rw [hW]; exact (Below.refl _ _).alloc (Nat.le_refl _) _)
      rw [← hW, ← hX]
      clear hW hX
      have P0 : Hid (W2.heap[X0]? = _) := Lib.hid ((b2.out.block _ (lt_of_block P0.out)).trans P0.out)
      have B : Hid (Below w.heap.size w W2) := Lib.hid (B.out.trans (b2.out.mono B.out.size))
      clear b2
      obtain ⟨⟨c00, c01, c02, c03⟩, -⟩ := obj4 P1.out
      go_wp2
      go_ret
      exact ⟨rfl, B.out⟩
  · have hk : Ar.okL ⟨e, h, so, f⟩ who = false := by simpa using hk
    have LD : Hid (∀ W, Calls Try.prog 10 #[.agg #[.int .i64 e, .int .i64 h, .bool so, .int .i64 f], .int .i64 who] W (TwoB W 0 0 false 0 false)) := Lib.hid fun W => by have := LDA.out W; rw [lead_false hk, hk] at this; exact this
    clear LDA hk
    go_enter Try.func6, Try.ntmps6
    go_upto_region 1 with fail
    obtain ⟨W0, hW0⟩ : ∃ W0, W0 = w.alloc (.cells #[.int .i64 e, .int .i64 h, .bool so, .int .i64 f] 26) := ⟨_, rfl⟩
    obtain ⟨X0, hX0⟩ : ∃ X0, X0 = w.heap.size := ⟨_, rfl⟩
    have P0 : Hid (W0.heap[X0]? = some (.cells #[.int .i64 e, .int .i64 h, .bool so, .int .i64 f] 26 (0, 0))) := Lib.hid (by rw [hW0, hX0]; exact heap_alloc_new _ _)
    have B : Hid (Below w.heap.size w W0) := Lib.hid (by rw [hW0]; exact (Below.refl _ _).alloc (Nat.le_refl _) _)
    rw [← hW0, ← hX0]
    clear hW0 hX0
    go_wp2_with fail
    (with_reducible refine (awake_any _).mono ?_); rintro x w1 ⟨rfl, b1⟩
    have P0 : Hid (w1.heap[X0]? = _) := Lib.hid ((b1.out.block _ (lt_of_block P0.out)).trans P0.out)
    have B : Hid (Below w.heap.size w w1) := Lib.hid (B.out.trans (b1.out.mono B.out.size))
    clear b1
    obtain ⟨⟨c0, c1, c2, c3⟩, -⟩ := obj4 P0.out
    go_wp2_with fail
    (with_reducible refine (LD.out _).mono ?_); rintro x w2 ⟨rfl, b2⟩
    clear c0 c1 c2 c3
    have P0 : Hid (w2.heap[X0]? = _) := Lib.hid ((b2.out.block _ (lt_of_block P0.out)).trans P0.out)
    have B : Hid (Below w.heap.size w w2) := Lib.hid (B.out.trans (b2.out.mono B.out.size))
    clear b2
    go_upto_region 4 with fail
    obtain ⟨W2, hW⟩ : ∃ W, W = w2.alloc (.cells #[.int .i64 0, .int .i64 0, .bool false, .int .i64 0] 26) := ⟨_, rfl⟩
    obtain ⟨X1, hX⟩ : ∃ X, X = w2.heap.size := ⟨_, rfl⟩
    have P1 : Hid (W2.heap[X1]? = some (.cells #[.int .i64 0, .int .i64 0, .bool false, .int .i64 0] 26 (0, 0))) := Lib.hid (by rw [hW, hX]; exact heap_alloc_new _ _)
    have b2 : Hid (Below w2.heap.size w2 W2) := Lib.hid (by rw [hW]; exact (Below.refl _ _).alloc (Nat.le_refl _) _)
    rw [← hW, ← hX]
    clear hW hX
    have P0 : Hid (W2.heap[X0]? = _) := Lib.hid ((b2.out.block _ (lt_of_block P0.out)).trans P0.out)
    have B : Hid (Below w.heap.size w W2) := Lib.hid (B.out.trans (b2.out.mono B.out.size))
    clear b2
    obtain ⟨⟨c00, c01, c02, c03⟩, -⟩ := obj4 P1.out
    go_wp2
    go_ret
    exact ⟨rfl, B.out⟩
end Go.Proofs.Ytjagkolagmlakaa
