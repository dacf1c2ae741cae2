/-
  The law ArbKnown: what chapter 9 says of who may.
-/
import Derived.Test.YtjagkolagmlakaaArbFirst
namespace Go.Proofs.Ytjagkolagmlakaa
open Go.RowKit
theorem first_two : Ar.eqS Ar.first Ar.first = true := by decide
set_option maxHeartbeats 16000000 in
set_option maxRecDepth 40000 in
theorem known_walk (w : World) : Calls Try.prog 3 #[] w fun x w' => x = .returned (.bool true) ∧ Below w.heap.size w w' := by
  have SG := st_guard
  have L4 : Hid (∀ W, Calls Try.prog 10 #[.agg #[.int .i64 0, .int .i64 (-1), .bool false, .int .i64 0], .int .i64 0] W (TwoB W 1 0 false 0 true)) := Lib.hid fun W => lead_any 0 (-1) false 0 0 W
  have C6 : Hid (∀ W, Calls Try.prog 13 #[.agg #[.int .i64 1, .int .i64 0, .bool false, .int .i64 0], .int .i64 1, .int .i64 1, .int .i64 0] W (TwoB W 0 0 false 0 false)) := Lib.hid fun W => alone_any 1 0 false 0 1 1 0 W
  have C7 : Hid (∀ W, Calls Try.prog 13 #[.agg #[.int .i64 1, .int .i64 0, .bool false, .int .i64 0], .int .i64 0, .int .i64 2, .int .i64 0] W (TwoB W 0 0 false 0 false)) := Lib.hid fun W => alone_any 1 0 false 0 0 2 0 W
  have C8 : Hid (∀ W, Calls Try.prog 13 #[.agg #[.int .i64 1, .int .i64 0, .bool false, .int .i64 0], .int .i64 0, .int .i64 1, .int .i64 (-1)] W (TwoB W 0 0 false 0 false)) := Lib.hid fun W => alone_any 1 0 false 0 0 1 (-1) W
  have C9 : Hid (∀ W, Calls Try.prog 13 #[.agg #[.int .i64 1, .int .i64 0, .bool false, .int .i64 0], .int .i64 0, .int .i64 1, .int .i64 5] W (TwoB W 1 0 true 5 true)) := Lib.hid fun W => alone_any 1 0 false 0 0 1 5 W
  have C10 : Hid (∀ W, Calls Try.prog 13 #[.agg #[.int .i64 1, .int .i64 0, .bool true, .int .i64 5], .int .i64 0, .int .i64 1, .int .i64 5] W (TwoB W 0 0 false 0 false)) := Lib.hid fun W => alone_any 1 0 true 5 0 1 5 W
  have C11 : Hid (∀ W, Calls Try.prog 10 #[.agg #[.int .i64 1, .int .i64 0, .bool true, .int .i64 5], .int .i64 1] W (TwoB W 0 0 false 0 false)) := Lib.hid fun W => lead_any 1 0 true 5 1 W
  have C12 : Hid (∀ W, Calls Try.prog 10 #[.agg #[.int .i64 1, .int .i64 0, .bool true, .int .i64 5], .int .i64 0] W (TwoB W 2 0 true 5 true)) := Lib.hid fun W => lead_any 1 0 true 5 0 W
  have C13 : Hid (∀ W, Calls Try.prog 14 #[.agg #[.int .i64 1, .int .i64 0, .bool true, .int .i64 5], .int .i64 0, .int .i64 1, .int .i64 7] W (TwoB W 1 0 false 7 true)) := Lib.hid fun W => both_any 1 0 true 5 0 1 7 W
  have C14 : Hid (∀ W, Calls Try.prog 14 #[.agg #[.int .i64 1, .int .i64 0, .bool false, .int .i64 0], .int .i64 0, .int .i64 1, .int .i64 7] W (TwoB W 0 0 false 0 false)) := Lib.hid fun W => both_any 1 0 false 0 0 1 7 W
  have C15 : Hid (∀ W, Calls Try.prog 14 #[.agg #[.int .i64 1, .int .i64 0, .bool true, .int .i64 5], .int .i64 0, .int .i64 1, .int .i64 4] W (TwoB W 0 0 false 0 false)) := Lib.hid fun W => both_any 1 0 true 5 0 1 4 W
  have C16 : Hid (∀ W, Calls Try.prog 10 #[.agg #[.int .i64 1048575, .int .i64 0, .bool false, .int .i64 0], .int .i64 0] W (TwoB W 0 0 false 0 false)) := Lib.hid fun W => lead_any 1048575 0 false 0 0 W
  have C17 : Hid (∀ W, Calls Try.prog 10 #[.agg #[.int .i64 1, .int .i64 0, .bool false, .int .i64 0], .int .i64 2] W (TwoB W 0 0 false 0 false)) := Lib.hid fun W => lead_any 1 0 false 0 2 W
  have C18 : Hid (∀ W, Calls Try.prog 13 #[.agg #[.int .i64 0, .int .i64 (-1), .bool false, .int .i64 0], .int .i64 (-1), .int .i64 0, .int .i64 0] W (TwoB W 0 0 false 0 false)) := Lib.hid fun W => alone_any 0 (-1) false 0 (-1) 0 0 W
  go_enter Try.func3, Try.ntmps3
  go_wp2_with fail
  (with_reducible refine (awake_any _).mono ?_); rintro x w0 ⟨rfl, b0⟩
  go_wp2_with fail
  (with_reducible refine (new_any _).mono ?_); rintro x w1 ⟨g, rfl, h1, b1⟩
  have B : Hid (Below w.heap.size w w1) := Lib.hid (b0.out.trans (b1.out.mono b0.out.size))
  obtain ⟨O, HO⟩ : ∃ O : Nat → Prop, O = fun k => w0.heap.size ≤ k ∧ k < w1.heap.size := ⟨_, rfl⟩
  have HB : Hid (∀ k, O k → w.heap.size ≤ k) := Lib.hid fun k hk => by rw [HO] at hk; exact Nat.le_trans b0.out.size hk.1
  rw [← HO] at h1
  clear HO b0 b1
  have GT := Lib.hid (get_at h1.out Ar.first rfl (by decide))
  go_wp2_with fail
  (with_reducible refine (GT.out _ (Below.refl _ _)).mono ?_); rintro x w2 ⟨rfl, b2⟩
  have H : Hid (AR w2 g O [Ar.first]) := Lib.hid (h1.out.grew b2.out)
  have B : Hid (Below w.heap.size w w2) := Lib.hid (B.out.trans (b2.out.mono B.out.size))
  clear b2 h1 GT
  simp only [Ar.first]
  go_wp2_with fail
  (with_reducible refine (L4.out _).mono ?_); rintro x w3 ⟨rfl, b3⟩
  have H : Hid (AR w3 g O [Ar.first]) := Lib.hid (H.out.grew b3.out)
  have B : Hid (Below w.heap.size w w3) := Lib.hid (B.out.trans (b3.out.mono B.out.size))
  clear b3 L4
  go_upto_region 5 with fail
  obtain ⟨W4, hW⟩ : ∃ W, W = w3.alloc (.cells #[.int .i64 1, .int .i64 0, .bool false, .int .i64 0] 26) := ⟨_, rfl⟩
  obtain ⟨Xs, hX⟩ : ∃ X, X = w3.heap.size := ⟨_, rfl⟩
  have Ps : Hid (W4.heap[Xs]? = some (.cells #[.int .i64 1, .int .i64 0, .bool false, .int .i64 0] 26 (0, 0))) := Lib.hid (by rw [hW, hX]; exact heap_alloc_new _ _)
  have b4 : Hid (Below w3.heap.size w3 W4) := Lib.hid (by rw [hW]; exact (Below.refl _ _).alloc (Nat.le_refl _) _)
  have NX : Hid (¬ O Xs) := Lib.hid fun h => by have := H.out.lt _ h; omega
  rw [← hW, ← hX]
  clear hW hX
  have H : Hid (AR W4 g O [Ar.first]) := Lib.hid (H.out.grew b4.out)
  have B : Hid (Below w.heap.size w W4) := Lib.hid (B.out.trans (b4.out.mono B.out.size))
  clear b4
  have SK : Hid (∀ w' : World, Only O W4 w' → w'.cell? ⟨Xs, 0, none⟩ = some (.int .i64 1) ∧ w'.cell? ⟨Xs, 1, none⟩ = some (.int .i64 0) ∧ w'.cell? ⟨Xs, 2, none⟩ = some (.bool false) ∧ w'.cell? ⟨Xs, 3, none⟩ = some (.int .i64 0)) := Lib.hid fun w' hb => (obj4 ((hb.block _ (lt_of_block Ps.out) NX.out).trans Ps.out)).1
  have SB := Lib.hid (SK.out W4.drew (Only.of (Below.refl _ _).drew))
  have GT := Lib.hid (get_at H.out Ar.first rfl (by decide))
  have SW1 := Lib.hid (hit_at H.out Ar.first Ar.first rfl first_two (by decide) 1 0 false 0)
  simp only [Ar.first] at GT SW1
  go_region_held3 (fun w' => w'.cell? ⟨Xs, 0, none⟩ = some (.int .i64 1) ∧ w'.cell? ⟨Xs, 1, none⟩ = some (.int .i64 0) ∧ w'.cell? ⟨Xs, 2, none⟩ = some (.bool false) ∧ w'.cell? ⟨Xs, 3, none⟩ = some (.int .i64 0)) ((first | exact SB.out | exact S7.out | exact S6.out | exact S5.out | go_keep))
    (first
      | (go_simp; go_at_call 12; (with_reducible refine (SW2.out _ (Below.refl _ _)).mono ?_); rintro x w7 ⟨rfl, O7, h7, s7⟩; have K7 : Hid (Step O O7 W4 w7) := Lib.hid (K6.out.trans s7.out); have S7 := Lib.hid (SK.out _ K7.out.only))
      | (go_simp; go_at_call 12; (with_reducible refine (SW1.out _ B5.out).mono ?_); rintro x w6 ⟨rfl, O6, h6, s6⟩; have K6 : Hid (Step O O6 W4 w6) := Lib.hid (Step.ahead B5.out s6.out); have S6 := Lib.hid (SK.out _ K6.out.only); have SW2 : Hid (∀ W, Below w6.heap.size w6 W → Calls Try.prog 12 #[.pointer (some ⟨g, 0, none⟩), .agg #[.int .i64 0, .int .i64 (-1), .bool false, .int .i64 0], .agg #[.int .i64 1, .int .i64 0, .bool false, .int .i64 0]] W (MissPost W g O6 [Ar.first, ⟨1, 0, false, 0⟩])) := Lib.hid (miss_at h6.out ⟨1, 0, false, 0⟩ Ar.first rfl (by decide) (by decide) 1 0 false 0))
      | (go_simp; go_at_call 11; (with_reducible refine (GT.out _ (Below.refl _ _).drew).mono ?_); rintro x w5 ⟨rfl, b5⟩; have B5 : Hid (Below W4.heap.size W4 w5) := Lib.hid ((Below.refl _ _).drew.trans b5.out); have S5 := Lib.hid (SK.out _ (Only.of B5.out))))
  have H : Hid (AR w7 g O7 [Ar.first, ⟨1, 0, false, 0⟩]) := h7
  have Ps : Hid (w7.heap[Xs]? = _) := Lib.hid ((K7.out.only.block _ (lt_of_block Ps.out) NX.out).trans Ps.out)
  have B : Hid (Below w.heap.size w w7) := Lib.hid (B.out.trans (K7.out.only.below B.out.size HB.out))
  have HB : Hid True := Lib.hid trivial
  clear h7 h6 K7 K6 B5 S7 S6 S5 SB SK GT SW1 SW2 s7 s6 b5 NX
  obtain ⟨⟨c0, c1, c2, c3⟩, -⟩ := obj4 Ps.out
  go_wp2_with fail
  (with_reducible refine (C6.out _).mono ?_); rintro x w8 ⟨rfl, b8⟩
  clear c0 c1 c2 c3
  have Ps : Hid (w8.heap[Xs]? = _) := Lib.hid ((b8.out.block _ (lt_of_block Ps.out)).trans Ps.out)
  have H : Hid (AR w8 g O7 [Ar.first, ⟨1, 0, false, 0⟩]) := Lib.hid (H.out.grew b8.out)
  have B : Hid (Below w.heap.size w w8) := Lib.hid (B.out.trans (b8.out.mono B.out.size))
  clear b8 C6
  go_upto_region 7 with fail
  obtain ⟨W8, hW⟩ : ∃ W, W = w8.alloc (.cells #[.int .i64 0, .int .i64 0, .bool false, .int .i64 0] 26) := ⟨_, rfl⟩
  obtain ⟨Y8, hX⟩ : ∃ X, X = w8.heap.size := ⟨_, rfl⟩
  have b8 : Hid (Below w8.heap.size w8 W8) := Lib.hid (by rw [hW]; exact (Below.refl _ _).alloc (Nat.le_refl _) _)
  rw [← hW, ← hX]
  clear hW hX
  have Ps : Hid (W8.heap[Xs]? = _) := Lib.hid ((b8.out.block _ (lt_of_block Ps.out)).trans Ps.out)
  have H : Hid (AR W8 g O7 [Ar.first, ⟨1, 0, false, 0⟩]) := Lib.hid (H.out.grew b8.out)
  have B : Hid (Below w.heap.size w W8) := Lib.hid (B.out.trans (b8.out.mono B.out.size))
  clear b8
  obtain ⟨⟨c0, c1, c2, c3⟩, -⟩ := obj4 Ps.out
  go_wp2_with fail
  (with_reducible refine (C7.out _).mono ?_); rintro x w9 ⟨rfl, b9⟩
  clear c0 c1 c2 c3
  have Ps : Hid (w9.heap[Xs]? = _) := Lib.hid ((b9.out.block _ (lt_of_block Ps.out)).trans Ps.out)
  have H : Hid (AR w9 g O7 [Ar.first, ⟨1, 0, false, 0⟩]) := Lib.hid (H.out.grew b9.out)
  have B : Hid (Below w.heap.size w w9) := Lib.hid (B.out.trans (b9.out.mono B.out.size))
  clear b9 C7
  go_upto_region 8 with fail
  obtain ⟨W9, hW⟩ : ∃ W, W = w9.alloc (.cells #[.int .i64 0, .int .i64 0, .bool false, .int .i64 0] 26) := ⟨_, rfl⟩
  obtain ⟨Y9, hX⟩ : ∃ X, X = w9.heap.size := ⟨_, rfl⟩
  have b9 : Hid (Below w9.heap.size w9 W9) := Lib.hid (by rw [hW]; exact (Below.refl _ _).alloc (Nat.le_refl _) _)
  rw [← hW, ← hX]
  clear hW hX
  have Ps : Hid (W9.heap[Xs]? = _) := Lib.hid ((b9.out.block _ (lt_of_block Ps.out)).trans Ps.out)
  have H : Hid (AR W9 g O7 [Ar.first, ⟨1, 0, false, 0⟩]) := Lib.hid (H.out.grew b9.out)
  have B : Hid (Below w.heap.size w W9) := Lib.hid (B.out.trans (b9.out.mono B.out.size))
  clear b9
  obtain ⟨⟨c0, c1, c2, c3⟩, -⟩ := obj4 Ps.out
  go_wp2_with fail
  (with_reducible refine (C8.out _).mono ?_); rintro x w10 ⟨rfl, b10⟩
  clear c0 c1 c2 c3
  have Ps : Hid (w10.heap[Xs]? = _) := Lib.hid ((b10.out.block _ (lt_of_block Ps.out)).trans Ps.out)
  have H : Hid (AR w10 g O7 [Ar.first, ⟨1, 0, false, 0⟩]) := Lib.hid (H.out.grew b10.out)
  have B : Hid (Below w.heap.size w w10) := Lib.hid (B.out.trans (b10.out.mono B.out.size))
  clear b10 C8
  go_upto_region 9 with fail
  obtain ⟨W10, hW⟩ : ∃ W, W = w10.alloc (.cells #[.int .i64 0, .int .i64 0, .bool false, .int .i64 0] 26) := ⟨_, rfl⟩
  obtain ⟨Y10, hX⟩ : ∃ X, X = w10.heap.size := ⟨_, rfl⟩
  have b10 : Hid (Below w10.heap.size w10 W10) := Lib.hid (by rw [hW]; exact (Below.refl _ _).alloc (Nat.le_refl _) _)
  rw [← hW, ← hX]
  clear hW hX
  have Ps : Hid (W10.heap[Xs]? = _) := Lib.hid ((b10.out.block _ (lt_of_block Ps.out)).trans Ps.out)
  have H : Hid (AR W10 g O7 [Ar.first, ⟨1, 0, false, 0⟩]) := Lib.hid (H.out.grew b10.out)
  have B : Hid (Below w.heap.size w W10) := Lib.hid (B.out.trans (b10.out.mono B.out.size))
  clear b10
  obtain ⟨⟨c0, c1, c2, c3⟩, -⟩ := obj4 Ps.out
  go_wp2_with fail
  (with_reducible refine (C9.out _).mono ?_); rintro x w11 ⟨rfl, b11⟩
  clear c0 c1 c2 c3
  have Ps : Hid (w11.heap[Xs]? = _) := Lib.hid ((b11.out.block _ (lt_of_block Ps.out)).trans Ps.out)
  have H : Hid (AR w11 g O7 [Ar.first, ⟨1, 0, false, 0⟩]) := Lib.hid (H.out.grew b11.out)
  have B : Hid (Below w.heap.size w w11) := Lib.hid (B.out.trans (b11.out.mono B.out.size))
  clear b11 C9
  go_upto_region 10 with fail
  obtain ⟨W11, hW⟩ : ∃ W, W = w11.alloc (.cells #[.int .i64 1, .int .i64 0, .bool true, .int .i64 5] 26) := ⟨_, rfl⟩
  obtain ⟨Xt, hX⟩ : ∃ X, X = w11.heap.size := ⟨_, rfl⟩
  have Pt : Hid (W11.heap[Xt]? = some (.cells #[.int .i64 1, .int .i64 0, .bool true, .int .i64 5] 26 (0, 0))) := Lib.hid (by rw [hW, hX]; exact heap_alloc_new _ _)
  have b11 : Hid (Below w11.heap.size w11 W11) := Lib.hid (by rw [hW]; exact (Below.refl _ _).alloc (Nat.le_refl _) _)
  rw [← hW, ← hX]
  clear hW hX
  have Ps : Hid (W11.heap[Xs]? = _) := Lib.hid ((b11.out.block _ (lt_of_block Ps.out)).trans Ps.out)
  have H : Hid (AR W11 g O7 [Ar.first, ⟨1, 0, false, 0⟩]) := Lib.hid (H.out.grew b11.out)
  have B : Hid (Below w.heap.size w W11) := Lib.hid (B.out.trans (b11.out.mono B.out.size))
  clear b11
  obtain ⟨⟨c0, c1, c2, c3⟩, -⟩ := obj4 Pt.out
  go_wp2_with fail
  (with_reducible refine (C10.out _).mono ?_); rintro x w12 ⟨rfl, b12⟩
  clear c0 c1 c2 c3
  have Ps : Hid (w12.heap[Xs]? = _) := Lib.hid ((b12.out.block _ (lt_of_block Ps.out)).trans Ps.out)
  have Pt : Hid (w12.heap[Xt]? = _) := Lib.hid ((b12.out.block _ (lt_of_block Pt.out)).trans Pt.out)
  have H : Hid (AR w12 g O7 [Ar.first, ⟨1, 0, false, 0⟩]) := Lib.hid (H.out.grew b12.out)
  have B : Hid (Below w.heap.size w w12) := Lib.hid (B.out.trans (b12.out.mono B.out.size))
  clear b12 C10
  go_upto_region 11 with fail
  obtain ⟨W12, hW⟩ : ∃ W, W = w12.alloc (.cells #[.int .i64 0, .int .i64 0, .bool false, .int .i64 0] 26) := ⟨_, rfl⟩
  obtain ⟨Y12, hX⟩ : ∃ X, X = w12.heap.size := ⟨_, rfl⟩
  have b12 : Hid (Below w12.heap.size w12 W12) := Lib.hid (by rw [hW]; exact (Below.refl _ _).alloc (Nat.le_refl _) _)
  rw [← hW, ← hX]
  clear hW hX
  have Ps : Hid (W12.heap[Xs]? = _) := Lib.hid ((b12.out.block _ (lt_of_block Ps.out)).trans Ps.out)
  have Pt : Hid (W12.heap[Xt]? = _) := Lib.hid ((b12.out.block _ (lt_of_block Pt.out)).trans Pt.out)
  have H : Hid (AR W12 g O7 [Ar.first, ⟨1, 0, false, 0⟩]) := Lib.hid (H.out.grew b12.out)
  have B : Hid (Below w.heap.size w W12) := Lib.hid (B.out.trans (b12.out.mono B.out.size))
  clear b12
  obtain ⟨⟨c0, c1, c2, c3⟩, -⟩ := obj4 Pt.out
  go_wp2_with fail
  (with_reducible refine (C11.out _).mono ?_); rintro x w13 ⟨rfl, b13⟩
  clear c0 c1 c2 c3
  have Ps : Hid (w13.heap[Xs]? = _) := Lib.hid ((b13.out.block _ (lt_of_block Ps.out)).trans Ps.out)
  have Pt : Hid (w13.heap[Xt]? = _) := Lib.hid ((b13.out.block _ (lt_of_block Pt.out)).trans Pt.out)
  have H : Hid (AR w13 g O7 [Ar.first, ⟨1, 0, false, 0⟩]) := Lib.hid (H.out.grew b13.out)
  have B : Hid (Below w.heap.size w w13) := Lib.hid (B.out.trans (b13.out.mono B.out.size))
  clear b13 C11
  go_upto_region 12 with fail
  obtain ⟨W13, hW⟩ : ∃ W, W = w13.alloc (.cells #[.int .i64 0, .int .i64 0, .bool false, .int .i64 0] 26) := ⟨_, rfl⟩
  obtain ⟨Y13, hX⟩ : ∃ X, X = w13.heap.size := ⟨_, rfl⟩
  have b13 : Hid (Below w13.heap.size w13 W13) := Lib.hid (by rw [hW]; exact (Below.refl _ _).alloc (Nat.le_refl _) _)
  rw [← hW, ← hX]
  clear hW hX
  have Ps : Hid (W13.heap[Xs]? = _) := Lib.hid ((b13.out.block _ (lt_of_block Ps.out)).trans Ps.out)
  have Pt : Hid (W13.heap[Xt]? = _) := Lib.hid ((b13.out.block _ (lt_of_block Pt.out)).trans Pt.out)
  have H : Hid (AR W13 g O7 [Ar.first, ⟨1, 0, false, 0⟩]) := Lib.hid (H.out.grew b13.out)
  have B : Hid (Below w.heap.size w W13) := Lib.hid (B.out.trans (b13.out.mono B.out.size))
  clear b13
  obtain ⟨⟨c0, c1, c2, c3⟩, -⟩ := obj4 Pt.out
  go_wp2_with fail
  (with_reducible refine (C12.out _).mono ?_); rintro x w14 ⟨rfl, b14⟩
  clear c0 c1 c2 c3
  have Ps : Hid (w14.heap[Xs]? = _) := Lib.hid ((b14.out.block _ (lt_of_block Ps.out)).trans Ps.out)
  have Pt : Hid (w14.heap[Xt]? = _) := Lib.hid ((b14.out.block _ (lt_of_block Pt.out)).trans Pt.out)
  have H : Hid (AR w14 g O7 [Ar.first, ⟨1, 0, false, 0⟩]) := Lib.hid (H.out.grew b14.out)
  have B : Hid (Below w.heap.size w w14) := Lib.hid (B.out.trans (b14.out.mono B.out.size))
  clear b14 C12
  go_upto_region 13 with fail
  obtain ⟨W14, hW⟩ : ∃ W, W = w14.alloc (.cells #[.int .i64 2, .int .i64 0, .bool true, .int .i64 5] 26) := ⟨_, rfl⟩
  obtain ⟨Xu, hX⟩ : ∃ X, X = w14.heap.size := ⟨_, rfl⟩
  have Pu : Hid (W14.heap[Xu]? = some (.cells #[.int .i64 2, .int .i64 0, .bool true, .int .i64 5] 26 (0, 0))) := Lib.hid (by rw [hW, hX]; exact heap_alloc_new _ _)
  have b14 : Hid (Below w14.heap.size w14 W14) := Lib.hid (by rw [hW]; exact (Below.refl _ _).alloc (Nat.le_refl _) _)
  rw [← hW, ← hX]
  clear hW hX
  have Ps : Hid (W14.heap[Xs]? = _) := Lib.hid ((b14.out.block _ (lt_of_block Ps.out)).trans Ps.out)
  have Pt : Hid (W14.heap[Xt]? = _) := Lib.hid ((b14.out.block _ (lt_of_block Pt.out)).trans Pt.out)
  have H : Hid (AR W14 g O7 [Ar.first, ⟨1, 0, false, 0⟩]) := Lib.hid (H.out.grew b14.out)
  have B : Hid (Below w.heap.size w W14) := Lib.hid (B.out.trans (b14.out.mono B.out.size))
  clear b14
  obtain ⟨⟨c0, c1, c2, c3⟩, -⟩ := obj4 Pt.out
  go_wp2_with fail
  (with_reducible refine (C13.out _).mono ?_); rintro x w15 ⟨rfl, b15⟩
  clear c0 c1 c2 c3
  have Ps : Hid (w15.heap[Xs]? = _) := Lib.hid ((b15.out.block _ (lt_of_block Ps.out)).trans Ps.out)
  have Pt : Hid (w15.heap[Xt]? = _) := Lib.hid ((b15.out.block _ (lt_of_block Pt.out)).trans Pt.out)
  have Pu : Hid (w15.heap[Xu]? = _) := Lib.hid ((b15.out.block _ (lt_of_block Pu.out)).trans Pu.out)
  have H : Hid (AR w15 g O7 [Ar.first, ⟨1, 0, false, 0⟩]) := Lib.hid (H.out.grew b15.out)
  have B : Hid (Below w.heap.size w w15) := Lib.hid (B.out.trans (b15.out.mono B.out.size))
  clear b15 C13
  go_upto_region 14 with fail
  obtain ⟨W15, hW⟩ : ∃ W, W = w15.alloc (.cells #[.int .i64 1, .int .i64 0, .bool false, .int .i64 7] 26) := ⟨_, rfl⟩
  obtain ⟨Xv, hX⟩ : ∃ X, X = w15.heap.size := ⟨_, rfl⟩
  have Pv : Hid (W15.heap[Xv]? = some (.cells #[.int .i64 1, .int .i64 0, .bool false, .int .i64 7] 26 (0, 0))) := Lib.hid (by rw [hW, hX]; exact heap_alloc_new _ _)
  have b15 : Hid (Below w15.heap.size w15 W15) := Lib.hid (by rw [hW]; exact (Below.refl _ _).alloc (Nat.le_refl _) _)
  rw [← hW, ← hX]
  clear hW hX
  have Ps : Hid (W15.heap[Xs]? = _) := Lib.hid ((b15.out.block _ (lt_of_block Ps.out)).trans Ps.out)
  have Pt : Hid (W15.heap[Xt]? = _) := Lib.hid ((b15.out.block _ (lt_of_block Pt.out)).trans Pt.out)
  have Pu : Hid (W15.heap[Xu]? = _) := Lib.hid ((b15.out.block _ (lt_of_block Pu.out)).trans Pu.out)
  have H : Hid (AR W15 g O7 [Ar.first, ⟨1, 0, false, 0⟩]) := Lib.hid (H.out.grew b15.out)
  have B : Hid (Below w.heap.size w W15) := Lib.hid (B.out.trans (b15.out.mono B.out.size))
  clear b15
  obtain ⟨⟨c0, c1, c2, c3⟩, -⟩ := obj4 Ps.out
  go_wp2_with fail
  (with_reducible refine (C14.out _).mono ?_); rintro x w16 ⟨rfl, b16⟩
  clear c0 c1 c2 c3
  have Ps : Hid (w16.heap[Xs]? = _) := Lib.hid ((b16.out.block _ (lt_of_block Ps.out)).trans Ps.out)
  have Pt : Hid (w16.heap[Xt]? = _) := Lib.hid ((b16.out.block _ (lt_of_block Pt.out)).trans Pt.out)
  have Pu : Hid (w16.heap[Xu]? = _) := Lib.hid ((b16.out.block _ (lt_of_block Pu.out)).trans Pu.out)
  have Pv : Hid (w16.heap[Xv]? = _) := Lib.hid ((b16.out.block _ (lt_of_block Pv.out)).trans Pv.out)
  have H : Hid (AR w16 g O7 [Ar.first, ⟨1, 0, false, 0⟩]) := Lib.hid (H.out.grew b16.out)
  have B : Hid (Below w.heap.size w w16) := Lib.hid (B.out.trans (b16.out.mono B.out.size))
  clear b16 C14
  go_upto_region 15 with fail
  obtain ⟨W16, hW⟩ : ∃ W, W = w16.alloc (.cells #[.int .i64 0, .int .i64 0, .bool false, .int .i64 0] 26) := ⟨_, rfl⟩
  obtain ⟨Y16, hX⟩ : ∃ X, X = w16.heap.size := ⟨_, rfl⟩
  have b16 : Hid (Below w16.heap.size w16 W16) := Lib.hid (by rw [hW]; exact (Below.refl _ _).alloc (Nat.le_refl _) _)
  rw [← hW, ← hX]
  clear hW hX
  have Ps : Hid (W16.heap[Xs]? = _) := Lib.hid ((b16.out.block _ (lt_of_block Ps.out)).trans Ps.out)
  have Pt : Hid (W16.heap[Xt]? = _) := Lib.hid ((b16.out.block _ (lt_of_block Pt.out)).trans Pt.out)
  have Pu : Hid (W16.heap[Xu]? = _) := Lib.hid ((b16.out.block _ (lt_of_block Pu.out)).trans Pu.out)
  have Pv : Hid (W16.heap[Xv]? = _) := Lib.hid ((b16.out.block _ (lt_of_block Pv.out)).trans Pv.out)
  have H : Hid (AR W16 g O7 [Ar.first, ⟨1, 0, false, 0⟩]) := Lib.hid (H.out.grew b16.out)
  have B : Hid (Below w.heap.size w W16) := Lib.hid (B.out.trans (b16.out.mono B.out.size))
  clear b16
  obtain ⟨⟨c0, c1, c2, c3⟩, -⟩ := obj4 Pt.out
  go_wp2_with fail
  (with_reducible refine (C15.out _).mono ?_); rintro x w17 ⟨rfl, b17⟩
  clear c0 c1 c2 c3
  have Ps : Hid (w17.heap[Xs]? = _) := Lib.hid ((b17.out.block _ (lt_of_block Ps.out)).trans Ps.out)
  have Pt : Hid (w17.heap[Xt]? = _) := Lib.hid ((b17.out.block _ (lt_of_block Pt.out)).trans Pt.out)
  have Pu : Hid (w17.heap[Xu]? = _) := Lib.hid ((b17.out.block _ (lt_of_block Pu.out)).trans Pu.out)
  have Pv : Hid (w17.heap[Xv]? = _) := Lib.hid ((b17.out.block _ (lt_of_block Pv.out)).trans Pv.out)
  have H : Hid (AR w17 g O7 [Ar.first, ⟨1, 0, false, 0⟩]) := Lib.hid (H.out.grew b17.out)
  have B : Hid (Below w.heap.size w w17) := Lib.hid (B.out.trans (b17.out.mono B.out.size))
  clear b17 C15
  go_upto_region 16 with fail
  obtain ⟨W17, hW⟩ : ∃ W, W = w17.alloc (.cells #[.int .i64 0, .int .i64 0, .bool false, .int .i64 0] 26) := ⟨_, rfl⟩
  obtain ⟨Y17, hX⟩ : ∃ X, X = w17.heap.size := ⟨_, rfl⟩
  have b17 : Hid (Below w17.heap.size w17 W17) := Lib.hid (by rw [hW]; exact (Below.refl _ _).alloc (Nat.le_refl _) _)
  rw [← hW, ← hX]
  clear hW hX
  have Ps : Hid (W17.heap[Xs]? = _) := Lib.hid ((b17.out.block _ (lt_of_block Ps.out)).trans Ps.out)
  have Pt : Hid (W17.heap[Xt]? = _) := Lib.hid ((b17.out.block _ (lt_of_block Pt.out)).trans Pt.out)
  have Pu : Hid (W17.heap[Xu]? = _) := Lib.hid ((b17.out.block _ (lt_of_block Pu.out)).trans Pu.out)
  have Pv : Hid (W17.heap[Xv]? = _) := Lib.hid ((b17.out.block _ (lt_of_block Pv.out)).trans Pv.out)
  have H : Hid (AR W17 g O7 [Ar.first, ⟨1, 0, false, 0⟩]) := Lib.hid (H.out.grew b17.out)
  have B : Hid (Below w.heap.size w W17) := Lib.hid (B.out.trans (b17.out.mono B.out.size))
  clear b17
  go_wp2_with fail
  (with_reducible refine (C16.out _).mono ?_); rintro x w18 ⟨rfl, b18⟩
  have Ps : Hid (w18.heap[Xs]? = _) := Lib.hid ((b18.out.block _ (lt_of_block Ps.out)).trans Ps.out)
  have Pt : Hid (w18.heap[Xt]? = _) := Lib.hid ((b18.out.block _ (lt_of_block Pt.out)).trans Pt.out)
  have Pu : Hid (w18.heap[Xu]? = _) := Lib.hid ((b18.out.block _ (lt_of_block Pu.out)).trans Pu.out)
  have Pv : Hid (w18.heap[Xv]? = _) := Lib.hid ((b18.out.block _ (lt_of_block Pv.out)).trans Pv.out)
  have H : Hid (AR w18 g O7 [Ar.first, ⟨1, 0, false, 0⟩]) := Lib.hid (H.out.grew b18.out)
  have B : Hid (Below w.heap.size w w18) := Lib.hid (B.out.trans (b18.out.mono B.out.size))
  clear b18 C16
  go_upto_region 17 with fail
  obtain ⟨W18, hW⟩ : ∃ W, W = w18.alloc (.cells #[.int .i64 0, .int .i64 0, .bool false, .int .i64 0] 26) := ⟨_, rfl⟩
  obtain ⟨Y18, hX⟩ : ∃ X, X = w18.heap.size := ⟨_, rfl⟩
  have b18 : Hid (Below w18.heap.size w18 W18) := Lib.hid (by rw [hW]; exact (Below.refl _ _).alloc (Nat.le_refl _) _)
  rw [← hW, ← hX]
  clear hW hX
  have Ps : Hid (W18.heap[Xs]? = _) := Lib.hid ((b18.out.block _ (lt_of_block Ps.out)).trans Ps.out)
  have Pt : Hid (W18.heap[Xt]? = _) := Lib.hid ((b18.out.block _ (lt_of_block Pt.out)).trans Pt.out)
  have Pu : Hid (W18.heap[Xu]? = _) := Lib.hid ((b18.out.block _ (lt_of_block Pu.out)).trans Pu.out)
  have Pv : Hid (W18.heap[Xv]? = _) := Lib.hid ((b18.out.block _ (lt_of_block Pv.out)).trans Pv.out)
  have H : Hid (AR W18 g O7 [Ar.first, ⟨1, 0, false, 0⟩]) := Lib.hid (H.out.grew b18.out)
  have B : Hid (Below w.heap.size w W18) := Lib.hid (B.out.trans (b18.out.mono B.out.size))
  clear b18
  obtain ⟨⟨c0, c1, c2, c3⟩, -⟩ := obj4 Ps.out
  go_wp2_with fail
  (with_reducible refine (C17.out _).mono ?_); rintro x w19 ⟨rfl, b19⟩
  clear c0 c1 c2 c3
  have Ps : Hid (w19.heap[Xs]? = _) := Lib.hid ((b19.out.block _ (lt_of_block Ps.out)).trans Ps.out)
  have Pt : Hid (w19.heap[Xt]? = _) := Lib.hid ((b19.out.block _ (lt_of_block Pt.out)).trans Pt.out)
  have Pu : Hid (w19.heap[Xu]? = _) := Lib.hid ((b19.out.block _ (lt_of_block Pu.out)).trans Pu.out)
  have Pv : Hid (w19.heap[Xv]? = _) := Lib.hid ((b19.out.block _ (lt_of_block Pv.out)).trans Pv.out)
  have H : Hid (AR w19 g O7 [Ar.first, ⟨1, 0, false, 0⟩]) := Lib.hid (H.out.grew b19.out)
  have B : Hid (Below w.heap.size w w19) := Lib.hid (B.out.trans (b19.out.mono B.out.size))
  clear b19 C17
  go_upto_region 18 with fail
  obtain ⟨W19, hW⟩ : ∃ W, W = w19.alloc (.cells #[.int .i64 0, .int .i64 0, .bool false, .int .i64 0] 26) := ⟨_, rfl⟩
  obtain ⟨Y19, hX⟩ : ∃ X, X = w19.heap.size := ⟨_, rfl⟩
  have b19 : Hid (Below w19.heap.size w19 W19) := Lib.hid (by rw [hW]; exact (Below.refl _ _).alloc (Nat.le_refl _) _)
  rw [← hW, ← hX]
  clear hW hX
  have Ps : Hid (W19.heap[Xs]? = _) := Lib.hid ((b19.out.block _ (lt_of_block Ps.out)).trans Ps.out)
  have Pt : Hid (W19.heap[Xt]? = _) := Lib.hid ((b19.out.block _ (lt_of_block Pt.out)).trans Pt.out)
  have Pu : Hid (W19.heap[Xu]? = _) := Lib.hid ((b19.out.block _ (lt_of_block Pu.out)).trans Pu.out)
  have Pv : Hid (W19.heap[Xv]? = _) := Lib.hid ((b19.out.block _ (lt_of_block Pv.out)).trans Pv.out)
  have H : Hid (AR W19 g O7 [Ar.first, ⟨1, 0, false, 0⟩]) := Lib.hid (H.out.grew b19.out)
  have B : Hid (Below w.heap.size w W19) := Lib.hid (B.out.trans (b19.out.mono B.out.size))
  clear b19
  go_wp2_with fail
  (with_reducible refine (C18.out _).mono ?_); rintro x w20 ⟨rfl, b20⟩
  have Ps : Hid (w20.heap[Xs]? = _) := Lib.hid ((b20.out.block _ (lt_of_block Ps.out)).trans Ps.out)
  have Pt : Hid (w20.heap[Xt]? = _) := Lib.hid ((b20.out.block _ (lt_of_block Pt.out)).trans Pt.out)
  have Pu : Hid (w20.heap[Xu]? = _) := Lib.hid ((b20.out.block _ (lt_of_block Pu.out)).trans Pu.out)
  have Pv : Hid (w20.heap[Xv]? = _) := Lib.hid ((b20.out.block _ (lt_of_block Pv.out)).trans Pv.out)
  have H : Hid (AR w20 g O7 [Ar.first, ⟨1, 0, false, 0⟩]) := Lib.hid (H.out.grew b20.out)
  have B : Hid (Below w.heap.size w w20) := Lib.hid (B.out.trans (b20.out.mono B.out.size))
  clear b20 C18
  go_upto_region 19 with fail
  obtain ⟨W20, hW⟩ : ∃ W, W = w20.alloc (.cells #[.int .i64 0, .int .i64 0, .bool false, .int .i64 0] 26) := ⟨_, rfl⟩
  obtain ⟨Y20, hX⟩ : ∃ X, X = w20.heap.size := ⟨_, rfl⟩
  have b20 : Hid (Below w20.heap.size w20 W20) := Lib.hid (by rw [hW]; exact (Below.refl _ _).alloc (Nat.le_refl _) _)
  rw [← hW, ← hX]
  clear hW hX
  have Ps : Hid (W20.heap[Xs]? = _) := Lib.hid ((b20.out.block _ (lt_of_block Ps.out)).trans Ps.out)
  have Pt : Hid (W20.heap[Xt]? = _) := Lib.hid ((b20.out.block _ (lt_of_block Pt.out)).trans Pt.out)
  have Pu : Hid (W20.heap[Xu]? = _) := Lib.hid ((b20.out.block _ (lt_of_block Pu.out)).trans Pu.out)
  have Pv : Hid (W20.heap[Xv]? = _) := Lib.hid ((b20.out.block _ (lt_of_block Pv.out)).trans Pv.out)
  have H : Hid (AR W20 g O7 [Ar.first, ⟨1, 0, false, 0⟩]) := Lib.hid (H.out.grew b20.out)
  have B : Hid (Below w.heap.size w W20) := Lib.hid (B.out.trans (b20.out.mono B.out.size))
  clear b20
  have SK : Hid (∀ w' : World, Below W20.heap.size W20 w' → (w'.cell? ⟨Xs, 0, none⟩ = some (.int .i64 1) ∧ w'.cell? ⟨Xs, 1, none⟩ = some (.int .i64 0) ∧ w'.cell? ⟨Xs, 2, none⟩ = some (.bool false) ∧ w'.cell? ⟨Xs, 3, none⟩ = some (.int .i64 0)) ∧ (w'.cell? ⟨Xt, 0, none⟩ = some (.int .i64 1) ∧ w'.cell? ⟨Xt, 1, none⟩ = some (.int .i64 0) ∧ w'.cell? ⟨Xt, 2, none⟩ = some (.bool true) ∧ w'.cell? ⟨Xt, 3, none⟩ = some (.int .i64 5)) ∧ (w'.cell? ⟨Xu, 0, none⟩ = some (.int .i64 2) ∧ w'.cell? ⟨Xu, 1, none⟩ = some (.int .i64 0) ∧ w'.cell? ⟨Xu, 2, none⟩ = some (.bool true) ∧ w'.cell? ⟨Xu, 3, none⟩ = some (.int .i64 5)) ∧ (w'.cell? ⟨Xv, 0, none⟩ = some (.int .i64 1) ∧ w'.cell? ⟨Xv, 1, none⟩ = some (.int .i64 0) ∧ w'.cell? ⟨Xv, 2, none⟩ = some (.bool false) ∧ w'.cell? ⟨Xv, 3, none⟩ = some (.int .i64 7))) := Lib.hid fun w' hb => ⟨(obj4 ((hb.block _ (lt_of_block Ps.out)).trans Ps.out)).1, (obj4 ((hb.block _ (lt_of_block Pt.out)).trans Pt.out)).1, (obj4 ((hb.block _ (lt_of_block Pu.out)).trans Pu.out)).1, (obj4 ((hb.block _ (lt_of_block Pv.out)).trans Pv.out)).1⟩
  have LG := Lib.hid (log_at H.out (by decide))
  simp only [List.append_eq, List.cons_append, List.nil_append]
  refine wp_region_C (fun w' => (w'.cell? ⟨Xs, 0, none⟩ = some (.int .i64 1) ∧ w'.cell? ⟨Xs, 1, none⟩ = some (.int .i64 0) ∧ w'.cell? ⟨Xs, 2, none⟩ = some (.bool false) ∧ w'.cell? ⟨Xs, 3, none⟩ = some (.int .i64 0)) ∧ (w'.cell? ⟨Xt, 0, none⟩ = some (.int .i64 1) ∧ w'.cell? ⟨Xt, 1, none⟩ = some (.int .i64 0) ∧ w'.cell? ⟨Xt, 2, none⟩ = some (.bool true) ∧ w'.cell? ⟨Xt, 3, none⟩ = some (.int .i64 5)) ∧ (w'.cell? ⟨Xu, 0, none⟩ = some (.int .i64 2) ∧ w'.cell? ⟨Xu, 1, none⟩ = some (.int .i64 0) ∧ w'.cell? ⟨Xu, 2, none⟩ = some (.bool true) ∧ w'.cell? ⟨Xu, 3, none⟩ = some (.int .i64 5)) ∧ (w'.cell? ⟨Xv, 0, none⟩ = some (.int .i64 1) ∧ w'.cell? ⟨Xv, 1, none⟩ = some (.int .i64 0) ∧ w'.cell? ⟨Xv, 2, none⟩ = some (.bool false) ∧ w'.cell? ⟨Xv, 3, none⟩ = some (.int .i64 7))) 83 (by kernel_rfl) ?_
  have hS0 : (fun w' : World => (w'.cell? ⟨Xs, 0, none⟩ = some (.int .i64 1) ∧ w'.cell? ⟨Xs, 1, none⟩ = some (.int .i64 0) ∧ w'.cell? ⟨Xs, 2, none⟩ = some (.bool false) ∧ w'.cell? ⟨Xs, 3, none⟩ = some (.int .i64 0)) ∧ (w'.cell? ⟨Xt, 0, none⟩ = some (.int .i64 1) ∧ w'.cell? ⟨Xt, 1, none⟩ = some (.int .i64 0) ∧ w'.cell? ⟨Xt, 2, none⟩ = some (.bool true) ∧ w'.cell? ⟨Xt, 3, none⟩ = some (.int .i64 5)) ∧ (w'.cell? ⟨Xu, 0, none⟩ = some (.int .i64 2) ∧ w'.cell? ⟨Xu, 1, none⟩ = some (.int .i64 0) ∧ w'.cell? ⟨Xu, 2, none⟩ = some (.bool true) ∧ w'.cell? ⟨Xu, 3, none⟩ = some (.int .i64 5)) ∧ (w'.cell? ⟨Xv, 0, none⟩ = some (.int .i64 1) ∧ w'.cell? ⟨Xv, 1, none⟩ = some (.int .i64 0) ∧ w'.cell? ⟨Xv, 2, none⟩ = some (.bool false) ∧ w'.cell? ⟨Xv, 3, none⟩ = some (.int .i64 7))) W20.drew := SK.out _ (Below.refl _ _).drew
  refine wpAnyC_take (i := 0) (oi := ?o1) (v := ?v1) ?hi1 (by kernel_rfl) (by kernel_rfl) (by kernel_rfl) ?hQ1 (by kernel_rfl) (by decide) (by kernel_rfl) (Or.inl ⟨?hg1, ?hy1⟩) (by assumption) ?rest1
  case hi1 => (simp only [List.getElem?_toArray, List.getElem?_cons_zero, List.getElem?_cons_succ]; exact rfl)
  case hQ1 => exact fun _ _ _ h => h
  case hg1 => rfl
  case hy1 => (intro w' hSw; (try dsimp only at hSw); go_simp; try with_reducible rfl)
  try simp only [Act.put, List.setIfInBounds_toArray, List.set_cons_zero, List.set_cons_succ]
  refine wpAnyC_take (i := 1) (oi := ?o2) (v := ?v2) ?hi2 (by kernel_rfl) (by kernel_rfl) (by kernel_rfl) ?hQ2 (by kernel_rfl) (by decide) (by kernel_rfl) (Or.inl ⟨?hg2, ?hy2⟩) (by assumption) ?rest2
  case hi2 => (simp only [List.getElem?_toArray, List.getElem?_cons_zero, List.getElem?_cons_succ]; exact rfl)
  case hQ2 => exact fun _ _ _ h => h
  case hg2 => rfl
  case hy2 => (intro w' hSw; (try dsimp only at hSw); go_simp; try with_reducible rfl)
  try simp only [Act.put, List.setIfInBounds_toArray, List.set_cons_zero, List.set_cons_succ]
  refine wpAnyC_take (i := 2) (oi := ?o3) (v := ?v3) ?hi3 (by kernel_rfl) (by kernel_rfl) (by kernel_rfl) ?hQ3 (by kernel_rfl) (by decide) (by kernel_rfl) (Or.inl ⟨?hg3, ?hy3⟩) (by assumption) ?rest3
  case hi3 => (simp only [List.getElem?_toArray, List.getElem?_cons_zero, List.getElem?_cons_succ]; exact rfl)
  case hQ3 => exact fun _ _ _ h => h
  case hg3 => rfl
  case hy3 => (intro w' hSw; (try dsimp only at hSw); go_simp; try with_reducible rfl)
  try simp only [Act.put, List.setIfInBounds_toArray, List.set_cons_zero, List.set_cons_succ]
  refine wpAnyC_take (i := 3) (oi := ?o4) (v := ?v4) ?hi4 (by kernel_rfl) (by kernel_rfl) (by kernel_rfl) ?hQ4 (by kernel_rfl) (by decide) (by kernel_rfl) (Or.inl ⟨?hg4, ?hy4⟩) (by assumption) ?rest4
  case hi4 => (simp only [List.getElem?_toArray, List.getElem?_cons_zero, List.getElem?_cons_succ]; exact rfl)
  case hQ4 => exact fun _ _ _ h => h
  case hg4 => rfl
  case hy4 => (intro w' hSw; (try dsimp only at hSw); go_simp; try with_reducible rfl)
  try simp only [Act.put, List.setIfInBounds_toArray, List.set_cons_zero, List.set_cons_succ]
  refine wpAnyC_take (i := 4) (oi := ?o5) (v := ?v5) ?hi5 (by kernel_rfl) (by kernel_rfl) (by kernel_rfl) ?hQ5 (by kernel_rfl) (by decide) (by kernel_rfl) (Or.inl ⟨?hg5, ?hy5⟩) (by assumption) ?rest5
  case hi5 => (simp only [List.getElem?_toArray, List.getElem?_cons_zero, List.getElem?_cons_succ]; exact rfl)
  case hQ5 => exact fun _ _ _ h => h
  case hg5 => rfl
  case hy5 => (intro w' hSw; (try dsimp only at hSw); go_simp; try with_reducible rfl)
  try simp only [Act.put, List.setIfInBounds_toArray, List.set_cons_zero, List.set_cons_succ]
  refine wpAnyC_take (i := 5) (oi := ?o6) (v := ?v6) ?hi6 (by kernel_rfl) (by kernel_rfl) (by kernel_rfl) ?hQ6 (by kernel_rfl) (by decide) (by kernel_rfl) (Or.inl ⟨?hg6, ?hy6⟩) (by assumption) ?rest6
  case hi6 => (simp only [List.getElem?_toArray, List.getElem?_cons_zero, List.getElem?_cons_succ]; exact rfl)
  case hQ6 => exact fun _ _ _ h => h
  case hg6 => rfl
  case hy6 => (intro w' hSw; (try dsimp only at hSw); go_simp; try with_reducible rfl)
  try simp only [Act.put, List.setIfInBounds_toArray, List.set_cons_zero, List.set_cons_succ]
  refine wpAnyC_take (i := 6) (oi := ?o7) (v := ?v7) ?hi7 (by kernel_rfl) (by kernel_rfl) (by kernel_rfl) ?hQ7 (by kernel_rfl) (by decide) (by kernel_rfl) (Or.inl ⟨?hg7, ?hy7⟩) (by assumption) ?rest7
  case hi7 => (simp only [List.getElem?_toArray, List.getElem?_cons_zero, List.getElem?_cons_succ]; exact rfl)
  case hQ7 => exact fun _ _ _ h => h
  case hg7 => rfl
  case hy7 => (intro w' hSw; (try dsimp only at hSw); go_simp; try with_reducible rfl)
  try simp only [Act.put, List.setIfInBounds_toArray, List.set_cons_zero, List.set_cons_succ]
  refine wpAnyC_take (i := 7) (oi := ?o8) (v := ?v8) ?hi8 (by kernel_rfl) (by kernel_rfl) (by kernel_rfl) ?hQ8 (by kernel_rfl) (by decide) (by kernel_rfl) (Or.inl ⟨?hg8, ?hy8⟩) (by assumption) ?rest8
  case hi8 => (simp only [List.getElem?_toArray, List.getElem?_cons_zero, List.getElem?_cons_succ]; exact rfl)
  case hQ8 => exact fun _ _ _ h => h
  case hg8 => rfl
  case hy8 => (intro w' hSw; (try dsimp only at hSw); go_simp; try with_reducible rfl)
  try simp only [Act.put, List.setIfInBounds_toArray, List.set_cons_zero, List.set_cons_succ]
  refine wpAnyC_take (i := 8) (oi := ?o9) (v := ?v9) ?hi9 (by kernel_rfl) (by kernel_rfl) (by kernel_rfl) ?hQ9 (by kernel_rfl) (by decide) (by kernel_rfl) (Or.inl ⟨?hg9, ?hy9⟩) (by assumption) ?rest9
  case hi9 => (simp only [List.getElem?_toArray, List.getElem?_cons_zero, List.getElem?_cons_succ]; exact rfl)
  case hQ9 => exact fun _ _ _ h => h
  case hg9 => rfl
  case hy9 => (intro w' hSw; (try dsimp only at hSw); go_simp; try with_reducible rfl)
  try simp only [Act.put, List.setIfInBounds_toArray, List.set_cons_zero, List.set_cons_succ]
  refine wpAnyC_take (i := 9) (oi := ?o10) (v := ?v10) ?hi10 (by kernel_rfl) (by kernel_rfl) (by kernel_rfl) ?hQ10 (by kernel_rfl) (by decide) (by kernel_rfl) (Or.inl ⟨?hg10, ?hy10⟩) (by assumption) ?rest10
  case hi10 => (simp only [List.getElem?_toArray, List.getElem?_cons_zero, List.getElem?_cons_succ]; exact rfl)
  case hQ10 => exact fun _ _ _ h => h
  case hg10 => rfl
  case hy10 => (intro w' hSw; (try dsimp only at hSw); go_simp; try with_reducible rfl)
  try simp only [Act.put, List.setIfInBounds_toArray, List.set_cons_zero, List.set_cons_succ]
  refine wpAnyC_take (i := 10) (oi := ?o11) (v := ?v11) ?hi11 (by kernel_rfl) (by kernel_rfl) (by kernel_rfl) ?hQ11 (by kernel_rfl) (by decide) (by kernel_rfl) (Or.inl ⟨?hg11, ?hy11⟩) (by assumption) ?rest11
  case hi11 => (simp only [List.getElem?_toArray, List.getElem?_cons_zero, List.getElem?_cons_succ]; exact rfl)
  case hQ11 => exact fun _ _ _ h => h
  case hg11 => rfl
  case hy11 => (intro w' hSw; (try dsimp only at hSw); go_simp; try with_reducible rfl)
  try simp only [Act.put, List.setIfInBounds_toArray, List.set_cons_zero, List.set_cons_succ]
  refine wpAnyC_take (i := 11) (oi := ?o12) (v := ?v12) ?hi12 (by kernel_rfl) (by kernel_rfl) (by kernel_rfl) ?hQ12 (by kernel_rfl) (by decide) (by kernel_rfl) (Or.inl ⟨?hg12, ?hy12⟩) (by assumption) ?rest12
  case hi12 => (simp only [List.getElem?_toArray, List.getElem?_cons_zero, List.getElem?_cons_succ]; exact rfl)
  case hQ12 => exact fun _ _ _ h => h
  case hg12 => rfl
  case hy12 => (intro w' hSw; (try dsimp only at hSw); go_simp; try with_reducible rfl)
  try simp only [Act.put, List.setIfInBounds_toArray, List.set_cons_zero, List.set_cons_succ]
  refine wpAnyC_take (i := 12) (oi := ?o13) (v := ?v13) ?hi13 (by kernel_rfl) (by kernel_rfl) (by kernel_rfl) ?hQ13 (by kernel_rfl) (by decide) (by kernel_rfl) (Or.inl ⟨?hg13, ?hy13⟩) (by assumption) ?rest13
  case hi13 => (simp only [List.getElem?_toArray, List.getElem?_cons_zero, List.getElem?_cons_succ]; exact rfl)
  case hQ13 => exact fun _ _ _ h => h
  case hg13 => rfl
  case hy13 => (intro w' hSw; (try dsimp only at hSw); go_simp; try with_reducible rfl)
  try simp only [Act.put, List.setIfInBounds_toArray, List.set_cons_zero, List.set_cons_succ]
  refine wpAnyC_take (i := 13) (oi := ?o14) (v := ?v14) ?hi14 (by kernel_rfl) (by kernel_rfl) (by kernel_rfl) ?hQ14 (by kernel_rfl) (by decide) (by kernel_rfl) (Or.inl ⟨?hg14, ?hy14⟩) (by assumption) ?rest14
  case hi14 => (simp only [List.getElem?_toArray, List.getElem?_cons_zero, List.getElem?_cons_succ]; exact rfl)
  case hQ14 => exact fun _ _ _ h => h
  case hg14 => rfl
  case hy14 => (intro w' hSw; (try dsimp only at hSw); go_simp; try with_reducible rfl)
  try simp only [Act.put, List.setIfInBounds_toArray, List.set_cons_zero, List.set_cons_succ]
  refine wpAnyC_take (i := 14) (oi := ?o15) (v := ?v15) ?hi15 (by kernel_rfl) (by kernel_rfl) (by kernel_rfl) ?hQ15 (by kernel_rfl) (by decide) (by kernel_rfl) (Or.inl ⟨?hg15, ?hy15⟩) (by assumption) ?rest15
  case hi15 => (simp only [List.getElem?_toArray, List.getElem?_cons_zero, List.getElem?_cons_succ]; exact rfl)
  case hQ15 => exact fun _ _ _ h => h
  case hg15 => rfl
  case hy15 => (intro w' hSw; (try dsimp only at hSw); go_simp; try with_reducible rfl)
  try simp only [Act.put, List.setIfInBounds_toArray, List.set_cons_zero, List.set_cons_succ]
  refine wpAnyC_take (i := 15) (oi := ?o16) (v := ?v16) ?hi16 (by kernel_rfl) (by kernel_rfl) (by kernel_rfl) ?hQ16 (by kernel_rfl) (by decide) (by kernel_rfl) (Or.inl ⟨?hg16, ?hy16⟩) (by assumption) ?rest16
  case hi16 => (simp only [List.getElem?_toArray, List.getElem?_cons_zero, List.getElem?_cons_succ]; exact rfl)
  case hQ16 => exact fun _ _ _ h => h
  case hg16 => rfl
  case hy16 => (intro w' hSw; (try dsimp only at hSw); go_simp; try with_reducible rfl)
  try simp only [Act.put, List.setIfInBounds_toArray, List.set_cons_zero, List.set_cons_succ]
  refine wpAnyC_take (i := 16) (oi := ?o17) (v := ?v17) ?hi17 (by kernel_rfl) (by kernel_rfl) (by kernel_rfl) ?hQ17 (by kernel_rfl) (by decide) (by kernel_rfl) (Or.inl ⟨?hg17, ?hy17⟩) (by assumption) ?rest17
  case hi17 => (simp only [List.getElem?_toArray, List.getElem?_cons_zero, List.getElem?_cons_succ]; exact rfl)
  case hQ17 => exact fun _ _ _ h => h
  case hg17 => rfl
  case hy17 => (intro w' hSw; (try dsimp only at hSw); go_simp; try with_reducible rfl)
  try simp only [Act.put, List.setIfInBounds_toArray, List.set_cons_zero, List.set_cons_succ]
  refine wpAnyC_take (i := 17) (oi := ?o18) (v := ?v18) ?hi18 (by kernel_rfl) (by kernel_rfl) (by kernel_rfl) ?hQ18 (by kernel_rfl) (by decide) (by kernel_rfl) (Or.inl ⟨?hg18, ?hy18⟩) (by assumption) ?rest18
  case hi18 => (simp only [List.getElem?_toArray, List.getElem?_cons_zero, List.getElem?_cons_succ]; exact rfl)
  case hQ18 => exact fun _ _ _ h => h
  case hg18 => rfl
  case hy18 => (intro w' hSw; (try dsimp only at hSw); go_simp; try with_reducible rfl)
  try simp only [Act.put, List.setIfInBounds_toArray, List.set_cons_zero, List.set_cons_succ]
  refine wpAnyC_take (i := 18) (oi := ?o19) (v := ?v19) ?hi19 (by kernel_rfl) (by kernel_rfl) (by kernel_rfl) ?hQ19 (by kernel_rfl) (by decide) (by kernel_rfl) (Or.inl ⟨?hg19, ?hy19⟩) (by assumption) ?rest19
  case hi19 => (simp only [List.getElem?_toArray, List.getElem?_cons_zero, List.getElem?_cons_succ]; exact rfl)
  case hQ19 => exact fun _ _ _ h => h
  case hg19 => rfl
  case hy19 => (intro w' hSw; (try dsimp only at hSw); go_simp; try with_reducible rfl)
  try simp only [Act.put, List.setIfInBounds_toArray, List.set_cons_zero, List.set_cons_succ]
  refine wpAnyC_take (i := 19) (oi := ?o20) (v := ?v20) ?hi20 (by kernel_rfl) (by kernel_rfl) (by kernel_rfl) ?hQ20 (by kernel_rfl) (by decide) (by kernel_rfl) (Or.inl ⟨?hg20, ?hy20⟩) (by assumption) ?rest20
  case hi20 => (simp only [List.getElem?_toArray, List.getElem?_cons_zero, List.getElem?_cons_succ]; exact rfl)
  case hQ20 => exact fun _ _ _ h => h
  case hg20 => rfl
  case hy20 => (intro w' hSw; (try dsimp only at hSw); go_simp; try with_reducible rfl)
  try simp only [Act.put, List.setIfInBounds_toArray, List.set_cons_zero, List.set_cons_succ]
  refine wpAnyC_take (i := 20) (oi := ?o21) (v := ?v21) ?hi21 (by kernel_rfl) (by kernel_rfl) (by kernel_rfl) ?hQ21 (by kernel_rfl) (by decide) (by kernel_rfl) (Or.inl ⟨?hg21, ?hy21⟩) (by assumption) ?rest21
  case hi21 => (simp only [List.getElem?_toArray, List.getElem?_cons_zero, List.getElem?_cons_succ]; exact rfl)
  case hQ21 => exact fun _ _ _ h => h
  case hg21 => rfl
  case hy21 => (intro w' hSw; (try dsimp only at hSw); go_simp; try with_reducible rfl)
  try simp only [Act.put, List.setIfInBounds_toArray, List.set_cons_zero, List.set_cons_succ]
  refine wpAnyC_take (i := 21) (oi := ?o22) (v := ?v22) ?hi22 (by kernel_rfl) (by kernel_rfl) (by kernel_rfl) ?hQ22 (by kernel_rfl) (by decide) (by kernel_rfl) (Or.inl ⟨?hg22, ?hy22⟩) (by assumption) ?rest22
  case hi22 => (simp only [List.getElem?_toArray, List.getElem?_cons_zero, List.getElem?_cons_succ]; exact rfl)
  case hQ22 => exact fun _ _ _ h => h
  case hg22 => rfl
  case hy22 => (intro w' hSw; (try dsimp only at hSw); go_simp; try with_reducible rfl)
  try simp only [Act.put, List.setIfInBounds_toArray, List.set_cons_zero, List.set_cons_succ]
  refine wpAnyC_take (i := 22) (oi := ?o23) (v := ?v23) ?hi23 (by kernel_rfl) (by kernel_rfl) (by kernel_rfl) ?hQ23 (by kernel_rfl) (by decide) (by kernel_rfl) (Or.inl ⟨?hg23, ?hy23⟩) (by assumption) ?rest23
  case hi23 => (simp only [List.getElem?_toArray, List.getElem?_cons_zero, List.getElem?_cons_succ]; exact rfl)
  case hQ23 => exact fun _ _ _ h => h
  case hg23 => rfl
  case hy23 => (intro w' hSw; (try dsimp only at hSw); go_simp; try with_reducible rfl)
  try simp only [Act.put, List.setIfInBounds_toArray, List.set_cons_zero, List.set_cons_succ]
  refine wpAnyC_take (i := 23) (oi := ?o24) (v := ?v24) ?hi24 (by kernel_rfl) (by kernel_rfl) (by kernel_rfl) ?hQ24 (by kernel_rfl) (by decide) (by kernel_rfl) (Or.inl ⟨?hg24, ?hy24⟩) (by assumption) ?rest24
  case hi24 => (simp only [List.getElem?_toArray, List.getElem?_cons_zero, List.getElem?_cons_succ]; exact rfl)
  case hQ24 => exact fun _ _ _ h => h
  case hg24 => rfl
  case hy24 => (intro w' hSw; (try dsimp only at hSw); go_simp; try with_reducible rfl)
  try simp only [Act.put, List.setIfInBounds_toArray, List.set_cons_zero, List.set_cons_succ]
  refine wpAnyC_take (i := 24) (oi := ?o25) (v := ?v25) ?hi25 (by kernel_rfl) (by kernel_rfl) (by kernel_rfl) ?hQ25 (by kernel_rfl) (by decide) (by kernel_rfl) (Or.inl ⟨?hg25, ?hy25⟩) (by assumption) ?rest25
  case hi25 => (simp only [List.getElem?_toArray, List.getElem?_cons_zero, List.getElem?_cons_succ]; exact rfl)
  case hQ25 => exact fun _ _ _ h => h
  case hg25 => rfl
  case hy25 => (intro w' hSw; (try dsimp only at hSw); go_simp; try with_reducible rfl)
  try simp only [Act.put, List.setIfInBounds_toArray, List.set_cons_zero, List.set_cons_succ]
  refine wpAnyC_take (i := 25) (oi := ?o26) (v := ?v26) ?hi26 (by kernel_rfl) (by kernel_rfl) (by kernel_rfl) ?hQ26 (by kernel_rfl) (by decide) (by kernel_rfl) (Or.inl ⟨?hg26, ?hy26⟩) (by assumption) ?rest26
  case hi26 => (simp only [List.getElem?_toArray, List.getElem?_cons_zero, List.getElem?_cons_succ]; exact rfl)
  case hQ26 => exact fun _ _ _ h => h
  case hg26 => rfl
  case hy26 => (intro w' hSw; (try dsimp only at hSw); go_simp; try with_reducible rfl)
  try simp only [Act.put, List.setIfInBounds_toArray, List.set_cons_zero, List.set_cons_succ]
  refine wpAnyC_take (i := 26) (oi := ?o27) (v := ?v27) ?hi27 (by kernel_rfl) (by kernel_rfl) (by kernel_rfl) ?hQ27 (by kernel_rfl) (by decide) (by kernel_rfl) (Or.inl ⟨?hg27, ?hy27⟩) (by assumption) ?rest27
  case hi27 => (simp only [List.getElem?_toArray, List.getElem?_cons_zero, List.getElem?_cons_succ]; exact rfl)
  case hQ27 => exact fun _ _ _ h => h
  case hg27 => rfl
  case hy27 => (intro w' hSw; (try dsimp only at hSw); go_simp; try with_reducible rfl)
  try simp only [Act.put, List.setIfInBounds_toArray, List.set_cons_zero, List.set_cons_succ]
  refine wpAnyC_take (i := 27) (oi := ?o28) (v := ?v28) ?hi28 (by kernel_rfl) (by kernel_rfl) (by kernel_rfl) ?hQ28 (by kernel_rfl) (by decide) (by kernel_rfl) (Or.inl ⟨?hg28, ?hy28⟩) (by assumption) ?rest28
  case hi28 => (simp only [List.getElem?_toArray, List.getElem?_cons_zero, List.getElem?_cons_succ]; exact rfl)
  case hQ28 => exact fun _ _ _ h => h
  case hg28 => rfl
  case hy28 => (intro w' hSw; (try dsimp only at hSw); go_simp; try with_reducible rfl)
  try simp only [Act.put, List.setIfInBounds_toArray, List.set_cons_zero, List.set_cons_succ]
  refine wpAnyC_take (i := 28) (oi := ?o29) (v := ?v29) ?hi29 (by kernel_rfl) (by kernel_rfl) (by kernel_rfl) ?hQ29 (by kernel_rfl) (by decide) (by kernel_rfl) (Or.inl ⟨?hg29, ?hy29⟩) (by assumption) ?rest29
  case hi29 => (simp only [List.getElem?_toArray, List.getElem?_cons_zero, List.getElem?_cons_succ]; exact rfl)
  case hQ29 => exact fun _ _ _ h => h
  case hg29 => rfl
  case hy29 => (intro w' hSw; (try dsimp only at hSw); go_simp; try with_reducible rfl)
  try simp only [Act.put, List.setIfInBounds_toArray, List.set_cons_zero, List.set_cons_succ]
  refine wpAnyC_take (i := 29) (oi := ?o30) (v := ?v30) ?hi30 (by kernel_rfl) (by kernel_rfl) (by kernel_rfl) ?hQ30 (by kernel_rfl) (by decide) (by kernel_rfl) (Or.inl ⟨?hg30, ?hy30⟩) (by assumption) ?rest30
  case hi30 => (simp only [List.getElem?_toArray, List.getElem?_cons_zero, List.getElem?_cons_succ]; exact rfl)
  case hQ30 => exact fun _ _ _ h => h
  case hg30 => rfl
  case hy30 => (intro w' hSw; (try dsimp only at hSw); go_simp; try with_reducible rfl)
  try simp only [Act.put, List.setIfInBounds_toArray, List.set_cons_zero, List.set_cons_succ]
  refine wpAnyC_take (i := 30) (oi := ?o31) (v := ?v31) ?hi31 (by kernel_rfl) (by kernel_rfl) (by kernel_rfl) ?hQ31 (by kernel_rfl) (by decide) (by kernel_rfl) (Or.inl ⟨?hg31, ?hy31⟩) (by assumption) ?rest31
  case hi31 => (simp only [List.getElem?_toArray, List.getElem?_cons_zero, List.getElem?_cons_succ]; exact rfl)
  case hQ31 => exact fun _ _ _ h => h
  case hg31 => rfl
  case hy31 => (intro w' hSw; (try dsimp only at hSw); go_simp; try with_reducible rfl)
  try simp only [Act.put, List.setIfInBounds_toArray, List.set_cons_zero, List.set_cons_succ]
  refine wpAnyC_take (i := 31) (oi := ?o32) (v := ?v32) ?hi32 (by kernel_rfl) (by kernel_rfl) (by kernel_rfl) ?hQ32 (by kernel_rfl) (by decide) (by kernel_rfl) (Or.inl ⟨?hg32, ?hy32⟩) (by assumption) ?rest32
  case hi32 => (simp only [List.getElem?_toArray, List.getElem?_cons_zero, List.getElem?_cons_succ]; exact rfl)
  case hQ32 => exact fun _ _ _ h => h
  case hg32 => rfl
  case hy32 => (intro w' hSw; (try dsimp only at hSw); go_simp; try with_reducible rfl)
  try simp only [Act.put, List.setIfInBounds_toArray, List.set_cons_zero, List.set_cons_succ]
  refine wpAnyC_take (i := 32) (oi := ?o33) (v := ?v33) ?hi33 (by kernel_rfl) (by kernel_rfl) (by kernel_rfl) ?hQ33 (by kernel_rfl) (by decide) (by kernel_rfl) (Or.inl ⟨?hg33, ?hy33⟩) (by assumption) ?rest33
  case hi33 => (simp only [List.getElem?_toArray, List.getElem?_cons_zero, List.getElem?_cons_succ]; exact rfl)
  case hQ33 => exact fun _ _ _ h => h
  case hg33 => rfl
  case hy33 => (intro w' hSw; (try dsimp only at hSw); go_simp; try with_reducible rfl)
  try simp only [Act.put, List.setIfInBounds_toArray, List.set_cons_zero, List.set_cons_succ]
  refine wpAnyC_take (i := 33) (oi := ?o34) (v := ?v34) ?hi34 (by kernel_rfl) (by kernel_rfl) (by kernel_rfl) ?hQ34 (by kernel_rfl) (by decide) (by kernel_rfl) (Or.inl ⟨?hg34, ?hy34⟩) (by assumption) ?rest34
  case hi34 => (simp only [List.getElem?_toArray, List.getElem?_cons_zero, List.getElem?_cons_succ]; exact rfl)
  case hQ34 => exact fun _ _ _ h => h
  case hg34 => rfl
  case hy34 => (intro w' hSw; (try dsimp only at hSw); go_simp; try with_reducible rfl)
  try simp only [Act.put, List.setIfInBounds_toArray, List.set_cons_zero, List.set_cons_succ]
  refine wpAnyC_take (i := 34) (oi := ?o35) (v := ?v35) ?hi35 (by kernel_rfl) (by kernel_rfl) (by kernel_rfl) ?hQ35 (by kernel_rfl) (by decide) (by kernel_rfl) (Or.inl ⟨?hg35, ?hy35⟩) (by assumption) ?rest35
  case hi35 => (simp only [List.getElem?_toArray, List.getElem?_cons_zero, List.getElem?_cons_succ]; exact rfl)
  case hQ35 => exact fun _ _ _ h => h
  case hg35 => rfl
  case hy35 => (intro w' hSw; (try dsimp only at hSw); go_simp; try with_reducible rfl)
  try simp only [Act.put, List.setIfInBounds_toArray, List.set_cons_zero, List.set_cons_succ]
  refine wpAnyC_take (i := 35) (oi := ?o36) (v := ?v36) ?hi36 (by kernel_rfl) (by kernel_rfl) (by kernel_rfl) ?hQ36 (by kernel_rfl) (by decide) (by kernel_rfl) (Or.inl ⟨?hg36, ?hy36⟩) (by assumption) ?rest36
  case hi36 => (simp only [List.getElem?_toArray, List.getElem?_cons_zero, List.getElem?_cons_succ]; exact rfl)
  case hQ36 => exact fun _ _ _ h => h
  case hg36 => rfl
  case hy36 => (intro w' hSw; (try dsimp only at hSw); go_simp; try with_reducible rfl)
  try simp only [Act.put, List.setIfInBounds_toArray, List.set_cons_zero, List.set_cons_succ]
  refine wpAnyC_take (i := 36) (oi := ?o37) (v := ?v37) ?hi37 (by kernel_rfl) (by kernel_rfl) (by kernel_rfl) ?hQ37 (by kernel_rfl) (by decide) (by kernel_rfl) (Or.inl ⟨?hg37, ?hy37⟩) (by assumption) ?rest37
  case hi37 => (simp only [List.getElem?_toArray, List.getElem?_cons_zero, List.getElem?_cons_succ]; exact rfl)
  case hQ37 => exact fun _ _ _ h => h
  case hg37 => rfl
  case hy37 => (intro w' hSw; (try dsimp only at hSw); go_simp; try with_reducible rfl)
  try simp only [Act.put, List.setIfInBounds_toArray, List.set_cons_zero, List.set_cons_succ]
  refine wpAnyC_take (i := 37) (oi := ?o38) (v := ?v38) ?hi38 (by kernel_rfl) (by kernel_rfl) (by kernel_rfl) ?hQ38 (by kernel_rfl) (by decide) (by kernel_rfl) (Or.inl ⟨?hg38, ?hy38⟩) (by assumption) ?rest38
  case hi38 => (simp only [List.getElem?_toArray, List.getElem?_cons_zero, List.getElem?_cons_succ]; exact rfl)
  case hQ38 => exact fun _ _ _ h => h
  case hg38 => rfl
  case hy38 => (intro w' hSw; (try dsimp only at hSw); go_simp; try with_reducible rfl)
  try simp only [Act.put, List.setIfInBounds_toArray, List.set_cons_zero, List.set_cons_succ]
  refine wpAnyC_take (i := 38) (oi := ?o39) (v := ?v39) ?hi39 (by kernel_rfl) (by kernel_rfl) (by kernel_rfl) ?hQ39 (by kernel_rfl) (by decide) (by kernel_rfl) (Or.inl ⟨?hg39, ?hy39⟩) (by assumption) ?rest39
  case hi39 => (simp only [List.getElem?_toArray, List.getElem?_cons_zero, List.getElem?_cons_succ]; exact rfl)
  case hQ39 => exact fun _ _ _ h => h
  case hg39 => rfl
  case hy39 => (intro w' hSw; (try dsimp only at hSw); go_simp; try with_reducible rfl)
  try simp only [Act.put, List.setIfInBounds_toArray, List.set_cons_zero, List.set_cons_succ]
  refine wpAnyC_take (i := 39) (oi := ?o40) (v := ?v40) ?hi40 (by kernel_rfl) (by kernel_rfl) (by kernel_rfl) ?hQ40 (by kernel_rfl) (by decide) (by kernel_rfl) (Or.inl ⟨?hg40, ?hy40⟩) (by assumption) ?rest40
  case hi40 => (simp only [List.getElem?_toArray, List.getElem?_cons_zero, List.getElem?_cons_succ]; exact rfl)
  case hQ40 => exact fun _ _ _ h => h
  case hg40 => rfl
  case hy40 => (intro w' hSw; (try dsimp only at hSw); go_simp; try with_reducible rfl)
  try simp only [Act.put, List.setIfInBounds_toArray, List.set_cons_zero, List.set_cons_succ]
  refine wpAnyC_take (i := 40) (oi := ?o41) (v := ?v41) ?hi41 (by kernel_rfl) (by kernel_rfl) (by kernel_rfl) ?hQ41 (by kernel_rfl) (by decide) (by kernel_rfl) (Or.inl ⟨?hg41, ?hy41⟩) (by assumption) ?rest41
  case hi41 => (simp only [List.getElem?_toArray, List.getElem?_cons_zero, List.getElem?_cons_succ]; exact rfl)
  case hQ41 => exact fun _ _ _ h => h
  case hg41 => rfl
  case hy41 => (intro w' hSw; (try dsimp only at hSw); go_simp; try with_reducible rfl)
  try simp only [Act.put, List.setIfInBounds_toArray, List.set_cons_zero, List.set_cons_succ]
  refine wpAnyC_take (i := 41) (oi := ?o42) (v := ?v42) ?hi42 (by kernel_rfl) (by kernel_rfl) (by kernel_rfl) ?hQ42 (by kernel_rfl) (by decide) (by kernel_rfl) (Or.inl ⟨?hg42, ?hy42⟩) (by assumption) ?rest42
  case hi42 => (simp only [List.getElem?_toArray, List.getElem?_cons_zero, List.getElem?_cons_succ]; exact rfl)
  case hQ42 => exact fun _ _ _ h => h
  case hg42 => rfl
  case hy42 => (intro w' hSw; (try dsimp only at hSw); go_simp; try with_reducible rfl)
  try simp only [Act.put, List.setIfInBounds_toArray, List.set_cons_zero, List.set_cons_succ]
  refine wpAnyC_take (i := 42) (oi := ?o43) (v := ?v43) ?hi43 (by kernel_rfl) (by kernel_rfl) (by kernel_rfl) ?hQ43 (by kernel_rfl) (by decide) (by kernel_rfl) (Or.inl ⟨?hg43, ?hy43⟩) (by assumption) ?rest43
  case hi43 => (simp only [List.getElem?_toArray, List.getElem?_cons_zero, List.getElem?_cons_succ]; exact rfl)
  case hQ43 => exact fun _ _ _ h => h
  case hg43 => rfl
  case hy43 => (intro w' hSw; (try dsimp only at hSw); go_simp; try with_reducible rfl)
  try simp only [Act.put, List.setIfInBounds_toArray, List.set_cons_zero, List.set_cons_succ]
  refine wpAnyC_take (i := 43) (oi := ?o44) (v := ?v44) ?hi44 (by kernel_rfl) (by kernel_rfl) (by kernel_rfl) ?hQ44 (by kernel_rfl) (by decide) (by kernel_rfl) (Or.inl ⟨?hg44, ?hy44⟩) (by assumption) ?rest44
  case hi44 => (simp only [List.getElem?_toArray, List.getElem?_cons_zero, List.getElem?_cons_succ]; exact rfl)
  case hQ44 => exact fun _ _ _ h => h
  case hg44 => rfl
  case hy44 => (intro w' hSw; (try dsimp only at hSw); go_simp; try with_reducible rfl)
  try simp only [Act.put, List.setIfInBounds_toArray, List.set_cons_zero, List.set_cons_succ]
  refine wpAnyC_take (i := 44) (oi := ?o45) (v := ?v45) ?hi45 (by kernel_rfl) (by kernel_rfl) (by kernel_rfl) ?hQ45 (by kernel_rfl) (by decide) (by kernel_rfl) (Or.inl ⟨?hg45, ?hy45⟩) (by assumption) ?rest45
  case hi45 => (simp only [List.getElem?_toArray, List.getElem?_cons_zero, List.getElem?_cons_succ]; exact rfl)
  case hQ45 => exact fun _ _ _ h => h
  case hg45 => rfl
  case hy45 => (intro w' hSw; (try dsimp only at hSw); go_simp; try with_reducible rfl)
  try simp only [Act.put, List.setIfInBounds_toArray, List.set_cons_zero, List.set_cons_succ]
  refine wpAnyC_take (i := 45) (oi := ?o46) (v := ?v46) ?hi46 (by kernel_rfl) (by kernel_rfl) (by kernel_rfl) ?hQ46 (by kernel_rfl) (by decide) (by kernel_rfl) (Or.inl ⟨?hg46, ?hy46⟩) (by assumption) ?rest46
  case hi46 => (simp only [List.getElem?_toArray, List.getElem?_cons_zero, List.getElem?_cons_succ]; exact rfl)
  case hQ46 => exact fun _ _ _ h => h
  case hg46 => rfl
  case hy46 => (intro w' hSw; (try dsimp only at hSw); go_simp; try with_reducible rfl)
  try simp only [Act.put, List.setIfInBounds_toArray, List.set_cons_zero, List.set_cons_succ]
  refine wpAnyC_take (i := 46) (oi := ?o47) (v := ?v47) ?hi47 (by kernel_rfl) (by kernel_rfl) (by kernel_rfl) ?hQ47 (by kernel_rfl) (by decide) (by kernel_rfl) (Or.inl ⟨?hg47, ?hy47⟩) (by assumption) ?rest47
  case hi47 => (simp only [List.getElem?_toArray, List.getElem?_cons_zero, List.getElem?_cons_succ]; exact rfl)
  case hQ47 => exact fun _ _ _ h => h
  case hg47 => rfl
  case hy47 => (intro w' hSw; (try dsimp only at hSw); go_simp; try with_reducible rfl)
  try simp only [Act.put, List.setIfInBounds_toArray, List.set_cons_zero, List.set_cons_succ]
  refine wpAnyC_take (i := 47) (oi := ?o48) (v := ?v48) ?hi48 (by kernel_rfl) (by kernel_rfl) (by kernel_rfl) ?hQ48 (by kernel_rfl) (by decide) (by kernel_rfl) (Or.inl ⟨?hg48, ?hy48⟩) (by assumption) ?rest48
  case hi48 => (simp only [List.getElem?_toArray, List.getElem?_cons_zero, List.getElem?_cons_succ]; exact rfl)
  case hQ48 => exact fun _ _ _ h => h
  case hg48 => rfl
  case hy48 => (intro w' hSw; (try dsimp only at hSw); go_simp; try with_reducible rfl)
  try simp only [Act.put, List.setIfInBounds_toArray, List.set_cons_zero, List.set_cons_succ]
  refine wpAnyC_take (i := 48) (oi := ?o49) (v := ?v49) ?hi49 (by kernel_rfl) (by kernel_rfl) (by kernel_rfl) ?hQ49 (by kernel_rfl) (by decide) (by kernel_rfl) (Or.inl ⟨?hg49, ?hy49⟩) (by assumption) ?rest49
  case hi49 => (simp only [List.getElem?_toArray, List.getElem?_cons_zero, List.getElem?_cons_succ]; exact rfl)
  case hQ49 => exact fun _ _ _ h => h
  case hg49 => rfl
  case hy49 => (intro w' hSw; (try dsimp only at hSw); go_simp; try with_reducible rfl)
  try simp only [Act.put, List.setIfInBounds_toArray, List.set_cons_zero, List.set_cons_succ]
  refine wpAnyC_take (i := 49) (oi := ?o50) (v := ?v50) ?hi50 (by kernel_rfl) (by kernel_rfl) (by kernel_rfl) ?hQ50 (by kernel_rfl) (by decide) (by kernel_rfl) (Or.inl ⟨?hg50, ?hy50⟩) (by assumption) ?rest50
  case hi50 => (simp only [List.getElem?_toArray, List.getElem?_cons_zero, List.getElem?_cons_succ]; exact rfl)
  case hQ50 => exact fun _ _ _ h => h
  case hg50 => rfl
  case hy50 => (intro w' hSw; (try dsimp only at hSw); go_simp; try with_reducible rfl)
  try simp only [Act.put, List.setIfInBounds_toArray, List.set_cons_zero, List.set_cons_succ]
  refine wpAnyC_take (i := 50) (oi := ?o51) (v := ?v51) ?hi51 (by kernel_rfl) (by kernel_rfl) (by kernel_rfl) ?hQ51 (by kernel_rfl) (by decide) (by kernel_rfl) (Or.inl ⟨?hg51, ?hy51⟩) (by assumption) ?rest51
  case hi51 => (simp only [List.getElem?_toArray, List.getElem?_cons_zero, List.getElem?_cons_succ]; exact rfl)
  case hQ51 => exact fun _ _ _ h => h
  case hg51 => rfl
  case hy51 => (intro w' hSw; (try dsimp only at hSw); go_simp; try with_reducible rfl)
  try simp only [Act.put, List.setIfInBounds_toArray, List.set_cons_zero, List.set_cons_succ]
  refine wpAnyC_take (i := 51) (oi := ?o52) (v := ?v52) ?hi52 (by kernel_rfl) (by kernel_rfl) (by kernel_rfl) ?hQ52 (by kernel_rfl) (by decide) (by kernel_rfl) (Or.inl ⟨?hg52, ?hy52⟩) (by assumption) ?rest52
  case hi52 => (simp only [List.getElem?_toArray, List.getElem?_cons_zero, List.getElem?_cons_succ]; exact rfl)
  case hQ52 => exact fun _ _ _ h => h
  case hg52 => rfl
  case hy52 => (intro w' hSw; (try dsimp only at hSw); go_simp; try with_reducible rfl)
  try simp only [Act.put, List.setIfInBounds_toArray, List.set_cons_zero, List.set_cons_succ]
  refine wpAnyC_take (i := 52) (oi := ?o53) (v := ?v53) ?hi53 (by kernel_rfl) (by kernel_rfl) (by kernel_rfl) ?hQ53 (by kernel_rfl) (by decide) (by kernel_rfl) (Or.inl ⟨?hg53, ?hy53⟩) (by assumption) ?rest53
  case hi53 => (simp only [List.getElem?_toArray, List.getElem?_cons_zero, List.getElem?_cons_succ]; exact rfl)
  case hQ53 => exact fun _ _ _ h => h
  case hg53 => rfl
  case hy53 => (intro w' hSw; (try dsimp only at hSw); go_simp; try with_reducible rfl)
  try simp only [Act.put, List.setIfInBounds_toArray, List.set_cons_zero, List.set_cons_succ]
  refine wpAnyC_take (i := 53) (oi := ?o54) (v := ?v54) ?hi54 (by kernel_rfl) (by kernel_rfl) (by kernel_rfl) ?hQ54 (by kernel_rfl) (by decide) (by kernel_rfl) (Or.inl ⟨?hg54, ?hy54⟩) (by assumption) ?rest54
  case hi54 => (simp only [List.getElem?_toArray, List.getElem?_cons_zero, List.getElem?_cons_succ]; exact rfl)
  case hQ54 => exact fun _ _ _ h => h
  case hg54 => rfl
  case hy54 => (intro w' hSw; (try dsimp only at hSw); go_simp; try with_reducible rfl)
  try simp only [Act.put, List.setIfInBounds_toArray, List.set_cons_zero, List.set_cons_succ]
  refine wpAnyC_take (i := 54) (oi := ?o55) (v := ?v55) ?hi55 (by kernel_rfl) (by kernel_rfl) (by kernel_rfl) ?hQ55 (by kernel_rfl) (by decide) (by kernel_rfl) (Or.inl ⟨?hg55, ?hy55⟩) (by assumption) ?rest55
  case hi55 => (simp only [List.getElem?_toArray, List.getElem?_cons_zero, List.getElem?_cons_succ]; exact rfl)
  case hQ55 => exact fun _ _ _ h => h
  case hg55 => rfl
  case hy55 => (intro w' hSw; (try dsimp only at hSw); go_simp; try with_reducible rfl)
  try simp only [Act.put, List.setIfInBounds_toArray, List.set_cons_zero, List.set_cons_succ]
  refine wpAnyC_take (i := 55) (oi := ?o56) (v := ?v56) ?hi56 (by kernel_rfl) (by kernel_rfl) (by kernel_rfl) ?hQ56 (by kernel_rfl) (by decide) (by kernel_rfl) (Or.inl ⟨?hg56, ?hy56⟩) (by assumption) ?rest56
  case hi56 => (simp only [List.getElem?_toArray, List.getElem?_cons_zero, List.getElem?_cons_succ]; exact rfl)
  case hQ56 => exact fun _ _ _ h => h
  case hg56 => rfl
  case hy56 => (intro w' hSw; (try dsimp only at hSw); go_simp; try with_reducible rfl)
  try simp only [Act.put, List.setIfInBounds_toArray, List.set_cons_zero, List.set_cons_succ]
  refine wpAnyC_take (i := 56) (oi := ?o57) (v := ?v57) ?hi57 (by kernel_rfl) (by kernel_rfl) (by kernel_rfl) ?hQ57 (by kernel_rfl) (by decide) (by kernel_rfl) (Or.inl ⟨?hg57, ?hy57⟩) (by assumption) ?rest57
  case hi57 => (simp only [List.getElem?_toArray, List.getElem?_cons_zero, List.getElem?_cons_succ]; exact rfl)
  case hQ57 => exact fun _ _ _ h => h
  case hg57 => rfl
  case hy57 => (intro w' hSw; (try dsimp only at hSw); go_simp; try with_reducible rfl)
  try simp only [Act.put, List.setIfInBounds_toArray, List.set_cons_zero, List.set_cons_succ]
  refine wpAnyC_take (i := 57) (oi := ?o58) (v := ?v58) ?hi58 (by kernel_rfl) (by kernel_rfl) (by kernel_rfl) ?hQ58 (by kernel_rfl) (by decide) (by kernel_rfl) (Or.inl ⟨?hg58, ?hy58⟩) (by assumption) ?rest58
  case hi58 => (simp only [List.getElem?_toArray, List.getElem?_cons_zero, List.getElem?_cons_succ]; exact rfl)
  case hQ58 => exact fun _ _ _ h => h
  case hg58 => rfl
  case hy58 => (intro w' hSw; (try dsimp only at hSw); go_simp; try with_reducible rfl)
  try simp only [Act.put, List.setIfInBounds_toArray, List.set_cons_zero, List.set_cons_succ]
  refine wpAnyC_take (i := 58) (oi := ?o59) (v := ?v59) ?hi59 (by kernel_rfl) (by kernel_rfl) (by kernel_rfl) ?hQ59 (by kernel_rfl) (by decide) (by kernel_rfl) (Or.inl ⟨?hg59, ?hy59⟩) (by assumption) ?rest59
  case hi59 => (simp only [List.getElem?_toArray, List.getElem?_cons_zero, List.getElem?_cons_succ]; exact rfl)
  case hQ59 => exact fun _ _ _ h => h
  case hg59 => rfl
  case hy59 => (intro w' hSw; (try dsimp only at hSw); go_simp; try with_reducible rfl)
  try simp only [Act.put, List.setIfInBounds_toArray, List.set_cons_zero, List.set_cons_succ]
  refine wpAnyC_take (i := 59) (oi := ?o60) (v := ?v60) ?hi60 (by kernel_rfl) (by kernel_rfl) (by kernel_rfl) ?hQ60 (by kernel_rfl) (by decide) (by kernel_rfl) (Or.inl ⟨?hg60, ?hy60⟩) (by assumption) ?rest60
  case hi60 => (simp only [List.getElem?_toArray, List.getElem?_cons_zero, List.getElem?_cons_succ]; exact rfl)
  case hQ60 => exact fun _ _ _ h => h
  case hg60 => rfl
  case hy60 => (intro w' hSw; (try dsimp only at hSw); go_simp; try with_reducible rfl)
  try simp only [Act.put, List.setIfInBounds_toArray, List.set_cons_zero, List.set_cons_succ]
  refine wpAnyC_take (i := 60) (oi := ?o61) (v := ?v61) ?hi61 (by kernel_rfl) (by kernel_rfl) (by kernel_rfl) ?hQ61 (by kernel_rfl) (by decide) (by kernel_rfl) (Or.inl ⟨?hg61, ?hy61⟩) (by assumption) ?rest61
  case hi61 => (simp only [List.getElem?_toArray, List.getElem?_cons_zero, List.getElem?_cons_succ]; exact rfl)
  case hQ61 => exact fun _ _ _ h => h
  case hg61 => rfl
  case hy61 => (intro w' hSw; (try dsimp only at hSw); go_simp; try with_reducible rfl)
  try simp only [Act.put, List.setIfInBounds_toArray, List.set_cons_zero, List.set_cons_succ]
  refine wpAnyC_take (i := 61) (oi := ?o62) (v := ?v62) ?hi62 (by kernel_rfl) (by kernel_rfl) (by kernel_rfl) ?hQ62 (by kernel_rfl) (by decide) (by kernel_rfl) (Or.inl ⟨?hg62, ?hy62⟩) (by assumption) ?rest62
  case hi62 => (simp only [List.getElem?_toArray, List.getElem?_cons_zero, List.getElem?_cons_succ]; exact rfl)
  case hQ62 => exact fun _ _ _ h => h
  case hg62 => rfl
  case hy62 => (intro w' hSw; (try dsimp only at hSw); go_simp; try with_reducible rfl)
  try simp only [Act.put, List.setIfInBounds_toArray, List.set_cons_zero, List.set_cons_succ]
  refine wpAnyC_take (i := 62) (oi := ?o63) (v := ?v63) ?hi63 (by kernel_rfl) (by kernel_rfl) (by kernel_rfl) ?hQ63 (by kernel_rfl) (by decide) (by kernel_rfl) (Or.inl ⟨?hg63, ?hy63⟩) (by assumption) ?rest63
  case hi63 => (simp only [List.getElem?_toArray, List.getElem?_cons_zero, List.getElem?_cons_succ]; exact rfl)
  case hQ63 => exact fun _ _ _ h => h
  case hg63 => rfl
  case hy63 => (intro w' hSw; (try dsimp only at hSw); go_simp; try with_reducible rfl)
  try simp only [Act.put, List.setIfInBounds_toArray, List.set_cons_zero, List.set_cons_succ]
  refine wpAnyC_take (i := 63) (oi := ?o64) (v := ?v64) ?hi64 (by kernel_rfl) (by kernel_rfl) (by kernel_rfl) ?hQ64 (by kernel_rfl) (by decide) (by kernel_rfl) (Or.inl ⟨?hg64, ?hy64⟩) (by assumption) ?rest64
  case hi64 => (simp only [List.getElem?_toArray, List.getElem?_cons_zero, List.getElem?_cons_succ]; exact rfl)
  case hQ64 => exact fun _ _ _ h => h
  case hg64 => rfl
  case hy64 => (intro w' hSw; (try dsimp only at hSw); go_simp; try with_reducible rfl)
  try simp only [Act.put, List.setIfInBounds_toArray, List.set_cons_zero, List.set_cons_succ]
  refine wpAnyC_take (i := 64) (oi := ?o65) (v := ?v65) ?hi65 (by kernel_rfl) (by kernel_rfl) (by kernel_rfl) ?hQ65 (by kernel_rfl) (by decide) (by kernel_rfl) (Or.inl ⟨?hg65, ?hy65⟩) (by assumption) ?rest65
  case hi65 => (simp only [List.getElem?_toArray, List.getElem?_cons_zero, List.getElem?_cons_succ]; exact rfl)
  case hQ65 => exact fun _ _ _ h => h
  case hg65 => rfl
  case hy65 => (intro w' hSw; (try dsimp only at hSw); go_simp; try with_reducible rfl)
  try simp only [Act.put, List.setIfInBounds_toArray, List.set_cons_zero, List.set_cons_succ]
  refine wpAnyC_take (i := 65) (oi := ?o66) (v := ?v66) ?hi66 (by kernel_rfl) (by kernel_rfl) (by kernel_rfl) ?hQ66 (by kernel_rfl) (by decide) (by kernel_rfl) (Or.inl ⟨?hg66, ?hy66⟩) (by assumption) ?rest66
  case hi66 => (simp only [List.getElem?_toArray, List.getElem?_cons_zero, List.getElem?_cons_succ]; exact rfl)
  case hQ66 => exact fun _ _ _ h => h
  case hg66 => rfl
  case hy66 => (intro w' hSw; (try dsimp only at hSw); go_simp; try with_reducible rfl)
  try simp only [Act.put, List.setIfInBounds_toArray, List.set_cons_zero, List.set_cons_succ]
  refine wpAnyC_take (i := 66) (oi := ?o67) (v := ?v67) ?hi67 (by kernel_rfl) (by kernel_rfl) (by kernel_rfl) ?hQ67 (by kernel_rfl) (by decide) (by kernel_rfl) (Or.inl ⟨?hg67, ?hy67⟩) (by assumption) ?rest67
  case hi67 => (simp only [List.getElem?_toArray, List.getElem?_cons_zero, List.getElem?_cons_succ]; exact rfl)
  case hQ67 => exact fun _ _ _ h => h
  case hg67 => rfl
  case hy67 => (intro w' hSw; (try dsimp only at hSw); go_simp; try with_reducible rfl)
  try simp only [Act.put, List.setIfInBounds_toArray, List.set_cons_zero, List.set_cons_succ]
  refine wpAnyC_take (i := 67) (oi := ?o68) (v := ?v68) ?hi68 (by kernel_rfl) (by kernel_rfl) (by kernel_rfl) ?hQ68 (by kernel_rfl) (by decide) (by kernel_rfl) (Or.inl ⟨?hg68, ?hy68⟩) (by assumption) ?rest68
  case hi68 => (simp only [List.getElem?_toArray, List.getElem?_cons_zero, List.getElem?_cons_succ]; exact rfl)
  case hQ68 => exact fun _ _ _ h => h
  case hg68 => rfl
  case hy68 => (intro w' hSw; (try dsimp only at hSw); go_simp; try with_reducible rfl)
  try simp only [Act.put, List.setIfInBounds_toArray, List.set_cons_zero, List.set_cons_succ]
  refine wpAnyC_take (i := 68) (oi := ?o69) (v := ?v69) ?hi69 (by kernel_rfl) (by kernel_rfl) (by kernel_rfl) ?hQ69 (by kernel_rfl) (by decide) (by kernel_rfl) (Or.inl ⟨?hg69, ?hy69⟩) (by assumption) ?rest69
  case hi69 => (simp only [List.getElem?_toArray, List.getElem?_cons_zero, List.getElem?_cons_succ]; exact rfl)
  case hQ69 => exact fun _ _ _ h => h
  case hg69 => rfl
  case hy69 => (intro w' hSw; (try dsimp only at hSw); go_simp; try with_reducible rfl)
  try simp only [Act.put, List.setIfInBounds_toArray, List.set_cons_zero, List.set_cons_succ]
  refine wpAnyC_take (i := 69) (oi := ?o70) (v := ?v70) ?hi70 (by kernel_rfl) (by kernel_rfl) (by kernel_rfl) ?hQ70 (by kernel_rfl) (by decide) (by kernel_rfl) (Or.inl ⟨?hg70, ?hy70⟩) (by assumption) ?rest70
  case hi70 => (simp only [List.getElem?_toArray, List.getElem?_cons_zero, List.getElem?_cons_succ]; exact rfl)
  case hQ70 => exact fun _ _ _ h => h
  case hg70 => rfl
  case hy70 => (intro w' hSw; (try dsimp only at hSw); go_simp; try with_reducible rfl)
  try simp only [Act.put, List.setIfInBounds_toArray, List.set_cons_zero, List.set_cons_succ]
  refine wpAnyC_take (i := 70) (oi := ?o71) (v := ?v71) ?hi71 (by kernel_rfl) (by kernel_rfl) (by kernel_rfl) ?hQ71 (by kernel_rfl) (by decide) (by kernel_rfl) (Or.inl ⟨?hg71, ?hy71⟩) (by assumption) ?rest71
  case hi71 => (simp only [List.getElem?_toArray, List.getElem?_cons_zero, List.getElem?_cons_succ]; exact rfl)
  case hQ71 => exact fun _ _ _ h => h
  case hg71 => rfl
  case hy71 => (intro w' hSw; (try dsimp only at hSw); go_simp; try with_reducible rfl)
  try simp only [Act.put, List.setIfInBounds_toArray, List.set_cons_zero, List.set_cons_succ]
  refine wpAnyC_one (i := 71) (oi := ?o72) ?hi72 (by kernel_rfl) ?step72
  case hi72 => (simp only [List.getElem?_toArray, List.getElem?_cons_zero, List.getElem?_cons_succ]; exact rfl)
  intro K' hK
  ((try go_simp); go_at_call 15; (with_reducible refine (LG.out _ (Below.refl _ _).drew).mono ?_); rintro x w21 ⟨A1, k1, rfl, o1, b21⟩; have B21 : Hid (Below W20.heap.size W20 w21) := Lib.hid ((Below.refl _ _).drew.trans b21.out))
  refine hK.out _ _ ?_ (fun hHeld => ?_)
  · exact fun _ => SK.out _ B21.out
  clear hK K' hHeld
  try simp only [Act.put, List.setIfInBounds_toArray, List.set_cons_zero, List.set_cons_succ]
  have hS1 : (fun w' : World => (w'.cell? ⟨Xs, 0, none⟩ = some (.int .i64 1) ∧ w'.cell? ⟨Xs, 1, none⟩ = some (.int .i64 0) ∧ w'.cell? ⟨Xs, 2, none⟩ = some (.bool false) ∧ w'.cell? ⟨Xs, 3, none⟩ = some (.int .i64 0)) ∧ (w'.cell? ⟨Xt, 0, none⟩ = some (.int .i64 1) ∧ w'.cell? ⟨Xt, 1, none⟩ = some (.int .i64 0) ∧ w'.cell? ⟨Xt, 2, none⟩ = some (.bool true) ∧ w'.cell? ⟨Xt, 3, none⟩ = some (.int .i64 5)) ∧ (w'.cell? ⟨Xu, 0, none⟩ = some (.int .i64 2) ∧ w'.cell? ⟨Xu, 1, none⟩ = some (.int .i64 0) ∧ w'.cell? ⟨Xu, 2, none⟩ = some (.bool true) ∧ w'.cell? ⟨Xu, 3, none⟩ = some (.int .i64 5)) ∧ (w'.cell? ⟨Xv, 0, none⟩ = some (.int .i64 1) ∧ w'.cell? ⟨Xv, 1, none⟩ = some (.int .i64 0) ∧ w'.cell? ⟨Xv, 2, none⟩ = some (.bool false) ∧ w'.cell? ⟨Xv, 3, none⟩ = some (.int .i64 7))) w21 := SK.out _ B21.out
  refine wpAnyC_take (i := 72) (oi := ?o73) (v := ?v73) ?hi73 (by kernel_rfl) (by kernel_rfl) (by kernel_rfl) ?hQ73 (by kernel_rfl) (by decide) (by kernel_rfl) (Or.inl ⟨?hg73, ?hy73⟩) (by assumption) ?rest73
  case hi73 => (simp only [List.getElem?_toArray, List.getElem?_cons_zero, List.getElem?_cons_succ]; exact rfl)
  case hQ73 => exact fun _ _ _ h => h
  case hg73 => rfl
  case hy73 => (intro w' hSw; (try dsimp only at hSw); go_simp; try with_reducible rfl)
  try simp only [Act.put, List.setIfInBounds_toArray, List.set_cons_zero, List.set_cons_succ]
  refine wpAnyC_take (i := 73) (oi := ?o74) (v := ?v74) ?hi74 (by kernel_rfl) (by kernel_rfl) (by kernel_rfl) ?hQ74 (by kernel_rfl) (by decide) (by kernel_rfl) (Or.inl ⟨?hg74, ?hy74⟩) (by assumption) ?rest74
  case hi74 => (simp only [List.getElem?_toArray, List.getElem?_cons_zero, List.getElem?_cons_succ]; exact rfl)
  case hQ74 => exact fun _ _ _ h => h
  case hg74 => rfl
  case hy74 => (intro w' hSw; (try dsimp only at hSw); go_simp; try with_reducible rfl)
  try simp only [Act.put, List.setIfInBounds_toArray, List.set_cons_zero, List.set_cons_succ]
  refine wpAnyC_take (i := 74) (oi := ?o75) (v := ?v75) ?hi75 (by kernel_rfl) (by kernel_rfl) (by kernel_rfl) ?hQ75 (by kernel_rfl) (by decide) (by kernel_rfl) (Or.inl ⟨?hg75, ?hy75⟩) (by assumption) ?rest75
  case hi75 => (simp only [List.getElem?_toArray, List.getElem?_cons_zero, List.getElem?_cons_succ]; exact rfl)
  case hQ75 => exact fun _ _ _ h => h
  case hg75 => rfl
  case hy75 => (intro w' hSw; (try dsimp only at hSw); go_simp; try with_reducible rfl)
  try simp only [Act.put, List.setIfInBounds_toArray, List.set_cons_zero, List.set_cons_succ]
  refine wpAnyC_take (i := 75) (oi := ?o76) (v := ?v76) ?hi76 (by kernel_rfl) (by kernel_rfl) (by kernel_rfl) ?hQ76 (by kernel_rfl) (by decide) (by kernel_rfl) (Or.inl ⟨?hg76, ?hy76⟩) (by assumption) ?rest76
  case hi76 => (simp only [List.getElem?_toArray, List.getElem?_cons_zero, List.getElem?_cons_succ]; exact rfl)
  case hQ76 => exact fun _ _ _ h => h
  case hg76 => rfl
  case hy76 => (intro w' hSw; (try dsimp only at hSw); go_simp; try with_reducible rfl)
  try simp only [Act.put, List.setIfInBounds_toArray, List.set_cons_zero, List.set_cons_succ]
  refine wpAnyC_take (i := 76) (oi := ?o77) (v := ?v77) ?hi77 (by kernel_rfl) (by kernel_rfl) (by kernel_rfl) ?hQ77 (by kernel_rfl) (by decide) (by kernel_rfl) (Or.inl ⟨?hg77, ?hy77⟩) (by assumption) ?rest77
  case hi77 => (simp only [List.getElem?_toArray, List.getElem?_cons_zero, List.getElem?_cons_succ]; exact rfl)
  case hQ77 => exact fun _ _ _ h => h
  case hg77 => rfl
  case hy77 => (intro w' hSw; (try dsimp only at hSw); go_simp; try with_reducible rfl)
  try simp only [Act.put, List.setIfInBounds_toArray, List.set_cons_zero, List.set_cons_succ]
  refine wpAnyC_take (i := 80) (oi := ?o78) (v := ?v78) ?hi78 (by kernel_rfl) (by kernel_rfl) (by kernel_rfl) ?hQ78 (by kernel_rfl) (by decide) (by kernel_rfl) (Or.inl ⟨?hg78, ?hy78⟩) (by assumption) ?rest78
  case hi78 => (simp only [List.getElem?_toArray, List.getElem?_cons_zero, List.getElem?_cons_succ]; exact rfl)
  case hQ78 => exact fun _ _ _ h => h
  case hg78 => rfl
  case hy78 => (intro w' hSw; (try dsimp only at hSw); go_simp; try with_reducible rfl)
  try simp only [Act.put, List.setIfInBounds_toArray, List.set_cons_zero, List.set_cons_succ]
  refine wpAnyC_one (i := 77) (oi := ?o79) ?hi79 (by kernel_rfl) ?step79
  case hi79 => (simp only [List.getElem?_toArray, List.getElem?_cons_zero, List.getElem?_cons_succ]; exact rfl)
  intro K' hK
  ((try go_simp); go_at_call 15; (with_reducible refine (LG.out _ B21.out).mono ?_); rintro x w22 ⟨A2, k2, rfl, o2, b22⟩; have B22 : Hid (Below W20.heap.size W20 w22) := Lib.hid (B21.out.trans (b22.out.mono B21.out.size)))
  refine hK.out _ _ ?_ (fun hHeld => ?_)
  · exact fun _ => SK.out _ B22.out
  clear hK K' hHeld
  try simp only [Act.put, List.setIfInBounds_toArray, List.set_cons_zero, List.set_cons_succ]
  have hS2 : (fun w' : World => (w'.cell? ⟨Xs, 0, none⟩ = some (.int .i64 1) ∧ w'.cell? ⟨Xs, 1, none⟩ = some (.int .i64 0) ∧ w'.cell? ⟨Xs, 2, none⟩ = some (.bool false) ∧ w'.cell? ⟨Xs, 3, none⟩ = some (.int .i64 0)) ∧ (w'.cell? ⟨Xt, 0, none⟩ = some (.int .i64 1) ∧ w'.cell? ⟨Xt, 1, none⟩ = some (.int .i64 0) ∧ w'.cell? ⟨Xt, 2, none⟩ = some (.bool true) ∧ w'.cell? ⟨Xt, 3, none⟩ = some (.int .i64 5)) ∧ (w'.cell? ⟨Xu, 0, none⟩ = some (.int .i64 2) ∧ w'.cell? ⟨Xu, 1, none⟩ = some (.int .i64 0) ∧ w'.cell? ⟨Xu, 2, none⟩ = some (.bool true) ∧ w'.cell? ⟨Xu, 3, none⟩ = some (.int .i64 5)) ∧ (w'.cell? ⟨Xv, 0, none⟩ = some (.int .i64 1) ∧ w'.cell? ⟨Xv, 1, none⟩ = some (.int .i64 0) ∧ w'.cell? ⟨Xv, 2, none⟩ = some (.bool false) ∧ w'.cell? ⟨Xv, 3, none⟩ = some (.int .i64 7))) w22 := SK.out _ B22.out
  obtain ⟨r, rfl, -, hr⟩ := o2.out.shape (by decide)
  have hrc := row_cells o2.out (i := 1) (by decide)
  obtain ⟨r0, r1, r2, r3⟩ := hrc
  simp only [Nat.one_mul] at r0 r1 r2 r3
  refine wpAnyC_take (i := 78) (oi := ?o80) (v := ?v80) ?hi80 (by kernel_rfl) (by kernel_rfl) (by kernel_rfl) ?hQ80 (by kernel_rfl) (by decide) (by kernel_rfl) (Or.inl ⟨?hg80, ?hy80⟩) (by assumption) ?rest80
  case hi80 => (simp only [List.getElem?_toArray, List.getElem?_cons_zero, List.getElem?_cons_succ]; exact rfl)
  case hQ80 => exact fun _ _ _ h => h
  case hg80 => rfl
  case hy80 => (intro w' hSw; (try dsimp only at hSw); go_simp; try with_reducible rfl)
  try simp only [Act.put, List.setIfInBounds_toArray, List.set_cons_zero, List.set_cons_succ]
  refine wpAnyC_one (i := 79) (oi := ?o81) ?hi81 (by kernel_rfl) ?step81
  case hi81 => (simp only [List.getElem?_toArray, List.getElem?_cons_zero, List.getElem?_cons_succ]; exact rfl)
  intro K' hK
  go_simp
  refine hK.out _ _ ?_ (fun hHeld => ?_)
  · exact fun _ => SK.out _ B22.out
  clear hK K' hHeld
  try simp only [Act.put, List.setIfInBounds_toArray, List.set_cons_zero, List.set_cons_succ]
  refine wpAnyC_take (i := 81) (oi := ?o82) (v := ?v82) ?hi82 (by kernel_rfl) (by kernel_rfl) (by kernel_rfl) ?hQ82 (by kernel_rfl) (by decide) (by kernel_rfl) (Or.inl ⟨?hg82, ?hy82⟩) (by assumption) ?rest82
  case hi82 => (simp only [List.getElem?_toArray, List.getElem?_cons_zero, List.getElem?_cons_succ]; exact rfl)
  case hQ82 => exact fun _ _ _ h => h
  case hg82 => rfl
  case hy82 => (intro w' hSw; (try dsimp only at hSw); go_simp; try with_reducible rfl)
  try simp only [Act.put, List.setIfInBounds_toArray, List.set_cons_zero, List.set_cons_succ]
  refine wpAnyC_take (i := 82) (oi := ?o83) (v := ?v83) ?hi83 (by kernel_rfl) (by kernel_rfl) (by kernel_rfl) ?hQ83 (by kernel_rfl) (by decide) (by kernel_rfl) (Or.inl ⟨?hg83, ?hy83⟩) (by assumption) ?rest83
  case hi83 => (simp only [List.getElem?_toArray, List.getElem?_cons_zero, List.getElem?_cons_succ]; exact rfl)
  case hQ83 => exact fun _ _ _ h => h
  case hg83 => rfl
  case hy83 => (intro w' hSw; (try dsimp only at hSw); go_simp; try with_reducible rfl)
  try simp only [Act.put, List.setIfInBounds_toArray, List.set_cons_zero, List.set_cons_succ]
  refine wpAnyC_one (i := 83) (oi := ?o84) ?hi84 (by kernel_rfl) ?step84
  case hi84 => (simp only [List.getElem?_toArray, List.getElem?_cons_zero, List.getElem?_cons_succ]; exact rfl)
  intro K' hK
  go_simp
  refine hK.out _ _ ?_ (fun hHeld => ?_)
  · exact fun h => (by cases h)
  clear hK K' hHeld
  try simp only [Act.put, List.setIfInBounds_toArray, List.set_cons_zero, List.set_cons_succ]
  refine wpAnyC_done (by kernel_rfl) ?_ _
  go_wp2
  go_ret
  exact ⟨rfl, B.out.trans (B22.out.mono B.out.size)⟩
end Go.Proofs.Ytjagkolagmlakaa
