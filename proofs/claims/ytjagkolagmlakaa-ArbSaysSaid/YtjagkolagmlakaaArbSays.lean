/-
  The law ArbSays: Lead, Alone and Both make of any state what the reference makes of it.
-/
import Derived.Test.YtjagkolagmlakaaArbAwake
import Derived.Test.YtjagkolagmlakaaArbRef
import Derived.Test.YtjagkolagmlakaaArbRefLead
namespace Go.Proofs.Ytjagkolagmlakaa
open Go.RowKit
theorem rst_guard : Try.prog.eqGuardType Try.prog.depth 34 = false := by kernel_rfl
theorem rst_eql (s t : Ar.S) (W : World) : (binOp .eql 34 s.val t.val).run Try.prog W = .ok (.bool (Ar.eqS s t)) W := by
  have hS : Try.prog.underlying 34 = some (.struct (Try.prog.fieldsOf 34)) := by kernel_rfl
  have hp : Try.prog.stoodInHeld 34 = false := by kernel_rfl
  have u2 := Try.underlying2
  have u3 := Try.underlying3
  have u4 := Try.underlying4
  obtain ⟨a, b, c, d⟩ := s
  obtain ⟨a', b', c', d'⟩ := t
  simp only [Ar.S.val, Ar.eqS]
  rw [run_eql_struct, show (10000 : Nat) = 9999 + 1 from rfl, run_equalIn_agg W 9999 34 _ _ hS hp]
  simp only [Program.fieldsOf, Try.underlying34]
  go_simp
  by_cases h1 : a = a' <;> by_cases h2 : b = b' <;> by_cases h3 : c = c' <;> by_cases h4 : d = d' <;> simp [h1, h2, h3, h4]
theorem eqS_refl (s : Ar.S) : Ar.eqS s s = true := by unfold Ar.eqS; simp
set_option maxHeartbeats 8000000 in
set_option maxRecDepth 20000 in
theorem says_walk (e h : Int) (so : Bool) (f who ep fl : Int) (w : World) : Calls Try.prog 4 #[.agg #[.int .i64 e, .int .i64 h, .bool so, .int .i64 f], .int .i64 who, .int .i64 ep, .int .i64 fl] w fun x w' => x = .returned (.bool true) ∧ Below w.heap.size w w' := by
  obtain ⟨rA, hA⟩ : ∃ r, r = Ar.leadV ⟨e, h, so, f⟩ who := ⟨_, rfl⟩
  obtain ⟨kA, gA⟩ : ∃ k, k = Ar.okL ⟨e, h, so, f⟩ who := ⟨_, rfl⟩
  obtain ⟨Ae, Ah, As, Af⟩ := rA
  have PA : Hid (∀ W, Calls Try.prog 10 #[.agg #[.int .i64 e, .int .i64 h, .bool so, .int .i64 f], .int .i64 who] W (TwoB W Ae Ah As Af kA)) := Lib.hid fun W => by have := lead_any e h so f who W; rw [← hA, ← gA] at this; exact this
  have RA : Hid (∀ W, Calls Try.prog 16 #[.agg #[.int .i64 e, .int .i64 h, .bool so, .int .i64 f], .int .i64 who] W (TwoB W Ae Ah As Af kA)) := Lib.hid fun W => by have := rlead_any e h so f who W; rw [← hA, ← gA] at this; exact this
  clear hA gA
  obtain ⟨rC, hC⟩ : ∃ r, r = Ar.turnV ⟨e, h, so, f⟩ true who ep fl := ⟨_, rfl⟩
  obtain ⟨kC, gC⟩ : ∃ k, k = Ar.okT ⟨e, h, so, f⟩ true who ep fl := ⟨_, rfl⟩
  obtain ⟨Ce, Ch, Cs, Cf⟩ := rC
  have PC : Hid (∀ W, Calls Try.prog 13 #[.agg #[.int .i64 e, .int .i64 h, .bool so, .int .i64 f], .int .i64 who, .int .i64 ep, .int .i64 fl] W (TwoB W Ce Ch Cs Cf kC)) := Lib.hid fun W => by have := alone_any e h so f who ep fl W; rw [← hC, ← gC] at this; exact this
  have RC : Hid (∀ W, Calls Try.prog 18 #[.agg #[.int .i64 e, .int .i64 h, .bool so, .int .i64 f], .int .i64 who, .int .i64 ep, .int .i64 fl] W (TwoB W Ce Ch Cs Cf kC)) := Lib.hid fun W => by have := ralone_any e h so f who ep fl W; rw [← hC, ← gC] at this; exact this
  clear hC gC
  obtain ⟨rE, hE⟩ : ∃ r, r = Ar.turnV ⟨e, h, so, f⟩ false who ep fl := ⟨_, rfl⟩
  obtain ⟨kE, gE⟩ : ∃ k, k = Ar.okT ⟨e, h, so, f⟩ false who ep fl := ⟨_, rfl⟩
  obtain ⟨Ee, Eh, Es, Ef⟩ := rE
  have PE : Hid (∀ W, Calls Try.prog 14 #[.agg #[.int .i64 e, .int .i64 h, .bool so, .int .i64 f], .int .i64 who, .int .i64 ep, .int .i64 fl] W (TwoB W Ee Eh Es Ef kE)) := Lib.hid fun W => by have := both_any e h so f who ep fl W; rw [← hE, ← gE] at this; exact this
  have RE : Hid (∀ W, Calls Try.prog 19 #[.agg #[.int .i64 e, .int .i64 h, .bool so, .int .i64 f], .int .i64 who, .int .i64 ep, .int .i64 fl] W (TwoB W Ee Eh Es Ef kE)) := Lib.hid fun W => by have := rboth_any e h so f who ep fl W; rw [← hE, ← gE] at this; exact this
  clear hE gE
  have OW : Hid (∀ (a b : Int) (c : Bool) (d : Int) (W : World), Calls Try.prog 17 #[.agg #[.int .i64 a, .int .i64 b, .bool c, .int .i64 d]] W (OneB W a b c d)) := Lib.hid own_any
  go_enter Try.func4, Try.ntmps4
  go_upto_region 1 with fail
  obtain ⟨W0, hW0⟩ : ∃ W0, W0 = w.alloc (.cells #[.int .i64 e, .int .i64 h, .bool so, .int .i64 f] 26) := ⟨_, rfl⟩
  obtain ⟨X0, hX0⟩ : ∃ X0, X0 = w.heap.size := ⟨_, rfl⟩
  have P0 : Hid (W0.heap[X0]? = some (.cells #[.int .i64 e, .int .i64 h, .bool so, .int .i64 f] 26 (0, 0))) := Lib.hid (by rw [hW0, hX0]; exact heap_alloc_new _ _)
  have B : Hid (Below w.heap.size w W0) := Lib.hid (by rw [hW0]; exact (Below.refl _ _).alloc (Nat.le_refl _) _)
  rw [← hW0, ← hX0]
  clear hW0 hX0
  go_wp2_with fail
  (with_reducible refine (awake_any _).mono ?_); rintro x w1 ⟨rfl, b1⟩
  have P0 : Hid (w1.heap[X0]? = _) := Lib.hid ((b1.out.block _ (lt_of_block P0.out)).trans P0.out)
  have B : Hid (Below w.heap.size w w1) := Lib.hid (B.out.trans (b1.out.mono B.out.size))
  clear b1
  obtain ⟨⟨c0, c1, c2, c3⟩, -⟩ := obj4 P0.out
  go_wp2_with fail
  (with_reducible refine (PA.out _).mono ?_); rintro x w2 ⟨rfl, b2⟩
  clear c0 c1 c2 c3
  have P0 : Hid (w2.heap[X0]? = _) := Lib.hid ((b2.out.block _ (lt_of_block P0.out)).trans P0.out)
  have B : Hid (Below w.heap.size w w2) := Lib.hid (B.out.trans (b2.out.mono B.out.size))
  clear b2 PA
  go_upto_region 4 with fail
  obtain ⟨W2, hW⟩ : ∃ W, W = w2.alloc (.cells #[.int .i64 Ae, .int .i64 Ah, .bool As, .int .i64 Af] 26) := ⟨_, rfl⟩
  obtain ⟨XAP, hX⟩ : ∃ X, X = w2.heap.size := ⟨_, rfl⟩
  have QAP : Hid (W2.heap[XAP]? = some (.cells #[.int .i64 Ae, .int .i64 Ah, .bool As, .int .i64 Af] 26 (0, 0))) := Lib.hid (by rw [hW, hX]; exact heap_alloc_new _ _)
  have b2 : Hid (Below w2.heap.size w2 W2) := Lib.hid (by rw [hW]; exact (Below.refl _ _).alloc (Nat.le_refl _) _)
  rw [← hW, ← hX]
  clear hW hX
  have P0 : Hid (W2.heap[X0]? = _) := Lib.hid ((b2.out.block _ (lt_of_block P0.out)).trans P0.out)
  have B : Hid (Below w.heap.size w W2) := Lib.hid (B.out.trans (b2.out.mono B.out.size))
  clear b2
  obtain ⟨⟨c0, c1, c2, c3⟩, -⟩ := obj4 P0.out
  go_wp2_with fail
  (with_reducible refine (OW.out _ _ _ _ _).mono ?_); rintro x w3 ⟨rfl, b3⟩
  clear c0 c1 c2 c3
  have P0 : Hid (w3.heap[X0]? = _) := Lib.hid ((b3.out.block _ (lt_of_block P0.out)).trans P0.out)
  have QAP : Hid (w3.heap[XAP]? = _) := Lib.hid ((b3.out.block _ (lt_of_block QAP.out)).trans QAP.out)
  have B : Hid (Below w.heap.size w w3) := Lib.hid (B.out.trans (b3.out.mono B.out.size))
  clear b3
  go_wp2_with fail
  (with_reducible refine (RA.out _).mono ?_); rintro x w4 ⟨rfl, b4⟩
  have P0 : Hid (w4.heap[X0]? = _) := Lib.hid ((b4.out.block _ (lt_of_block P0.out)).trans P0.out)
  have QAP : Hid (w4.heap[XAP]? = _) := Lib.hid ((b4.out.block _ (lt_of_block QAP.out)).trans QAP.out)
  have B : Hid (Below w.heap.size w w4) := Lib.hid (B.out.trans (b4.out.mono B.out.size))
  clear b4 RA
  go_upto_region 5 with fail
  obtain ⟨W4, hW⟩ : ∃ W, W = w4.alloc (.cells #[.int .i64 Ae, .int .i64 Ah, .bool As, .int .i64 Af] 34) := ⟨_, rfl⟩
  obtain ⟨XAR, hX⟩ : ∃ X, X = w4.heap.size := ⟨_, rfl⟩
  have QAR : Hid (W4.heap[XAR]? = some (.cells #[.int .i64 Ae, .int .i64 Ah, .bool As, .int .i64 Af] 34 (0, 0))) := Lib.hid (by rw [hW, hX]; exact heap_alloc_new _ _)
  have b4 : Hid (Below w4.heap.size w4 W4) := Lib.hid (by rw [hW]; exact (Below.refl _ _).alloc (Nat.le_refl _) _)
  rw [← hW, ← hX]
  clear hW hX
  have P0 : Hid (W4.heap[X0]? = _) := Lib.hid ((b4.out.block _ (lt_of_block P0.out)).trans P0.out)
  have QAP : Hid (W4.heap[XAP]? = _) := Lib.hid ((b4.out.block _ (lt_of_block QAP.out)).trans QAP.out)
  have B : Hid (Below w.heap.size w W4) := Lib.hid (B.out.trans (b4.out.mono B.out.size))
  clear b4
  obtain ⟨⟨c0, c1, c2, c3⟩, -⟩ := obj4 P0.out
  go_wp2_with fail
  (with_reducible refine (PC.out _).mono ?_); rintro x w5 ⟨rfl, b5⟩
  clear c0 c1 c2 c3
  have P0 : Hid (w5.heap[X0]? = _) := Lib.hid ((b5.out.block _ (lt_of_block P0.out)).trans P0.out)
  have QAP : Hid (w5.heap[XAP]? = _) := Lib.hid ((b5.out.block _ (lt_of_block QAP.out)).trans QAP.out)
  have QAR : Hid (w5.heap[XAR]? = _) := Lib.hid ((b5.out.block _ (lt_of_block QAR.out)).trans QAR.out)
  have B : Hid (Below w.heap.size w w5) := Lib.hid (B.out.trans (b5.out.mono B.out.size))
  clear b5 PC
  go_upto_region 6 with fail
  obtain ⟨W5, hW⟩ : ∃ W, W = w5.alloc (.cells #[.int .i64 Ce, .int .i64 Ch, .bool Cs, .int .i64 Cf] 26) := ⟨_, rfl⟩
  obtain ⟨XCP, hX⟩ : ∃ X, X = w5.heap.size := ⟨_, rfl⟩
  have QCP : Hid (W5.heap[XCP]? = some (.cells #[.int .i64 Ce, .int .i64 Ch, .bool Cs, .int .i64 Cf] 26 (0, 0))) := Lib.hid (by rw [hW, hX]; exact heap_alloc_new _ _)
  have b5 : Hid (Below w5.heap.size w5 W5) := Lib.hid (by rw [hW]; exact (Below.refl _ _).alloc (Nat.le_refl _) _)
  rw [← hW, ← hX]
  clear hW hX
  have P0 : Hid (W5.heap[X0]? = _) := Lib.hid ((b5.out.block _ (lt_of_block P0.out)).trans P0.out)
  have QAP : Hid (W5.heap[XAP]? = _) := Lib.hid ((b5.out.block _ (lt_of_block QAP.out)).trans QAP.out)
  have QAR : Hid (W5.heap[XAR]? = _) := Lib.hid ((b5.out.block _ (lt_of_block QAR.out)).trans QAR.out)
  have B : Hid (Below w.heap.size w W5) := Lib.hid (B.out.trans (b5.out.mono B.out.size))
  clear b5
  obtain ⟨⟨c0, c1, c2, c3⟩, -⟩ := obj4 P0.out
  go_wp2_with fail
  (with_reducible refine (OW.out _ _ _ _ _).mono ?_); rintro x w6 ⟨rfl, b6⟩
  clear c0 c1 c2 c3
  have P0 : Hid (w6.heap[X0]? = _) := Lib.hid ((b6.out.block _ (lt_of_block P0.out)).trans P0.out)
  have QAP : Hid (w6.heap[XAP]? = _) := Lib.hid ((b6.out.block _ (lt_of_block QAP.out)).trans QAP.out)
  have QAR : Hid (w6.heap[XAR]? = _) := Lib.hid ((b6.out.block _ (lt_of_block QAR.out)).trans QAR.out)
  have QCP : Hid (w6.heap[XCP]? = _) := Lib.hid ((b6.out.block _ (lt_of_block QCP.out)).trans QCP.out)
  have B : Hid (Below w.heap.size w w6) := Lib.hid (B.out.trans (b6.out.mono B.out.size))
  clear b6
  go_wp2_with fail
  (with_reducible refine (RC.out _).mono ?_); rintro x w7 ⟨rfl, b7⟩
  have P0 : Hid (w7.heap[X0]? = _) := Lib.hid ((b7.out.block _ (lt_of_block P0.out)).trans P0.out)
  have QAP : Hid (w7.heap[XAP]? = _) := Lib.hid ((b7.out.block _ (lt_of_block QAP.out)).trans QAP.out)
  have QAR : Hid (w7.heap[XAR]? = _) := Lib.hid ((b7.out.block _ (lt_of_block QAR.out)).trans QAR.out)
  have QCP : Hid (w7.heap[XCP]? = _) := Lib.hid ((b7.out.block _ (lt_of_block QCP.out)).trans QCP.out)
  have B : Hid (Below w.heap.size w w7) := Lib.hid (B.out.trans (b7.out.mono B.out.size))
  clear b7 RC
  go_upto_region 7 with fail
  obtain ⟨W7, hW⟩ : ∃ W, W = w7.alloc (.cells #[.int .i64 Ce, .int .i64 Ch, .bool Cs, .int .i64 Cf] 34) := ⟨_, rfl⟩
  obtain ⟨XCR, hX⟩ : ∃ X, X = w7.heap.size := ⟨_, rfl⟩
  have QCR : Hid (W7.heap[XCR]? = some (.cells #[.int .i64 Ce, .int .i64 Ch, .bool Cs, .int .i64 Cf] 34 (0, 0))) := Lib.hid (by rw [hW, hX]; exact heap_alloc_new _ _)
  have b7 : Hid (Below w7.heap.size w7 W7) := Lib.hid (by rw [hW]; exact (Below.refl _ _).alloc (Nat.le_refl _) _)
  rw [← hW, ← hX]
  clear hW hX
  have P0 : Hid (W7.heap[X0]? = _) := Lib.hid ((b7.out.block _ (lt_of_block P0.out)).trans P0.out)
  have QAP : Hid (W7.heap[XAP]? = _) := Lib.hid ((b7.out.block _ (lt_of_block QAP.out)).trans QAP.out)
  have QAR : Hid (W7.heap[XAR]? = _) := Lib.hid ((b7.out.block _ (lt_of_block QAR.out)).trans QAR.out)
  have QCP : Hid (W7.heap[XCP]? = _) := Lib.hid ((b7.out.block _ (lt_of_block QCP.out)).trans QCP.out)
  have B : Hid (Below w.heap.size w W7) := Lib.hid (B.out.trans (b7.out.mono B.out.size))
  clear b7
  obtain ⟨⟨c0, c1, c2, c3⟩, -⟩ := obj4 P0.out
  go_wp2_with fail
  (with_reducible refine (PE.out _).mono ?_); rintro x w8 ⟨rfl, b8⟩
  clear c0 c1 c2 c3
  have P0 : Hid (w8.heap[X0]? = _) := Lib.hid ((b8.out.block _ (lt_of_block P0.out)).trans P0.out)
  have QAP : Hid (w8.heap[XAP]? = _) := Lib.hid ((b8.out.block _ (lt_of_block QAP.out)).trans QAP.out)
  have QAR : Hid (w8.heap[XAR]? = _) := Lib.hid ((b8.out.block _ (lt_of_block QAR.out)).trans QAR.out)
  have QCP : Hid (w8.heap[XCP]? = _) := Lib.hid ((b8.out.block _ (lt_of_block QCP.out)).trans QCP.out)
  have QCR : Hid (w8.heap[XCR]? = _) := Lib.hid ((b8.out.block _ (lt_of_block QCR.out)).trans QCR.out)
  have B : Hid (Below w.heap.size w w8) := Lib.hid (B.out.trans (b8.out.mono B.out.size))
  clear b8 PE
  go_upto_region 8 with fail
  obtain ⟨W8, hW⟩ : ∃ W, W = w8.alloc (.cells #[.int .i64 Ee, .int .i64 Eh, .bool Es, .int .i64 Ef] 26) := ⟨_, rfl⟩
  obtain ⟨XEP, hX⟩ : ∃ X, X = w8.heap.size := ⟨_, rfl⟩
  have QEP : Hid (W8.heap[XEP]? = some (.cells #[.int .i64 Ee, .int .i64 Eh, .bool Es, .int .i64 Ef] 26 (0, 0))) := Lib.hid (by rw [hW, hX]; exact heap_alloc_new _ _)
  have b8 : Hid (Below w8.heap.size w8 W8) := Lib.hid (by rw [hW]; exact (Below.refl _ _).alloc (Nat.le_refl _) _)
  rw [← hW, ← hX]
  clear hW hX
  have P0 : Hid (W8.heap[X0]? = _) := Lib.hid ((b8.out.block _ (lt_of_block P0.out)).trans P0.out)
  have QAP : Hid (W8.heap[XAP]? = _) := Lib.hid ((b8.out.block _ (lt_of_block QAP.out)).trans QAP.out)
  have QAR : Hid (W8.heap[XAR]? = _) := Lib.hid ((b8.out.block _ (lt_of_block QAR.out)).trans QAR.out)
  have QCP : Hid (W8.heap[XCP]? = _) := Lib.hid ((b8.out.block _ (lt_of_block QCP.out)).trans QCP.out)
  have QCR : Hid (W8.heap[XCR]? = _) := Lib.hid ((b8.out.block _ (lt_of_block QCR.out)).trans QCR.out)
  have B : Hid (Below w.heap.size w W8) := Lib.hid (B.out.trans (b8.out.mono B.out.size))
  clear b8
  obtain ⟨⟨c0, c1, c2, c3⟩, -⟩ := obj4 P0.out
  go_wp2_with fail
  (with_reducible refine (OW.out _ _ _ _ _).mono ?_); rintro x w9 ⟨rfl, b9⟩
  clear c0 c1 c2 c3
  have P0 : Hid (w9.heap[X0]? = _) := Lib.hid ((b9.out.block _ (lt_of_block P0.out)).trans P0.out)
  have QAP : Hid (w9.heap[XAP]? = _) := Lib.hid ((b9.out.block _ (lt_of_block QAP.out)).trans QAP.out)
  have QAR : Hid (w9.heap[XAR]? = _) := Lib.hid ((b9.out.block _ (lt_of_block QAR.out)).trans QAR.out)
  have QCP : Hid (w9.heap[XCP]? = _) := Lib.hid ((b9.out.block _ (lt_of_block QCP.out)).trans QCP.out)
  have QCR : Hid (w9.heap[XCR]? = _) := Lib.hid ((b9.out.block _ (lt_of_block QCR.out)).trans QCR.out)
  have QEP : Hid (w9.heap[XEP]? = _) := Lib.hid ((b9.out.block _ (lt_of_block QEP.out)).trans QEP.out)
  have B : Hid (Below w.heap.size w w9) := Lib.hid (B.out.trans (b9.out.mono B.out.size))
  clear b9
  go_wp2_with fail
  (with_reducible refine (RE.out _).mono ?_); rintro x w10 ⟨rfl, b10⟩
  have P0 : Hid (w10.heap[X0]? = _) := Lib.hid ((b10.out.block _ (lt_of_block P0.out)).trans P0.out)
  have QAP : Hid (w10.heap[XAP]? = _) := Lib.hid ((b10.out.block _ (lt_of_block QAP.out)).trans QAP.out)
  have QAR : Hid (w10.heap[XAR]? = _) := Lib.hid ((b10.out.block _ (lt_of_block QAR.out)).trans QAR.out)
  have QCP : Hid (w10.heap[XCP]? = _) := Lib.hid ((b10.out.block _ (lt_of_block QCP.out)).trans QCP.out)
  have QCR : Hid (w10.heap[XCR]? = _) := Lib.hid ((b10.out.block _ (lt_of_block QCR.out)).trans QCR.out)
  have QEP : Hid (w10.heap[XEP]? = _) := Lib.hid ((b10.out.block _ (lt_of_block QEP.out)).trans QEP.out)
  have B : Hid (Below w.heap.size w w10) := Lib.hid (B.out.trans (b10.out.mono B.out.size))
  clear b10 RE
  go_upto_region 9 with fail
  obtain ⟨W10, hW⟩ : ∃ W, W = w10.alloc (.cells #[.int .i64 Ee, .int .i64 Eh, .bool Es, .int .i64 Ef] 34) := ⟨_, rfl⟩
  obtain ⟨XER, hX⟩ : ∃ X, X = w10.heap.size := ⟨_, rfl⟩
  have QER : Hid (W10.heap[XER]? = some (.cells #[.int .i64 Ee, .int .i64 Eh, .bool Es, .int .i64 Ef] 34 (0, 0))) := Lib.hid (by rw [hW, hX]; exact heap_alloc_new _ _)
  have b10 : Hid (Below w10.heap.size w10 W10) := Lib.hid (by rw [hW]; exact (Below.refl _ _).alloc (Nat.le_refl _) _)
  rw [← hW, ← hX]
  clear hW hX
  have P0 : Hid (W10.heap[X0]? = _) := Lib.hid ((b10.out.block _ (lt_of_block P0.out)).trans P0.out)
  have QAP : Hid (W10.heap[XAP]? = _) := Lib.hid ((b10.out.block _ (lt_of_block QAP.out)).trans QAP.out)
  have QAR : Hid (W10.heap[XAR]? = _) := Lib.hid ((b10.out.block _ (lt_of_block QAR.out)).trans QAR.out)
  have QCP : Hid (W10.heap[XCP]? = _) := Lib.hid ((b10.out.block _ (lt_of_block QCP.out)).trans QCP.out)
  have QCR : Hid (W10.heap[XCR]? = _) := Lib.hid ((b10.out.block _ (lt_of_block QCR.out)).trans QCR.out)
  have QEP : Hid (W10.heap[XEP]? = _) := Lib.hid ((b10.out.block _ (lt_of_block QEP.out)).trans QEP.out)
  have B : Hid (Below w.heap.size w W10) := Lib.hid (B.out.trans (b10.out.mono B.out.size))
  clear b10
  have SK : Hid (∀ w' : World, Below W10.heap.size W10 w' → (w'.cell? ⟨XAP, 0, none⟩ = some (.int .i64 Ae) ∧ w'.cell? ⟨XAP, 1, none⟩ = some (.int .i64 Ah) ∧ w'.cell? ⟨XAP, 2, none⟩ = some (.bool As) ∧ w'.cell? ⟨XAP, 3, none⟩ = some (.int .i64 Af)) ∧ (w'.cell? ⟨XAR, 0, none⟩ = some (.int .i64 Ae) ∧ w'.cell? ⟨XAR, 1, none⟩ = some (.int .i64 Ah) ∧ w'.cell? ⟨XAR, 2, none⟩ = some (.bool As) ∧ w'.cell? ⟨XAR, 3, none⟩ = some (.int .i64 Af)) ∧ (w'.cell? ⟨XCP, 0, none⟩ = some (.int .i64 Ce) ∧ w'.cell? ⟨XCP, 1, none⟩ = some (.int .i64 Ch) ∧ w'.cell? ⟨XCP, 2, none⟩ = some (.bool Cs) ∧ w'.cell? ⟨XCP, 3, none⟩ = some (.int .i64 Cf)) ∧ (w'.cell? ⟨XCR, 0, none⟩ = some (.int .i64 Ce) ∧ w'.cell? ⟨XCR, 1, none⟩ = some (.int .i64 Ch) ∧ w'.cell? ⟨XCR, 2, none⟩ = some (.bool Cs) ∧ w'.cell? ⟨XCR, 3, none⟩ = some (.int .i64 Cf)) ∧ (w'.cell? ⟨XEP, 0, none⟩ = some (.int .i64 Ee) ∧ w'.cell? ⟨XEP, 1, none⟩ = some (.int .i64 Eh) ∧ w'.cell? ⟨XEP, 2, none⟩ = some (.bool Es) ∧ w'.cell? ⟨XEP, 3, none⟩ = some (.int .i64 Ef)) ∧ (w'.cell? ⟨XER, 0, none⟩ = some (.int .i64 Ee) ∧ w'.cell? ⟨XER, 1, none⟩ = some (.int .i64 Eh) ∧ w'.cell? ⟨XER, 2, none⟩ = some (.bool Es) ∧ w'.cell? ⟨XER, 3, none⟩ = some (.int .i64 Ef))) := Lib.hid fun w' hb => ⟨(obj4 ((hb.block _ (lt_of_block QAP.out)).trans QAP.out)).1, (obj4 ((hb.block _ (lt_of_block QAR.out)).trans QAR.out)).1, (obj4 ((hb.block _ (lt_of_block QCP.out)).trans QCP.out)).1, (obj4 ((hb.block _ (lt_of_block QCR.out)).trans QCR.out)).1, (obj4 ((hb.block _ (lt_of_block QEP.out)).trans QEP.out)).1, (obj4 ((hb.block _ (lt_of_block QER.out)).trans QER.out)).1⟩
  have EQ : ∀ (a b : Int) (c : Bool) (d : Int) (W : World), (binOp .eql 34 (.agg #[.int .i64 a, .int .i64 b, .bool c, .int .i64 d]) (.agg #[.int .i64 a, .int .i64 b, .bool c, .int .i64 d])).run Try.prog W = .ok (.bool true) W := fun a b c d W => (rst_eql ⟨a, b, c, d⟩ ⟨a, b, c, d⟩ W).trans (by rw [eqS_refl])
  have SG := rst_guard
  have B0 := Lib.hid (Below.refl W10.heap.size W10).drew
  have SB := Lib.hid (SK.out _ B0.out)
  go_region_held3 (fun w' => (w'.cell? ⟨XAP, 0, none⟩ = some (.int .i64 Ae) ∧ w'.cell? ⟨XAP, 1, none⟩ = some (.int .i64 Ah) ∧ w'.cell? ⟨XAP, 2, none⟩ = some (.bool As) ∧ w'.cell? ⟨XAP, 3, none⟩ = some (.int .i64 Af)) ∧ (w'.cell? ⟨XAR, 0, none⟩ = some (.int .i64 Ae) ∧ w'.cell? ⟨XAR, 1, none⟩ = some (.int .i64 Ah) ∧ w'.cell? ⟨XAR, 2, none⟩ = some (.bool As) ∧ w'.cell? ⟨XAR, 3, none⟩ = some (.int .i64 Af)) ∧ (w'.cell? ⟨XCP, 0, none⟩ = some (.int .i64 Ce) ∧ w'.cell? ⟨XCP, 1, none⟩ = some (.int .i64 Ch) ∧ w'.cell? ⟨XCP, 2, none⟩ = some (.bool Cs) ∧ w'.cell? ⟨XCP, 3, none⟩ = some (.int .i64 Cf)) ∧ (w'.cell? ⟨XCR, 0, none⟩ = some (.int .i64 Ce) ∧ w'.cell? ⟨XCR, 1, none⟩ = some (.int .i64 Ch) ∧ w'.cell? ⟨XCR, 2, none⟩ = some (.bool Cs) ∧ w'.cell? ⟨XCR, 3, none⟩ = some (.int .i64 Cf)) ∧ (w'.cell? ⟨XEP, 0, none⟩ = some (.int .i64 Ee) ∧ w'.cell? ⟨XEP, 1, none⟩ = some (.int .i64 Eh) ∧ w'.cell? ⟨XEP, 2, none⟩ = some (.bool Es) ∧ w'.cell? ⟨XEP, 3, none⟩ = some (.int .i64 Ef)) ∧ (w'.cell? ⟨XER, 0, none⟩ = some (.int .i64 Ee) ∧ w'.cell? ⟨XER, 1, none⟩ = some (.int .i64 Eh) ∧ w'.cell? ⟨XER, 2, none⟩ = some (.bool Es) ∧ w'.cell? ⟨XER, 3, none⟩ = some (.int .i64 Ef))) ((first | exact SB.out | exact S9.out | exact S8.out | exact S7.out | go_keep))
    (first
      | (go_simp; go_at_call 17; (with_reducible refine (OW.out Ae Ah As Af _).mono ?_); rintro x w7 ⟨rfl, b7⟩; have B7 := Lib.hid (B0.out.trans (b7.out.mono B0.out.size)); have S7 := Lib.hid (SK.out _ B7.out))
      | (go_simp; go_at_call 17; (with_reducible refine (OW.out Ce Ch Cs Cf _).mono ?_); rintro x w8 ⟨rfl, b8⟩; have B8 := Lib.hid (B7.out.trans (b8.out.mono B7.out.size)); have S8 := Lib.hid (SK.out _ B8.out))
      | (go_simp; go_at_call 17; (with_reducible refine (OW.out Ee Eh Es Ef _).mono ?_); rintro x w9 ⟨rfl, b9⟩; have B9 := Lib.hid (B8.out.trans (b9.out.mono B8.out.size)); have S9 := Lib.hid (SK.out _ B9.out)))
  go_wp2
  go_ret
  refine ⟨by simp, B.out.trans (B9.out.mono B.out.size)⟩
end Go.Proofs.Ytjagkolagmlakaa
