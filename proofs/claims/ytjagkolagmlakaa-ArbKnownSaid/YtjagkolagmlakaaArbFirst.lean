/-
  The law ArbFirst: of two that read the same, the first one leads.
-/
import Derived.Test.YtjagkolagmlakaaArbRound
namespace Go.Proofs.Ytjagkolagmlakaa
open Go.RowKit
def HitPost (w : World) (g : Nat) (O : Nat → Prop) (L : List Ar.S) (nw : Ar.S) (e : Ending) (w' : World) : Prop := e = .returned (.bool true) ∧ ∃ O', Hid (AR w' g O' (L ++ [nw])) ∧ Hid (Step O O' w w')
def MissPost (w : World) (g : Nat) (O : Nat → Prop) (L : List Ar.S) (e : Ending) (w' : World) : Prop := e = .returned (.bool false) ∧ ∃ O', Hid (AR w' g O' L) ∧ Hid (Step O O' w w')
theorem hit_at {w : World} {g : Nat} {O : Nat → Prop} {L : List Ar.S} (h : AR w g O L) (s old : Ar.S) (hs : L.getLast? = some s) (he : Ar.eqS s old = true) (hl : L.length ≤ 100000000) (a b : Int) (c : Bool) (d : Int) :
    ∀ W, Below w.heap.size w W → Calls Try.prog 12 #[.pointer (some ⟨g, 0, none⟩), .agg #[.int .i64 old.ep, .int .i64 old.ho, .bool old.so, .int .i64 old.fl], .agg #[.int .i64 a, .int .i64 b, .bool c, .int .i64 d]] W (HitPost W g O L ⟨a, b, c, d⟩) := fun W hW => by
  have := swap_any g O L s old ⟨a, b, c, d⟩ hs hl W (h.grew hW)
  rw [he] at this
  exact this
theorem miss_at {w : World} {g : Nat} {O : Nat → Prop} {L : List Ar.S} (h : AR w g O L) (s old : Ar.S) (hs : L.getLast? = some s) (he : Ar.eqS s old = false) (hl : L.length ≤ 100000000) (a b : Int) (c : Bool) (d : Int) :
    ∀ W, Below w.heap.size w W → Calls Try.prog 12 #[.pointer (some ⟨g, 0, none⟩), .agg #[.int .i64 old.ep, .int .i64 old.ho, .bool old.so, .int .i64 old.fl], .agg #[.int .i64 a, .int .i64 b, .bool c, .int .i64 d]] W (MissPost W g O L) := fun W hW => by
  have := swap_any g O L s old ⟨a, b, c, d⟩ hs hl W (h.grew hW)
  rw [he] at this
  exact this
theorem eqS_refl' (s : Ar.S) : Ar.eqS s s = true := by unfold Ar.eqS; simp
theorem last_snoc (L : List Ar.S) (s : Ar.S) : (L ++ [s]).getLast? = some s := by simp
theorem field_ep (a b : Int) (c : Bool) (d : Int) (W : World) : (Instr.field 26 (.agg #[.int .i64 a, .int .i64 b, .bool c, .int .i64 d]) 0).run Try.prog W = .ok (.int .i64 a) W := by kernel_rfl
theorem eqS_ep {s t : Ar.S} (h : s.ep ≠ t.ep) : Ar.eqS s t = false := by unfold Ar.eqS; simp [h]
set_option maxHeartbeats 8000000 in
set_option maxRecDepth 20000 in
theorem first_zero (N : Nat) (hN : N ≤ 20) (w : World) : Calls Try.prog 7 #[.int .i64 0, .int .i64 (N : Int)] w fun x w' => x = .returned (.bool true) ∧ Below w.heap.size w w' := by
  have SG := st_guard
  have LDX : Hid (∀ (k : Nat) (h : Int) (W : World), k ≤ 20 → Calls Try.prog 10 #[.agg #[.int .i64 (k : Int), .int .i64 h, .bool false, .int .i64 0], .int .i64 0] W (TwoB W ((k : Int) + 1) 0 false 0 true)) := Lib.hid fun k h W hk => by
    have h2 : Ar.okL ⟨(k : Int), h, false, 0⟩ 0 = true := by
      have h4 : (k : Int) < 1048575 := by omega
      simp [Ar.okL, Ar.node, h4]
    have := lead_any (k : Int) h false 0 0 W
    rw [(lead_true h2).1, h2] at this
    exact this
  have LDY : Hid (∀ (k : Nat) (h : Int) (W : World), k ≤ 20 → Calls Try.prog 10 #[.agg #[.int .i64 (k : Int), .int .i64 h, .bool false, .int .i64 0], .int .i64 1] W (TwoB W ((k : Int) + 1) 1 false 0 true)) := Lib.hid fun k h W hk => by
    have h2 : Ar.okL ⟨(k : Int), h, false, 0⟩ 1 = true := by
      have h4 : (k : Int) < 1048575 := by omega
      simp [Ar.okL, Ar.node, h4]
    have := lead_any (k : Int) h false 0 1 W
    rw [(lead_true h2).1, h2] at this
    exact this
  go_enter Try.func7, Try.ntmps7
  go_wp2_with fail
  (with_reducible refine (awake_any _).mono ?_); rintro x w0 ⟨rfl, b0⟩
  have hN' : (N : Int) ≤ 20 := by omega
  go_wp2_with fail
  (with_reducible refine (new_any _).mono ?_); rintro x w1 ⟨g, rfl, h1, b1⟩
  have B1 : Hid (Below w.heap.size w w1) := Lib.hid (b0.out.trans (b1.out.mono b0.out.size))
  have RG : Hid (∃ (O : Nat → Prop) (L : List Ar.S) (h : Int), AR w1 g O L ∧ (∀ k, O k → w.heap.size ≤ k) ∧ L.length = 0 + 1 ∧ L.getLast? = some ⟨((0 : Nat) : Int), h, false, 0⟩) := Lib.hid ⟨_, _, -1, h1.out, fun k hk => Nat.le_trans b0.out.size hk.1, rfl, rfl⟩
  clear h1 b0 b1
  go_wp2_with fail
  go_loopw [6] (fun iv wr => ∃ k : Nat, k ≤ N + 1 ∧ iv = .int .i64 k ∧ Hid (Below w.heap.size w wr) ∧ Hid (∃ (O : Nat → Prop) (L : List Ar.S) (h : Int), AR wr g O L ∧ (∀ k, O k → w.heap.size ≤ k) ∧ L.length = k + 1 ∧ L.getLast? = some ⟨(k : Int), h, false, 0⟩)) (fun iv _ => N + 1 - (intOf iv).toNat)
  case atStart => exact ⟨0, by omega, rfl, B1, RG⟩
  case round =>
    obtain ⟨k, hk, rfl, B, HR⟩ := hrel
    obtain ⟨O, L, hh, h1, h2, h3, h4⟩ := HR.out
    have H1 := Lib.hid h1
    have H2 := Lib.hid h2
    have H3 := Lib.hid h3
    have H4 := Lib.hid h4
    clear h1 h2 h3 h4 HR RG B1
    by_cases hlt : k ≤ N
    · have hlt' : (k : Int) ≤ (N : Int) := by omega
      have hk2 : (k : Int) ≤ 20 := by omega
      have GT := Lib.hid (get_at H1.out _ H4.out (by have := H3.out; omega))
      go_wp2_with fail
      (with_reducible refine (GT.out _ (Below.refl _ _)).mono ?_); rintro x w2 ⟨rfl, b2⟩
      have C2 : Hid (Below wr.heap.size wr w2) := b2
      clear b2 GT
      dsimp only
      go_upto_region 10 with fail
      obtain ⟨W2, hW⟩ : ∃ W, W = w2.alloc (.cells #[.int .i64 (k : Int), .int .i64 hh, .bool false, .int .i64 0] 26) := ⟨_, rfl⟩
      obtain ⟨X0, hX⟩ : ∃ X, X = w2.heap.size := ⟨_, rfl⟩
      have P0 : Hid (W2.heap[X0]? = some (.cells #[.int .i64 (k : Int), .int .i64 hh, .bool false, .int .i64 0] 26 (0, 0))) := Lib.hid (by rw [hW, hX]; exact heap_alloc_new _ _)
      have b2 : Hid (Below w2.heap.size w2 W2) := Lib.hid (by rw [hW]; exact (Below.refl _ _).alloc (Nat.le_refl _) _)
      have XN0 : Hid (wr.heap.size ≤ X0) := Lib.hid (by rw [hX]; exact C2.out.size)
      rw [← hW, ← hX]
      clear hW hX
      have C2 : Hid (Below wr.heap.size wr W2) := Lib.hid (C2.out.trans (b2.out.mono C2.out.size))
      clear b2
      obtain ⟨⟨c0, c1, c2, c3⟩, -⟩ := obj4 P0.out
      go_wp2_with fail
      (with_reducible refine (LDX.out k hh _ (by omega)).mono ?_); rintro x w3 ⟨rfl, b3⟩
      clear c0 c1 c2 c3
      have P0 : Hid (w3.heap[X0]? = _) := Lib.hid ((b3.out.block _ (lt_of_block P0.out)).trans P0.out)
      have C3 : Hid (Below wr.heap.size wr w3) := Lib.hid (C2.out.trans (b3.out.mono C2.out.size))
      clear b3 C2
      go_upto_region 11 with fail
      obtain ⟨W3, hW⟩ : ∃ W, W = w3.alloc (.cells #[.int .i64 ((k : Int) + 1), .int .i64 0, .bool false, .int .i64 0] 26) := ⟨_, rfl⟩
      obtain ⟨X1, hX⟩ : ∃ X, X = w3.heap.size := ⟨_, rfl⟩
      have P1 : Hid (W3.heap[X1]? = some (.cells #[.int .i64 ((k : Int) + 1), .int .i64 0, .bool false, .int .i64 0] 26 (0, 0))) := Lib.hid (by rw [hW, hX]; exact heap_alloc_new _ _)
      have b3 : Hid (Below w3.heap.size w3 W3) := Lib.hid (by rw [hW]; exact (Below.refl _ _).alloc (Nat.le_refl _) _)
      have XN1 : Hid (wr.heap.size ≤ X1) := Lib.hid (by rw [hX]; exact C3.out.size)
      rw [← hW, ← hX]
      clear hW hX
      have P0 : Hid (W3.heap[X0]? = _) := Lib.hid ((b3.out.block _ (lt_of_block P0.out)).trans P0.out)
      have C3 : Hid (Below wr.heap.size wr W3) := Lib.hid (C3.out.trans (b3.out.mono C3.out.size))
      clear b3
      obtain ⟨⟨c0, c1, c2, c3⟩, -⟩ := obj4 P0.out
      go_wp2_with fail
      (with_reducible refine (LDY.out k hh _ (by omega)).mono ?_); rintro x w4 ⟨rfl, b4⟩
      clear c0 c1 c2 c3
      have P0 : Hid (w4.heap[X0]? = _) := Lib.hid ((b4.out.block _ (lt_of_block P0.out)).trans P0.out)
      have P1 : Hid (w4.heap[X1]? = _) := Lib.hid ((b4.out.block _ (lt_of_block P1.out)).trans P1.out)
      have C4 : Hid (Below wr.heap.size wr w4) := Lib.hid (C3.out.trans (b4.out.mono C3.out.size))
      clear b4 C3
      go_upto_region 12 with fail
      obtain ⟨W4, hW⟩ : ∃ W, W = w4.alloc (.cells #[.int .i64 ((k : Int) + 1), .int .i64 1, .bool false, .int .i64 0] 26) := ⟨_, rfl⟩
      obtain ⟨X2, hX⟩ : ∃ X, X = w4.heap.size := ⟨_, rfl⟩
      have P2 : Hid (W4.heap[X2]? = some (.cells #[.int .i64 ((k : Int) + 1), .int .i64 1, .bool false, .int .i64 0] 26 (0, 0))) := Lib.hid (by rw [hW, hX]; exact heap_alloc_new _ _)
      have b4 : Hid (Below w4.heap.size w4 W4) := Lib.hid (by rw [hW]; exact (Below.refl _ _).alloc (Nat.le_refl _) _)
      have XN2 : Hid (wr.heap.size ≤ X2) := Lib.hid (by rw [hX]; exact C4.out.size)
      rw [← hW, ← hX]
      clear hW hX
      have P0 : Hid (W4.heap[X0]? = _) := Lib.hid ((b4.out.block _ (lt_of_block P0.out)).trans P0.out)
      have P1 : Hid (W4.heap[X1]? = _) := Lib.hid ((b4.out.block _ (lt_of_block P1.out)).trans P1.out)
      have C4 : Hid (Below wr.heap.size wr W4) := Lib.hid (C4.out.trans (b4.out.mono C4.out.size))
      clear b4
      have NO : Hid (¬ O X0 ∧ ¬ O X1 ∧ ¬ O X2) := Lib.hid ⟨fun h => by have := H1.out.lt _ h; have := XN0.out; omega, fun h => by have := H1.out.lt _ h; have := XN1.out; omega, fun h => by have := H1.out.lt _ h; have := XN2.out; omega⟩
      have A4 : Hid (AR W4 g O L) := Lib.hid (H1.out.grew C4.out)
      have SK : Hid (∀ w' : World, Only O W4 w' → (w'.cell? ⟨X0, 0, none⟩ = some (.int .i64 (k : Int)) ∧ w'.cell? ⟨X0, 1, none⟩ = some (.int .i64 hh) ∧ w'.cell? ⟨X0, 2, none⟩ = some (.bool false) ∧ w'.cell? ⟨X0, 3, none⟩ = some (.int .i64 0)) ∧ (w'.cell? ⟨X1, 0, none⟩ = some (.int .i64 ((k : Int) + 1)) ∧ w'.cell? ⟨X1, 1, none⟩ = some (.int .i64 0) ∧ w'.cell? ⟨X1, 2, none⟩ = some (.bool false) ∧ w'.cell? ⟨X1, 3, none⟩ = some (.int .i64 0)) ∧ (w'.cell? ⟨X2, 0, none⟩ = some (.int .i64 ((k : Int) + 1)) ∧ w'.cell? ⟨X2, 1, none⟩ = some (.int .i64 1) ∧ w'.cell? ⟨X2, 2, none⟩ = some (.bool false) ∧ w'.cell? ⟨X2, 3, none⟩ = some (.int .i64 0))) := Lib.hid fun w' hb => ⟨(obj4 ((hb.block _ (lt_of_block P0.out) NO.out.1).trans P0.out)).1, (obj4 ((hb.block _ (lt_of_block P1.out) NO.out.2.1).trans P1.out)).1, (obj4 ((hb.block _ (lt_of_block P2.out) NO.out.2.2).trans P2.out)).1⟩
      have SB := Lib.hid (SK.out W4.drew (Only.of (Below.refl _ _).drew))
      have SW1 := Lib.hid (hit_at A4.out ⟨(k : Int), hh, false, 0⟩ ⟨(k : Int), hh, false, 0⟩ H4.out (eqS_refl' _) (by have := H3.out; omega) ((k : Int) + 1) 0 false 0)
      go_region_held3 (fun w' => (w'.cell? ⟨X0, 0, none⟩ = some (.int .i64 (k : Int)) ∧ w'.cell? ⟨X0, 1, none⟩ = some (.int .i64 hh) ∧ w'.cell? ⟨X0, 2, none⟩ = some (.bool false) ∧ w'.cell? ⟨X0, 3, none⟩ = some (.int .i64 0)) ∧ (w'.cell? ⟨X1, 0, none⟩ = some (.int .i64 ((k : Int) + 1)) ∧ w'.cell? ⟨X1, 1, none⟩ = some (.int .i64 0) ∧ w'.cell? ⟨X1, 2, none⟩ = some (.bool false) ∧ w'.cell? ⟨X1, 3, none⟩ = some (.int .i64 0)) ∧ (w'.cell? ⟨X2, 0, none⟩ = some (.int .i64 ((k : Int) + 1)) ∧ w'.cell? ⟨X2, 1, none⟩ = some (.int .i64 1) ∧ w'.cell? ⟨X2, 2, none⟩ = some (.bool false) ∧ w'.cell? ⟨X2, 3, none⟩ = some (.int .i64 0))) ((first | exact SB.out | exact S7.out | exact S6.out | exact S5.out | go_keep))
        (first
          | (go_simp; go_at_call 12; (with_reducible refine (SW1.out _ (Below.refl _ _).drew).mono ?_); rintro x w5 ⟨rfl, O5, h5, s5⟩; have K5 : Hid (Step O O5 W4 w5) := Lib.hid (Step.ahead (Below.refl _ _).drew s5.out); have S5 := Lib.hid (SK.out _ K5.out.only); have SW2 := Lib.hid (miss_at h5.out ⟨(k : Int) + 1, 0, false, 0⟩ ⟨(k : Int), hh, false, 0⟩ (last_snoc _ _) (eqS_ep (by show (k : Int) + 1 ≠ (k : Int); omega)) (by have := H3.out; simp; omega) ((k : Int) + 1) 1 false 0))
          | (go_simp; go_at_call 12; (with_reducible refine (SW2.out _ (Below.refl _ _)).mono ?_); rintro x w6 ⟨rfl, O6, h6, s6⟩; have K6 : Hid (Step O O6 W4 w6) := Lib.hid (K5.out.trans s6.out); have S6 := Lib.hid (SK.out _ K6.out.only); have GT6 := Lib.hid (get_at h6.out ⟨(k : Int) + 1, 0, false, 0⟩ (last_snoc _ _) (by have := H3.out; simp; omega)))
          | (go_simp; go_at_call 11; (with_reducible refine (GT6.out _ (Below.refl _ _)).mono ?_); rintro x w7 ⟨rfl, b7⟩; have K7 : Hid (Step O O6 W4 w7) := Lib.hid (K6.out.behind b7.out); have S7 := Lib.hid (SK.out _ K7.out.only); have h7 := Lib.hid (h6.out.grew b7.out); dsimp only))
      go_wp2
      go_roundw
      case rel => exact ⟨k + 1, by omega, by go_num, Lib.hid ((B.out.trans (C4.out.mono B.out.size)).trans (K7.out.only.below (Nat.le_trans B.out.size C4.out.size) H2.out)), Lib.hid ⟨O6, L ++ [⟨(k : Int) + 1, 0, false, 0⟩], 0, h7.out, fun i hi => (K7.out.sub i hi).elim (H2.out i) (fun h => Nat.le_trans (Nat.le_trans B.out.size C4.out.size) h), by have := H3.out; simp; omega, by rw [last_snoc]; rfl⟩⟩
      case measure => simp [intOf]; omega
    · obtain rfl : k = N + 1 := by omega
      have GT := Lib.hid (get_at H1.out _ H4.out (by have := H3.out; omega))
      have LG := Lib.hid (log_at H1.out (by have := H3.out; omega))
      obtain ⟨q, hq⟩ : ∃ q, q = L.length := ⟨_, rfl⟩
      rw [← hq] at H3
      have H5 := H3.out
      unfold LogPost at LG
      rw [← hq] at LG
      go_wp2_with fail
      (with_reducible refine (LG.out _ (Below.refl _ _)).mono ?_); rintro x w2 ⟨A, cap, rfl, o2, b2⟩
      subst H5
      clear hq
      have z1 : (N : Int) + 1 + 1 = (N : Int) + 2 := by omega
      have z2 : ((N : Int) + 1 + 1 == (N : Int) + 2) = true := by simp; omega
      go_wp2_with fail
      (with_reducible refine (GT.out _ b2.out).mono ?_); rintro x w3 ⟨rfl, b3⟩
      have B3 : Hid (Below w.heap.size w w3) := Lib.hid ((B.out.trans (b2.out.mono B.out.size)).trans (b3.out.mono (Nat.le_trans B.out.size b2.out.size)))
      dsimp only
      have FE := field_ep
      go_wp2
      go_ret
      exact ⟨by simp, B3.out⟩
set_option maxHeartbeats 8000000 in
set_option maxRecDepth 20000 in
theorem first_one (N : Nat) (hN : N ≤ 20) (w : World) : Calls Try.prog 7 #[.int .i64 1, .int .i64 (N : Int)] w fun x w' => x = .returned (.bool true) ∧ Below w.heap.size w w' := by
  have SG := st_guard
  have LDX : Hid (∀ (k : Nat) (h : Int) (W : World), k ≤ 20 → Calls Try.prog 10 #[.agg #[.int .i64 (k : Int), .int .i64 h, .bool false, .int .i64 0], .int .i64 1] W (TwoB W ((k : Int) + 1) 1 false 0 true)) := Lib.hid fun k h W hk => by
    have h2 : Ar.okL ⟨(k : Int), h, false, 0⟩ 1 = true := by
      have h4 : (k : Int) < 1048575 := by omega
      simp [Ar.okL, Ar.node, h4]
    have := lead_any (k : Int) h false 0 1 W
    rw [(lead_true h2).1, h2] at this
    exact this
  have LDY : Hid (∀ (k : Nat) (h : Int) (W : World), k ≤ 20 → Calls Try.prog 10 #[.agg #[.int .i64 (k : Int), .int .i64 h, .bool false, .int .i64 0], .int .i64 0] W (TwoB W ((k : Int) + 1) 0 false 0 true)) := Lib.hid fun k h W hk => by
    have h2 : Ar.okL ⟨(k : Int), h, false, 0⟩ 0 = true := by
      have h4 : (k : Int) < 1048575 := by omega
      simp [Ar.okL, Ar.node, h4]
    have := lead_any (k : Int) h false 0 0 W
    rw [(lead_true h2).1, h2] at this
    exact this
  go_enter Try.func7, Try.ntmps7
  go_wp2_with fail
  (with_reducible refine (awake_any _).mono ?_); rintro x w0 ⟨rfl, b0⟩
  have hN' : (N : Int) ≤ 20 := by omega
  go_wp2_with fail
  (with_reducible refine (new_any _).mono ?_); rintro x w1 ⟨g, rfl, h1, b1⟩
  have B1 : Hid (Below w.heap.size w w1) := Lib.hid (b0.out.trans (b1.out.mono b0.out.size))
  have RG : Hid (∃ (O : Nat → Prop) (L : List Ar.S) (h : Int), AR w1 g O L ∧ (∀ k, O k → w.heap.size ≤ k) ∧ L.length = 0 + 1 ∧ L.getLast? = some ⟨((0 : Nat) : Int), h, false, 0⟩) := Lib.hid ⟨_, _, -1, h1.out, fun k hk => Nat.le_trans b0.out.size hk.1, rfl, rfl⟩
  clear h1 b0 b1
  go_wp2_with fail
  go_loopw [6] (fun iv wr => ∃ k : Nat, k ≤ N + 1 ∧ iv = .int .i64 k ∧ Hid (Below w.heap.size w wr) ∧ Hid (∃ (O : Nat → Prop) (L : List Ar.S) (h : Int), AR wr g O L ∧ (∀ k, O k → w.heap.size ≤ k) ∧ L.length = k + 1 ∧ L.getLast? = some ⟨(k : Int), h, false, 0⟩)) (fun iv _ => N + 1 - (intOf iv).toNat)
  case atStart => exact ⟨0, by omega, rfl, B1, RG⟩
  case round =>
    obtain ⟨k, hk, rfl, B, HR⟩ := hrel
    obtain ⟨O, L, hh, h1, h2, h3, h4⟩ := HR.out
    have H1 := Lib.hid h1
    have H2 := Lib.hid h2
    have H3 := Lib.hid h3
    have H4 := Lib.hid h4
    clear h1 h2 h3 h4 HR RG B1
    by_cases hlt : k ≤ N
    · have hlt' : (k : Int) ≤ (N : Int) := by omega
      have hk2 : (k : Int) ≤ 20 := by omega
      have GT := Lib.hid (get_at H1.out _ H4.out (by have := H3.out; omega))
      go_wp2_with fail
      (with_reducible refine (GT.out _ (Below.refl _ _)).mono ?_); rintro x w2 ⟨rfl, b2⟩
      have C2 : Hid (Below wr.heap.size wr w2) := b2
      clear b2 GT
      dsimp only
      go_upto_region 10 with fail
      obtain ⟨W2, hW⟩ : ∃ W, W = w2.alloc (.cells #[.int .i64 (k : Int), .int .i64 hh, .bool false, .int .i64 0] 26) := ⟨_, rfl⟩
      obtain ⟨X0, hX⟩ : ∃ X, X = w2.heap.size := ⟨_, rfl⟩
      have P0 : Hid (W2.heap[X0]? = some (.cells #[.int .i64 (k : Int), .int .i64 hh, .bool false, .int .i64 0] 26 (0, 0))) := Lib.hid (by rw [hW, hX]; exact heap_alloc_new _ _)
      have b2 : Hid (Below w2.heap.size w2 W2) := Lib.hid (by rw [hW]; exact (Below.refl _ _).alloc (Nat.le_refl _) _)
      have XN0 : Hid (wr.heap.size ≤ X0) := Lib.hid (by rw [hX]; exact C2.out.size)
      rw [← hW, ← hX]
      clear hW hX
      have C2 : Hid (Below wr.heap.size wr W2) := Lib.hid (C2.out.trans (b2.out.mono C2.out.size))
      clear b2
      obtain ⟨⟨c0, c1, c2, c3⟩, -⟩ := obj4 P0.out
      go_wp2_with fail
      (with_reducible refine (LDX.out k hh _ (by omega)).mono ?_); rintro x w3 ⟨rfl, b3⟩
      clear c0 c1 c2 c3
      have P0 : Hid (w3.heap[X0]? = _) := Lib.hid ((b3.out.block _ (lt_of_block P0.out)).trans P0.out)
      have C3 : Hid (Below wr.heap.size wr w3) := Lib.hid (C2.out.trans (b3.out.mono C2.out.size))
      clear b3 C2
      go_upto_region 11 with fail
      obtain ⟨W3, hW⟩ : ∃ W, W = w3.alloc (.cells #[.int .i64 ((k : Int) + 1), .int .i64 1, .bool false, .int .i64 0] 26) := ⟨_, rfl⟩
      obtain ⟨X1, hX⟩ : ∃ X, X = w3.heap.size := ⟨_, rfl⟩
      have P1 : Hid (W3.heap[X1]? = some (.cells #[.int .i64 ((k : Int) + 1), .int .i64 1, .bool false, .int .i64 0] 26 (0, 0))) := Lib.hid (by rw [hW, hX]; exact heap_alloc_new _ _)
      have b3 : Hid (Below w3.heap.size w3 W3) := Lib.hid (by rw [hW]; exact (Below.refl _ _).alloc (Nat.le_refl _) _)
      have XN1 : Hid (wr.heap.size ≤ X1) := Lib.hid (by rw [hX]; exact C3.out.size)
      rw [← hW, ← hX]
      clear hW hX
      have P0 : Hid (W3.heap[X0]? = _) := Lib.hid ((b3.out.block _ (lt_of_block P0.out)).trans P0.out)
      have C3 : Hid (Below wr.heap.size wr W3) := Lib.hid (C3.out.trans (b3.out.mono C3.out.size))
      clear b3
      obtain ⟨⟨c0, c1, c2, c3⟩, -⟩ := obj4 P0.out
      go_wp2_with fail
      (with_reducible refine (LDY.out k hh _ (by omega)).mono ?_); rintro x w4 ⟨rfl, b4⟩
      clear c0 c1 c2 c3
      have P0 : Hid (w4.heap[X0]? = _) := Lib.hid ((b4.out.block _ (lt_of_block P0.out)).trans P0.out)
      have P1 : Hid (w4.heap[X1]? = _) := Lib.hid ((b4.out.block _ (lt_of_block P1.out)).trans P1.out)
      have C4 : Hid (Below wr.heap.size wr w4) := Lib.hid (C3.out.trans (b4.out.mono C3.out.size))
      clear b4 C3
      go_upto_region 12 with fail
      obtain ⟨W4, hW⟩ : ∃ W, W = w4.alloc (.cells #[.int .i64 ((k : Int) + 1), .int .i64 0, .bool false, .int .i64 0] 26) := ⟨_, rfl⟩
      obtain ⟨X2, hX⟩ : ∃ X, X = w4.heap.size := ⟨_, rfl⟩
      have P2 : Hid (W4.heap[X2]? = some (.cells #[.int .i64 ((k : Int) + 1), .int .i64 0, .bool false, .int .i64 0] 26 (0, 0))) := Lib.hid (by rw [hW, hX]; exact heap_alloc_new _ _)
      have b4 : Hid (Below w4.heap.size w4 W4) := Lib.hid (by rw [hW]; exact (Below.refl _ _).alloc (Nat.le_refl _) _)
      have XN2 : Hid (wr.heap.size ≤ X2) := Lib.hid (by rw [hX]; exact C4.out.size)
      rw [← hW, ← hX]
      clear hW hX
      have P0 : Hid (W4.heap[X0]? = _) := Lib.hid ((b4.out.block _ (lt_of_block P0.out)).trans P0.out)
      have P1 : Hid (W4.heap[X1]? = _) := Lib.hid ((b4.out.block _ (lt_of_block P1.out)).trans P1.out)
      have C4 : Hid (Below wr.heap.size wr W4) := Lib.hid (C4.out.trans (b4.out.mono C4.out.size))
      clear b4
      have NO : Hid (¬ O X0 ∧ ¬ O X1 ∧ ¬ O X2) := Lib.hid ⟨fun h => by have := H1.out.lt _ h; have := XN0.out; omega, fun h => by have := H1.out.lt _ h; have := XN1.out; omega, fun h => by have := H1.out.lt _ h; have := XN2.out; omega⟩
      have A4 : Hid (AR W4 g O L) := Lib.hid (H1.out.grew C4.out)
      have SK : Hid (∀ w' : World, Only O W4 w' → (w'.cell? ⟨X0, 0, none⟩ = some (.int .i64 (k : Int)) ∧ w'.cell? ⟨X0, 1, none⟩ = some (.int .i64 hh) ∧ w'.cell? ⟨X0, 2, none⟩ = some (.bool false) ∧ w'.cell? ⟨X0, 3, none⟩ = some (.int .i64 0)) ∧ (w'.cell? ⟨X1, 0, none⟩ = some (.int .i64 ((k : Int) + 1)) ∧ w'.cell? ⟨X1, 1, none⟩ = some (.int .i64 1) ∧ w'.cell? ⟨X1, 2, none⟩ = some (.bool false) ∧ w'.cell? ⟨X1, 3, none⟩ = some (.int .i64 0)) ∧ (w'.cell? ⟨X2, 0, none⟩ = some (.int .i64 ((k : Int) + 1)) ∧ w'.cell? ⟨X2, 1, none⟩ = some (.int .i64 0) ∧ w'.cell? ⟨X2, 2, none⟩ = some (.bool false) ∧ w'.cell? ⟨X2, 3, none⟩ = some (.int .i64 0))) := Lib.hid fun w' hb => ⟨(obj4 ((hb.block _ (lt_of_block P0.out) NO.out.1).trans P0.out)).1, (obj4 ((hb.block _ (lt_of_block P1.out) NO.out.2.1).trans P1.out)).1, (obj4 ((hb.block _ (lt_of_block P2.out) NO.out.2.2).trans P2.out)).1⟩
      have SB := Lib.hid (SK.out W4.drew (Only.of (Below.refl _ _).drew))
      have SW1 := Lib.hid (hit_at A4.out ⟨(k : Int), hh, false, 0⟩ ⟨(k : Int), hh, false, 0⟩ H4.out (eqS_refl' _) (by have := H3.out; omega) ((k : Int) + 1) 1 false 0)
      go_region_held3 (fun w' => (w'.cell? ⟨X0, 0, none⟩ = some (.int .i64 (k : Int)) ∧ w'.cell? ⟨X0, 1, none⟩ = some (.int .i64 hh) ∧ w'.cell? ⟨X0, 2, none⟩ = some (.bool false) ∧ w'.cell? ⟨X0, 3, none⟩ = some (.int .i64 0)) ∧ (w'.cell? ⟨X1, 0, none⟩ = some (.int .i64 ((k : Int) + 1)) ∧ w'.cell? ⟨X1, 1, none⟩ = some (.int .i64 1) ∧ w'.cell? ⟨X1, 2, none⟩ = some (.bool false) ∧ w'.cell? ⟨X1, 3, none⟩ = some (.int .i64 0)) ∧ (w'.cell? ⟨X2, 0, none⟩ = some (.int .i64 ((k : Int) + 1)) ∧ w'.cell? ⟨X2, 1, none⟩ = some (.int .i64 0) ∧ w'.cell? ⟨X2, 2, none⟩ = some (.bool false) ∧ w'.cell? ⟨X2, 3, none⟩ = some (.int .i64 0))) ((first | exact SB.out | exact S7.out | exact S6.out | exact S5.out | go_keep))
        (first
          | (go_simp; go_at_call 12; (with_reducible refine (SW1.out _ (Below.refl _ _).drew).mono ?_); rintro x w5 ⟨rfl, O5, h5, s5⟩; have K5 : Hid (Step O O5 W4 w5) := Lib.hid (Step.ahead (Below.refl _ _).drew s5.out); have S5 := Lib.hid (SK.out _ K5.out.only); have SW2 := Lib.hid (miss_at h5.out ⟨(k : Int) + 1, 1, false, 0⟩ ⟨(k : Int), hh, false, 0⟩ (last_snoc _ _) (eqS_ep (by show (k : Int) + 1 ≠ (k : Int); omega)) (by have := H3.out; simp; omega) ((k : Int) + 1) 0 false 0))
          | (go_simp; go_at_call 12; (with_reducible refine (SW2.out _ (Below.refl _ _)).mono ?_); rintro x w6 ⟨rfl, O6, h6, s6⟩; have K6 : Hid (Step O O6 W4 w6) := Lib.hid (K5.out.trans s6.out); have S6 := Lib.hid (SK.out _ K6.out.only); have GT6 := Lib.hid (get_at h6.out ⟨(k : Int) + 1, 1, false, 0⟩ (last_snoc _ _) (by have := H3.out; simp; omega)))
          | (go_simp; go_at_call 11; (with_reducible refine (GT6.out _ (Below.refl _ _)).mono ?_); rintro x w7 ⟨rfl, b7⟩; have K7 : Hid (Step O O6 W4 w7) := Lib.hid (K6.out.behind b7.out); have S7 := Lib.hid (SK.out _ K7.out.only); have h7 := Lib.hid (h6.out.grew b7.out); dsimp only))
      go_wp2
      go_roundw
      case rel => exact ⟨k + 1, by omega, by go_num, Lib.hid ((B.out.trans (C4.out.mono B.out.size)).trans (K7.out.only.below (Nat.le_trans B.out.size C4.out.size) H2.out)), Lib.hid ⟨O6, L ++ [⟨(k : Int) + 1, 1, false, 0⟩], 1, h7.out, fun i hi => (K7.out.sub i hi).elim (H2.out i) (fun h => Nat.le_trans (Nat.le_trans B.out.size C4.out.size) h), by have := H3.out; simp; omega, by rw [last_snoc]; rfl⟩⟩
      case measure => simp [intOf]; omega
    · obtain rfl : k = N + 1 := by omega
      have GT := Lib.hid (get_at H1.out _ H4.out (by have := H3.out; omega))
      have LG := Lib.hid (log_at H1.out (by have := H3.out; omega))
      obtain ⟨q, hq⟩ : ∃ q, q = L.length := ⟨_, rfl⟩
      rw [← hq] at H3
      have H5 := H3.out
      unfold LogPost at LG
      rw [← hq] at LG
      go_wp2_with fail
      (with_reducible refine (LG.out _ (Below.refl _ _)).mono ?_); rintro x w2 ⟨A, cap, rfl, o2, b2⟩
      subst H5
      clear hq
      have z1 : (N : Int) + 1 + 1 = (N : Int) + 2 := by omega
      have z2 : ((N : Int) + 1 + 1 == (N : Int) + 2) = true := by simp; omega
      go_wp2_with fail
      (with_reducible refine (GT.out _ b2.out).mono ?_); rintro x w3 ⟨rfl, b3⟩
      have B3 : Hid (Below w.heap.size w w3) := Lib.hid ((B.out.trans (b2.out.mono B.out.size)).trans (b3.out.mono (Nat.le_trans B.out.size b2.out.size)))
      dsimp only
      have FE := field_ep
      go_wp2
      go_ret
      exact ⟨by simp, B3.out⟩
set_option maxHeartbeats 1000000 in
theorem first_walk (who n : Int) (w : World) : Calls Try.prog 7 #[.int .i64 who, .int .i64 n] w fun x w' => x = .returned (.bool true) ∧ Below w.heap.size w w' := by
  by_cases hn : 0 ≤ n
  · by_cases hn2 : n ≤ 20
    · by_cases h0 : who = 0
      · subst h0
        obtain ⟨N, rfl⟩ := Int.eq_ofNat_of_zero_le hn
        exact first_zero N (by omega) w
      · by_cases h1 : who = 1
        · subst h1
          obtain ⟨N, rfl⟩ := Int.eq_ofNat_of_zero_le hn
          exact first_one N (by omega) w
        · go_enter Try.func7, Try.ntmps7
          go_wp2_with fail
          (with_reducible refine (awake_any _).mono ?_); rintro x w0 ⟨rfl, b0⟩
          go_wp2
          go_ret
          exact ⟨rfl, b0.out⟩
    · go_enter Try.func7, Try.ntmps7
      go_wp2_with fail
      (with_reducible refine (awake_any _).mono ?_); rintro x w0 ⟨rfl, b0⟩
      by_cases h0 : who = 0
      · subst h0
        go_wp2
        go_ret
        exact ⟨rfl, b0.out⟩
      · by_cases h1 : who = 1
        · subst h1
          go_wp2
          go_ret
          exact ⟨rfl, b0.out⟩
        · go_wp2
          go_ret
          exact ⟨rfl, b0.out⟩
  · go_enter Try.func7, Try.ntmps7
    go_wp2_with fail
    (with_reducible refine (awake_any _).mono ?_); rintro x w0 ⟨rfl, b0⟩
    by_cases h0 : who = 0
    · subst h0
      go_wp2
      go_ret
      exact ⟨rfl, b0.out⟩
    · by_cases h1 : who = 1
      · subst h1
        go_wp2
        go_ret
        exact ⟨rfl, b0.out⟩
      · go_wp2
        go_ret
        exact ⟨rfl, b0.out⟩
end Go.Proofs.Ytjagkolagmlakaa
