/-
  Package epochs: Meet at every argument.
-/
import Derived.Test.YtfidakogpgdnjaaEpAt
namespace Go.Proofs.Ytfidakogpgdnjaa
open Go.RowKit
/-- Both tables in their boxes. -/
def Boxes (w0 w : World) (A B : Option Addr) (n m ca cb : Nat) (x y : Int) : Prop :=
  Below w0.heap.size w0 w ∧ w0.heap.size + 1 < w.heap.size ∧ w.heap[w0.heap.size]? = some (.cells #[.slice A n ca, .int .i64 x] 25 (0, 0)) ∧ w.heap[w0.heap.size + 1]? = some (.cells #[.slice B m cb, .int .i64 y] 25 (0, 0))
theorem Boxes.on {w0 w w' : World} {A B : Option Addr} {n m ca cb : Nat} {x y : Int} (h : Boxes w0 w A B n m ca cb x y) (hb : Below w.heap.size w w') : Boxes w0 w' A B n m ca cb x y :=
  ⟨h.1.trans (hb.mono h.1.size), Nat.lt_of_lt_of_le h.2.1 hb.size, (hb.block _ (Nat.lt_trans (Nat.lt_succ_self _) h.2.1)).trans h.2.2.1, (hb.block _ h.2.1).trans h.2.2.2⟩
theorem Boxes.drew {w0 w : World} {A B : Option Addr} {n m ca cb : Nat} {x y : Int} (h : Boxes w0 w A B n m ca cb x y) : Boxes w0 w.drew A B n m ca cb x y := ⟨h.1.drew, h.2.1, h.2.2.1, h.2.2.2⟩
def Cells4 (w0 w : World) (A B : Option Addr) (n m ca cb : Nat) (x y : Int) : Prop :=
  (w.cell? ⟨w0.heap.size, 0, none⟩ = some (.slice A n ca) ∧ w.cell? ⟨w0.heap.size, 1, none⟩ = some (.int .i64 x)) ∧ w.cell? ⟨w0.heap.size + 1, 0, none⟩ = some (.slice B m cb) ∧ w.cell? ⟨w0.heap.size + 1, 1, none⟩ = some (.int .i64 y)
theorem Boxes.cells {w0 w : World} {A B : Option Addr} {n m ca cb : Nat} {x y : Int} (h : Boxes w0 w A B n m ca cb x y) : Cells4 w0 w A B n m ca cb x y := ⟨(ob2 h.2.2.1).1, (ob2 h.2.2.2).1⟩
def MeetPost (w : World) (v : Int) (e : Ending) (w' : World) : Prop := e = .returned (.int .i64 v) ∧ Hid (Below w.heap.size w w')
set_option maxHeartbeats 4000000 in
theorem meet_any (A B : Option Addr) (a b : List Int) (ca cb : Nat) (x y : Int) (ha : a.length ≤ 1073741824) (hb : b.length ≤ 1073741824) (w : World) (h1 : Sts w w.heap.size A a) (h2 : Sts w w.heap.size B b) :
    Calls Try.prog 14 #[.agg #[.slice A a.length ca, .int .i64 x], .agg #[.slice B b.length cb, .int .i64 y]] w (MeetPost w (Ep.meetV a x b y)) := by
  have GA : Hid (∀ W, Boxes w W A B a.length b.length ca cb x y → Calls Try.prog 13 #[.agg #[.slice A a.length ca, .int .i64 x]] W (BoolB W (Ep.good a x))) := Lib.hid fun W hW => good_any A a ca x (by omega) W (h1.on hW.1)
  have GB : Hid (∀ W, Boxes w W A B a.length b.length ca cb x y → Calls Try.prog 13 #[.agg #[.slice B b.length cb, .int .i64 y]] W (BoolB W (Ep.good b y))) := Lib.hid fun W hW => good_any B b cb y (by omega) W (h2.on hW.1)
  have SA : Hid (∀ W (i : Nat), i ≤ 1073741825 → Boxes w W A B a.length b.length ca cb x y → Calls Try.prog 20 #[.agg #[.slice A a.length ca, .int .i64 x], .int .i64 (i : Int)] W (IntB W (Ep.startV a x i))) := Lib.hid fun W i hi hW => start_any A a ca x i (by omega) W (h1.on hW.1)
  have SB : Hid (∀ W (i : Nat), i ≤ 1073741825 → Boxes w W A B a.length b.length ca cb x y → Calls Try.prog 20 #[.agg #[.slice B b.length cb, .int .i64 y], .int .i64 (i : Int)] W (IntB W (Ep.startV b y i))) := Lib.hid fun W i hi hW => start_any B b cb y i (by omega) W (h2.on hW.1)
  have SH : Hid (∀ W, Boxes w W A B a.length b.length ca cb x y → Calls Try.prog 24 #[.slice A a.length ca, .slice B b.length cb] W (SharedPost W (Ep.shared a b a.length b.length))) := Lib.hid fun W hW => shared_any A B a b ca cb ha hb W (h1.on hW.1) (h2.on hW.1)
  have NO : Hid (¬ (Ep.good a x = true ∧ Ep.good b y = true) → Ep.meetV a x b y = 0) := Lib.hid Ep.meet_bad
  have YES : Hid (Ep.good a x = true → Ep.good b y = true → Ep.meetV a x b y = Ep.meetIn a x b y (Ep.shared a b a.length b.length)) := Lib.hid fun p q => by unfold Ep.meetV; rw [if_pos ⟨p, q⟩]
  have SL : Hid ((Ep.shared a b a.length b.length).1 ≤ a.length ∧ (Ep.shared a b a.length b.length).2 ≤ b.length) := Lib.hid (Ep.shared_le a b _ _)
  obtain ⟨n, hn⟩ : ∃ n, n = a.length := ⟨_, rfl⟩
  obtain ⟨m, hm⟩ : ∃ m, m = b.length := ⟨_, rfl⟩
  rw [← hn, ← hm] at GA GB SA SB SH YES SL ⊢
  rw [← hn] at ha
  rw [← hm] at hb
  clear h1 h2 hn hm
  generalize Ep.shared a b n m = p at *
  obtain ⟨W1, hW1⟩ : ∃ W1, W1 = (w.alloc (.cells #[.slice A n ca, .int .i64 x] 25)).alloc (.cells #[.slice B m cb, .int .i64 y] 25) := ⟨_, rfl⟩
  have X1 : Hid (Boxes w W1 A B n m ca cb x y) := Lib.hid (by
    rw [hW1]
    refine ⟨((Below.refl _ _).alloc (Nat.le_refl _) _).alloc (by simp) _, by simp, ?_, ?_⟩
    · rw [Below.heap_alloc _ _ _ (by simp)]; exact heap_alloc_new ..
    · have := heap_alloc_new (w.alloc (.cells #[.slice A n ca, .int .i64 x] 25)) (.cells #[.slice B m cb, .int .i64 y] 25)
      rw [World.size_alloc] at this
      exact this)
  rcases hga : Ep.good a x with _ | _
  · rw [hga] at GA
    have E := Lib.hid (NO.out (by rw [hga]; simp))
    clear hga NO YES
    go_enter Try.func14, Try.ntmps14
    go_wp2_with fail
    rw [← hW1]
    obtain ⟨⟨x0, x1⟩, x2, x3⟩ := X1.out.cells
    clear hW1
    go_wp2_with fail
    (with_reducible refine (GA.out _ X1.out).mono ?_); rintro e w2 ⟨rfl, b2⟩
    go_wp2
    go_ret
    exact ⟨ret_int E.out.symm, Lib.hid (X1.out.on b2.out).1⟩
  rw [hga] at GA
  rcases hgb : Ep.good b y with _ | _
  · rw [hgb] at GB
    have E := Lib.hid (NO.out (by rw [hgb]; simp))
    clear hga hgb NO YES
    go_enter Try.func14, Try.ntmps14
    go_wp2_with fail
    rw [← hW1]
    obtain ⟨⟨x0, x1⟩, x2, x3⟩ := X1.out.cells
    clear hW1
    go_wp2_with fail
    (with_reducible refine (GA.out _ X1.out).mono ?_); rintro e w2 ⟨rfl, b2⟩
    have X2 := Lib.hid (X1.out.on b2.out)
    obtain ⟨⟨y0, y1⟩, y2, y3⟩ := X2.out.cells
    clear b2
    go_wp2_with fail
    (with_reducible refine (GB.out _ X2.out).mono ?_); rintro e w3 ⟨rfl, b3⟩
    go_wp2
    go_ret
    exact ⟨ret_int E.out.symm, Lib.hid (X2.out.on b3.out).1⟩
  rw [hgb] at GB
  have EV := Lib.hid (YES.out hga hgb)
  clear hga hgb NO YES
  obtain ⟨i, j⟩ := p
  by_cases hij : 0 < i ∧ 0 < j
  · have EM : Hid (min (Ep.startV a x i) (Ep.startV b y j) = Ep.meetV a x b y) := Lib.hid (by rw [EV.out]; unfold Ep.meetIn; rw [if_pos hij])
    have hij2 : decide (0 < i) && decide (0 < j) := by simp [hij]
    have hi1 : i ≤ 1073741824 := Nat.le_trans SL.out.1 ha
    have hj1 : j ≤ 1073741824 := Nat.le_trans SL.out.2 hb
    have SA1 : Hid (∀ W, Boxes w W A B n m ca cb x y → Calls Try.prog 20 #[.agg #[.slice A n ca, .int .i64 x], .int .i64 (IntKind.i64.wrap ((i : Int) - 1 + 1))] W (IntB W (Ep.startV a x i))) := Lib.hid fun W hW => by
      rw [show (i : Int) - 1 + 1 = i by omega, IntWalk.i64_in _ (by omega)]
      exact SA.out W i (by omega) hW
    have SB1 : Hid (∀ W, Boxes w W A B n m ca cb x y → Calls Try.prog 20 #[.agg #[.slice B m cb, .int .i64 y], .int .i64 (IntKind.i64.wrap ((j : Int) - 1 + 1))] W (IntB W (Ep.startV b y j))) := Lib.hid fun W hW => by
      rw [show (j : Int) - 1 + 1 = j by omega, IntWalk.i64_in _ (by omega)]
      exact SB.out W j (by omega) hW
    clear SA SB SL EV hij hi1 hj1
    generalize Ep.startV a x i = sa at *
    generalize Ep.startV b y j = sb at *
    go_enter Try.func14, Try.ntmps14
    go_wp2_with fail
    rw [← hW1]
    obtain ⟨⟨x0, x1⟩, x2, x3⟩ := X1.out.cells
    clear hW1
    go_wp2_with fail
    (with_reducible refine (GA.out _ X1.out).mono ?_); rintro e w2 ⟨rfl, b2⟩
    have X2 := Lib.hid (X1.out.on b2.out)
    obtain ⟨⟨y0, y1⟩, y2, y3⟩ := X2.out.cells
    clear b2
    go_wp2_with fail
    (with_reducible refine (GB.out _ X2.out).mono ?_); rintro e w3 ⟨rfl, b3⟩
    have X3 := Lib.hid (X2.out.on b3.out)
    obtain ⟨⟨z0, z1⟩, z2, z3⟩ := X3.out.cells
    clear b3
    go_wp2_with fail
    (with_reducible refine (SH.out _ X3.out).mono ?_); rintro e w4 ⟨p, q, hp, hq, rfl, b4⟩
    have X4 := Lib.hid (X3.out.on b4.out)
    have X4d := Lib.hid X4.out.drew
    rw [hij2]
    rw [← hp.out] at SA1
    rw [← hq.out] at SB1
    clear b4 hij2
    go_wp2_with fail
    have S0 : Hid (Cells4 w w4.drew A B n m ca cb x y) := Lib.hid X4d.out.cells
    unfold Cells4 at S0
    go_region_held3 (fun w' => (w'.cell? ⟨w.heap.size, 0, none⟩ = some (.slice A n ca) ∧ w'.cell? ⟨w.heap.size, 1, none⟩ = some (.int .i64 x)) ∧ w'.cell? ⟨w.heap.size + 1, 0, none⟩ = some (.slice B m cb) ∧ w'.cell? ⟨w.heap.size + 1, 1, none⟩ = some (.int .i64 y)) ((first | exact S0.out | exact S5.out | exact S6.out | go_keep))
      (first
        | (go_simp; go_at_call 20; (with_reducible refine (SA1.out _ (by first | exact X4d.out | exact X6.out)).mono ?_); rintro e w5 ⟨rfl, b5⟩; have X5 := Lib.hid (Boxes.on (by first | exact X4d.out | exact X6.out) b5.out); have S5 := Lib.hid X5.out.cells)
        | (go_simp; go_at_call 20; (with_reducible refine (SB1.out _ (by first | exact X4d.out | exact X5.out)).mono ?_); rintro e w6 ⟨rfl, b6⟩; have X6 := Lib.hid (Boxes.on (by first | exact X4d.out | exact X5.out) b6.out); have S6 := Lib.hid X6.out.cells))
    go_wp2
    go_ret
    exact ⟨ret_int EM.out, Lib.hid X6.out.1⟩
  · have hij2 : (decide (0 < i) && decide (0 < j)) = false := by simp; omega
    have SA1 : Hid (∀ W, Boxes w W A B n m ca cb x y → Calls Try.prog 20 #[.agg #[.slice A n ca, .int .i64 x], .int .i64 0] W (IntB W (Ep.startV a x 0))) := Lib.hid fun W hW => SA.out W 0 (by omega) hW
    have SB1 : Hid (∀ W, Boxes w W A B n m ca cb x y → Calls Try.prog 20 #[.agg #[.slice B m cb, .int .i64 y], .int .i64 0] W (IntB W (Ep.startV b y 0))) := Lib.hid fun W hW => SB.out W 0 (by omega) hW
    have EM : Hid (Ep.meetV a x b y = if Ep.startV a x 0 = Ep.startV b y 0 then Ep.startV a x 0 else 0) := Lib.hid (by rw [EV.out]; unfold Ep.meetIn; rw [if_neg hij])
    clear SA SB SL EV hij ha hb
    generalize Ep.startV a x 0 = sa at *
    generalize Ep.startV b y 0 = sb at *
    by_cases hs : sa = sb
    · subst hs
      have EM2 : Hid (sa = Ep.meetV a x b y) := Lib.hid (by rw [EM.out, if_pos rfl])
      clear EM
      go_enter Try.func14, Try.ntmps14
      go_wp2_with fail
      rw [← hW1]
      obtain ⟨⟨x0, x1⟩, x2, x3⟩ := X1.out.cells
      clear hW1
      go_wp2_with fail
      (with_reducible refine (GA.out _ X1.out).mono ?_); rintro e w2 ⟨rfl, b2⟩
      have X2 := Lib.hid (X1.out.on b2.out)
      obtain ⟨⟨y0, y1⟩, y2, y3⟩ := X2.out.cells
      clear b2
      go_wp2_with fail
      (with_reducible refine (GB.out _ X2.out).mono ?_); rintro e w3 ⟨rfl, b3⟩
      have X3 := Lib.hid (X2.out.on b3.out)
      obtain ⟨⟨z0, z1⟩, z2, z3⟩ := X3.out.cells
      clear b3
      go_wp2_with fail
      (with_reducible refine (SH.out _ X3.out).mono ?_); rintro e w4 ⟨p, q, hp, hq, rfl, b4⟩
      have X4 := Lib.hid (X3.out.on b4.out)
      have X4d := Lib.hid X4.out.drew
      rw [hij2]
      clear b4 hij2
      go_wp2_with fail
      have S0 : Hid (Cells4 w w4.drew A B n m ca cb x y) := Lib.hid X4d.out.cells
      unfold Cells4 at S0
      go_region_held3 (fun w' => (w'.cell? ⟨w.heap.size, 0, none⟩ = some (.slice A n ca) ∧ w'.cell? ⟨w.heap.size, 1, none⟩ = some (.int .i64 x)) ∧ w'.cell? ⟨w.heap.size + 1, 0, none⟩ = some (.slice B m cb) ∧ w'.cell? ⟨w.heap.size + 1, 1, none⟩ = some (.int .i64 y)) ((first | exact S0.out | exact S5.out | exact S6.out | go_keep))
        (first
          | (go_simp; go_at_call 20; (with_reducible refine (SA1.out _ (by first | exact X4d.out | exact X6.out)).mono ?_); rintro e w5 ⟨rfl, b5⟩; have X5 := Lib.hid (Boxes.on (by first | exact X4d.out | exact X6.out) b5.out); have S5 := Lib.hid X5.out.cells)
          | (go_simp; go_at_call 20; (with_reducible refine (SB1.out _ (by first | exact X4d.out | exact X5.out)).mono ?_); rintro e w6 ⟨rfl, b6⟩; have X6 := Lib.hid (Boxes.on (by first | exact X4d.out | exact X5.out) b6.out); have S6 := Lib.hid X6.out.cells))
      have SA2 := SA1
      go_wp2_with fail
      obtain ⟨⟨q0, q1⟩, q2, q3⟩ := X6.out.cells
      go_wp2_with fail
      (with_reducible refine (SA2.out _ X6.out).mono ?_); rintro e w7 ⟨rfl, b7⟩
      go_wp2
      go_ret
      exact ⟨ret_int EM2.out, Lib.hid (X6.out.on b7.out).1⟩
    · have hs2 : (sa == sb) = false := by simpa using hs
      have EM2 : Hid (0 = Ep.meetV a x b y) := Lib.hid (by rw [EM.out, if_neg hs])
      clear EM hs
      go_enter Try.func14, Try.ntmps14
      go_wp2_with fail
      rw [← hW1]
      obtain ⟨⟨x0, x1⟩, x2, x3⟩ := X1.out.cells
      clear hW1
      go_wp2_with fail
      (with_reducible refine (GA.out _ X1.out).mono ?_); rintro e w2 ⟨rfl, b2⟩
      have X2 := Lib.hid (X1.out.on b2.out)
      obtain ⟨⟨y0, y1⟩, y2, y3⟩ := X2.out.cells
      clear b2
      go_wp2_with fail
      (with_reducible refine (GB.out _ X2.out).mono ?_); rintro e w3 ⟨rfl, b3⟩
      have X3 := Lib.hid (X2.out.on b3.out)
      obtain ⟨⟨z0, z1⟩, z2, z3⟩ := X3.out.cells
      clear b3
      go_wp2_with fail
      (with_reducible refine (SH.out _ X3.out).mono ?_); rintro e w4 ⟨p, q, hp, hq, rfl, b4⟩
      have X4 := Lib.hid (X3.out.on b4.out)
      have X4d := Lib.hid X4.out.drew
      rw [hij2]
      clear b4 hij2
      go_wp2_with fail
      have S0 : Hid (Cells4 w w4.drew A B n m ca cb x y) := Lib.hid X4d.out.cells
      unfold Cells4 at S0
      go_region_held3 (fun w' => (w'.cell? ⟨w.heap.size, 0, none⟩ = some (.slice A n ca) ∧ w'.cell? ⟨w.heap.size, 1, none⟩ = some (.int .i64 x)) ∧ w'.cell? ⟨w.heap.size + 1, 0, none⟩ = some (.slice B m cb) ∧ w'.cell? ⟨w.heap.size + 1, 1, none⟩ = some (.int .i64 y)) ((first | exact S0.out | exact S5.out | exact S6.out | go_keep))
        (first
          | (go_simp; go_at_call 20; (with_reducible refine (SA1.out _ (by first | exact X4d.out | exact X6.out)).mono ?_); rintro e w5 ⟨rfl, b5⟩; have X5 := Lib.hid (Boxes.on (by first | exact X4d.out | exact X6.out) b5.out); have S5 := Lib.hid X5.out.cells)
          | (go_simp; go_at_call 20; (with_reducible refine (SB1.out _ (by first | exact X4d.out | exact X5.out)).mono ?_); rintro e w6 ⟨rfl, b6⟩; have X6 := Lib.hid (Boxes.on (by first | exact X4d.out | exact X5.out) b6.out); have S6 := Lib.hid X6.out.cells))
      go_wp2
      go_ret
      exact ⟨ret_int EM2.out, Lib.hid X6.out.1⟩
end Go.Proofs.Ytfidakogpgdnjaa
