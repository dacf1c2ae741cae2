/-
  The law EpochsBoth: how far two tables are alike does not hang on which is told first.
-/
import Derived.Test.YtfidakogpgdnjaaEpAwake
import Derived.Test.YtfidakogpgdnjaaEpMeet
namespace Go.Proofs.Ytfidakogpgdnjaa
open Go.RowKit
theorem Boxes.start (w : World) (A B : Option Addr) (n m ca cb : Nat) (x y : Int) : Boxes w ((w.alloc (.cells #[.slice A n ca, .int .i64 x] 25)).alloc (.cells #[.slice B m cb, .int .i64 y] 25)) A B n m ca cb x y := by
  refine ⟨((Below.refl _ _).alloc (Nat.le_refl _) _).alloc (by simp) _, by simp, ?_, ?_⟩
  · rw [Below.heap_alloc _ _ _ (by simp)]; exact heap_alloc_new ..
  · have := heap_alloc_new (w.alloc (.cells #[.slice A n ca, .int .i64 x] 25)) (.cells #[.slice B m cb, .int .i64 y] 25)
    rw [World.size_alloc] at this
    exact this
set_option maxHeartbeats 1000000 in
theorem both_off (A B : Option Addr) (n m ca cb : Nat) (x y : Int) (h : 30 < n ∨ (n ≤ 30 ∧ 30 < m)) (w : World) :
    Calls Try.prog 6 #[.agg #[.slice A n ca, .int .i64 x], .agg #[.slice B m cb, .int .i64 y]] w fun e w' => e = .returned (.bool true) ∧ Below w.heap.size w w' := by
  obtain ⟨W1, hW1⟩ : ∃ W1, W1 = (w.alloc (.cells #[.slice A n ca, .int .i64 x] 25)).alloc (.cells #[.slice B m cb, .int .i64 y] 25) := ⟨_, rfl⟩
  have X1 : Hid (Boxes w W1 A B n m ca cb x y) := Lib.hid (by rw [hW1]; exact Boxes.start ..)
  rcases h with h | ⟨h, h2⟩
  · have h' : (30 : Int) < (n : Int) := by omega
    clear h
    go_enter Try.func6, Try.ntmps6
    go_wp2_with fail
    rw [← hW1]
    clear hW1
    (with_reducible refine (awake_any _).mono ?_); rintro e w2 ⟨rfl, b2⟩
    have X2 := Lib.hid (X1.out.on b2.out)
    obtain ⟨⟨y0, y1⟩, y2, y3⟩ := X2.out.cells
    go_wp2
    go_ret
    exact ⟨rfl, X2.out.1⟩
  · have h' : (n : Int) ≤ (30 : Int) := by omega
    have h2' : (30 : Int) < (m : Int) := by omega
    clear h h2
    go_enter Try.func6, Try.ntmps6
    go_wp2_with fail
    rw [← hW1]
    clear hW1
    (with_reducible refine (awake_any _).mono ?_); rintro e w2 ⟨rfl, b2⟩
    have X2 := Lib.hid (X1.out.on b2.out)
    obtain ⟨⟨y0, y1⟩, y2, y3⟩ := X2.out.cells
    go_wp2
    go_ret
    exact ⟨rfl, X2.out.1⟩
set_option maxHeartbeats 4000000 in
set_option maxRecDepth 20000 in
theorem both_on (A B : Option Addr) (a b : List Int) (ca cb : Nat) (x y : Int) (ha : a.length ≤ 30) (hb : b.length ≤ 30) (w : World) (h1 : Sts w w.heap.size A a) (h2 : Sts w w.heap.size B b) :
    Calls Try.prog 6 #[.agg #[.slice A a.length ca, .int .i64 x], .agg #[.slice B b.length cb, .int .i64 y]] w fun e w' => e = .returned (.bool true) ∧ Below w.heap.size w w' := by
  have GA : Hid (∀ W, Boxes w W A B a.length b.length ca cb x y → Calls Try.prog 13 #[.agg #[.slice A a.length ca, .int .i64 x]] W (BoolB W (Ep.good a x))) := Lib.hid fun W hW => good_any A a ca x (by omega) W (h1.on hW.1)
  have GB : Hid (∀ W, Boxes w W A B a.length b.length ca cb x y → Calls Try.prog 13 #[.agg #[.slice B b.length cb, .int .i64 y]] W (BoolB W (Ep.good b y))) := Lib.hid fun W hW => good_any B b cb y (by omega) W (h2.on hW.1)
  have MAB : Hid (∀ W, Boxes w W A B a.length b.length ca cb x y → Calls Try.prog 14 #[.agg #[.slice A a.length ca, .int .i64 x], .agg #[.slice B b.length cb, .int .i64 y]] W (MeetPost W (Ep.meetV a x b y))) := Lib.hid fun W hW => meet_any A B a b ca cb x y (by omega) (by omega) W (h1.on hW.1) (h2.on hW.1)
  have MBA : Hid (∀ W, Boxes w W A B a.length b.length ca cb x y → Calls Try.prog 14 #[.agg #[.slice B b.length cb, .int .i64 y], .agg #[.slice A a.length ca, .int .i64 x]] W (MeetPost W (Ep.meetV a x b y))) := Lib.hid fun W hW => by
    rw [← Ep.meet_swap a x b y]; exact meet_any B A b a cb ca y x (by omega) (by omega) W (h2.on hW.1) (h1.on hW.1)
  have MAA : Hid (∀ W, Boxes w W A B a.length b.length ca cb x y → Ep.good a x = true → Calls Try.prog 14 #[.agg #[.slice A a.length ca, .int .i64 x], .agg #[.slice A a.length ca, .int .i64 x]] W (MeetPost W x)) := Lib.hid fun W hW hg => by
    have := meet_any A A a a ca ca x x (by omega) (by omega) W (h1.on hW.1) (h1.on hW.1)
    rw [Ep.meet_self hg] at this
    exact this
  have NO : Hid (¬ (Ep.good a x = true ∧ Ep.good b y = true) → Ep.meetV a x b y = 0) := Lib.hid Ep.meet_bad
  have RG : Hid (Ep.good a x = true → Ep.good b y = true → 0 ≤ Ep.meetV a x b y ∧ Ep.meetV a x b y ≤ x ∧ Ep.meetV a x b y ≤ y) := Lib.hid fun p q => Ep.meet_range p q
  have ha' : (a.length : Int) ≤ 30 := by omega
  have hb' : (b.length : Int) ≤ 30 := by omega
  clear h1 h2 ha hb
  generalize a.length = n at *
  generalize b.length = m at *
  generalize Ep.meetV a x b y = v at *
  obtain ⟨W1, hW1⟩ : ∃ W1, W1 = (w.alloc (.cells #[.slice A n ca, .int .i64 x] 25)).alloc (.cells #[.slice B m cb, .int .i64 y] 25) := ⟨_, rfl⟩
  have X1 : Hid (Boxes w W1 A B n m ca cb x y) := Lib.hid (by rw [hW1]; exact Boxes.start ..)
  rcases hga : Ep.good a x with _ | _
  · rw [hga] at GA
    obtain rfl := NO.out (by rw [hga]; simp)
    clear hga NO RG MAA
    go_enter Try.func6, Try.ntmps6
    go_wp2_with fail
    rw [← hW1]
    clear hW1
    (with_reducible refine (awake_any _).mono ?_); rintro e w2 ⟨rfl, b2⟩
    have X2 := Lib.hid (X1.out.on b2.out)
    obtain ⟨⟨y0, y1⟩, y2, y3⟩ := X2.out.cells
    clear b2
    go_wp2_with fail
    (with_reducible refine (MAB.out _ X2.out).mono ?_); rintro e w3 ⟨rfl, b3⟩
    have X3 := Lib.hid (X2.out.on b3.out)
    obtain ⟨⟨z0, z1⟩, z2, z3⟩ := X3.out.cells
    clear b3
    go_wp2_with fail
    (with_reducible refine (GA.out _ X3.out).mono ?_); rintro e w4 ⟨rfl, b4⟩
    go_wp2
    go_ret
    exact ⟨rfl, (X3.out.on b4.out).1⟩
  rw [hga] at GA
  rcases hgb : Ep.good b y with _ | _
  · rw [hgb] at GB
    obtain rfl := NO.out (by rw [hgb]; simp)
    clear hga hgb NO RG MAA
    go_enter Try.func6, Try.ntmps6
    go_wp2_with fail
    rw [← hW1]
    clear hW1
    (with_reducible refine (awake_any _).mono ?_); rintro e w2 ⟨rfl, b2⟩
    have X2 := Lib.hid (X1.out.on b2.out)
    obtain ⟨⟨y0, y1⟩, y2, y3⟩ := X2.out.cells
    clear b2
    go_wp2_with fail
    (with_reducible refine (MAB.out _ X2.out).mono ?_); rintro e w3 ⟨rfl, b3⟩
    have X3 := Lib.hid (X2.out.on b3.out)
    obtain ⟨⟨z0, z1⟩, z2, z3⟩ := X3.out.cells
    clear b3
    go_wp2_with fail
    (with_reducible refine (GA.out _ X3.out).mono ?_); rintro e w4 ⟨rfl, b4⟩
    have X4 := Lib.hid (X3.out.on b4.out)
    obtain ⟨⟨v0, v1⟩, v2, v3⟩ := X4.out.cells
    clear b4
    go_wp2_with fail
    (with_reducible refine (GB.out _ X4.out).mono ?_); rintro e w5 ⟨rfl, b5⟩
    go_wp2
    go_ret
    exact ⟨rfl, (X4.out.on b5.out).1⟩
  rw [hgb] at GB
  have MA1 : Hid (∀ W, Boxes w W A B n m ca cb x y → Calls Try.prog 14 #[.agg #[.slice A n ca, .int .i64 x], .agg #[.slice A n ca, .int .i64 x]] W (MeetPost W x)) := Lib.hid fun W hW => MAA.out W hW hga
  obtain ⟨v0, v1, v2⟩ := RG.out hga hgb
  clear hga hgb NO RG MAA
  have d0 : decide (0 ≤ v) = true := decide_eq_true v0
  have d1 : decide (v ≤ x) = true := decide_eq_true v1
  have d2 : decide (v ≤ y) = true := decide_eq_true v2
  go_enter Try.func6, Try.ntmps6
  go_wp2_with fail
  rw [← hW1]
  clear hW1
  (with_reducible refine (awake_any _).mono ?_); rintro e w2 ⟨rfl, b2⟩
  have X2 := Lib.hid (X1.out.on b2.out)
  obtain ⟨⟨y0, y1⟩, y2, y3⟩ := X2.out.cells
  clear b2
  go_wp2_with fail
  (with_reducible refine (MAB.out _ X2.out).mono ?_); rintro e w3 ⟨rfl, b3⟩
  have X3 := Lib.hid (X2.out.on b3.out)
  obtain ⟨⟨z0, z1⟩, z2, z3⟩ := X3.out.cells
  clear b3
  go_wp2_with fail
  (with_reducible refine (GA.out _ X3.out).mono ?_); rintro e w4 ⟨rfl, b4⟩
  have X4 := Lib.hid (X3.out.on b4.out)
  obtain ⟨⟨q0, q1⟩, q2, q3⟩ := X4.out.cells
  clear b4
  go_wp2_with fail
  (with_reducible refine (GB.out _ X4.out).mono ?_); rintro e w5 ⟨rfl, b5⟩
  have X5 := Lib.hid (X4.out.on b5.out)
  have X5d := Lib.hid X5.out.drew
  clear b5
  go_wp2_with fail
  have S0 : Hid (Cells4 w w5.drew A B n m ca cb x y) := Lib.hid X5d.out.cells
  unfold Cells4 at S0
  go_region_held3 (fun w' => (w'.cell? ⟨w.heap.size, 0, none⟩ = some (.slice A n ca) ∧ w'.cell? ⟨w.heap.size, 1, none⟩ = some (.int .i64 x)) ∧ w'.cell? ⟨w.heap.size + 1, 0, none⟩ = some (.slice B m cb) ∧ w'.cell? ⟨w.heap.size + 1, 1, none⟩ = some (.int .i64 y)) ((first | exact S0.out | exact S6.out | exact S7.out | go_keep))
    (first
      | (go_simp; go_at_call 14; (with_reducible refine (MBA.out _ X5d.out).mono ?_); rintro e w6 ⟨rfl, b6⟩; have X6 := Lib.hid (Boxes.on X5d.out b6.out); have S6 := Lib.hid X6.out.cells)
      | (go_simp; go_at_call 14; (with_reducible refine (MA1.out _ X6.out).mono ?_); rintro e w7 ⟨rfl, b7⟩; have X7 := Lib.hid (Boxes.on X6.out b7.out); have S7 := Lib.hid X7.out.cells))
  go_wp2
  go_ret
  exact ⟨rfl, X7.out.1⟩
theorem both_walk (A B : Option Addr) (a b : List Int) (ca cb : Nat) (x y : Int) (w : World) (h1 : Sts w w.heap.size A a) (h2 : Sts w w.heap.size B b) :
    Calls Try.prog 6 #[.agg #[.slice A a.length ca, .int .i64 x], .agg #[.slice B b.length cb, .int .i64 y]] w fun e w' => e = .returned (.bool true) ∧ Below w.heap.size w w' := by
  by_cases h : a.length ≤ 30 ∧ b.length ≤ 30
  · exact both_on A B a b ca cb x y h.1 h.2 w h1 h2
  · exact both_off A B _ _ ca cb x y (by omega) w
end Go.Proofs.Ytfidakogpgdnjaa
