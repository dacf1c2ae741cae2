/-
  The functions of package sum that the document lists (Of, On, Join, Turn), and the reference's, at every argument in range: the same plain numbers on both sides.
-/
import Derived.Test.YtlhoeekeafjogaaSumWalks
namespace Go.Proofs.Ytlhoeekeafjogaa
open Go.RowKit

/-! ### On, Of -/
set_option maxHeartbeats 400000 in
theorem on_any (s : Int) (h0 : 0 ≤ s) (h1 : s < 4294967296) (B : Nat) (A : Option Addr) (zs : List Int) (cap : Nat) (hl : zs.length ≤ 9223372036854775807) (w : World) (hb : Bytes w B A zs) :
    Calls Try.prog 9 #[.int .u32 s, .slice A zs.length cap] w fun e w' => e = .returned (.tuple #[.int .u32 (Su.onV s zs), .bool (Su.okS s)]) ∧ w = w' := by
  have G := Lib.hid (fun w => good_any s h0 h1 w)
  by_cases hs : Su.okS s = true
  · have X := Lib.hid (extend_any s h0 h1 hs B A zs cap hl w hb)
    have hv : Su.onV s zs = Su.ext s zs := by unfold Su.onV; rw [if_pos hs]
    rw [hv, hs]
    rw [hs] at G
    clear hv hs hb
    generalize Su.ext s zs = v at *
    go_enter Try.func9, Try.ntmps9
    go_wp2_with fail
    refine (G.out _).mono ?_; rintro e w' ⟨rfl, rfl⟩
    go_wp2_with fail
    refine X.out.mono ?_; rintro e w' ⟨rfl, rfl⟩
    go_wp2
    go_ret2
    exact ⟨rfl, rfl⟩
  · have hs' : Su.okS s = false := by simpa using hs
    have hv : Su.onV s zs = 0 := by unfold Su.onV; rw [if_neg hs]
    rw [hv, hs']
    rw [hs'] at G
    clear hv hs hs' hb
    go_enter Try.func9, Try.ntmps9
    go_wp2_with fail
    refine (G.out _).mono ?_; rintro e w' ⟨rfl, rfl⟩
    go_wp2
    go_ret2
    exact ⟨rfl, rfl⟩
set_option maxHeartbeats 400000 in
theorem of_any (B : Nat) (A : Option Addr) (zs : List Int) (cap : Nat) (hl : zs.length ≤ 9223372036854775807) (w : World) (hb : Bytes w B A zs) :
    Calls Try.prog 12 #[.slice A zs.length cap] w fun e w' => e = .returned (.int .u32 (Su.ofV zs)) ∧ w = w' := by
  have X := Lib.hid (extend_any 1 (by decide) (by decide) (by decide) B A zs cap hl w hb)
  have hv : Su.ext 1 zs = Su.ofV zs := rfl
  rw [hv] at X
  clear hv hb
  generalize Su.ofV zs = v at *
  go_enter Try.func12, Try.ntmps12
  go_wp2_with fail
  refine X.out.mono ?_; rintro e w' ⟨rfl, rfl⟩
  go_wp2
  go_ret
  exact ⟨rfl, rfl⟩

/-! ### Join -/
theorem prod_bd (x y : Int) (h0 : -65521 < x) (h1 : x < 65521) (h2 : -1 ≤ y) (h3 : y < 65521) : -4294967296 ≤ x * y ∧ x * y ≤ 4294967296 := by
  have hx : x.natAbs ≤ 65536 := by omega
  have hy : y.natAbs ≤ 65536 := by omega
  have h := Nat.mul_le_mul hx hy
  rw [← Int.natAbs_mul] at h
  omega
set_option maxHeartbeats 400000 in
theorem join_yes (s t n : Int) (h0 : 0 ≤ s) (h1 : s < 4294967296) (h2 : 0 ≤ t) (h3 : t < 4294967296) (hn : 0 ≤ n) (hs : Su.okS s = true) (ht : Su.okS t = true) (w : World) :
    Calls Try.prog 10 #[.int .u32 s, .int .u32 t, .int .i64 n] w fun e w' => e = .returned (.tuple #[.int .u32 (Su.joinV s t n), .bool true]) ∧ w = w' := by
  have hs' := (Su.okS_iff s).1 hs
  have ht' := (Su.okS_iff t).1 ht
  have ho : Su.joinOk s t n = true := by unfold Su.joinOk; rw [hs, ht]; simp [hn]
  have hv : Su.joinV s t n = Su.word ((s % 65536 + t % 65536 - 1) % 65521, (s / 65536 + t / 65536 + n % 65521 * (s % 65536 - 1)) % 65521) := by
    unfold Su.joinV; rw [if_pos ho]
  rw [hv]
  have Gs := Lib.hid (fun w => good_any s h0 h1 w)
  have Gt := Lib.hid (fun w => good_any t h2 h3 w)
  rw [hs] at Gs
  rw [ht] at Gt
  have Ss := Lib.hid (fun w => split_any s h0 h1 w)
  have St := Lib.hid (fun w => split_any t h2 h3 w)
  have a0 : 0 ≤ s % 65536 := by omega
  have a1 : s % 65536 < 65521 := hs'.2
  have c0 : 0 ≤ s / 65536 := by omega
  have c1 : s / 65536 < 65521 := hs'.1
  have x0 : 0 ≤ t % 65536 := by omega
  have x1 : t % 65536 < 65521 := ht'.2
  have y0 : 0 ≤ t / 65536 := by omega
  have y1 : t / 65536 < 65521 := ht'.1
  clear hs ht hs' ht' ho hv h0 h1 h2 h3
  generalize s % 65536 = a at *
  generalize s / 65536 = c at *
  generalize t % 65536 = x at *
  generalize t / 65536 = y at *
  obtain ⟨p0, p1⟩ := prod_bd (n % 65521) (a - 1) (by omega) (by omega) (by omega) (by omega)
  have PK := Lib.hid (fun w => pack_any (a + x - 1) (c + y + n % 65521 * (a - 1)) (by omega) (by omega) (by omega) (by omega) w)
  go_enter Try.func10, Try.ntmps10
  go_wp2_with fail
  refine (Gs.out _).mono ?_; rintro e w' ⟨rfl, rfl⟩
  go_wp2_with fail
  refine (Gt.out _).mono ?_; rintro e w' ⟨rfl, rfl⟩
  go_wp2_with fail
  refine (Ss.out _).mono ?_; rintro e w' ⟨rfl, rfl⟩
  go_wp2_with fail
  refine (St.out _).mono ?_; rintro e w' ⟨rfl, rfl⟩
  go_wp2_with fail
  refine (PK.out _).mono ?_; rintro e w' ⟨rfl, rfl⟩
  go_wp2
  go_ret2
  exact ⟨rfl, rfl⟩
set_option maxHeartbeats 400000 in
theorem join_any (s t n : Int) (h0 : 0 ≤ s) (h1 : s < 4294967296) (h2 : 0 ≤ t) (h3 : t < 4294967296) (w : World) :
    Calls Try.prog 10 #[.int .u32 s, .int .u32 t, .int .i64 n] w fun e w' => e = .returned (.tuple #[.int .u32 (Su.joinV s t n), .bool (Su.joinOk s t n)]) ∧ w = w' := by
  by_cases h : Su.joinOk s t n = true
  · have h' := h
    unfold Su.joinOk at h'
    simp only [Bool.and_eq_true, decide_eq_true_eq] at h'
    rw [h]
    exact join_yes s t n h0 h1 h2 h3 h'.2 h'.1.1 h'.1.2 w
  · have ho : Su.joinOk s t n = false := by simpa using h
    have hv : Su.joinV s t n = 0 := by unfold Su.joinV; rw [if_neg h]
    have hc : Su.okS s = false ∨ (Su.okS s = true ∧ Su.okS t = false) ∨ (Su.okS s = true ∧ Su.okS t = true ∧ n < 0) := by
      unfold Su.joinOk at h
      rcases Bool.eq_false_or_eq_true (Su.okS s) with e | e
      · rcases Bool.eq_false_or_eq_true (Su.okS t) with e' | e'
        · right; right; refine ⟨e, e', ?_⟩; rw [e, e'] at h; simp at h; omega
        · right; left; exact ⟨e, e'⟩
      · left; exact e
    rw [hv, ho]
    clear hv ho h
    have Gs := Lib.hid (fun w => good_any s h0 h1 w)
    have Gt := Lib.hid (fun w => good_any t h2 h3 w)
    rcases hc with e | ⟨e, e'⟩ | ⟨e, e', hn⟩
    · rw [e] at Gs
      clear e Gt
      go_enter Try.func10, Try.ntmps10
      go_wp2_with fail
      refine (Gs.out _).mono ?_; rintro e w' ⟨rfl, rfl⟩
      go_wp2
      go_ret2
      exact ⟨rfl, rfl⟩
    · rw [e] at Gs
      rw [e'] at Gt
      clear e e'
      go_enter Try.func10, Try.ntmps10
      go_wp2_with fail
      refine (Gs.out _).mono ?_; rintro e w' ⟨rfl, rfl⟩
      go_wp2_with fail
      refine (Gt.out _).mono ?_; rintro e w' ⟨rfl, rfl⟩
      go_wp2
      go_ret2
      exact ⟨rfl, rfl⟩
    · rw [e] at Gs
      rw [e'] at Gt
      clear e e'
      go_enter Try.func10, Try.ntmps10
      go_wp2_with fail
      refine (Gs.out _).mono ?_; rintro e w' ⟨rfl, rfl⟩
      go_wp2_with fail
      refine (Gt.out _).mono ?_; rintro e w' ⟨rfl, rfl⟩
      go_wp2
      go_ret2
      exact ⟨rfl, rfl⟩

/-! ### Turn -/
set_option maxHeartbeats 400000 in
theorem turn_yes (s n i x y : Int) (h0 : 0 ≤ s) (h1 : s < 4294967296) (hn : n ≤ 9223372036854775807) (hi : 0 ≤ i) (hin : i < n)
    (x0 : 0 ≤ x) (x1 : x ≤ 255) (y0 : 0 ≤ y) (y1 : y ≤ 255) (hs : Su.okS s = true) (w : World) :
    Calls Try.prog 11 #[.int .u32 s, .int .i64 n, .int .i64 i, .int .u8 x, .int .u8 y] w fun e w' => e = .returned (.tuple #[.int .u32 (Su.turnV s n i x y), .bool true]) ∧ w = w' := by
  have hs' := (Su.okS_iff s).1 hs
  have ho : Su.turnOk s n i = true := by unfold Su.turnOk; rw [hs]; simp; omega
  have hv : Su.turnV s n i x y = Su.word ((s % 65536 + (y - x)) % 65521, (s / 65536 + (n - i) % 65521 * (y - x)) % 65521) := by
    unfold Su.turnV; rw [if_pos ho]
  rw [hv]
  have Gs := Lib.hid (fun w => good_any s h0 h1 w)
  rw [hs] at Gs
  have Ss := Lib.hid (fun w => split_any s h0 h1 w)
  have a0 : 0 ≤ s % 65536 := by omega
  have a1 : s % 65536 < 65521 := hs'.2
  have c0 : 0 ≤ s / 65536 := by omega
  have c1 : s / 65536 < 65521 := hs'.1
  clear hs hs' ho hv h0 h1
  generalize s % 65536 = a at *
  generalize s / 65536 = c at *
  have hp : -4294967296 ≤ (n - i) % 65521 * (y - x) ∧ (n - i) % 65521 * (y - x) ≤ 4294967296 := by
    by_cases hd : 0 ≤ y - x
    · exact prod_bd ((n - i) % 65521) (y - x) (by omega) (by omega) (by omega) (by omega)
    · have := prod_bd ((n - i) % 65521) (-(y - x)) (by omega) (by omega) (by omega) (by omega)
      rw [Int.mul_neg] at this
      omega
  obtain ⟨p0, p1⟩ := hp
  have PK := Lib.hid (fun w => pack_any (a + (y - x)) (c + (n - i) % 65521 * (y - x)) (by omega) (by omega) (by omega) (by omega) w)
  have n1 : 1 ≤ n := by omega
  go_enter Try.func11, Try.ntmps11
  go_wp2_with fail
  refine (Gs.out _).mono ?_; rintro e w' ⟨rfl, rfl⟩
  go_wp2_with fail
  refine (Ss.out _).mono ?_; rintro e w' ⟨rfl, rfl⟩
  go_wp2_with fail
  refine (PK.out _).mono ?_; rintro e w' ⟨rfl, rfl⟩
  go_wp2
  go_ret2
  exact ⟨rfl, rfl⟩
set_option maxHeartbeats 400000 in
theorem turn_any (s n i x y : Int) (h0 : 0 ≤ s) (h1 : s < 4294967296) (hn : n ≤ 9223372036854775807)
    (x0 : 0 ≤ x) (x1 : x ≤ 255) (y0 : 0 ≤ y) (y1 : y ≤ 255) (w : World) :
    Calls Try.prog 11 #[.int .u32 s, .int .i64 n, .int .i64 i, .int .u8 x, .int .u8 y] w fun e w' => e = .returned (.tuple #[.int .u32 (Su.turnV s n i x y), .bool (Su.turnOk s n i)]) ∧ w = w' := by
  by_cases h : Su.turnOk s n i = true
  · have h' := h
    unfold Su.turnOk at h'
    simp only [Bool.and_eq_true, decide_eq_true_eq] at h'
    rw [h]
    exact turn_yes s n i x y h0 h1 hn h'.1.2 h'.2 x0 x1 y0 y1 h'.1.1.1 w
  · have ho : Su.turnOk s n i = false := by simpa using h
    have hv : Su.turnV s n i x y = 0 := by unfold Su.turnV; rw [if_neg h]
    have hc : Su.okS s = false ∨ (Su.okS s = true ∧ n < 1) ∨ (Su.okS s = true ∧ 1 ≤ n ∧ i < 0) ∨ (Su.okS s = true ∧ 1 ≤ n ∧ 0 ≤ i ∧ n ≤ i) := by
      unfold Su.turnOk at h
      rcases Bool.eq_false_or_eq_true (Su.okS s) with e | e
      · right; rw [e] at h; simp at h; simp [e]; omega
      · left; exact e
    rw [hv, ho]
    clear hv ho h
    have Gs := Lib.hid (fun w => good_any s h0 h1 w)
    rcases hc with e | ⟨e, hn1⟩ | ⟨e, hn1, hi⟩ | ⟨e, hn1, hi, hin⟩
    all_goals
      rw [e] at Gs
      clear e
      go_enter Try.func11, Try.ntmps11
      go_wp2_with fail
      refine (Gs.out _).mono ?_; rintro e w' ⟨rfl, rfl⟩
      go_wp2
      go_ret2
      exact ⟨rfl, rfl⟩
end Go.Proofs.Ytlhoeekeafjogaa
