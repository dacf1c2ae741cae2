/-
  The reference's functions of chapter 2: the same plain numbers as package sum's own; beyond draws of an order the world is as it was.
-/
import Derived.Test.YtlhoeekeafjogaaSumCalls
import Derived.Deep.QuietTactic
import Derived.BigQuiet
import Derived.Deep.RegionWith
namespace Go.Proofs.Ytlhoeekeafjogaa
open Go.RowKit

theorem below_n {B : Nat} {a w : World} (h : Below B a w) (n : Nat) : Below B a (w.drewN n) := ⟨h.os, h.tape, h.output, h.size, h.block⟩
theorem prime_any (w : World) : Calls Try.prog 23 #[] w fun e w' => e = .returned (.int .u64 65521) ∧ w = w' := by
  go_enter Try.func23, Try.ntmps23
  go_wp2
  go_ret
  exact ⟨rfl, rfl⟩
set_option maxHeartbeats 400000 in
theorem refGood_any (s : Int) (h0 : 0 ≤ s) (h1 : s < 4294967296) (w : World) :
    Calls Try.prog 18 #[.int .u32 s] w fun e w' => e = .returned (.bool (Su.okS s)) ∧ w = w' := by
  by_cases h : s % 65536 < 65521
  · go_enter Try.func18, Try.ntmps18
    go_wp2_with (go_at_call 23; refine (prime_any _).mono ?_; rintro e w' ⟨rfl, rfl⟩)
    go_ret
    exact ⟨ret_bool (by simp [Su.okS, h]), rfl⟩
  · have h' : 65521 ≤ s % 65536 := by omega
    go_enter Try.func18, Try.ntmps18
    go_wp2_with (go_at_call 23; refine (prime_any _).mono ?_; rintro e w' ⟨rfl, rfl⟩)
    go_ret
    exact ⟨ret_bool (by simp [Su.okS]; omega), rfl⟩
set_option maxHeartbeats 400000 in
theorem halves_any (s : Int) (h0 : 0 ≤ s) (h1 : s < 4294967296) (w : World) :
    Calls Try.prog 22 #[.int .u32 s] w fun e w' => e = .returned (.tuple #[.int .u64 (s % 65536), .int .u64 (s / 65536)]) ∧ w = w' := by
  go_enter Try.func22, Try.ntmps22
  go_wp2
  go_ret2
  exact ⟨rfl, rfl⟩
set_option maxHeartbeats 400000 in
theorem refWord_any (a c : Int) (h0 : 0 ≤ a) (h1 : a < 65521) (h2 : 0 ≤ c) (h3 : c < 65521) (w : World) :
    Calls Try.prog 24 #[.int .u64 a, .int .u64 c] w fun e w' => e = .returned (.int .u32 (Su.word (a, c))) ∧ w = w' := by
  have ew : Su.word (a, c) = c * 65536 + a := rfl
  rw [ew]; clear ew
  go_enter Try.func24, Try.ntmps24
  go_wp2
  go_ret
  exact ⟨rfl, rfl⟩

/-- A call that changes nothing, inside a region that draws. -/
theorem still {P : Program} {f : FuncId} {args : Array Value} {w : World} {n : Nat} {v : Value} (h : ∀ W, Calls P f args W fun e w' => e = .returned v ∧ W = w') :
    Calls P f args (w.drewN n) fun e w' => e = .returned v ∧ ∃ m, w' = w.drewN m :=
  (h _).mono fun _ _ ⟨he, hm⟩ => ⟨he, n, hm.symm⟩

/-! ### On, Sum -/
set_option maxHeartbeats 1000000 in
theorem refOn_yes (s : Int) (h0 : 0 ≤ s) (h1 : s < 4294967296) (hs : Su.okS s = true) (A : Option Addr) (zs : List Int) (cap : Nat) (hl : zs.length ≤ 9223372036854775807) (w : World) (hb : Bytes w w.heap.size A zs) :
    Calls Try.prog 14 #[.int .u32 s, .slice A zs.length cap] w fun e w' => e = .returned (.tuple #[.int .u32 (Su.ext s zs), .bool true]) ∧ Below w.heap.size w w' := by
  have hs' := (Su.okS_iff s).1 hs
  have S0 := At.start (zs := zs) (a0 := s % 65536) (c0 := s / 65536) (by omega) hs'.2 (by omega) hs'.1
  have E0 := fun a c => At.end_ (s := s) (zs := zs) (a := a) (c := c)
  have S := Lib.hid S0
  have E := Lib.hid E0
  have H := Lib.hid hb
  have G := Lib.hid (fun w => refGood_any s h0 h1 w)
  rw [hs] at G
  have HH := Lib.hid (fun w => halves_any s h0 h1 w)
  clear hb hs hs' S0 E0
  go_enter Try.func14, Try.ntmps14
  go_wp2_with fail
  refine (G.out _).mono ?_; rintro e w' ⟨rfl, rfl⟩
  go_wp2_with fail
  refine (HH.out _).mono ?_; rintro e w' ⟨rfl, rfl⟩
  go_wp2_with fail
  go_loopw [6, 7, 8] (fun a c i wr => ∃ (k : Nat) (x y : Int), k ≤ zs.length ∧ At (s % 65536) (s / 65536) zs k x y ∧ i = .int .i64 k ∧ a = .int .u64 x ∧ c = .int .u64 y ∧ Below w.heap.size w wr) (fun _ _ i _ => zs.length - (intOf i).toNat)
  case atStart => exact ⟨0, _, _, Nat.zero_le _, S.out, rfl, rfl, rfl, Below.refl _ _⟩
  case round =>
    obtain ⟨k, x, y, hk, hat, rfl, rfl, rfl, hbel⟩ := hrel
    obtain ⟨x0, x1, y0, y1⟩ := hat.2
    have HA := Lib.hid hat
    have HB := Lib.hid hbel
    clear hat hbel
    by_cases hlt : k < zs.length
    · obtain ⟨b, off, z, rfl, hbb, hc, hz, z0, z1⟩ := (H.out.below HB.out).at_ hlt
      have hlt2 : (k : Int) < (zs.length : Int) := by omega
      have t1 : IntKind.u64.wrap (x + z) = x + z := IntWalk.u64_in _ (by omega)
      have t2 : (x + z).tmod 65521 = (x + z) % 65521 := Int.tmod_eq_emod_of_nonneg (by omega)
      have t3 : IntKind.u64.wrap z = z := IntWalk.u64_in _ (by omega)
      go_wp2_with fail
      go_quiet ((go_at_call 23; exact still prime_any))
      clear t1 t2 t3
      go_wp2_with (go_at_call 23; refine (prime_any _).mono ?_; rintro e w' ⟨rfl, rfl⟩)
      go_roundw
      case rel => exact ⟨k + 1, _, _, by omega, HA.out.next hlt hz.out, by go_num, rfl, rfl, below_n HB.out _⟩
      case measure => simp [intOf]; omega
    · go_wp2_with (go_at_call 24; refine (refWord_any _ _ x0 x1 y0 y1 _).mono ?_; rintro e w' ⟨rfl, rfl⟩)
      go_ret2
      have hkk : k = zs.length := by omega
      subst hkk
      exact ⟨ret_pair (E.out _ _ HA.out) rfl, HB.out⟩
set_option maxHeartbeats 400000 in
theorem refOn_any (s : Int) (h0 : 0 ≤ s) (h1 : s < 4294967296) (A : Option Addr) (zs : List Int) (cap : Nat) (hl : zs.length ≤ 9223372036854775807) (w : World) (hb : Bytes w w.heap.size A zs) :
    Calls Try.prog 14 #[.int .u32 s, .slice A zs.length cap] w fun e w' => e = .returned (.tuple #[.int .u32 (Su.onV s zs), .bool (Su.okS s)]) ∧ Below w.heap.size w w' := by
  by_cases hs : Su.okS s = true
  · have hv : Su.onV s zs = Su.ext s zs := by unfold Su.onV; rw [if_pos hs]
    rw [hv, hs]
    exact refOn_yes s h0 h1 hs A zs cap hl w hb
  · have hs' : Su.okS s = false := by simpa using hs
    have hv : Su.onV s zs = 0 := by unfold Su.onV; rw [if_neg hs]
    have G := Lib.hid (fun w => refGood_any s h0 h1 w)
    rw [hv, hs']
    rw [hs'] at G
    clear hv hs hs' hb
    go_enter Try.func14, Try.ntmps14
    go_wp2_with fail
    refine (G.out _).mono ?_; rintro e w' ⟨rfl, rfl⟩
    go_wp2
    go_ret2
    exact ⟨rfl, Below.refl _ _⟩
set_option maxHeartbeats 400000 in
theorem refSum_any (A : Option Addr) (zs : List Int) (cap : Nat) (hl : zs.length ≤ 9223372036854775807) (w : World) (hb : Bytes w w.heap.size A zs) :
    Calls Try.prog 17 #[.slice A zs.length cap] w fun e w' => e = .returned (.int .u32 (Su.ofV zs)) ∧ Below w.heap.size w w' := by
  have X := Lib.hid (refOn_yes 1 (by decide) (by decide) (by decide) A zs cap hl w hb)
  have hv : Su.ext 1 zs = Su.ofV zs := rfl
  rw [hv] at X
  clear hv hb
  generalize Su.ofV zs = v at *
  go_enter Try.func17, Try.ntmps17
  go_wp2_with fail
  refine X.out.mono ?_; rintro e w' ⟨rfl, hb⟩
  go_wp2
  go_ret
  exact ⟨rfl, hb⟩

/-! ### Join -/
theorem refJoin_eq (a c x y n : Int) :
    Su.word ((a + x + 65521 - 1) % 65521, (c + y + n % 65521 * ((a + 65521 - 1) % 65521)) % 65521) = Su.word ((a + x - 1) % 65521, (c + y + n % 65521 * (a - 1)) % 65521) := by
  congr 1
  refine Prod.ext ?_ ?_
  · exact Su.cong 1 (by omega)
  · obtain ⟨q, hq⟩ := Su.rem (a + 65521 - 1)
    show (c + y + n % 65521 * ((a + 65521 - 1) % 65521)) % 65521 = (c + y + n % 65521 * (a - 1)) % 65521
    rw [hq]
    generalize n % 65521 = m
    refine Su.cong (m * (1 - q)) ?_
    have e : a + 65521 - 1 - 65521 * q = (a - 1) + 65521 * (1 - q) := by omega
    rw [e, Int.mul_add]
    have e2 : m * (65521 * (1 - q)) = 65521 * (m * (1 - q)) := by rw [Int.mul_left_comm]
    rw [e2]
    omega
set_option maxHeartbeats 1000000 in
theorem refJoin_yes (s t n : Int) (h0 : 0 ≤ s) (h1 : s < 4294967296) (h2 : 0 ≤ t) (h3 : t < 4294967296) (hn : 0 ≤ n) (hn2 : n ≤ 9223372036854775807) (hs : Su.okS s = true) (ht : Su.okS t = true) (w : World) :
    Calls Try.prog 15 #[.int .u32 s, .int .u32 t, .int .i64 n] w fun e w' => e = .returned (.tuple #[.int .u32 (Su.joinV s t n), .bool true]) ∧ Below w.heap.size w w' := by
  have hs' := (Su.okS_iff s).1 hs
  have ht' := (Su.okS_iff t).1 ht
  have ho : Su.joinOk s t n = true := by unfold Su.joinOk; rw [hs, ht]; simp [hn]
  have hv : Su.joinV s t n = Su.word ((s % 65536 + t % 65536 + 65521 - 1) % 65521, (s / 65536 + t / 65536 + n % 65521 * ((s % 65536 + 65521 - 1) % 65521)) % 65521) := by
    rw [refJoin_eq]
    unfold Su.joinV; rw [if_pos ho]
  rw [hv]
  have Gs := Lib.hid (fun w => refGood_any s h0 h1 w)
  have Gt := Lib.hid (fun w => refGood_any t h2 h3 w)
  rw [hs] at Gs
  rw [ht] at Gt
  have Ss := Lib.hid (fun w => halves_any s h0 h1 w)
  have St := Lib.hid (fun w => halves_any t h2 h3 w)
  have a0 : 0 ≤ s % 65536 := by omega
  have a1 : s % 65536 < 65521 := hs'.2
  have c0 : 0 ≤ s / 65536 := by omega
  have c1 : s / 65536 < 65521 := hs'.1
  have x0 : 0 ≤ t % 65536 := by omega
  have x1 : t % 65536 < 65521 := ht'.2
  have y0 : 0 ≤ t / 65536 := by omega
  have y1 : t / 65536 < 65521 := ht'.1
  clear hs ht hs' ht' ho hv h0 h1 h2 h3
  generalize s % 65536 = a at *
  generalize s / 65536 = c at *
  generalize t % 65536 = x at *
  generalize t / 65536 = y at *
  go_enter Try.func15, Try.ntmps15
  go_wp2_with fail
  refine (Gs.out _).mono ?_; rintro e w' ⟨rfl, rfl⟩
  go_wp2_with fail
  refine (Gt.out _).mono ?_; rintro e w' ⟨rfl, rfl⟩
  go_wp2_with fail
  refine (Ss.out _).mono ?_; rintro e w' ⟨rfl, rfl⟩
  go_wp2_with fail
  refine (St.out _).mono ?_; rintro e w' ⟨rfl, rfl⟩
  go_wp2_with (go_at_call 23; refine (prime_any _).mono ?_; rintro e w' ⟨rfl, rfl⟩)
  obtain ⟨p0, p1⟩ := prod_bd (n % 65521) ((a + 65521 - 1) % 65521) (by omega) (by omega) (by omega) (by omega)
  have p2 : 0 ≤ n % 65521 * ((a + 65521 - 1) % 65521) := Int.mul_nonneg (by omega) (by omega)
  have t1 : IntKind.u64.wrap (a + x) = a + x := IntWalk.u64_in _ (by omega)
  have t2 : IntKind.u64.wrap (a + x + 65521) = a + x + 65521 := IntWalk.u64_in _ (by omega)
  have t3 : IntKind.u64.wrap (a + x + 65521 - 1) = a + x + 65521 - 1 := IntWalk.u64_in _ (by omega)
  have t4 : (a + x + 65521 - 1).tmod 65521 = (a + x + 65521 - 1) % 65521 := Int.tmod_eq_emod_of_nonneg (by omega)
  have t5 : IntKind.u64.wrap (c + y) = c + y := IntWalk.u64_in _ (by omega)
  have t6 : IntKind.u64.wrap n = n := IntWalk.u64_in _ (by omega)
  have t7 : n.tmod 65521 = n % 65521 := Int.tmod_eq_emod_of_nonneg (by omega)
  have t8 : IntKind.u64.wrap (n % 65521 * ((a + 65521 - 1) % 65521)) = n % 65521 * ((a + 65521 - 1) % 65521) := IntWalk.u64_in _ (by omega)
  have t9 : IntKind.u64.wrap (c + y + n % 65521 * ((a + 65521 - 1) % 65521)) = c + y + n % 65521 * ((a + 65521 - 1) % 65521) := IntWalk.u64_in _ (by omega)
  have t10 : (c + y + n % 65521 * ((a + 65521 - 1) % 65521)).tmod 65521 = (c + y + n % 65521 * ((a + 65521 - 1) % 65521)) % 65521 := Int.tmod_eq_emod_of_nonneg (by omega)
  have WD := Lib.hid (fun w => refWord_any ((a + x + 65521 - 1) % 65521) ((c + y + n % 65521 * ((a + 65521 - 1) % 65521)) % 65521) (by omega) (by omega) (by omega) (by omega) w)
  go_quiet ((first | (go_at_call 23; exact still prime_any) | (go_at_call 24; exact still WD.out)))
  clear t1 t2 t3 t4 t5 t6 t7 t8 t9 t10
  go_wp2
  go_ret2
  exact ⟨rfl, below_n (Below.refl _ _) _⟩
set_option maxHeartbeats 400000 in
theorem refJoin_any (s t n : Int) (h0 : 0 ≤ s) (h1 : s < 4294967296) (h2 : 0 ≤ t) (h3 : t < 4294967296) (hn2 : n ≤ 9223372036854775807) (w : World) :
    Calls Try.prog 15 #[.int .u32 s, .int .u32 t, .int .i64 n] w fun e w' => e = .returned (.tuple #[.int .u32 (Su.joinV s t n), .bool (Su.joinOk s t n)]) ∧ Below w.heap.size w w' := by
  by_cases h : Su.joinOk s t n = true
  · have h' := h
    unfold Su.joinOk at h'
    simp only [Bool.and_eq_true, decide_eq_true_eq] at h'
    rw [h]
    exact refJoin_yes s t n h0 h1 h2 h3 h'.2 hn2 h'.1.1 h'.1.2 w
  · have ho : Su.joinOk s t n = false := by simpa using h
    have hv : Su.joinV s t n = 0 := by unfold Su.joinV; rw [if_neg h]
    have hc : Su.okS s = false ∨ (Su.okS s = true ∧ Su.okS t = false) ∨ (Su.okS s = true ∧ Su.okS t = true ∧ n < 0) := by
      unfold Su.joinOk at h
      rcases Bool.eq_false_or_eq_true (Su.okS s) with e | e
      · rcases Bool.eq_false_or_eq_true (Su.okS t) with e' | e'
        · right; right; refine ⟨e, e', ?_⟩; rw [e, e'] at h; simp at h; omega
        · right; left; exact ⟨e, e'⟩
      · left; exact e
    rw [hv, ho]
    clear hv ho h
    have Gs := Lib.hid (fun w => refGood_any s h0 h1 w)
    have Gt := Lib.hid (fun w => refGood_any t h2 h3 w)
    rcases hc with e | ⟨e, e'⟩ | ⟨e, e', hn⟩
    · rw [e] at Gs
      clear e Gt
      go_enter Try.func15, Try.ntmps15
      go_wp2_with fail
      refine (Gs.out _).mono ?_; rintro e w' ⟨rfl, rfl⟩
      go_wp2
      go_ret2
      exact ⟨rfl, Below.refl _ _⟩
    · rw [e] at Gs
      rw [e'] at Gt
      clear e e'
      go_enter Try.func15, Try.ntmps15
      go_wp2_with fail
      refine (Gs.out _).mono ?_; rintro e w' ⟨rfl, rfl⟩
      go_wp2_with fail
      refine (Gt.out _).mono ?_; rintro e w' ⟨rfl, rfl⟩
      go_wp2
      go_ret2
      exact ⟨rfl, Below.refl _ _⟩
    · rw [e] at Gs
      rw [e'] at Gt
      clear e e'
      go_enter Try.func15, Try.ntmps15
      go_wp2_with fail
      refine (Gs.out _).mono ?_; rintro e w' ⟨rfl, rfl⟩
      go_wp2_with fail
      refine (Gt.out _).mono ?_; rintro e w' ⟨rfl, rfl⟩
      go_wp2
      go_ret2
      exact ⟨rfl, Below.refl _ _⟩

/-! ### Turn -/
theorem refTurn_eq (a c m x y : Int) :
    Su.word ((a + (y + 65521 - x)) % 65521, (c + m * ((y + 65521 - x) % 65521)) % 65521) = Su.word ((a + (y - x)) % 65521, (c + m * (y - x)) % 65521) := by
  obtain ⟨q, hq⟩ := Su.rem (y + 65521 - x)
  rw [hq]
  have e0 : (a + (y + 65521 - x)) % 65521 = (a + (y - x)) % 65521 := Su.cong 1 (by omega)
  rw [e0]
  have e : y + 65521 - x - 65521 * q = (y - x) + 65521 * (1 - q) := by omega
  rw [e]
  congr 1
  refine Prod.ext rfl ?_
  · refine Su.cong (m * (1 - q)) ?_
    rw [Int.mul_add]
    have e2 : m * (65521 * (1 - q)) = 65521 * (m * (1 - q)) := by rw [Int.mul_left_comm]
    rw [e2]
    omega
set_option maxHeartbeats 1000000 in
theorem refTurn_yes (s n i x y : Int) (h0 : 0 ≤ s) (h1 : s < 4294967296) (hn : n ≤ 9223372036854775807) (hi : 0 ≤ i) (hin : i < n)
    (x0 : 0 ≤ x) (x1 : x ≤ 255) (y0 : 0 ≤ y) (y1 : y ≤ 255) (hs : Su.okS s = true) (w : World) :
    Calls Try.prog 16 #[.int .u32 s, .int .i64 n, .int .i64 i, .int .u8 x, .int .u8 y] w fun e w' => e = .returned (.tuple #[.int .u32 (Su.turnV s n i x y), .bool true]) ∧ Below w.heap.size w w' := by
  have hs' := (Su.okS_iff s).1 hs
  have ho : Su.turnOk s n i = true := by unfold Su.turnOk; rw [hs]; simp; omega
  have hv : Su.turnV s n i x y = Su.word ((s % 65536 + (y + 65521 - x)) % 65521, (s / 65536 + (n - i) % 65521 * ((y + 65521 - x) % 65521)) % 65521) := by
    rw [refTurn_eq]
    unfold Su.turnV; rw [if_pos ho]
  rw [hv]
  have Gs := Lib.hid (fun w => refGood_any s h0 h1 w)
  rw [hs] at Gs
  have Ss := Lib.hid (fun w => halves_any s h0 h1 w)
  have a0 : 0 ≤ s % 65536 := by omega
  have a1 : s % 65536 < 65521 := hs'.2
  have c0 : 0 ≤ s / 65536 := by omega
  have c1 : s / 65536 < 65521 := hs'.1
  clear hs hs' ho hv h0 h1
  generalize s % 65536 = a at *
  generalize s / 65536 = c at *
  have n1 : 1 ≤ n := by omega
  go_enter Try.func16, Try.ntmps16
  go_wp2_with fail
  refine (Gs.out _).mono ?_; rintro e w' ⟨rfl, rfl⟩
  go_wp2_with fail
  refine (Ss.out _).mono ?_; rintro e w' ⟨rfl, rfl⟩
  go_wp2_with (go_at_call 23; refine (prime_any _).mono ?_; rintro e w' ⟨rfl, rfl⟩)
  obtain ⟨p0, p1⟩ := prod_bd ((n - i) % 65521) ((y + 65521 - x) % 65521) (by omega) (by omega) (by omega) (by omega)
  have p2 : 0 ≤ (n - i) % 65521 * ((y + 65521 - x) % 65521) := Int.mul_nonneg (by omega) (by omega)
  have t1 : IntKind.u64.wrap (a + (y + 65521 - x) % 65521) = a + (y + 65521 - x) % 65521 := IntWalk.u64_in _ (by omega)
  have t2 : (a + (y + 65521 - x) % 65521).tmod 65521 = (a + (y + 65521 - x) % 65521) % 65521 := Int.tmod_eq_emod_of_nonneg (by omega)
  have t3 : IntKind.i64.wrap (n - i) = n - i := IntWalk.i64_in _ (by omega)
  have t4 : IntKind.u64.wrap (n - i) = n - i := IntWalk.u64_in _ (by omega)
  have t5 : (n - i).tmod 65521 = (n - i) % 65521 := Int.tmod_eq_emod_of_nonneg (by omega)
  have t6 : IntKind.u64.wrap ((n - i) % 65521 * ((y + 65521 - x) % 65521)) = (n - i) % 65521 * ((y + 65521 - x) % 65521) := IntWalk.u64_in _ (by omega)
  have t7 : IntKind.u64.wrap (c + (n - i) % 65521 * ((y + 65521 - x) % 65521)) = c + (n - i) % 65521 * ((y + 65521 - x) % 65521) := IntWalk.u64_in _ (by omega)
  have t8 : (c + (n - i) % 65521 * ((y + 65521 - x) % 65521)).tmod 65521 = (c + (n - i) % 65521 * ((y + 65521 - x) % 65521)) % 65521 := Int.tmod_eq_emod_of_nonneg (by omega)
  have WD := Lib.hid (fun w => refWord_any ((a + (y + 65521 - x)) % 65521) ((c + (n - i) % 65521 * ((y + 65521 - x) % 65521)) % 65521) (by omega) (by omega) (by omega) (by omega) w)
  go_quiet ((first | (go_at_call 23; exact still prime_any) | (go_at_call 24; exact still WD.out)))
  clear t1 t2 t3 t4 t5 t6 t7 t8
  go_wp2
  go_ret2
  exact ⟨rfl, below_n (Below.refl _ _) _⟩
set_option maxHeartbeats 400000 in
theorem refTurn_any (s n i x y : Int) (h0 : 0 ≤ s) (h1 : s < 4294967296) (hn : n ≤ 9223372036854775807)
    (x0 : 0 ≤ x) (x1 : x ≤ 255) (y0 : 0 ≤ y) (y1 : y ≤ 255) (w : World) :
    Calls Try.prog 16 #[.int .u32 s, .int .i64 n, .int .i64 i, .int .u8 x, .int .u8 y] w fun e w' => e = .returned (.tuple #[.int .u32 (Su.turnV s n i x y), .bool (Su.turnOk s n i)]) ∧ Below w.heap.size w w' := by
  by_cases h : Su.turnOk s n i = true
  · have h' := h
    unfold Su.turnOk at h'
    simp only [Bool.and_eq_true, decide_eq_true_eq] at h'
    rw [h]
    exact refTurn_yes s n i x y h0 h1 hn h'.1.2 h'.2 x0 x1 y0 y1 h'.1.1.1 w
  · have ho : Su.turnOk s n i = false := by simpa using h
    have hv : Su.turnV s n i x y = 0 := by unfold Su.turnV; rw [if_neg h]
    have hc : Su.okS s = false ∨ (Su.okS s = true ∧ n < 1) ∨ (Su.okS s = true ∧ 1 ≤ n ∧ i < 0) ∨ (Su.okS s = true ∧ 1 ≤ n ∧ 0 ≤ i ∧ n ≤ i) := by
      unfold Su.turnOk at h
      rcases Bool.eq_false_or_eq_true (Su.okS s) with e | e
      · right; rw [e] at h; simp at h; simp [e]; omega
      · left; exact e
    rw [hv, ho]
    clear hv ho h
    have Gs := Lib.hid (fun w => refGood_any s h0 h1 w)
    rcases hc with e | ⟨e, hn1⟩ | ⟨e, hn1, hi⟩ | ⟨e, hn1, hi, hin⟩
    all_goals
      rw [e] at Gs
      clear e
      go_enter Try.func16, Try.ntmps16
      go_wp2_with fail
      refine (Gs.out _).mono ?_; rintro e w' ⟨rfl, rfl⟩
      go_wp2
      go_ret2
      exact ⟨rfl, Below.refl _ _⟩
end Go.Proofs.Ytlhoeekeafjogaa
