/-
  Package epochs: the greatest stamp that two tables share.
-/
import Derived.Test.YtfidakogpgdnjaaEpMore
namespace Go.Proofs.Ytfidakogpgdnjaa
open Go.RowKit
def SharedPost (w : World) (p : Nat × Nat) (e : Ending) (w' : World) : Prop :=
  ∃ x y : Int, Hid (x = (p.1 : Int) - 1) ∧ Hid (y = (p.2 : Int) - 1) ∧ e = .returned (.tuple #[.int .i64 x, .int .i64 y, .bool (decide (0 < p.1) && decide (0 < p.2))]) ∧ Hid (Below w.heap.size w w')
theorem SharedPost.mk {w w' : World} {p : Nat × Nat} {i j : Nat} {x y : Int} {v : Bool} (hp : (i, j) = p) (hx : x = (i : Int) - 1) (hy : y = (j : Int) - 1) (hv : v = (decide (0 < i) && decide (0 < j))) (hb : Below w.heap.size w w') :
    SharedPost w p (.returned (.tuple #[.int .i64 x, .int .i64 y, .bool v])) w' := by
  subst hp hv; exact ⟨x, y, Lib.hid hx, Lib.hid hy, rfl, Lib.hid hb⟩
set_option maxHeartbeats 4000000 in
set_option maxRecDepth 20000 in
theorem shared_any (A B : Option Addr) (a b : List Int) (ca cb : Nat) (ha : a.length ≤ 1073741824) (hb : b.length ≤ 1073741824) (w : World) (h1 : Sts w w.heap.size A a) (h2 : Sts w w.heap.size B b) :
    Calls Try.prog 24 #[.slice A a.length ca, .slice B b.length cb] w (SharedPost w (Ep.shared a b a.length b.length)) := by
  obtain ⟨P, hP⟩ : ∃ P, P = Ep.shared a b a.length b.length := ⟨_, rfl⟩
  rw [← hP]
  have HP := Lib.hid hP.symm
  have H1 := Lib.hid h1
  have H2 := Lib.hid h2
  obtain ⟨n, hn⟩ : ∃ n, n = a.length := ⟨_, rfl⟩
  obtain ⟨m, hm⟩ : ∃ m, m = b.length := ⟨_, rfl⟩
  rw [← hn, ← hm] at HP ⊢
  rw [← hn] at ha
  rw [← hm] at hb
  have HN := Lib.hid hn
  have HM := Lib.hid hm
  clear hP h1 h2 hn hm
  go_enter Try.func24, Try.ntmps24
  go_wp2
  go_loopw [4, 5] (fun iv jv wr => ∃ (i j : Nat) (x y : Int), i ≤ n ∧ j ≤ m ∧ Hid (x = (i : Int) - 1) ∧ Hid (y = (j : Int) - 1) ∧ iv = .int .i64 x ∧ jv = .int .i64 y ∧ Hid (Ep.shared a b i j = P) ∧ Hid (Below w.heap.size w wr)) (fun iv jv _ => (intOf iv + 1).toNat + (intOf jv + 1).toNat)
  case atStart => exact ⟨n, m, _, _, Nat.le_refl _, Nat.le_refl _, Lib.hid rfl, Lib.hid rfl, rfl, rfl, HP, Lib.hid (Below.refl _ _)⟩
  case round =>
    obtain ⟨i, j, x, y, hi, hj, hx, hy, rfl, rfl, HS, HW⟩ := hrel
    match i, j with
    | 0, j =>
      have hx1 : x = -1 := by have := hx.out; omega
      subst hx1
      have E : Hid ((0, j) = P) := Lib.hid (by rw [← HS.out]; simp [Ep.shared])
      go_wp2_with fail
      go_quiet (fail)
      go_wp2
      go_ret3
      exact SharedPost.mk (i := 0) (j := j) E.out (by omega) hy.out (by simp) (below_n HW.out _)
    | i + 1, 0 =>
      have hy1 : y = -1 := by have := hy.out; omega
      subst hy1
      obtain ⟨p, rfl⟩ : ∃ p : Nat, x = (p : Int) := ⟨i, by have := hx.out; omega⟩
      have E : Hid ((i + 1, 0) = P) := Lib.hid (by rw [← HS.out]; simp [Ep.shared])
      go_wp2_with fail
      go_quiet (fail)
      go_wp2
      go_ret3
      exact SharedPost.mk (i := i + 1) (j := 0) E.out hx.out (by omega) (by simp) (below_n HW.out _)
    | i + 1, j + 1 =>
      obtain rfl : x = (i : Int) := by have := hx.out; omega
      obtain rfl : y = (j : Int) := by have := hy.out; omega
      obtain ⟨b1, o1, z, rfl, -, c1, hz, z0, z1⟩ := (H1.out.below HW.out).at_ (k := i) (by rw [← HN.out]; omega)
      obtain ⟨b2, o2, u, rfl, -, c2, hu, u0, u1⟩ := (H2.out.below HW.out).at_ (k := j) (by rw [← HM.out]; omega)
      have hi' : (i : Int) < (n : Int) := by omega
      have hj' : (j : Int) < (m : Int) := by omega
      by_cases heq : z = u
      · subst heq
        have E : Hid ((i + 1, j + 1) = P) := Lib.hid (by rw [← HS.out, Ep.shared, hz.out, hu.out, if_pos rfl])
        clear hi hj
        go_wp2_with fail
        go_quiet (fail)
        go_wp2
        go_ret3
        exact SharedPost.mk (i := i + 1) (j := j + 1) E.out (by omega) (by omega) (by simp) (below_n HW.out _)
      · have hne : (z == u) = false := by simpa using heq
        by_cases hlt : u < z
        · have E : Hid (Ep.shared a b i (j + 1) = P) := Lib.hid (by rw [← HS.out, Ep.shared, hz.out, hu.out, if_neg heq, if_pos hlt])
          have hd : decide (u < z) = true := decide_eq_true hlt
          clear heq hi hj hlt
          go_wp2_with fail
          go_quiet (fail)
          go_wp2_with fail
          go_quiet (fail)
          go_wp2
          go_roundw
          case rel => exact ⟨i, j + 1, _, _, by omega, by omega, Lib.hid rfl, Lib.hid (by omega), rfl, rfl, E, Lib.hid (below_n HW.out _)⟩
          case measure => simp [intOf]
        · have E : Hid (Ep.shared a b (i + 1) j = P) := Lib.hid (by rw [← HS.out, Ep.shared, hz.out, hu.out, if_neg heq, if_neg hlt])
          have hd : decide (u < z) = false := decide_eq_false hlt
          clear heq hi hj hlt
          go_wp2_with fail
          go_quiet (fail)
          go_wp2_with fail
          go_quiet (fail)
          go_wp2
          go_roundw
          case rel => exact ⟨i + 1, j, _, _, by omega, by omega, Lib.hid (by omega), Lib.hid rfl, rfl, rfl, E, Lib.hid (below_n HW.out _)⟩
          case measure => simp [intOf]
end Go.Proofs.Ytfidakogpgdnjaa
