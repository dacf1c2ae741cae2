/-
  The laws' own: ints.
-/
import Derived.Test.YtgeefkfolejbnaaToOwn
namespace Go.Proofs.Ytgeefkfolejbnaa
open Go.RowKit
def sameI (a b : List Int) : Bool := decide (a = b)
def sameE (a b : List (Int × Int)) : Bool := decide (a = b)
theorem sameI_refl (a : List Int) : sameI a a = true := by simp [sameI]
theorem sameE_refl (a : List (Int × Int)) : sameE a a = true := by simp [sameE]
theorem list_eq {α : Type} {d : α} {a b : List α} {n : Nat} (ha : n = a.length) (hb : n = b.length) (h : ∀ i, i < n → a.getD i d = b.getD i d) : a = b := by
  apply List.ext_getElem (by omega)
  intro i h1 h2
  have := h i (by omega)
  rw [List.getD_eq_getElem?_getD, List.getD_eq_getElem?_getD, List.getElem?_eq_getElem h1, List.getElem?_eq_getElem h2] at this
  exact this
set_option maxHeartbeats 4000000 in
theorem ints_any (A : Option Addr) (xs : List Int) (cap : Nat) (A2 : Option Addr) (ys : List Int) (cap2 : Nat) (hx : xs.length ≤ 1000000) (hy : ys.length ≤ 1000000) (w : World) (h : Zs w w.heap.size A xs) (h2 : Zs w w.heap.size A2 ys) :
    Calls Try.prog 12 #[.slice A xs.length cap, .slice A2 ys.length cap2] w (BoolG w (sameI xs ys)) := by
  have H := Lib.hid h
  have H2 := Lib.hid h2
  obtain ⟨n, hn⟩ : ∃ n, n = xs.length := ⟨_, rfl⟩
  obtain ⟨m, hm⟩ : ∃ m, m = ys.length := ⟨_, rfl⟩
  have HN := Lib.hid hn
  have HM := Lib.hid hm
  rw [← hn] at hx ⊢
  rw [← hm] at hy ⊢
  clear h h2
  by_cases hnm : n = m
  · subst hnm
    clear hn hm
    go_enter Try.func12, Try.ntmps12
    go_wp2_with fail
    go_loopw [5] (fun iv wr => ∃ k : Nat, k ≤ n ∧ iv = .int .i64 k ∧ Hid (∀ i, i < k → xs.getD i 0 = ys.getD i 0) ∧ Hid (Below w.heap.size w wr)) (fun iv _ => n - (intOf iv).toNat)
    case atStart => exact ⟨0, Nat.zero_le _, rfl, Lib.hid (fun i hi => by omega), Lib.hid (Below.refl _ _)⟩
    case round =>
      obtain ⟨k, hk, rfl, HK, HB⟩ := hrel
      by_cases hlt : k < n
      · have hlt' : (k : Int) < (n : Int) := by omega
        obtain ⟨b, off, x, rfl, hb, hc, hz, _, _⟩ := (H.out.below HB.out).at_ (k := k) (by rw [← HN.out]; exact hlt)
        obtain ⟨b2, off2, y, rfl, hb2, hc2, hz2, _, _⟩ := (H2.out.below HB.out).at_ (k := k) (by rw [← HM.out]; exact hlt)
        by_cases hxy : x = y
        · subst hxy
          have HK' : Hid (∀ i, i < k + 1 → xs.getD i 0 = ys.getD i 0) := Lib.hid fun i hi => by
            rcases Nat.lt_or_ge i k with h | h
            · exact HK.out i h
            · obtain rfl : i = k := by omega
              rw [hz.out, hz2.out]
          clear hz hz2
          go_wp2_with fail
          go_quiet (fail)
          go_wp2
          go_roundw
          case rel => exact ⟨k + 1, by omega, by go_num, HK', Lib.hid (below_n HB.out _)⟩
          case measure => simp [intOf]; omega
        · have G0 : Hid (sameI xs ys = false) := Lib.hid (by
            unfold sameI
            rw [decide_eq_false]
            intro e
            have := hz.out
            rw [e, hz2.out] at this
            exact hxy this.symm)
          have hd : (x == y) = false := by simpa using hxy
          have hd2 : (x != y) = true := by simp [bne, hd]
          clear hxy hz hz2
          go_wp2_with fail
          go_quiet (fail)
          go_wp2
          go_ret
          exact ⟨ret_bool G0.out.symm, Lib.hid (below_n HB.out _)⟩
      · obtain rfl : n = k := by omega
        have G0 : Hid (sameI xs ys = true) := Lib.hid (by
          unfold sameI
          rw [decide_eq_true_eq]
          exact list_eq HN.out HM.out HK.out)
        go_wp2
        go_ret
        exact ⟨ret_bool G0.out.symm, HB⟩
  · have G0 : Hid (sameI xs ys = false) := Lib.hid (by
      unfold sameI
      rw [decide_eq_false]
      intro e
      rw [e] at hn
      exact hnm (hn.trans hm.symm))
    have hd1 : ((n : Int) == (m : Int)) = false := by rw [beq_eq_false_iff_ne]; omega
    have hd2 : ((n : Int) != (m : Int)) = true := by simp [bne, hd1]
    have hd3 : (n == m) = false := by simpa using hnm
    clear hn hm
    go_enter Try.func12, Try.ntmps12
    go_wp2
    go_ret
    exact ⟨ret_bool G0.out.symm, Lib.hid (Below.refl _ _)⟩
end Go.Proofs.Ytgeefkfolejbnaa
