/-
  Package epochs: which tables are valid.
-/
import Derived.Test.YtfidakogpgdnjaaEpMore
namespace Go.Proofs.Ytfidakogpgdnjaa
open Go.RowKit
theorem goodR_succ (l : List Int) (x : Int) (k : Nat) : Ep.goodR l x (k + 1) = (Ep.goodR l x k && Ep.okAt l x k) := by
  unfold Ep.goodR; rw [List.range_succ, List.all_append]; simp
theorem good_no {l : List Int} {x : Int} {k : Nat} (hk : k < l.length) (h : Ep.okAt l x k = false) : Ep.good l x = false := by
  unfold Ep.good Ep.goodR
  rw [Bool.and_eq_false_iff]
  refine .inr ?_
  rw [Bool.eq_false_iff]
  intro hh
  have := List.all_eq_true.1 hh k (List.mem_range.2 hk)
  rw [h] at this
  cases this
set_option maxHeartbeats 4000000 in
set_option maxRecDepth 20000 in
theorem good_any (A : Option Addr) (l : List Int) (cap : Nat) (x : Int) (hl : l.length ≤ 9223372036854775807) (w : World) (h : Sts w w.heap.size A l) :
    Calls Try.prog 13 #[.agg #[.slice A l.length cap, .int .i64 x]] w (BoolB w (Ep.good l x)) := by
  have B1 : Hid (Below w.heap.size w (w.alloc (.cells #[.slice A l.length cap, .int .i64 x] 25))) := Lib.hid ((Below.refl _ _).alloc (Nat.le_refl _) _)
  by_cases hneg : x < 0
  · have e : Ep.good l x = false := by unfold Ep.good; rw [decide_eq_false (by omega)]; rfl
    rw [e]
    clear e h
    go_enter Try.func13, Try.ntmps13
    go_wp2
    go_ret
    exact ⟨rfl, B1⟩
  by_cases hbig : 17592186044416 < x
  · have e : Ep.good l x = false := by unfold Ep.good; rw [decide_eq_false (p := x ≤ 17592186044416) (by omega), Bool.and_false]; rfl
    rw [e]
    clear e h
    have hneg' : 0 ≤ x := by omega
    go_enter Try.func13, Try.ntmps13
    go_wp2
    go_ret
    exact ⟨rfl, B1⟩
  have hx0 : 0 ≤ x := by omega
  have hx1 : x ≤ 17592186044416 := by omega
  have EG : Hid (Ep.good l x = Ep.goodR l x l.length) := Lib.hid (by unfold Ep.good; rw [decide_eq_true hx0, decide_eq_true hx1]; rfl)
  have NO : Hid (∀ k, k < l.length → Ep.okAt l x k = false → Ep.good l x = false) := Lib.hid fun k hk hh => good_no hk hh
  have H := Lib.hid h
  clear h hneg hbig
  obtain ⟨n, hn⟩ : ∃ n, n = l.length := ⟨_, rfl⟩
  rw [← hn] at B1 NO EG ⊢
  have HN := Lib.hid hn
  rw [← hn] at hl
  clear hn
  go_enter Try.func13, Try.ntmps13
  go_wp2
  obtain ⟨W1, hW1⟩ : ∃ W1, W1 = w.alloc (.cells #[.slice A n cap, .int .i64 x] 25) := ⟨_, rfl⟩
  rw [← hW1] at B1 ⊢
  have Z1 : Hid (W1.heap.size = w.heap.size + 1) := Lib.hid (by rw [hW1]; simp)
  have P0 : Hid (W1.heap[w.heap.size]? = some (.cells #[.slice A n cap, .int .i64 x] 25 (0, 0))) := Lib.hid (by rw [hW1]; exact heap_alloc_new ..)
  clear hW1
  go_loopw [16] (fun iv wr => ∃ k : Nat, k ≤ n ∧ iv = .int .i64 k ∧ Hid (Ep.goodR l x k = true) ∧ Hid (Below W1.heap.size W1 wr)) (fun iv _ => n - (intOf iv).toNat)
  case atStart => exact ⟨0, Nat.zero_le _, rfl, Lib.hid rfl, Lib.hid (Below.refl _ _)⟩
  case round =>
    obtain ⟨k, hk, rfl, HG, HW⟩ := hrel
    have BW : Hid (Below w.heap.size w wr) := Lib.hid (B1.out.trans (HW.out.mono (by rw [Z1.out]; omega)))
    have PW : Hid (wr.heap[w.heap.size]? = some (.cells #[.slice A n cap, .int .i64 x] 25 (0, 0))) := Lib.hid ((HW.out.block _ (by rw [Z1.out]; omega)).trans P0.out)
    obtain ⟨⟨x0, x1⟩, -⟩ := ob2 PW.out
    by_cases hlt : k < n
    · have hlt' : (k : Int) < (n : Int) := by omega
      obtain ⟨b, off, z, rfl, hb, hc, hz, z0, z1⟩ := (H.out.below BW.out).at_ (k := k) (by rw [← HN.out]; exact hlt)
      have O1 : Hid (∀ W, Calls Try.prog 16 #[.int .u64 z] W fun e w' => e = .returned (.int .i64 (Pl.offV z)) ∧ W = w') := Lib.hid (stOff_any z z0 z1)
      by_cases hoff : Pl.offV z < x
      · rcases Nat.eq_zero_or_pos k with hk0 | hk0
        · subst hk0
          have HK : Hid (Ep.goodR l x (0 + 1) = true) := Lib.hid (by rw [goodR_succ, HG.out, Bool.true_and, Ep.okAt_iff]; rw [hz.out]; exact ⟨hoff, .inl rfl⟩)
          have hd : decide (x ≤ Pl.offV z) = false := decide_eq_false (by omega)
          generalize Pl.offV z = oz at *
          rw [Nat.add_zero] at hc
          clear hoff z0 z1 hz HG
          go_wp2_with fail
          go_quiet ((go_at_call 16; exact stillE O1.out))
          go_wp2
          go_roundw
          case rel => exact ⟨0 + 1, by omega, by go_num, HK, Lib.hid (below_n HW.out _)⟩
          case measure => simp [intOf]; omega
        · obtain ⟨m, rfl⟩ : ∃ m, k = m + 1 := ⟨k - 1, by omega⟩
          obtain ⟨b2, off2, y, he, -, hc2, hy, y0, y1⟩ := (H.out.below BW.out).at_ (k := m) (by rw [← HN.out]; omega)
          injection he with he
          injection he with he1 he2
          subst he1 he2
          have L1 : Hid (∀ W, Calls Try.prog 23 #[.int .u64 z, .int .u64 y] W fun e w' => e = .returned (.bool (Ep.later z y)) ∧ W = w') := Lib.hid (later_any z y z0 z1 y0 y1)
          have OK : Hid (Ep.okAt l x (m + 1) = Ep.later z y) := Lib.hid (by unfold Ep.okAt; rw [hz.out, Nat.add_sub_cancel, hy.out, decide_eq_true hoff, decide_eq_false (p := m + 1 = 0) (by omega)]; simp)
          have hd : decide (x ≤ Pl.offV z) = false := decide_eq_false (by omega)
          have hd2 : decide (0 < (m : Int) + 1) = true := decide_eq_true (by omega)
          generalize Pl.offV z = oz at *
          clear hoff hz hy hk0
          rcases hlat : Ep.later z y with _ | _
          · rw [hlat] at L1
            have NG : Hid (Ep.good l x = false) := Lib.hid (NO.out (m + 1) hlt (OK.out.trans hlat))
            clear hlat OK z0 z1 y0 y1
            go_wp2_with fail
            go_quiet ((first | (go_at_call 16; exact stillE O1.out) | (go_at_call 23; exact stillE L1.out)))
            go_wp2
            go_ret
            exact ⟨ret_bool NG.out.symm, Lib.hid (below_n BW.out _)⟩
          · rw [hlat] at L1
            have HK : Hid (Ep.goodR l x (m + 1 + 1) = true) := Lib.hid (by rw [goodR_succ, HG.out, Bool.true_and, OK.out, hlat])
            clear hlat OK z0 z1 y0 y1 HG
            go_wp2_with fail
            go_quiet ((first | (go_at_call 16; exact stillE O1.out) | (go_at_call 23; exact stillE L1.out)))
            go_wp2
            go_roundw
            case rel => exact ⟨m + 1 + 1, by omega, by go_num, HK, Lib.hid (below_n HW.out _)⟩
            case measure => simp [intOf]; omega
      · have NG : Hid (Ep.good l x = false) := Lib.hid (NO.out k hlt (by unfold Ep.okAt; rw [hz.out, decide_eq_false hoff]; rfl))
        have hd : decide (x ≤ Pl.offV z) = true := decide_eq_true (by omega)
        generalize Pl.offV z = oz at *
        clear hoff z0 z1 hz
        go_wp2_with fail
        go_quiet ((go_at_call 16; exact stillE O1.out))
        go_wp2
        go_ret
        exact ⟨ret_bool NG.out.symm, Lib.hid (below_n BW.out _)⟩
    · obtain rfl : k = n := by omega
      have NG : Hid (Ep.good l x = true) := Lib.hid (EG.out.trans HG.out)
      go_wp2
      go_ret
      exact ⟨ret_bool NG.out.symm, BW⟩
end Go.Proofs.Ytfidakogpgdnjaa
