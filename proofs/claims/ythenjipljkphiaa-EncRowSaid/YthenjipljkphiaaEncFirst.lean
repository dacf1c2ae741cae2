/-
  enc.first: the number that bytes begin with, and the size of its encoding: the plain reading of En.decU. And the folding of signed numbers, by the program and by the reference.
-/
import Derived.Test.YthenjipljkphiaaBytesKit
import Derived.Test.YthenjipljkphiaaEncPlain
import Derived.Test.YthenjipljkphiaaStampPlain
namespace Go.Proofs.Ythenjipljkphiaa
open Go.RowKit

set_option maxHeartbeats 400000 in
theorem fold_any (v : Int) (h0 : -9223372036854775808 ≤ v) (h1 : v ≤ 9223372036854775807) (w : World) :
    Calls Try.prog 22 #[.int .i64 v] w fun e' w' => e' = .returned (.int .u64 (Pl.foldV v)) ∧ w = w' := by
  go_enter Try.func22, Try.ntmps22
  go_wp2
  go_ret
  exact ⟨ret_int (Pl.fold_bits v h0 h1), rfl⟩
set_option maxHeartbeats 400000 in
theorem unfold_any (u : Int) (h0 : 0 ≤ u) (h1 : u < 18446744073709551616) (w : World) :
    Calls Try.prog 25 #[.int .u64 u] w fun e' w' => e' = .returned (.int .i64 (Pl.unfoldV u)) ∧ w = w' := by
  go_enter Try.func25, Try.ntmps25
  go_wp2
  go_ret
  exact ⟨ret_int (Pl.unfold_bits u h0 h1), rfl⟩
set_option maxHeartbeats 400000 in
theorem refUnfold_any (u : Int) (h0 : 0 ≤ u) (h1 : u < 18446744073709551616) (w : World) :
    Calls Try.prog 27 #[.int .u64 u] w fun e' w' => e' = .returned (.int .i64 (Pl.unfoldV u)) ∧ w = w' := by
  by_cases h : u % 2 = 0
  · have hv : Pl.unfoldV u = u / 2 := by unfold Pl.unfoldV; rw [if_pos h]
    rw [hv]; clear hv
    go_enter Try.func27, Try.ntmps27
    go_wp2
    go_ret
    exact ⟨rfl, rfl⟩
  · have hv : Pl.unfoldV u = -(u / 2) - 1 := by unfold Pl.unfoldV; rw [if_neg h]
    rw [hv]; clear hv
    go_enter Try.func27, Try.ntmps27
    go_wp2
    go_ret
    exact ⟨rfl, rfl⟩

/-- Where the loop stands in front of byte k with the value acc. -/
def DecAt (zs : List Int) (k : Nat) (acc : Int) : Prop := k ≤ zs.length ∧ k ≤ 9 ∧ 0 ≤ acc ∧ acc < 128 ^ k ∧ En.decA k acc (zs.drop k) = En.decU zs
theorem DecAt.start (zs : List Int) : DecAt zs 0 0 := ⟨Nat.zero_le _, by decide, by decide, by decide, rfl⟩
theorem DecAt.bad {zs : List Int} {k : Nat} {acc z : Int} (h : DecAt zs k acc) (hk : k < zs.length) (hz : zs.getD k 0 = z) (hb : (k = 9 ∧ 1 < z) ∨ (0 < k ∧ z = 0)) : En.decU zs = (0, 0) := by
  rw [← h.2.2.2.2, List.drop_eq_getElem_cons hk]
  rw [List.getD_eq_getElem?_getD, List.getElem?_eq_getElem hk] at hz
  simp at hz
  rw [hz, En.decA, if_pos hb]
theorem DecAt.out {zs : List Int} {k : Nat} {acc : Int} (h : DecAt zs k acc) (hk : ¬ k < zs.length) : En.decU zs = (0, 0) := by
  rw [← h.2.2.2.2, List.drop_of_length_le (by omega)]; rfl
theorem DecAt.last {zs : List Int} {k : Nat} {acc z : Int} (h : DecAt zs k acc) (hk : k < zs.length) (hz : zs.getD k 0 = z) (hb : ¬ ((k = 9 ∧ 1 < z) ∨ (0 < k ∧ z = 0))) (h1 : z < 128) : En.decU zs = (acc + z * 128 ^ k, k + 1) := by
  rw [← h.2.2.2.2, List.drop_eq_getElem_cons hk]
  rw [List.getD_eq_getElem?_getD, List.getElem?_eq_getElem hk] at hz
  simp at hz
  rw [hz, En.decA, if_neg hb, if_pos h1]
theorem DecAt.next {zs : List Int} {k : Nat} {acc z : Int} (h : DecAt zs k acc) (hk : k < zs.length) (hz : zs.getD k 0 = z) (hb : ¬ ((k = 9 ∧ 1 < z) ∨ (0 < k ∧ z = 0))) (h1 : 128 ≤ z) (_h2 : z ≤ 255) : DecAt zs (k + 1) (acc + z % 128 * 128 ^ k) := by
  have hg := En.group_bd k acc (z % 128) h.2.1 h.2.2.1 h.2.2.2.1 (by omega) (by omega) (by omega)
  have hk9 := h.2.1
  refine ⟨by omega, by omega, by have := h.2.2.1; omega, hg.2.2 (by omega), ?_⟩
  rw [← h.2.2.2.2, List.drop_eq_getElem_cons hk]
  rw [List.getD_eq_getElem?_getD, List.getElem?_eq_getElem hk] at hz
  simp at hz
  rw [hz, En.decA, if_neg hb, if_neg (by omega)]
theorem ret_dec {D : Int × Nat} {v : Int} {n : Nat} (h : D = (v, n)) : Ending.returned (.tuple #[.int .u64 v, .int .i64 (n : Int)]) = .returned (.tuple #[.int .u64 D.1, .int .i64 (D.2 : Nat)]) := by rw [h]
set_option maxHeartbeats 1000000 in
theorem first_any (B : Nat) (A : Option Addr) (zs : List Int) (cap : Nat) (hl : zs.length ≤ 9223372036854775807) (w : World) (hb : Bytes w B A zs) :
    Calls Try.prog 23 #[.slice A zs.length cap] w fun e w' => e = .returned (.tuple #[.int .u64 (En.decU zs).1, .int .i64 ((En.decU zs).2 : Nat)]) ∧ w = w' := by
  have H := Lib.hid hb
  clear hb
  have S := Lib.hid (DecAt.start zs)
  go_enter Try.func23, Try.ntmps23
  go_wp2
  go_loop [2, 10] (fun v i => ∃ (k : Nat) (acc : Int), DecAt zs k acc ∧ i = .int .i64 k ∧ v = .int .u64 acc) (fun _ i => zs.length - (intOf i).toNat)
  case atStart => exact ⟨0, 0, S.out, rfl, rfl⟩
  case round =>
    obtain ⟨k, acc, hat, rfl, rfl⟩ := hrel
    have HA := Lib.hid hat
    obtain ⟨hk, h9, a0, a1, _⟩ := hat
    have A1 := Lib.hid a1
    clear a1
    by_cases hlt : k < zs.length
    · obtain ⟨b, off, z, rfl, hbb, hc, hz, z0, z1⟩ := H.out.at_ hlt
      by_cases hbad : (k = 9 ∧ 1 < z) ∨ (0 < k ∧ z = 0)
      · have E0 := Lib.hid (HA.out.bad hlt hz.out hbad)
        rcases hbad with ⟨rfl, h1⟩ | ⟨h1, rfl⟩
        · go_wp2
          go_ret2
          exact ⟨ret_dec E0.out, rfl⟩
        · have h1' : 0 < (k : Int) := by omega
          by_cases hk9 : k = 9
          · subst hk9
            go_wp2
            go_ret2
            exact ⟨ret_dec E0.out, rfl⟩
          · have hk9' : (k : Int) < 9 := by omega
            go_wp2
            go_ret2
            exact ⟨ret_dec E0.out, rfl⟩
      · by_cases hz128 : z < 128
        · have E0 := Lib.hid (HA.out.last hlt hz.out hbad hz128)
          have em : z % 128 = z := by omega
          have ev0 := En.or_step k acc z h9 a0 A1.out z0 z1 (fun e => by omega)
          rw [em] at ev0
          have EV := Lib.hid ev0
          clear ev0 em
          have EF : Hid (acc + z * 128 ^ k = (En.decU zs).1 ∧ (k : Int) + 1 = ((En.decU zs).2 : Nat)) := by
            rw [E0.out]; exact ⟨rfl, by simp⟩
          by_cases hk9 : k = 9
          · subst hk9
            obtain rfl : z = 1 := by omega
            have E9 : Hid (bits .or .u64 acc (IntKind.u64.wrap (IntKind.u64.wrap (bits .andNot .u8 1 128) * 9223372036854775808)) = (En.decU zs).1) := by
              have h := EV.out
              rw [show (2 : Int) ^ (7 * 9) = 9223372036854775808 from by decide] at h
              exact h.trans EF.out.1
            clear hbad
            go_wp2
            go_ret2
            exact ⟨ret_two E9.out (show (10 : Int) = _ from EF.out.2), rfl⟩
          · have hk9' : (k : Int) < 9 := by omega
            have E2 := Lib.hid (EV.out.trans EF.out.1)
            by_cases hk0 : 0 < k
            · have hz0 : 0 < z := by omega
              have hk0' : 0 < (k : Int) := by omega
              clear hbad hk9
              go_wp2
              go_ret2
              exact ⟨ret_two E2.out EF.out.2, rfl⟩
            · have hk0' : (k : Int) ≤ 0 := by omega
              clear hbad hk9 hk0
              go_wp2
              go_ret2
              exact ⟨ret_two E2.out EF.out.2, rfl⟩
        · have hn := HA.out.next hlt hz.out hbad (by omega) z1
          have HN := Lib.hid hn
          clear hn
          have k8 : (k : Int) < 9 := by omega
          have z128 : 128 ≤ z := by omega
          clear hbad
          have k9 : k ≠ 9 := by omega
          have ev := Lib.hid (En.or_step k acc z h9 a0 A1.out z0 z1 (fun e => absurd e k9))
          clear k9
          go_wp2
          all_goals
            go_round
            case rel => exact ⟨k + 1, _, HN.out, by go_num, by rw [ev.out]⟩
            case measure => simp [intOf]; omega
    · have E0 := Lib.hid (HA.out.out hlt)
      go_wp2
      go_ret2
      exact ⟨ret_dec E0.out, rfl⟩
end Go.Proofs.Ythenjipljkphiaa
