/-
  The reference's goodName, at every string.
-/
import Derived.Test.YtmahbcpkilegpaaStoName
namespace Go.Proofs.Ytmahbcpkilegpaa
open Go.RowKit St

set_option maxRecDepth 8000 in
set_option maxHeartbeats 2000000 in
theorem goodName_any (s : ByteArray) (hs : s.size ≤ 9223372036854775807) (w : World) : Calls Try.prog 48 #[.string s] w fun e w' => e = .returned (.bool (good (bs s))) ∧ w = w' := by
  have HC : Hid (∀ k (h : k < s.size), (bs s).getD k 0 = s[k]) := Lib.hid fun k h => by
    have e : (bs s)[k]? = some s[k] := by
      unfold bs
      rw [Array.getElem?_toList]
      exact Array.getElem?_eq_getElem h
    rw [List.getD_eq_getElem?_getD, e]; rfl
  have hs' : (s.size : Int) ≤ 9223372036854775807 := by omega
  have HEND : Hid (OkTo (bs s) s.size → good (bs s) = (decide (1 ≤ (s.size : Int)) && decide ((s.size : Int) ≤ 16))) := Lib.hid fun h => by
    by_cases c : 1 ≤ s.size ∧ s.size ≤ 16
    · rw [good_yes (by rw [bs_len]; exact c.1) (by rw [bs_len]; exact c.2) fun j hj => h.2 j (by rw [bs_len] at hj; exact hj)]
      simp; omega
    · rw [good_len_no (by rw [bs_len]; omega)]
      simp; omega
  have st : Hid (OkTo (bs s) 0) := Lib.hid ⟨Nat.zero_le _, fun j hj => by omega⟩
  clear hs
  go_enter Try.func48, Try.ntmps48
  go_wp2
  go_loop [3] (fun i => ∃ k : Nat, k ≤ s.size ∧ OkTo (bs s) k ∧ i = .int .i64 k) (fun i => s.size - (intOf i).toNat)
  case atStart => exact ⟨0, Nat.zero_le _, st.out, rfl⟩
  case round =>
    obtain ⟨k, hk0, hk, rfl⟩ := hrel
    have HK := Lib.hid hk
    clear hk
    by_cases hlt : k < s.size
    · obtain ⟨z, hz⟩ : ∃ z : Int, ((s[k]'hlt).toNat : Int) = z := ⟨_, rfl⟩
      have hr : 0 ≤ z ∧ z ≤ 255 := by have := (s[k]'hlt).toNat_lt; omega
      have hl : k < (bs s).length := by rw [bs_len]; exact hlt
      have NO := good_no hl
      have YES := HK.out.next hl
      rw [HC.out k hlt] at NO YES
      have NO : okB z = false → good (bs s) = false := by rw [← hz]; exact NO
      have YES : okB z = true → OkTo (bs s) (k + 1) := by rw [← hz]; exact YES
      obtain ⟨z0, z1⟩ := hr
      have hlt' : (k : Int) < (s.size : Int) := by omega
      clear hl
      · rcases okB_split z with ⟨a1, a2⟩ | ⟨a1, a2⟩ | ⟨a1, a2, a3⟩ | ⟨a1, a2, a3⟩ | ⟨a1, a2, a3⟩ | ⟨a1, a2, a3⟩ | ⟨a1, a2⟩
        · have R := Lib.hid (NO a2)
          clear NO YES a2
          go_wp2
          all_goals
            go_ret
            exact ⟨ret_bool R.out.symm, rfl⟩
        · have R := Lib.hid (YES a2)
          clear NO YES a2
          go_wp2
          all_goals
            go_round
            case rel => exact ⟨k + 1, hlt, R.out, by go_num⟩
            case measure => simp [intOf]; omega
        · have R := Lib.hid (NO a3)
          clear NO YES a3
          go_wp2
          all_goals
            go_ret
            exact ⟨ret_bool R.out.symm, rfl⟩
        · have R := Lib.hid (YES a3)
          clear NO YES a3
          go_wp2
          all_goals
            go_round
            case rel => exact ⟨k + 1, hlt, R.out, by go_num⟩
            case measure => simp [intOf]; omega
        · have R := Lib.hid (NO a3)
          clear NO YES a3
          go_wp2
          all_goals
            go_ret
            exact ⟨ret_bool R.out.symm, rfl⟩
        · have R := Lib.hid (YES a3)
          clear NO YES a3
          go_wp2
          all_goals
            go_round
            case rel => exact ⟨k + 1, hlt, R.out, by go_num⟩
            case measure => simp [intOf]; omega
        · have R := Lib.hid (NO a2)
          clear NO YES a2
          have q1 : 57 < z := by omega
          have q3 : (z != 45) = true := by simp; omega
          go_wp2
          all_goals
            go_ret
            exact ⟨ret_bool R.out.symm, rfl⟩
    · have e : k = s.size := by omega
      subst e
      have R := Lib.hid (HEND.out HK.out)
      have c3 : ((s.size : Int) < 1 ∧ (decide (1 ≤ (s.size : Int)) && decide ((s.size : Int) ≤ 16)) = false) ∨ (1 ≤ (s.size : Int) ∧ (s.size : Int) ≤ 16 ∧ (decide (1 ≤ (s.size : Int)) && decide ((s.size : Int) ≤ 16)) = true) ∨ (16 < (s.size : Int) ∧ (decide (1 ≤ (s.size : Int)) && decide ((s.size : Int) ≤ 16)) = false) := by
        simp; omega
      rcases c3 with ⟨b1, b2⟩ | ⟨b1, b3, b2⟩ | ⟨b1, b2⟩
      all_goals
        rw [b2] at R
        clear b2
        go_wp2
        all_goals
          go_ret
          exact ⟨ret_bool (by first | exact R.out.symm | (rw [R.out]; simp; omega)), rfl⟩
end Go.Proofs.Ytmahbcpkilegpaa
