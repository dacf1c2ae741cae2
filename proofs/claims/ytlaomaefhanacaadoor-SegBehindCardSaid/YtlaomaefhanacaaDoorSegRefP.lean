/-
  The reference's SegParse at every text.
-/
import Derived.Test.YtlaomaefhanacaaDoorSegRef
namespace Go.Proofs.YtlaomaefhanacaaDoor
open Go.RowKit
theorem one_any (b : Bool) (w : World) : Calls Tryd.prog 30 #[.bool b] w fun e w' => e = .returned (.int .i64 (if b then 1 else 0)) ∧ w = w' := by
  cases b
  all_goals
    go_enter Tryd.func30, Tryd.ntmps30
    go_wp2
    go_ret
    exact ⟨rfl, rfl⟩
/-- The digits gathered from the third byte on. -/
def RefAt (s : ByteArray) (j : Nat) (n : Int) : Prop := 0 ≤ n ∧ n < 16 ^ j ∧ ((Sg.segP s).isSome → n = (Sg.valH 0 ((s.data.toList.drop 2).take j) : Nat))
theorem RefAt.next {s : ByteArray} {j : Nat} {n d : Int} {c : UInt8} (h : RefAt s j n) (hj : j + 2 < s.size) (hc : s.data.toList.getD (j + 2) 0 = c) (d0 : 0 ≤ d) (d1 : d ≤ 15)
    (hd : (48 ≤ c.toNat ∧ c.toNat ≤ 57 → d = c.toNat - 48) ∧ (97 ≤ c.toNat → d = c.toNat - 87)) : RefAt s (j + 1) (n * 16 + d) := by
  obtain ⟨h0, h1, h2⟩ := h
  refine ⟨by omega, by rw [Int.pow_succ]; omega, fun hs => ?_⟩
  obtain ⟨f, hf⟩ := Option.isSome_iff_exists.1 hs
  obtain ⟨ho, hn⟩ := Sg.segP_some hf
  have hl : j < (s.data.toList.drop 2).length := by rw [List.length_drop, ← Lib.size_eq]; omega
  have hg : (s.data.toList.drop 2)[j] = c := by
    rw [← hc, List.getElem_drop, List.getD_eq_getElem?_getD, List.getElem?_eq_getElem (by rw [← Lib.size_eq]; omega)]
    simp [Nat.add_comm]
  have hx : Sg.isHex c := by
    have e : s.data.toList.drop 2 = Sg.pad 12 f.toNat := by rw [← hn, Sg.nameB_data]; rfl
    rw [← hg]
    have hm : (s.data.toList.drop 2)[j] ∈ s.data.toList.drop 2 := List.getElem_mem hl
    generalize (s.data.toList.drop 2)[j] = y at hm
    rw [e] at hm
    exact Sg.pad_hex _ _ y hm
  rw [List.take_succ_eq_append_getElem hl, Sg.valH_snoc, hg, h2 hs]
  have hv : d = (Sg.digV c : Nat) := by
    unfold Sg.digV
    rcases hx with h | h
    · rw [if_pos (by omega)]; have := hd.1 h; omega
    · rw [if_neg (by omega)]; have := hd.2 (by omega); omega
  rw [hv]; push_cast; rfl
/-- A byte that is no digit stands in no name. -/
theorem no_name {s : ByteArray} {j : Nat} {c : UInt8} (hj : j + 2 < s.size) (hc : s.data.toList.getD (j + 2) 0 = c) (h : ¬ Sg.isHex c) : Sg.segP s = none := by
  cases hf : Sg.segP s with
  | none => rfl
  | some f =>
    obtain ⟨ho, hn⟩ := Sg.segP_some hf
    exfalso
    apply h
    have hl : j < (s.data.toList.drop 2).length := by rw [List.length_drop, ← Lib.size_eq]; omega
    have hg : (s.data.toList.drop 2)[j] = c := by
      rw [← hc, List.getElem_drop, List.getD_eq_getElem?_getD, List.getElem?_eq_getElem (by rw [← Lib.size_eq]; omega)]
      simp [Nat.add_comm]
    have e : s.data.toList.drop 2 = Sg.pad 12 f.toNat := by rw [← hn, Sg.nameB_data]; rfl
    rw [← hg]
    have hm : (s.data.toList.drop 2)[j] ∈ s.data.toList.drop 2 := List.getElem_mem hl
    generalize (s.data.toList.drop 2)[j] = y at hm
    rw [e] at hm
    exact Sg.pad_hex _ _ y hm
theorem byte_at (s : ByteArray) (j : Nat) (hj : j < s.size) : ∃ c : UInt8, s.data.toList.getD j 0 = c ∧ ∀ (W : World) (m : Int), m = (j : Int) → (Instr.index 9 (.string s) (.int .i64 m)).run Tryd.prog W = .ok (.int .u8 (c.toNat : Int)) W := by
  refine ⟨_, rfl, fun W m hm => ?_⟩
  subst hm
  rw [run_index_string W 9 s .i64 _ Tryd.underlying9, dif_pos ⟨by omega, by omega⟩]
  congr 3
  rw [Lib.getD_at]; rfl
def RParsePost (w : World) (s : ByteArray) (e : Ending) (w' : World) : Prop :=
  e = .returned (.tuple #[.int .i64 ((Sg.segP s).getD 0), .bool (Sg.segP s).isSome]) ∧ w = w'
theorem segP_len {s : ByteArray} (h : s.size ≠ 14) : Sg.segP s = none := by
  cases hf : Sg.segP s with
  | none => rfl
  | some f =>
    obtain ⟨ho, hn⟩ := Sg.segP_some hf
    rw [← hn, Sg.nameB_size] at h
    exact absurd rfl h
theorem rparse_len (s : ByteArray) (h : s.size ≠ 14) (w : World) : Calls Tryd.prog 16 #[.string s] w (RParsePost w s) := by
  have HS := Lib.hid (segP_len h)
  have h' : ¬ (s.size : Int) = 14 := by omega
  clear h
  go_enter Tryd.func16, Tryd.ntmps16
  go_wp2
  go_ret2
  exact ⟨by rw [HS.out]; rfl, rfl⟩
set_option maxHeartbeats 2000000 in
set_option maxRecDepth 100000 in
theorem rparse_14 (s : ByteArray) (h : s.size = 14) (w : World) : Calls Tryd.prog 16 #[.string s] w (RParsePost w s) := by
  have S0 := Lib.hid (show RefAt s 0 0 from ⟨by decide, by decide, fun _ => by simp [Sg.valH]⟩)
  go_enter Tryd.func16, Tryd.ntmps16
  go_wp2
  go_loop [4, 5] (fun nv kv => ∃ (j : Nat) (n : Int), j ≤ 12 ∧ Hid (RefAt s j n) ∧ nv = .int .i64 n ∧ kv = .int .i64 ((j : Int) + 2)) (fun _ kv => 14 - (intOf kv).toNat)
  case atStart => exact ⟨0, 0, by decide, S0, rfl, rfl⟩
  case round =>
    obtain ⟨j, n, hj, hat, rfl, rfl⟩ := hrel
    by_cases hlt : j < 12
    · have hlt' : (j : Int) < 12 := by omega
      obtain ⟨c, hc, hix0⟩ := byte_at s (j + 2) (by omega)
      have hix := fun W => hix0 W ((j : Int) + 2) (by omega)
      clear hix0
      have HC := Lib.hid hc
      have c1 : (c.toNat : Int) ≤ 255 := by have := c.toNat_lt; omega
      have n0 : 0 ≤ n := hat.out.1
      have n1 : n < 281474976710656 := by
        have h1 := hat.out.2.1
        have h2 : (16 : Int) ^ j ≤ 16 ^ 12 := by
          have := Nat.pow_le_pow_right (show 0 < 16 by decide) hj
          exact_mod_cast this
        have h3 : (16 : Int) ^ 12 = 281474976710656 := by decide
        omega
      clear hc
      by_cases ha : 97 ≤ (c.toNat : Int)
      · by_cases hb : (c.toNat : Int) ≤ 102
        · have HN := Lib.hid (RefAt.next (d := (c.toNat : Int) - 87) hat.out (by omega) HC.out (by omega) (by omega) ⟨by omega, by omega⟩)
          clear c1
          go_wp2
          go_round
          case rel => exact ⟨j + 1, _, by omega, HN, by congr 1; omega, by go_num⟩
          case measure => simp [intOf]; omega
        · have HN := Lib.hid (no_name (j := j) (by omega) HC.out (by unfold Sg.isHex; omega))
          have hb' : 102 < (c.toNat : Int) := by omega
          clear ha hb
          go_wp2
          go_ret2
          exact ⟨by rw [HN.out]; rfl, rfl⟩
      · have ha' : (c.toNat : Int) < 97 := by omega
        clear c1 ha
        by_cases hz : (c.toNat : Int) < 48
        · have HN := Lib.hid (no_name (j := j) (by omega) HC.out (by unfold Sg.isHex; omega))
          clear ha'
          go_wp2
          go_ret2
          exact ⟨by rw [HN.out]; rfl, rfl⟩
        · by_cases hy : (c.toNat : Int) ≤ 63
          · have hz' : 48 ≤ (c.toNat : Int) := by omega
            have HN := Lib.hid (RefAt.next (d := (c.toNat : Int) - 48) hat.out (by omega) HC.out (by omega) (by omega) ⟨by omega, by omega⟩)
            clear ha' hz
            go_wp2
            go_round
            case rel => exact ⟨j + 1, _, by omega, HN, by congr 1; try omega, by go_num⟩
            case measure => simp [intOf]; omega
          · have HN := Lib.hid (no_name (j := j) (by omega) HC.out (by unfold Sg.isHex; omega))
            have hy' : 63 < (c.toNat : Int) := by omega
            clear hz hy
            go_wp2
            go_ret2
            exact ⟨by rw [HN.out]; rfl, rfl⟩
    · have hj12 : j = 12 := by omega
      subst hj12
      have NM := Lib.hid (rname_any n w)
      have n0 : 0 ≤ n := hat.out.1
      have n1 : n < 281474976710656 := by
        have h1 := hat.out.2.1
        have h3 : (16 : Int) ^ 12 = 281474976710656 := by decide
        omega
      cases hs : Sg.segP s with
      | some f =>
        obtain ⟨ho, hn⟩ := Sg.segP_some hs
        have hv : n = f := by
          have h1 := hat.out.2.2 (by rw [hs]; rfl)
          rw [List.take_of_length_le (by rw [List.length_drop, ← Lib.size_eq, h]; decide), ← hn] at h1
          exact h1.trans (Sg.val_name f ho)
        subst hv
        have N2 := Lib.hid NM.out
        rw [ho, if_pos rfl, hn] at N2
        have HS := Lib.hid hs
        clear hs NM hat ho hn hlt
        go_wp2_with fail
        refine N2.out.mono ?_; rintro e w' ⟨rfl, rfl⟩
        go_wp2_with fail
        refine (one_any _ _).mono ?_; rintro e w' ⟨rfl, rfl⟩
        go_wp2
        go_ret2
        exact ⟨by rw [HS.out]; rfl, rfl⟩
      | none =>
        have HS := Lib.hid hs
        have hx : Hid (Sg.inO n = true → ((Sg.nameB n).toList == s.toList) = false) := Lib.hid fun ho => by
          rcases Bool.eq_false_or_eq_true ((Sg.nameB n).toList == s.toList) with h | h
          · have e := toList_inj (beq_iff_eq.1 h)
            have h2 := Sg.segP_name n ho
            rw [e, HS.out] at h2
            cases h2
          · exact h
        clear hs hat hlt
        by_cases ho : Sg.inO n = true
        · have N2 := Lib.hid NM.out
          rw [ho, if_pos rfl] at N2
          have hq := hx.out ho
          clear NM hx ho
          go_wp2_with fail
          refine N2.out.mono ?_; rintro e w' ⟨rfl, rfl⟩
          go_wp2_with fail
          refine (one_any _ _).mono ?_; rintro e w' ⟨rfl, rfl⟩
          go_wp2
          go_ret2
          exact ⟨by rw [HS.out]; rfl, rfl⟩
        · have N2 := Lib.hid NM.out
          rw [if_neg ho, show Sg.inO n = false by simpa using ho] at N2
          clear NM hx ho
          go_wp2_with fail
          refine N2.out.mono ?_; rintro e w' ⟨rfl, rfl⟩
          go_wp2_with fail
          refine (one_any _ _).mono ?_; rintro e w' ⟨rfl, rfl⟩
          go_wp2
          go_ret2
          exact ⟨by rw [HS.out]; rfl, rfl⟩
theorem rparse_any (s : ByteArray) (w : World) : Calls Tryd.prog 16 #[.string s] w (RParsePost w s) := by
  by_cases h : s.size = 14
  · exact rparse_14 s h w
  · exact rparse_len s h w
end Go.Proofs.YtlaomaefhanacaaDoor
