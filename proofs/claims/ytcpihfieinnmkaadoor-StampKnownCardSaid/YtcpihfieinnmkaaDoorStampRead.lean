/-
  The reference's reading of texts: its number and its Parse, at every text.
-/
import Derived.Test.YtcpihfieinnmkaaDoorStampRef
namespace Go.Proofs.YtcpihfieinnmkaaDoor
open Go.RowKit

theorem take_snoc (s : ByteArray) (k : Nat) (h : k < s.size) : s.data.toList.take (k + 1) = s.data.toList.take k ++ [s[k]] := by
  rw [List.take_succ_eq_append_getElem (by simpa using h)]; rfl
theorem get_data (s : ByteArray) (k : Nat) (h : k < s.size) : s.data.toList[k]? = some s[k] := by
  rw [List.getElem?_eq_getElem (by simpa using h)]; rfl
theorem size_list (s : ByteArray) : s.data.toList.length = s.size := Array.length_toList
/-- What number returns: the number (0 if there is none), and whether there is one. -/
def rnum (o : Option Nat) : Int := (o.getD 0 : Nat)
theorem num_no {l : List UInt8} (h : Pl.numOk l = false) : Pl.refNum l = none := by unfold Pl.refNum; rw [h]; rfl
theorem dig_iff (c : UInt8) : Pl.isDig c = (decide (48 ≤ (c.toNat : Int)) && decide ((c.toNat : Int) ≤ 57)) := by
  rw [Bool.eq_iff_iff]; simp [Pl.isDig]; omega
/-- The value of the first k bytes, and that they are digits. -/
def vl (s : ByteArray) (k : Nat) : Int := (Pl.valFrom 0 (s.data.toList.take k) : Nat)
def al (s : ByteArray) (k : Nat) : Bool := (s.data.toList.take k).all Pl.isDig
theorem vl_bd (s : ByteArray) (k : Nat) (h : al s k = true) (hk : k ≤ 14) : 0 ≤ vl s k ∧ vl s k < 100000000000000 := by
  have h1 := Pl.val_lt (s.data.toList.take k) 0 h
  have h2 : (s.data.toList.take k).length ≤ 14 := by rw [List.length_take]; omega
  have h3 : 10 ^ (s.data.toList.take k).length ≤ 10 ^ 14 := Nat.pow_le_pow_right (by decide) h2
  have h4 : 10 ^ 14 = 100000000000000 := by decide
  unfold vl; omega
theorem vl_end (s : ByteArray) : vl s s.size = rnum (some (Pl.valFrom 0 s.data.toList)) := by
  unfold vl rnum; rw [List.take_of_length_le (by rw [size_list]; exact Nat.le_refl _)]; rfl
theorem al_end (s : ByteArray) (h : al s s.size = true) : s.data.toList.all Pl.isDig = true := by
  unfold al at h; rwa [List.take_of_length_le (by rw [size_list]; exact Nat.le_refl _)] at h
theorem num_yes {l : List UInt8} (h : Pl.numOk l = true) : Pl.refNum l = some (Pl.valFrom 0 l) := by unfold Pl.refNum; rw [if_pos h]
theorem byte_lt (s : ByteArray) (k : Nat) (h : k < s.size) : (s[k].toNat : Int) ≤ 255 := by have := s[k].toNat_lt; omega
theorem all_no (s : ByteArray) (k : Nat) (h : k < s.size) (hd : Pl.isDig s[k] = false) : s.data.toList.all Pl.isDig = false := by
  rw [Bool.eq_false_iff]
  intro ha
  rw [List.all_eq_true] at ha
  have := ha s[k] (List.mem_of_getElem? (get_data s k h))
  rw [hd] at this; cases this
theorem digits_of (s : ByteArray) (k : Nat) (h : k < s.size) :
    ((s[k].toNat : Int) < 48 ∧ s.data.toList.all Pl.isDig = false) ∨ (48 ≤ (s[k].toNat : Int) ∧ 57 < (s[k].toNat : Int) ∧ s.data.toList.all Pl.isDig = false) ∨
      (48 ≤ (s[k].toNat : Int) ∧ (s[k].toNat : Int) ≤ 57 ∧ vl s (k + 1) = 10 * vl s k + ((s[k].toNat : Int) - 48) ∧ (al s k = true → al s (k + 1) = true)) := by
  by_cases h1 : (s[k].toNat : Int) < 48
  · exact .inl ⟨h1, all_no s k h (by rw [dig_iff]; simp; omega)⟩
  · by_cases h2 : 57 < (s[k].toNat : Int)
    · exact .inr (.inl ⟨by omega, h2, all_no s k h (by rw [dig_iff]; simp; omega)⟩)
    · refine .inr (.inr ⟨by omega, by omega, ?_, fun ha => ?_⟩)
      · unfold vl
        rw [take_snoc s k h, Pl.valFrom_snoc]; omega
      · unfold al at *
        rw [take_snoc s k h, List.all_append, ha, Bool.true_and]
        simp [Pl.isDig]; omega
set_option maxHeartbeats 1000000 in
theorem number_loop (s : ByteArray) (h0 : 1 ≤ s.size) (h15 : s.size ≤ 15) (hz : s.size = 1 ∨ (1 < s.size ∧ s.data.toList.head? ≠ some 48)) (w : World) :
    Calls Tryd.prog 34 #[.string s] w fun e w' => e = .returned (.tuple #[.int .i64 (rnum (Pl.refNum s.data.toList)), .bool (Pl.refNum s.data.toList).isSome]) ∧ w = w' := by
  have hok : Pl.numOk s.data.toList = s.data.toList.all Pl.isDig := by
    have e1 : s.data.toList.length = s.size := size_list s
    have e2 : s.data.toList.isEmpty = false := by
      rw [List.isEmpty_eq_false_iff]; intro e; rw [e] at e1; simp at e1; omega
    unfold Pl.numOk
    rw [e2, e1]
    rcases hz with hz | ⟨hz, hz2⟩
    · have : ¬ 1 < s.size := by omega
      simp [h15, this]
    · simp [h15, hz2]
  have HOK := Lib.hid hok
  clear hok
  have hemp : s.toList.isEmpty = false := by
    rw [Lib.toList_data, List.isEmpty_eq_false_iff]; intro e
    have e1 : s.data.toList.length = s.size := size_list s
    rw [e] at e1; simp at e1; omega
  have hemp2 : s.toList ≠ [] := by simpa using hemp
  have hfirst : s.size = 1 ∨ (1 < s.size ∧ ∀ h : 0 < s.size, ((s[0].toNat : Int) == 48) = false) := by
    rcases hz with hz | ⟨hz, hz2⟩
    · exact .inl hz
    · refine .inr ⟨hz, fun h => beq_eq_false_iff_ne.2 fun e => hz2 ?_⟩
      have e3 : s[0] = 48 := by apply UInt8.toNat_inj.1; show s[0].toNat = 48; omega
      rw [List.head?_eq_getElem?, get_data s 0 h, e3]
  clear hz
  rcases hfirst with h1 | ⟨h1, hf⟩
  · have hs1 : ((s.size : Int) ≤ 1) := by omega
    clear h1
    go_enter Tryd.func34, Tryd.ntmps34
    go_wp2
    go_loop [4, 5] (fun n i => ∃ k : Nat, k ≤ s.size ∧ i = .int .i64 k ∧ n = .int .i64 (vl s k) ∧ al s k = true) (fun _ i => s.size - (intOf i).toNat)
    case atStart => exact ⟨0, by omega, rfl, rfl, rfl⟩
    case round =>
      obtain ⟨k, hk, rfl, rfl, hall⟩ := hrel
      by_cases hlt : k < s.size
      · obtain ⟨b0, b1⟩ := vl_bd s k hall (by omega)
        have hdig := digits_of s k hlt
        have hd := byte_lt s k hlt
        have hge : 0 ≤ (s[k].toNat : Int) := by omega
        obtain ⟨c, hc⟩ : ∃ c : Int, (s[k].toNat : Int) = c := ⟨_, rfl⟩
        rw [hc] at hdig hd hge
        rcases hdig with ⟨hd1, hn⟩ | ⟨hd1, hd2, hn⟩ | ⟨hd1, hd2, hs1, hs2⟩
        · have HN := Lib.hid (HOK.out.trans hn)
          clear hn hall
          go_wp2
          go_ret2
          rw [num_no HN.out]
          exact ⟨rfl, rfl⟩
        · have HN := Lib.hid (HOK.out.trans hn)
          clear hn hall
          go_wp2
          go_ret2
          rw [num_no HN.out]
          exact ⟨rfl, rfl⟩
        · have HS := Lib.hid hs1
          have HA := Lib.hid (hs2 hall)
          clear hs1 hs2 hall
          generalize vl s k = V at *
          clear hd hge
          go_wp2
          go_round
          case rel => exact ⟨k + 1, by omega, by go_num, by rw [HS.out], HA.out⟩
          case measure => simp [intOf]; omega
      · have hle : s.size ≤ k := by omega
        have hke : k = s.size := by omega
        have HN := Lib.hid (num_yes (HOK.out.trans (al_end s (by rw [← hke]; exact hall))))
        have HV : Hid (vl s k = rnum (some (Pl.valFrom 0 s.data.toList))) := Lib.hid (by rw [hke]; exact vl_end s)
        clear hall hke hlt
        go_wp2
        go_ret2
        rw [HN.out]
        exact ⟨ret_pair HV.out rfl, rfl⟩
  · have hf0 := hf (by omega)
    clear hf
    go_enter Tryd.func34, Tryd.ntmps34
    go_wp2
    go_loop [4, 5] (fun n i => ∃ k : Nat, k ≤ s.size ∧ i = .int .i64 k ∧ n = .int .i64 (vl s k) ∧ al s k = true) (fun _ i => s.size - (intOf i).toNat)
    case atStart => exact ⟨0, by omega, rfl, rfl, rfl⟩
    case round =>
      obtain ⟨k, hk, rfl, rfl, hall⟩ := hrel
      by_cases hlt : k < s.size
      · obtain ⟨b0, b1⟩ := vl_bd s k hall (by omega)
        have hdig := digits_of s k hlt
        have hd := byte_lt s k hlt
        have hge : 0 ≤ (s[k].toNat : Int) := by omega
        obtain ⟨c, hc⟩ : ∃ c : Int, (s[k].toNat : Int) = c := ⟨_, rfl⟩
        rw [hc] at hdig hd hge
        rcases hdig with ⟨hd1, hn⟩ | ⟨hd1, hd2, hn⟩ | ⟨hd1, hd2, hs1, hs2⟩
        · have HN := Lib.hid (HOK.out.trans hn)
          clear hn hall
          go_wp2
          go_ret2
          rw [num_no HN.out]
          exact ⟨rfl, rfl⟩
        · have HN := Lib.hid (HOK.out.trans hn)
          clear hn hall
          go_wp2
          go_ret2
          rw [num_no HN.out]
          exact ⟨rfl, rfl⟩
        · have HS := Lib.hid hs1
          have HA := Lib.hid (hs2 hall)
          clear hs1 hs2 hall
          generalize vl s k = V at *
          clear hd hge
          go_wp2
          go_round
          case rel => exact ⟨k + 1, by omega, by go_num, by rw [HS.out], HA.out⟩
          case measure => simp [intOf]; omega
      · have hle : s.size ≤ k := by omega
        have hke : k = s.size := by omega
        have HN := Lib.hid (num_yes (HOK.out.trans (al_end s (by rw [← hke]; exact hall))))
        have HV : Hid (vl s k = rnum (some (Pl.valFrom 0 s.data.toList))) := Lib.hid (by rw [hke]; exact vl_end s)
        clear hall hke hlt
        go_wp2
        go_ret2
        rw [HN.out]
        exact ⟨ret_pair HV.out rfl, rfl⟩
set_option maxHeartbeats 400000 in
theorem number_any (s : ByteArray) (hm : s.size ≤ 140737488355328) (w : World) :
    Calls Tryd.prog 34 #[.string s] w fun e w' => e = .returned (.tuple #[.int .i64 (rnum (Pl.refNum s.data.toList)), .bool (Pl.refNum s.data.toList).isSome]) ∧ w = w' := by
  have e1 : s.data.toList.length = s.size := size_list s
  by_cases h0 : s.size = 0
  · have hl : s.data.toList = [] := by rw [← List.length_eq_zero_iff]; omega
    have hn : Pl.refNum s.data.toList = none := by rw [hl]; rfl
    rw [hn]
    have he : s.toList.isEmpty = true := by rw [Lib.toList_data, hl]; rfl
    have he2 : s.toList = [] := by rw [Lib.toList_data, hl]
    have he3 : s = ByteArray.empty := by
      apply ByteArray.ext; apply Array.toList_inj.1; rw [hl]; rfl
    clear hl hn h0 e1 he he2 hm
    subst he3
    go_enter Tryd.func34, Tryd.ntmps34
    go_wp2
    go_ret2
    exact ⟨rfl, rfl⟩
  · have hemp : s.toList.isEmpty = false := by
      rw [Lib.toList_data, List.isEmpty_eq_false_iff]; intro e; rw [e] at e1; simp at e1; omega
    have hemp2 : s.toList ≠ [] := by simpa using hemp
    by_cases h15 : s.size ≤ 15
    · by_cases hz : s.size = 1
      · exact number_loop s (by omega) h15 (.inl hz) w
      · by_cases hh : s.data.toList.head? = some 48
        · have hn : Pl.refNum s.data.toList = none := num_no (by unfold Pl.numOk; rw [hh, e1]; simp; omega)
          have h48 : ((s[0]'(by omega)).toNat : Int) = 48 := by
            have := get_data s 0 (by omega)
            rw [List.head?_eq_getElem?, this] at hh
            have e : s[0]'(by omega) = 48 := Option.some.inj hh
            rw [e]; rfl
          have hf0 : (((s[0]'(by omega)).toNat : Int) == 48) = true := beq_iff_eq.2 h48
          have h1 : 1 < s.size := by omega
          rw [hn]
          clear hn hh h48
          go_enter Tryd.func34, Tryd.ntmps34
          go_wp2
          go_ret2
          exact ⟨rfl, rfl⟩
        · exact number_loop s (by omega) h15 (.inr ⟨by omega, hh⟩) w
    · have hn : Pl.refNum s.data.toList = none := num_no (by unfold Pl.numOk; rw [e1]; simp [h15])
      rw [hn]
      have h15' : 15 < s.size := by omega
      clear hn h15 e1 h0
      go_enter Tryd.func34, Tryd.ntmps34
      go_wp2
      go_ret2
      exact ⟨rfl, rfl⟩

/-! ### the reference's Parse -/
theorem no_dot (t : ByteArray) (d : Nat) (hd : d ≤ t.size) (h : ∀ k, k < d → t.data.toList[k]? ≠ some 46) (k : Nat) (hk : k < d) : ((t[k]'(by omega)).toNat : Int) ≠ 46 := by
  intro e
  apply h k hk
  rw [get_data t k (by omega)]
  have : t[k]'(by omega) = 46 := by apply UInt8.toNat_inj.1; show (t[k]'(by omega)).toNat = 46; omega
  rw [this]
set_option maxHeartbeats 400000 in
theorem refParse_none (t : ByteArray) (hm : t.size ≤ 140737488355328) (h : ∀ k, k < t.size → t.data.toList[k]? ≠ some 46) (w : World) :
    Calls Tryd.prog 20 #[.string t] w fun e w' => e = .returned (.tuple #[.int .u64 0, .bool false]) ∧ w = w' := by
  have ND := Lib.hid (no_dot t t.size (Nat.le_refl _) h)
  clear h
  go_enter Tryd.func20, Tryd.ntmps20
  go_wp2
  go_loop [4] (fun i => ∃ k : Nat, k ≤ t.size ∧ i = .int .i64 k) (fun i => t.size - (intOf i).toNat)
  case atStart => exact ⟨0, by omega, rfl⟩
  case round =>
    obtain ⟨k, hk, rfl⟩ := hrel
    by_cases hlt : k < t.size
    · have hne := ND.out k hlt
      obtain ⟨c, hc⟩ : ∃ c : Int, (t[k].toNat : Int) = c := ⟨_, rfl⟩
      rw [hc] at hne
      have hb : (c == 46) = false := beq_eq_false_iff_ne.2 hne
      clear hne
      go_wp2
      go_round
      case rel => exact ⟨k + 1, by omega, by go_num⟩
      case measure => simp [intOf]; omega
    · have hle : t.size ≤ k := by omega
      clear hlt
      go_wp2
      go_ret2
      exact ⟨rfl, rfl⟩
set_option maxHeartbeats 1000000 in
theorem refParse_at (t : ByteArray) (hm : t.size ≤ 140737488355328) (d : Nat) (hd : d < t.size) (h : ∀ k, k < d → t.data.toList[k]? ≠ some 46) (h46 : t.data.toList[d]? = some 46) (w : World)
    (x y : Int) (p q : Bool) (r : Int) (ok : Bool)
    (hA : ∀ w, Calls Tryd.prog 34 #[.string (t.extract 0 d)] w fun e w' => e = .returned (.tuple #[.int .i64 x, .bool p]) ∧ w = w')
    (hB : ∀ w, Calls Tryd.prog 34 #[.string (t.extract (d + 1) t.size)] w fun e w' => e = .returned (.tuple #[.int .i64 y, .bool q]) ∧ w = w')
    (hP : ∀ w, Calls Tryd.prog 19 #[.int .i64 x, .int .i64 y] w fun e w' => e = .returned (.tuple #[.int .u64 r, .bool ok]) ∧ w = w') :
    Calls Tryd.prog 20 #[.string t] w fun e w' => e = .returned (.tuple #[.int .u64 (if (p && q) = true then r else 0), .bool (if (p && q) = true then ok else false)]) ∧ w = w' := by
  have ND := Lib.hid (no_dot t d (by omega) h)
  have HA := Lib.hid hA
  have HB := Lib.hid hB
  have HP := Lib.hid hP
  have H46 : ((t[d].toNat : Nat) : Int) = 46 := by
    rw [get_data t d hd] at h46
    have e : t[d] = 46 := Option.some.inj h46
    rw [e]; rfl
  have H46 := Lib.hid H46
  clear h hA hB hP h46
  go_enter Tryd.func20, Tryd.ntmps20
  go_wp2
  go_loop [4] (fun i => ∃ k : Nat, k ≤ d ∧ i = .int .i64 k) (fun i => d - (intOf i).toNat)
  case atStart => exact ⟨0, by omega, rfl⟩
  case round =>
    obtain ⟨k, hk, rfl⟩ := hrel
    by_cases hlt : k < d
    · have hne := ND.out k hlt
      have hlt2 : k < t.size := by omega
      obtain ⟨c, hc⟩ : ∃ c : Int, (t[k].toNat : Int) = c := ⟨_, rfl⟩
      rw [hc] at hne
      have hb : (c == 46) = false := beq_eq_false_iff_ne.2 hne
      clear hne
      go_wp2
      go_round
      case rel => exact ⟨k + 1, by omega, by go_num⟩
      case measure => simp [intOf]; omega
    · obtain rfl : k = d := by omega
      clear hlt hk
      have hb : (((t[k].toNat : Nat) : Int) == 46) = true := beq_iff_eq.2 H46.out
      cases p <;> cases q
      all_goals
        go_wp2_with fail
        refine (HA.out _).mono ?_
        rintro e w' ⟨rfl, rfl⟩
        go_wp2_with fail
        refine (HB.out _).mono ?_
        rintro e w' ⟨rfl, rfl⟩
        go_wp2_with (go_at_call 19; refine (HP.out _).mono ?_; rintro e w' ⟨rfl, rfl⟩)
        go_ret2
        exact ⟨rfl, rfl⟩
theorem refParse_any (t : ByteArray) (hm : t.size ≤ 140737488355328) (w : World) :
    Calls Tryd.prog 20 #[.string t] w fun e w' => e = .returned (.tuple #[.int .u64 (pnum (Pl.refParse t.data.toList)), .bool (Pl.refParse t.data.toList).isSome]) ∧ w = w' := by
  rcases indexByte_split t.data.toList with ⟨h1, h2⟩ | ⟨d, h1, h2, h3⟩
  · have hr : Pl.refParse t.data.toList = none := by unfold Pl.refParse; rw [h1]
    rw [hr]
    exact refParse_none t hm (fun k _ => Lib.indexByte_none h2 k) w
  · have hd : d < t.size := by rw [size_list] at h1; exact h1
    obtain ⟨h4, h5⟩ := Lib.indexByte_some h2
    have hA := fun w => number_any (t.extract 0 d) (by rw [ByteArray.size_extract]; omega) w
    have hB := fun w => number_any (t.extract (d + 1) t.size) (by rw [ByteArray.size_extract]; omega) w
    have ea : (t.extract 0 d).data.toList = t.data.toList.take d := by rw [extract_take]; simp [strOf]
    have eb : (t.extract (d + 1) t.size).data.toList = t.data.toList.drop (d + 1) := by rw [extract_drop]; simp [strOf]
    rw [ea] at hA
    rw [eb] at hB
    have := refParse_at t hm d hd h5 h4 w _ _ _ _ _ _ hA hB (fun w => refPack_any _ _ w)
    refine this.mono ?_
    rintro e w' ⟨rfl, rfl⟩
    refine ⟨?_, rfl⟩
    cases h6 : Pl.refNum (t.data.toList.take d) with
    | none =>
      have hr : Pl.refParse t.data.toList = none := by unfold Pl.refParse; rw [h3]; simp only; rw [h6]
      rw [hr]; rfl
    | some x =>
      cases h7 : Pl.refNum (t.data.toList.drop (d + 1)) with
      | none =>
        have hr : Pl.refParse t.data.toList = none := by unfold Pl.refParse; rw [h3]; simp only; rw [h6, h7]
        rw [hr]; rfl
      | some y =>
        have hr : Pl.refParse t.data.toList = if Pl.packOk x y = true then some (Pl.packV x y) else none := by unfold Pl.refParse; rw [h3]; simp only; rw [h6, h7]
        rw [hr]
        show Ending.returned (Value.tuple #[Value.int .u64 (Pl.packV x y), Value.bool (Pl.packOk x y)]) = _
        cases hp : Pl.packOk x y with
        | true => rfl
        | false => rw [if_neg (by simp)]; exact ret_pair (by unfold Pl.packV; rw [hp]; rfl) rfl
end Go.Proofs.YtcpihfieinnmkaaDoor
