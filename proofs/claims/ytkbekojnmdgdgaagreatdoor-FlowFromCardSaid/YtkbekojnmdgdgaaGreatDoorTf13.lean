/-
  Part 13 of the texts behind the law: TDfPost, TDfChars, TDfNum, TDfTests.
-/
import Derived.Test.YtkbekojnmdgdgaaGreatDoorTf4
import Derived.Test.YtkbekojnmdgdgaaGreatDoorTf1
import Derived.Test.YtkbekojnmdgdgaaGreatDoorTf8
import Derived.Test.YtkbekojnmdgdgaaGreatDoorTf6
/- DfPost -/
namespace Go.Proofs.YtkbekojnmdgdgaaGreatDoor
open Go.RowKit
def ParseG (w : World) (r : Df.D × Int) (e : Ending) (w' : World) : Prop :=
 ∃ A cap, e = .returned (.tuple #[.agg #[.slice A r.1.length cap], .int .i64 r.2]) ∧ Hid (DefIn w' w'.heap.size A r.1) ∧ Hid (Below w.heap.size w w')
def StrG (w : World) (s : ByteArray) (e : Ending) (w' : World) : Prop := e = .returned (.string s) ∧ Hid (Below w.heap.size w w')
def GraphG (w : World) (n : Int) (es : Gr.EI) (e : Ending) (w' : World) : Prop :=
 ∃ A cap, e = .returned (.agg #[.int .i64 n, .slice A es.length cap]) ∧ Hid (Edg w' w'.heap.size A es) ∧ Hid (Below w.heap.size w w')
def Fair (d : Df.D) : Prop := d.length ≤ 1100 ∧ ∀ t ∈ d, t.after.length ≤ 1100 ∧ t.name.length ≤ 1100 ∧ t.on.length ≤ 1100
theorem Df.isName_len {l : List UInt8} (h : Df.isName l = true) : 1 ≤ l.length ∧ l.length ≤ 16 := by
 unfold Df.isName at h
 rw [Bool.and_eq_true, decide_eq_true_eq] at h
 exact h.1
theorem Df.Ok.fair {d : Df.D} (h : Df.Ok d) : Fair d := by
 refine ⟨by have := h.n16; omega, fun t ht => ⟨?_, ?_, ?_⟩⟩
 ·obtain ⟨i, hi, rfl⟩ := List.getElem_of_mem ht
  obtain ⟨h1, h2⟩ := h.after hi
  have h3 : (d[i].after.map Int.toNat).Nodup := by
   rw [List.Nodup, List.pairwise_map]
   exact h1.imp_of_mem fun {a b} ha hb hab e => hab (by have := h2 a ha; have := h2 b hb; omega)
  have h4 := Gr.nodup_low d.length (d[i].after.map Int.toNat) (fun x hx => by
   obtain ⟨a, ha, rfl⟩ := List.mem_map.1 hx
   have := h2 a ha
   omega) h3
  rw [List.length_map] at h4
  have := h.n16
  omega
 ·have := h.name t ht
  unfold Df.nameOk at this
  rw [Bool.and_eq_true] at this
  have := Df.isName_len this.1
  omega
 ·have := h.name t ht
  unfold Df.nameOk at this
  rw [Bool.and_eq_true, Bool.or_eq_true] at this
  rcases this.2 with e | e
  ·rw [List.isEmpty_iff.1 e]; simp
  ·have := Df.isName_len e
   omega
end Go.Proofs.YtkbekojnmdgdgaaGreatDoor
/- DfChars -/
namespace Go.Proofs.YtkbekojnmdgdgaaGreatDoor
open Go.RowKit
theorem takeB_snocD (s : ByteArray) (k : Nat) (h : k < s.size) : s.data.toList.take (k + 1) = s.data.toList.take k ++ [s[k]] := by
 rw [List.take_succ_eq_append_getElem (by simpa using h)]; rfl
theorem getB_dataD (s : ByteArray) (k : Nat) (h : k < s.size) : s.data.toList[k]? = some s[k] := by
 rw [List.getElem?_eq_getElem (by simpa using h)]; rfl
theorem sizeB_listD (s : ByteArray) : s.data.toList.length = s.size := Array.length_toList
theorem takeB_allD (s : ByteArray) : s.data.toList.take s.size = s.data.toList := List.take_of_length_le (by rw [sizeB_listD]; exact Nat.le_refl _)
theorem emptyBD {s : ByteArray} (h : s.size = 0) : s = ⟨#[]⟩ := by
 cases s with | mk d => exact congrArg _ (Array.eq_empty_of_size_eq_zero h)
theorem nonemptyBD {s : ByteArray} (h : ¬ s.size = 0) : s.toList.isEmpty = false ∧ s.toList ≠ [] := by
 have h1 : s.toList ≠ [] := by
  rw [ByteArray.toList_eq]
  intro h2
  have h3 := congrArg List.length h2
  rw [Array.length_toList] at h3
  exact h h3
 exact ⟨by rw [List.isEmpty_eq_false_iff]; exact h1, h1⟩
set_option maxHeartbeats 400000 in
theorem isDigit_yesD (z : Int) (h0 : 48 ≤ z) (h1 : z ≤ 57) (w : World) : Calls Tryz.prog 71 #[.int .u8 z] w fun e w' => e = .returned (.bool true) ∧ w = w' := by
 go_enter Tryz.func71, Tryz.ntmps71
 go_wp2
 go_ret
 exact ⟨rfl, rfl⟩
set_option maxHeartbeats 400000 in
theorem isDigit_noD (z : Int) (h : z < 48 ∨ 57 < z) (w : World) : Calls Tryz.prog 71 #[.int .u8 z] w fun e w' => e = .returned (.bool false) ∧ w = w' := by
 rcases h with h | h
 ·go_enter Tryz.func71, Tryz.ntmps71
  go_wp2
  go_ret
  exact ⟨rfl, rfl⟩
 ·have h2 : 48 ≤ z := by omega
  go_enter Tryz.func71, Tryz.ntmps71
  go_wp2
  go_ret
  exact ⟨ret_bool (decide_eq_false (by omega)), rfl⟩
theorem char_splitD (c : UInt8) : ((c.toNat : Int) < 48 ∧ Df.isChar c = false) ∨ (48 ≤ (c.toNat : Int) ∧ (c.toNat : Int) ≤ 57 ∧ Df.isChar c = true) ∨ (57 < (c.toNat : Int) ∧ (c.toNat : Int) < 97 ∧ Df.isChar c = false) ∨
  (97 ≤ (c.toNat : Int) ∧ (c.toNat : Int) ≤ 122 ∧ Df.isChar c = true) ∨ (122 < (c.toNat : Int) ∧ Df.isChar c = false) := by
 unfold Df.isChar
 simp only [Bool.or_eq_true, Bool.or_eq_false_iff, decide_eq_true_eq, decide_eq_false_iff_not]
 omega
def CharsToD (s : ByteArray) (k : Nat) : Prop := k ≤ s.size ∧ (s.data.toList.take k).all Df.isChar = true
theorem CharsToD.next {s : ByteArray} {k : Nat} (h : CharsToD s k) (hk : k < s.size) (hc : Df.isChar s[k] = true) : CharsToD s (k + 1) :=
 ⟨hk, by rw [takeB_snocD s k hk, List.all_append, h.2, Bool.true_and, List.all_cons, hc]; rfl⟩
theorem name_noD {s : ByteArray} {k : Nat} (hk : k < s.size) (hc : Df.isChar s[k] = false) : Df.isName s.data.toList = false := by
 unfold Df.isName
 have : s.data.toList.all Df.isChar = false := by
  rw [List.all_eq_false]
  exact ⟨s[k], List.mem_of_getElem? (getB_dataD s k hk), by rw [hc]; simp⟩
 rw [this, Bool.and_false]
theorem name_yesD {s : ByteArray} (h1 : 1 ≤ s.size) (h2 : s.size ≤ 16) (h : CharsToD s s.size) : Df.isName s.data.toList = true := by
 have h3 := h.2
 rw [takeB_allD] at h3
 unfold Df.isName
 rw [h3, sizeB_listD, Bool.and_true, decide_eq_true_eq]
 exact ⟨h1, h2⟩
theorem name_lenD {s : ByteArray} (h : s.size = 0 ∨ 16 < s.size) : Df.isName s.data.toList = false := by
 unfold Df.isName
 rw [sizeB_listD, decide_eq_false (by omega), Bool.false_and]
set_option maxRecDepth 8000 in
set_option maxHeartbeats 1000000 in
theorem name_atD (s : ByteArray) (hs : s.size ≤ 140737488355328) (w : World) : Calls Tryz.prog 55 #[.string s] w fun e w' => e = .returned (.bool (Df.isName s.data.toList)) ∧ w = w' := by
 by_cases h0 : s.size = 0
 ·obtain rfl := emptyBD h0
  go_enter Tryz.func55, Tryz.ntmps55
  go_wp2
  go_ret
  exact ⟨rfl, rfl⟩
 ·obtain ⟨hne2, hne⟩ := nonemptyBD h0
  by_cases h1 : 16 < s.size
  ·have h1' : 16 < (s.size : Int) := by omega
   have HN := Lib.hid (name_lenD (s := s) (.inr h1))
   clear h0 h1
   go_enter Tryz.func55, Tryz.ntmps55
   go_wp2
   go_ret
   exact ⟨ret_bool HN.out.symm, rfl⟩
  ·have g0 := Lib.hid (show 1 ≤ s.size by omega)
   have g1 := Lib.hid (show s.size ≤ 16 by omega)
   have g2 : (s.size : Int) ≤ 16 := by omega
   clear hs h0 h1
   have st : Hid (CharsToD s 0) := Lib.hid ⟨Nat.zero_le _, rfl⟩
   go_enter Tryz.func55, Tryz.ntmps55
   go_wp2
   go_loop [3, 13] (fun _ i => ∃ k : Nat, CharsToD s k ∧ i = .int .i64 k) (fun _ i => s.size - (intOf i).toNat)
   case atStart => exact ⟨0, st.out, rfl⟩
   case round =>
    obtain ⟨k, hk, rfl⟩ := hrel
    have HK := Lib.hid hk
    clear hk
    by_cases hlt : k < s.size
    ·have hlt' : (k : Int) < (s.size : Int) := by omega
     have NO := name_noD hlt
     have YES := HK.out.next hlt
     have CS := char_splitD s[k]
     have hr : 0 ≤ (s[k].toNat : Int) ∧ (s[k].toNat : Int) ≤ 255 := by have := s[k].toNat_lt; omega
     obtain ⟨c, hc⟩ : ∃ c : Int, (s[k].toNat : Int) = c := ⟨_, rfl⟩
     rw [hc] at CS hr
     obtain ⟨z0, z1⟩ := hr
     rcases CS with ⟨a1, a2⟩ | ⟨a1, a2, a3⟩ | ⟨a1, a2, a3⟩ | ⟨a1, a2, a3⟩ | ⟨a1, a2⟩
     ·have R := Lib.hid (NO a2)
      have D := Lib.hid (isDigit_noD c (.inl a1))
      clear NO YES a2
      go_wp2_with (go_at_call 71; refine (D.out _).mono ?_; rintro e w' ⟨rfl, rfl⟩)
      go_ret
      exact ⟨ret_bool R.out.symm, rfl⟩
     ·have R := Lib.hid (YES a3)
      have D := Lib.hid (isDigit_yesD c a1 a2)
      clear NO YES a3
      go_wp2_with (go_at_call 71; refine (D.out _).mono ?_; rintro e w' ⟨rfl, rfl⟩)
      go_round
      case rel => exact ⟨k + 1, R.out, by go_num⟩
      case measure => simp [intOf]; omega
     ·have R := Lib.hid (NO a3)
      have D := Lib.hid (isDigit_noD c (.inr a1))
      clear NO YES a3
      go_wp2_with (go_at_call 71; refine (D.out _).mono ?_; rintro e w' ⟨rfl, rfl⟩)
      go_ret
      exact ⟨ret_bool R.out.symm, rfl⟩
     ·have R := Lib.hid (YES a3)
      have D := Lib.hid (isDigit_noD c (.inr (by omega)))
      clear NO YES a3
      go_wp2_with (go_at_call 71; refine (D.out _).mono ?_; rintro e w' ⟨rfl, rfl⟩)
      go_round
      case rel => exact ⟨k + 1, R.out, by go_num⟩
      case measure => simp [intOf]; omega
     ·have R := Lib.hid (NO a2)
      have D := Lib.hid (isDigit_noD c (.inr (by omega)))
      have q2 : 97 ≤ c := by omega
      clear NO YES a2
      go_wp2_with (go_at_call 71; refine (D.out _).mono ?_; rintro e w' ⟨rfl, rfl⟩)
      go_ret
      exact ⟨ret_bool R.out.symm, rfl⟩
    ·obtain rfl : k = s.size := by have := HK.out.1; omega
     have R := Lib.hid (name_yesD g0.out g1.out HK.out)
     have hge : ¬ (s.size : Int) < (s.size : Int) := by omega
     go_wp2
     go_ret
     exact ⟨ret_bool R.out.symm, rfl⟩
end Go.Proofs.YtkbekojnmdgdgaaGreatDoor
/- DfNum -/
namespace Go.Proofs.YtkbekojnmdgdgaaGreatDoor
open Go.RowKit
def dnV (s : ByteArray) (k : Nat) : Int := (Pl.valFrom 0 (s.data.toList.take k) : Nat)
def dnA (s : ByteArray) (k : Nat) : Bool := (s.data.toList.take k).all Pl.isDig
theorem dnV_bd (s : ByteArray) (k : Nat) (h : dnA s k = true) (hk : k ≤ 4) : 0 ≤ dnV s k ∧ dnV s k ≤ 9999 := by
 have h1 := Pl.val_lt (s.data.toList.take k) 0 h
 have h2 : (s.data.toList.take k).length ≤ 4 := by rw [List.length_take]; omega
 have h3 : 10 ^ (s.data.toList.take k).length ≤ 10 ^ 4 := Nat.pow_le_pow_right (by decide) h2
 have h4 : 10 ^ 4 = 10000 := by decide
 unfold dnV; omega
theorem dn_digits (s : ByteArray) (k : Nat) (h : k < s.size) : (((s[k].toNat : Int) < 48 ∨ 57 < (s[k].toNat : Int)) ∧ s.data.toList.all Pl.isDig = false) ∨
      (48 ≤ (s[k].toNat : Int) ∧ (s[k].toNat : Int) ≤ 57 ∧ dnV s (k + 1) = dnV s k * 10 + ((s[k].toNat : Int) - 48) ∧ (dnA s k = true → dnA s (k + 1) = true)) := by
 by_cases hd : (48 ≤ (s[k].toNat : Int) ∧ (s[k].toNat : Int) ≤ 57)
 ·refine .inr ⟨hd.1, hd.2, ?_, fun ha => ?_⟩
  ·unfold dnV
   rw [takeB_snocD s k h, Pl.valFrom_snoc]; omega
  ·unfold dnA at *
   rw [takeB_snocD s k h, List.all_append, ha, Bool.true_and]
   simp [Pl.isDig]; omega
 ·refine .inl ⟨by omega, ?_⟩
  rw [List.all_eq_false]
  refine ⟨s[k], List.mem_of_getElem? (getB_dataD s k h), ?_⟩
  simp [Pl.isDig]; omega
def dnR (o : Option Nat) : Ending := .returned (.tuple #[.int .i64 (o.getD 0 : Nat), .bool o.isSome])
structure DnOk (s : ByteArray) : Prop where
 n1 : 1 ≤ s.size
 n4 : s.size ≤ 4
 hd : (decide (1 < s.data.toList.length) && s.data.toList.head? == some 48) = false
theorem dn_bad {s : ByteArray} (h : s.data.toList.all Pl.isDig = false) : dnR (Df.num s.data.toList) = .returned (.tuple #[.int .i64 0, .bool false]) := by
 unfold Df.num
 rw [h, Bool.and_false, if_neg (by decide)]; rfl
theorem dn_none {l : List UInt8} (h : Df.num l = none) : dnR (Df.num l) = .returned (.tuple #[.int .i64 0, .bool false]) := by rw [h]; rfl
theorem dn_good {s : ByteArray} (h : DnOk s) (ha : dnA s s.size = true) : dnR (Df.num s.data.toList) = .returned (.tuple #[.int .i64 (dnV s s.size), .bool true]) := by
 unfold dnA at ha
 unfold dnV
 rw [takeB_allD] at ha ⊢
 unfold Df.num
 have e : s.data.toList.isEmpty = false := by
  rw [List.isEmpty_eq_false_iff]; intro e
  have h1 := h.n1
  have := sizeB_listD s
  rw [e] at this; simp at this; omega
 rw [e, h.hd, ha, sizeB_listD, decide_eq_true h.n4]
 rfl
set_option maxRecDepth 8000 in
set_option maxHeartbeats 1000000 in
theorem readNumber_at (s : ByteArray) (hs : s.size ≤ 140737488355328) (w : World) :
  Calls Tryz.prog 131 #[.string s] w fun e w' => e = dnR (Df.num s.data.toList) ∧ w = w' := by
 by_cases h0 : s.size = 0
 ·obtain rfl := emptyBD h0
  go_enter Tryz.func131, Tryz.ntmps131
  go_wp2
  go_ret2
  exact ⟨rfl, rfl⟩
 obtain ⟨hne2, hne⟩ := nonemptyBD h0
 by_cases h1 : 4 < s.size
 ·have h1' : 4 < (s.size : Int) := by omega
  have HN := Lib.hid (dn_none (l := s.data.toList) (by unfold Df.num; rw [sizeB_listD, decide_eq_false (show ¬ s.size ≤ 4 by omega), Bool.and_false, Bool.false_and, Bool.false_and, if_neg (by decide)]))
  clear h0 h1
  go_enter Tryz.func131, Tryz.ntmps131
  go_wp2
  go_ret2
  exact ⟨HN.out.symm, rfl⟩
 have H4 : Hid (s.size ≤ 4) := Lib.hid (by omega)
 have g2 : (s.size : Int) ≤ 4 := by omega
 by_cases h2 : s.size = 1
 ·have hs1 : (s.size : Int) ≤ 1 := by omega
  have HOK : Hid (DnOk s) := Lib.hid ⟨by omega, by omega, by rw [sizeB_listD, h2]; rfl⟩
  clear hs h0 h1 h2
  go_enter Tryz.func131, Tryz.ntmps131
  go_wp2
  go_loop [4, 25] (fun n i => ∃ k : Nat, k ≤ s.size ∧ i = .int .i64 k ∧ n = .int .i64 (dnV s k) ∧ dnA s k = true) (fun _ i => s.size - (intOf i).toNat)
  case atStart => exact ⟨0, by omega, rfl, rfl, rfl⟩
  case round =>
   obtain ⟨k, hk, rfl, rfl, hall⟩ := hrel
   by_cases hlt : k < s.size
   ·obtain ⟨b0, b1⟩ := dnV_bd s k hall (by have := H4.out; omega)
    have hdig := dn_digits s k hlt
    have hr : 0 ≤ (s[k].toNat : Int) ∧ (s[k].toNat : Int) ≤ 255 := by have := s[k].toNat_lt; omega
    obtain ⟨c, hc⟩ : ∃ c : Int, (s[k].toNat : Int) = c := ⟨_, rfl⟩
    rw [hc] at hdig hr
    obtain ⟨z0, z1⟩ := hr
    rcases hdig with ⟨hd1, hn⟩ | ⟨hd1, hd2, hs1, hs2⟩
    ·have HN := Lib.hid (dn_bad hn)
     have D := Lib.hid (isDigit_noD c hd1)
     clear hn hall hd1
     generalize dnV s k = V at *
     go_wp2_with (go_at_call 71; refine (D.out _).mono ?_; rintro e w' ⟨rfl, rfl⟩)
     go_ret2
     exact ⟨HN.out.symm, rfl⟩
    ·have HS := Lib.hid hs1
     have HA := Lib.hid (hs2 hall)
     have D := Lib.hid (isDigit_yesD c hd1 hd2)
     clear hs1 hs2 hall
     generalize dnV s k = V at *
     go_wp2_with (go_at_call 71; refine (D.out _).mono ?_; rintro e w' ⟨rfl, rfl⟩)
     go_round
     case rel => exact ⟨k + 1, by omega, by go_num, by rw [HS.out], HA.out⟩
     case measure => simp [intOf]; omega
   ·obtain rfl : k = s.size := by omega
    have HN := Lib.hid (dn_good HOK.out hall)
    have hge : ¬ (s.size : Int) < (s.size : Int) := by omega
    clear hall
    go_wp2
    go_ret2
    exact ⟨HN.out.symm, rfl⟩
 have g1 : 1 < (s.size : Int) := by omega
 have hp : 0 < s.size := by omega
 by_cases h3 : (s[0].toNat : Int) = 48
 ·have e3 : s[0] = 48 := by apply UInt8.toNat_inj.1; show s[0].toNat = 48; omega
  have HN := Lib.hid (dn_none (l := s.data.toList) (by
   unfold Df.num
   have : (decide (1 < s.data.toList.length) && s.data.toList.head? == some 48) = true := by
    rw [sizeB_listD, decide_eq_true (by omega), Bool.true_and, List.head?_eq_getElem?, getB_dataD s 0 hp, e3]; rfl
   rw [this, Bool.not_true, Bool.and_false, Bool.false_and, if_neg (by decide)]))
  have hd : ((s[0].toNat : Int) == 48) = true := by simpa using h3
  clear hs h0 h1 h2 h3 e3
  go_enter Tryz.func131, Tryz.ntmps131
  go_wp2
  go_ret2
  exact ⟨HN.out.symm, rfl⟩
 ·have hd : ((s[0].toNat : Int) == 48) = false := by simpa using h3
  have HOK : Hid (DnOk s) := Lib.hid ⟨by omega, by omega, by
   rw [List.head?_eq_getElem?, getB_dataD s 0 hp]
   have : (some s[0] == some (48 : UInt8)) = false := by
    rw [beq_eq_false_iff_ne]
    intro e
    injection e with e
    rw [e] at h3
    exact h3 rfl
   rw [this, Bool.and_false]⟩
  clear hs h0 h1 h2 h3
  go_enter Tryz.func131, Tryz.ntmps131
  go_wp2
  go_loop [4, 25] (fun n i => ∃ k : Nat, k ≤ s.size ∧ i = .int .i64 k ∧ n = .int .i64 (dnV s k) ∧ dnA s k = true) (fun _ i => s.size - (intOf i).toNat)
  case atStart => exact ⟨0, by omega, rfl, rfl, rfl⟩
  case round =>
   obtain ⟨k, hk, rfl, rfl, hall⟩ := hrel
   by_cases hlt : k < s.size
   ·obtain ⟨b0, b1⟩ := dnV_bd s k hall (by have := H4.out; omega)
    have hdig := dn_digits s k hlt
    have hr : 0 ≤ (s[k].toNat : Int) ∧ (s[k].toNat : Int) ≤ 255 := by have := s[k].toNat_lt; omega
    obtain ⟨c, hc⟩ : ∃ c : Int, (s[k].toNat : Int) = c := ⟨_, rfl⟩
    rw [hc] at hdig hr
    obtain ⟨z0, z1⟩ := hr
    rcases hdig with ⟨hd1, hn⟩ | ⟨hd1, hd2, hs1, hs2⟩
    ·have HN := Lib.hid (dn_bad hn)
     have D := Lib.hid (isDigit_noD c hd1)
     clear hn hall hd1
     generalize dnV s k = V at *
     go_wp2_with (go_at_call 71; refine (D.out _).mono ?_; rintro e w' ⟨rfl, rfl⟩)
     go_ret2
     exact ⟨HN.out.symm, rfl⟩
    ·have HS := Lib.hid hs1
     have HA := Lib.hid (hs2 hall)
     have D := Lib.hid (isDigit_yesD c hd1 hd2)
     clear hs1 hs2 hall
     generalize dnV s k = V at *
     go_wp2_with (go_at_call 71; refine (D.out _).mono ?_; rintro e w' ⟨rfl, rfl⟩)
     go_round
     case rel => exact ⟨k + 1, by omega, by go_num, by rw [HS.out], HA.out⟩
     case measure => simp [intOf]; omega
   ·obtain rfl : k = s.size := by omega
    have HN := Lib.hid (dn_good HOK.out hall)
    have hge : ¬ (s.size : Int) < (s.size : Int) := by omega
    clear hall
    go_wp2
    go_ret2
    exact ⟨HN.out.symm, rfl⟩
end Go.Proofs.YtkbekojnmdgdgaaGreatDoor
/- DfTests -/
namespace Go.Proofs.YtkbekojnmdgdgaaGreatDoor
open Go.RowKit
def tv (t : Df.Task) (A : Option Addr) (c : Nat) : Value := .agg #[.string (str t.name), .slice A t.after.length c, .int .i64 t.retry, .int .i64 t.wait, .int .i64 t.base, .string (str t.on)]
def Small (t : Df.Task) : Prop := t.after.length ≤ 1100 ∧ t.name.length ≤ 1100 ∧ t.on.length ≤ 1100
theorem str_size (l : List UInt8) : (str l).size = l.length := by simp [str, ByteArray.size]
theorem str_data (l : List UInt8) : (str l).data.toList = l := by simp [str]
theorem nameS_at (l : List UInt8) (hl : l.length ≤ 1100) (w : World) : Calls Tryz.prog 55 #[.string (str l)] w fun e w' => e = .returned (.bool (Df.isName l)) ∧ w = w' := by
 have h := name_atD (str l) (by rw [str_size]; omega) w
 rw [str_data] at h
 exact h
set_option maxHeartbeats 400000 in
theorem isWait_at (n : Int) (w : World) : Calls Tryz.prog 119 #[.int .i64 n] w fun e w' => e = .returned (.bool (decide (1 ≤ n ∧ n ≤ 1000))) ∧ w = w' := by
 by_cases h1 : 1 ≤ n
 ·by_cases h2 : n ≤ 1000
  ·have R := Lib.hid (decide_eq_true (show 1 ≤ n ∧ n ≤ 1000 from ⟨h1, h2⟩))
   go_enter Tryz.func119, Tryz.ntmps119
   go_wp2
   go_ret
   exact ⟨ret_bool R.out.symm, rfl⟩
  ·have R : Hid (decide (1 ≤ n ∧ n ≤ 1000) = false) := Lib.hid (decide_eq_false (by omega))
   have h3 : decide (n ≤ 1000) = false := decide_eq_false h2
   clear h2
   go_enter Tryz.func119, Tryz.ntmps119
   go_wp2
   go_ret
   exact ⟨ret_bool (by rw [R.out]), rfl⟩
 ·have R : Hid (decide (1 ≤ n ∧ n ≤ 1000) = false) := Lib.hid (decide_eq_false (by omega))
  go_enter Tryz.func119, Tryz.ntmps119
  go_wp2
  go_ret
  exact ⟨ret_bool (by rw [decide_eq_false (show ¬ 1 ≤ n by omega)]; rfl), rfl⟩
set_option maxHeartbeats 1000000 in
theorem wrongNumber_any (t : Df.Task) (A : Option Addr) (c : Nat) (w : World) : Calls Tryz.prog 97 #[tv t A c] w (BoolG w (!Df.numOk t)) := by
 unfold tv
 obtain ⟨s1, hs1⟩ : ∃ s, s = str t.name := ⟨_, rfl⟩
 obtain ⟨s2, hs2⟩ : ∃ s, s = str t.on := ⟨_, rfl⟩
 obtain ⟨n, hn⟩ : ∃ n, n = t.after.length := ⟨_, rfl⟩
 rw [← hs1, ← hs2, ← hn]
 have E : Hid (Df.numOk t = decide (0 ≤ t.retry ∧ t.retry ≤ 8 ∧ 1 ≤ t.wait ∧ t.wait ≤ 1000 ∧ 1 ≤ t.base ∧ t.base ≤ 1000)) := Lib.hid rfl
 generalize t.retry = r at *
 generalize t.wait = q at *
 generalize t.base = b at *
 clear hs1 hs2 hn
 have WQ := Lib.hid (isWait_at q)
 have WB := Lib.hid (isWait_at b)
 have BB : Hid (Below w.heap.size w (w.alloc (.cells #[.string s1, .slice A n c, .int .i64 r, .int .i64 q, .int .i64 b, .string s2] 96))) := Lib.hid ((Below.refl _ _).alloc (Nat.le_refl _) _)
 by_cases h0 : r < 0
 ·have R : Hid ((!Df.numOk t) = true) := Lib.hid (by rw [E.out, decide_eq_false (by omega)]; rfl)
  clear E
  go_enter Tryz.func97, Tryz.ntmps97
  go_wp2
  go_ret
  exact ⟨ret_bool R.out.symm, BB⟩
 by_cases h8 : 8 < r
 ·have R : Hid ((!Df.numOk t) = true) := Lib.hid (by rw [E.out, decide_eq_false (by omega)]; rfl)
  have h0' : 0 ≤ r := by omega
  clear E h0
  go_enter Tryz.func97, Tryz.ntmps97
  go_wp2
  go_ret
  exact ⟨ret_bool R.out.symm, BB⟩
 have h0' : 0 ≤ r := by omega
 have h8' : r ≤ 8 := by omega
 by_cases hq : 1 ≤ q ∧ q ≤ 1000
 ·have WQ : Hid (∀ w, Calls Tryz.prog 119 #[.int .i64 q] w fun e w' => e = .returned (.bool true) ∧ w = w') := Lib.hid fun w => by have := WQ.out w; rwa [decide_eq_true hq] at this
  by_cases hb : 1 ≤ b ∧ b ≤ 1000
  ·have WB : Hid (∀ w, Calls Tryz.prog 119 #[.int .i64 b] w fun e w' => e = .returned (.bool true) ∧ w = w') := Lib.hid fun w => by have := WB.out w; rwa [decide_eq_true hb] at this
   have R : Hid ((!Df.numOk t) = false) := Lib.hid (by rw [E.out, decide_eq_true (by omega)]; rfl)
   clear E hq hb h0 h8
   go_enter Tryz.func97, Tryz.ntmps97
   go_wp2_with fail
   refine (WQ.out _).mono ?_; rintro e w' ⟨rfl, rfl⟩
   go_wp2_with fail
   refine (WB.out _).mono ?_; rintro e w' ⟨rfl, rfl⟩
   go_wp2
   go_ret
   exact ⟨ret_bool (by rw [R.out, decide_eq_false (show ¬ r < 0 by omega), decide_eq_false (show ¬ 8 < r by omega)]; rfl), BB⟩
  ·have WB : Hid (∀ w, Calls Tryz.prog 119 #[.int .i64 b] w fun e w' => e = .returned (.bool false) ∧ w = w') := Lib.hid fun w => by have := WB.out w; rwa [decide_eq_false hb] at this
   have R : Hid ((!Df.numOk t) = true) := Lib.hid (by rw [E.out, decide_eq_false (by omega)]; rfl)
   clear E hq hb h0 h8
   go_enter Tryz.func97, Tryz.ntmps97
   go_wp2_with fail
   refine (WQ.out _).mono ?_; rintro e w' ⟨rfl, rfl⟩
   go_wp2_with fail
   refine (WB.out _).mono ?_; rintro e w' ⟨rfl, rfl⟩
   go_wp2
   go_ret
   exact ⟨ret_bool R.out.symm, BB⟩
 ·have WQ : Hid (∀ w, Calls Tryz.prog 119 #[.int .i64 q] w fun e w' => e = .returned (.bool false) ∧ w = w') := Lib.hid fun w => by have := WQ.out w; rwa [decide_eq_false hq] at this
  have R : Hid ((!Df.numOk t) = true) := Lib.hid (by rw [E.out, decide_eq_false (by omega)]; rfl)
  clear E hq h0 h8
  go_enter Tryz.func97, Tryz.ntmps97
  go_wp2_with fail
  refine (WQ.out _).mono ?_; rintro e w' ⟨rfl, rfl⟩
  go_wp2
  go_ret
  exact ⟨ret_bool R.out.symm, BB⟩
theorem str_empty {l : List UInt8} (h : l.isEmpty = true) : str l = ⟨#[]⟩ := by rw [List.isEmpty_iff.1 h]; rfl
theorem str_full {l : List UInt8} (h : l.isEmpty = false) : (str l).toList.isEmpty = false ∧ (str l).toList ≠ [] := nonemptyBD (by rw [str_size]; intro e; rw [List.length_eq_zero_iff.1 e] at h; cases h)
set_option maxHeartbeats 1000000 in
theorem wrongName_any (t : Df.Task) (ht : Small t) (A : Option Addr) (c : Nat) (w : World) : Calls Tryz.prog 94 #[tv t A c] w (BoolG w (!Df.nameOk t)) := by
 unfold tv
 have N1 := Lib.hid (nameS_at t.name ht.2.1)
 have N2 := Lib.hid (nameS_at t.on ht.2.2)
 have E : Hid (Df.nameOk t = (Df.isName t.name && (t.on.isEmpty || Df.isName t.on))) := Lib.hid rfl
 have FE := Lib.hid (@str_full t.on)
 have EE := Lib.hid (@str_empty t.on)
 obtain ⟨s1, hs1⟩ : ∃ s, s = str t.name := ⟨_, rfl⟩
 obtain ⟨s2, hs2⟩ : ∃ s, s = str t.on := ⟨_, rfl⟩
 obtain ⟨n, hn⟩ : ∃ n, n = t.after.length := ⟨_, rfl⟩
 rw [← hs1] at N1 ⊢
 rw [← hs2] at N2 FE EE ⊢
 rw [← hn]
 generalize t.retry = r at *
 generalize t.wait = q at *
 generalize t.base = b at *
 clear hs1 hs2 hn ht
 have BB : Hid (Below w.heap.size w (w.alloc (.cells #[.string s1, .slice A n c, .int .i64 r, .int .i64 q, .int .i64 b, .string s2] 96))) := Lib.hid ((Below.refl _ _).alloc (Nat.le_refl _) _)
 cases h1 : Df.isName t.name with
 | false =>
  rw [h1] at N1
  have R : Hid ((!Df.nameOk t) = true) := Lib.hid (by rw [E.out, h1]; rfl)
  clear E FE EE N2 h1
  go_enter Tryz.func94, Tryz.ntmps94
  go_wp2_with fail
  refine (N1.out _).mono ?_; rintro e w' ⟨rfl, rfl⟩
  go_wp2
  go_ret
  exact ⟨ret_bool R.out.symm, BB⟩
 | true =>
  rw [h1] at N1
  cases h2 : t.on.isEmpty with
  | true =>
   have R : Hid ((!Df.nameOk t) = false) := Lib.hid (by rw [E.out, h1, h2]; rfl)
   obtain rfl := EE.out h2
   clear E FE EE N2 h1 h2
   go_enter Tryz.func94, Tryz.ntmps94
   go_wp2_with fail
   refine (N1.out _).mono ?_; rintro e w' ⟨rfl, rfl⟩
   go_wp2
   go_ret
   exact ⟨ret_bool R.out.symm, BB⟩
  | false =>
   obtain ⟨f1, f2⟩ := FE.out h2
   cases h3 : Df.isName t.on with
   | true =>
    rw [h3] at N2
    have R : Hid ((!Df.nameOk t) = false) := Lib.hid (by rw [E.out, h1, h2, h3]; rfl)
    clear E FE EE h1 h2 h3
    go_enter Tryz.func94, Tryz.ntmps94
    go_wp2_with fail
    refine (N1.out _).mono ?_; rintro e w' ⟨rfl, rfl⟩
    go_wp2_with fail
    refine (N2.out _).mono ?_; rintro e w' ⟨rfl, rfl⟩
    go_wp2
    go_ret
    exact ⟨ret_bool R.out.symm, BB⟩
   | false =>
    rw [h3] at N2
    have R : Hid ((!Df.nameOk t) = true) := Lib.hid (by rw [E.out, h1, h2, h3]; rfl)
    clear E FE EE h1 h2 h3
    go_enter Tryz.func94, Tryz.ntmps94
    go_wp2_with fail
    refine (N1.out _).mono ?_; rintro e w' ⟨rfl, rfl⟩
    go_wp2_with fail
    refine (N2.out _).mono ?_; rintro e w' ⟨rfl, rfl⟩
    go_wp2
    go_ret
    exact ⟨ret_bool R.out.symm, BB⟩
end Go.Proofs.YtkbekojnmdgdgaaGreatDoor
