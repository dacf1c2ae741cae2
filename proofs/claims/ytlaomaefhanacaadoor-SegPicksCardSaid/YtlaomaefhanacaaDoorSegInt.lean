/-
  strconv.ParseInt at base 16 and 64 bits, at every text: a signed number and an error; at a text of at most twelve hexadecimal digits in lower case: its value.
-/
import Derived.Test.YtlaomaefhanacaaDoorSegUint
import Derived.Shelf.Strconv.ToError
import Derived.Lib.IfaceNeq
import Derived.Lib.ItoaWalk
namespace Go.Proofs.YtlaomaefhanacaaDoor
open Go.RowKit
theorem pu_any (t : ByteArray) (hmax : t.size ≤ 9223372036854775806) (w : World) :
    Calls Tryd.prog 56 #[.string t, .int .i64 16, .int .i64 64] w (PuPost w t.data.toList) := by
  by_cases h0 : t.size = 0
  · have ht : t = ⟨#[]⟩ := by
      obtain ⟨⟨l⟩⟩ := t
      cases l with
      | nil => rfl
      | cons _ _ => simp [ByteArray.size] at h0
    subst ht
    exact pu_empty w
  · exact pu_16 t h0 hmax w
/-- What is told of a signed number and an error that were read off a text. -/
def PiR (l : List UInt8) (v : Int) (ev : Value) : Prop :=
  -9223372036854775808 ≤ v ∧ v ≤ 9223372036854775807 ∧ (ev = .nilIface ∨ ev = .iface 99 (.int .i64 1) ∨ ev = .iface 99 (.int .i64 2)) ∧ (GoodT l → v = (Sg.valH 0 l : Nat))
def PiPost (w : World) (l : List UInt8) (e : Ending) (w' : World) : Prop :=
  ∃ v ev, e = .returned (.tuple #[.int .i64 v, ev]) ∧ Hid (PiR l v ev) ∧ Hid (Below w.heap.size w w')
theorem PiPost.mk_ {w w' : World} {l : List UInt8} {v : Int} {ev : Value} (h0 : -9223372036854775808 ≤ v) (h1 : v ≤ 9223372036854775807) (he : ev = .nilIface ∨ ev = .iface 99 (.int .i64 1) ∨ ev = .iface 99 (.int .i64 2))
    (hg : GoodT l → v = (Sg.valH 0 l : Nat)) (hb : Below w.heap.size w w') : PiPost w l (.returned (.tuple #[.int .i64 v, ev])) w' := ⟨v, ev, rfl, Lib.hid ⟨h0, h1, he, hg⟩, Lib.hid hb⟩
theorem neq_two (W : World) : (binOp .neq 60 (.iface 99 (.int .i64 2)) (.iface 99 (.int .i64 1))).run Tryd.prog W = .ok (.bool true) W :=
  Lib.run_neq_iface_int W 2 1 Tryd.underlying60 (by kernel_rfl) Tryd.underlying99
theorem neq_one (W : World) : (binOp .neq 60 (.iface 99 (.int .i64 1)) (.iface 99 (.int .i64 1))).run Tryd.prog W = .ok (.bool false) W :=
  Lib.run_neq_iface_int W 1 1 Tryd.underlying60 (by kernel_rfl) Tryd.underlying99
set_option maxRecDepth 100000 in
theorem pi_empty (w : World) : Calls Tryd.prog 38 #[.string ⟨#[]⟩, .int .i64 16, .int .i64 64] w (PiPost w []) := by
  go_enter Tryd.func38, Tryd.ntmps38
  go_wp2
  go_ret2
  exact PiPost.mk_ (by decide) (by decide) (.inr (.inr rfl)) (fun g => absurd g.1.1 (by decide)) (Below.refl _ _)
set_option maxHeartbeats 4000000 in
set_option maxRecDepth 100000 in
theorem pi_plain (s : ByteArray) (c0 : UInt8) (r : List UInt8) (hL : s.data.toList = c0 :: r) (h43 : c0 ≠ 43) (h45 : c0 ≠ 45) (hmax : s.size ≤ 9223372036854775806) (w : World) :
    Calls Tryd.prog 38 #[.string s, .int .i64 16, .int .i64 64] w (PiPost w s.data.toList) := by
  have hne : s.size ≠ 0 := by rw [Lib.size_eq, hL]; simp
  have hemp : s.toList.isEmpty = false := by
    rw [← decide_eq_emptyBytes]
    exact decide_eq_false (fun h => hne (by rw [h]; rfl))
  have hpos : 0 < s.size := by omega
  have hs0 : s[0]'hpos = c0 := by have := Lib.getD_at s 0 hpos; rw [hL] at this; exact this
  have hq2 := neq_two
  have hq1 := neq_one
  have hmin : wrap64 (-wrap64 9223372036854775808) = -9223372036854775808 := by
    unfold wrap64
    omega
  have n43 : c0.toNat ≠ 43 := fun h => h43 (UInt8.toNat_inj.1 h)
  have n45 : c0.toNat ≠ 45 := fun h => h45 (UInt8.toNat_inj.1 h)
  have i43 : ¬ (c0.toNat : Int) = 43 := by omega
  have i45 : ¬ (c0.toNat : Int) = 45 := by omega
  have PU := Lib.hid (pu_any s hmax w)
  clear h43 h45 n43 n45 hL hmax
  go_enter Tryd.func38, Tryd.ntmps38
  go_wp2_with fail
  refine PU.out.mono ?_; rintro e w1 ⟨u, ev, rfl, hr, hb⟩
  obtain ⟨u0, u1, hev, hg⟩ := hr.out
  have HG := Lib.hid hg
  have HB := Lib.hid hb.out
  clear hr hg PU hb
  rcases hev with rfl | rfl | rfl
  · by_cases hout : 9223372036854775808 ≤ u
    · clear u0
      go_wp2
      go_ret2
      exact PiPost.mk_ (by decide) (by decide) (.inr (.inl rfl)) (fun g => by have h1 := (HG.out g).1; have h2 := g.lt s.data.toList.length; rw [List.take_length] at h2; omega) HB.out
    · have hin : u < 9223372036854775808 := by omega
      have hwu : wrap64 u = u := by unfold wrap64; omega
      clear hout u1
      go_wp2
      go_ret2
      exact PiPost.mk_ (by omega) (by omega) (.inl rfl) (fun g => (HG.out g).1) HB.out
  · by_cases hout : 9223372036854775808 ≤ u
    · clear u0
      go_wp2
      go_ret2
      exact PiPost.mk_ (by decide) (by decide) (.inr (.inl rfl)) (fun g => by have h1 := (HG.out g).2; cases h1) HB.out
    · have hin : u < 9223372036854775808 := by omega
      have hwu : wrap64 u = u := by unfold wrap64; omega
      clear hout u1
      go_wp2
      go_ret2
      exact PiPost.mk_ (by omega) (by omega) (.inl rfl) (fun g => by have h1 := (HG.out g).2; cases h1) HB.out
  · clear u0 u1
    go_wp2
    go_ret2
    exact PiPost.mk_ (by decide) (by decide) (.inr (.inr rfl)) (fun g => by have h1 := (HG.out g).2; cases h1) HB.out
set_option maxHeartbeats 4000000 in
set_option maxRecDepth 100000 in
theorem pi_plus (s : ByteArray) (c0 : UInt8) (r : List UInt8) (hL : s.data.toList = c0 :: r) (hc : c0 = 43) (hmax : s.size ≤ 9223372036854775806) (w : World) :
    Calls Tryd.prog 38 #[.string s, .int .i64 16, .int .i64 64] w (PiPost w s.data.toList) := by
  have hne : s.size ≠ 0 := by rw [Lib.size_eq, hL]; simp
  have hemp : s.toList.isEmpty = false := by
    rw [← decide_eq_emptyBytes]
    exact decide_eq_false (fun h => hne (by rw [h]; rfl))
  have hpos : 0 < s.size := by omega
  have hs0 : s[0]'hpos = c0 := by have := Lib.getD_at s 0 hpos; rw [hL] at this; exact this
  have hq2 := neq_two
  have hq1 := neq_one
  have hmin : wrap64 (-wrap64 9223372036854775808) = -9223372036854775808 := by
    unfold wrap64
    omega
  have NG : Hid (¬ GoodT s.data.toList) := Lib.hid fun g => by
    have h := g.2 c0 (by rw [hL]; exact List.mem_cons_self ..)
    rw [hc] at h
    revert h
    unfold Sg.isHex
    decide
  have hsl : ∀ W, (Instr.slice 9 (.string s) (some (.int .i64 1)) none none).run Tryd.prog W = .ok (.string (s.extract 1 s.size)) W := fun W => by
    rw [run_slice_string_from_if W 9 s .i64 _ Tryd.underlying9, if_pos ⟨by omega, by omega⟩]
    rfl
  have hts : (s.extract 1 s.size).size ≤ 9223372036854775806 := by rw [ByteArray.size_extract]; omega
  have PU := Lib.hid (pu_any (s.extract 1 s.size) hts w)
  subst hc
  generalize s.extract 1 s.size = t at *
  clear hL hmax hts
  go_enter Tryd.func38, Tryd.ntmps38
  go_wp2_with fail
  refine PU.out.mono ?_; rintro e w1 ⟨u, ev, rfl, hr, hb⟩
  obtain ⟨u0, u1, hev, hg⟩ := hr.out
  have HG := Lib.hid hg
  have HB := Lib.hid hb.out
  clear hr hg PU hb
  rcases hev with rfl | rfl | rfl
  · by_cases hout : 9223372036854775808 ≤ u
    · clear u0
      go_wp2
      go_ret2
      exact PiPost.mk_ (by decide) (by decide) (.inr (.inl rfl)) (fun g => absurd g NG.out) HB.out
    · have hin : u < 9223372036854775808 := by omega
      have hwu : wrap64 u = u := by unfold wrap64; omega
      clear hout u1
      go_wp2
      go_ret2
      exact PiPost.mk_ (by omega) (by omega) (.inl rfl) (fun g => absurd g NG.out) HB.out
  · by_cases hout : 9223372036854775808 ≤ u
    · clear u0
      go_wp2
      go_ret2
      exact PiPost.mk_ (by decide) (by decide) (.inr (.inl rfl)) (fun g => absurd g NG.out) HB.out
    · have hin : u < 9223372036854775808 := by omega
      have hwu : wrap64 u = u := by unfold wrap64; omega
      clear hout u1
      go_wp2
      go_ret2
      exact PiPost.mk_ (by omega) (by omega) (.inl rfl) (fun g => absurd g NG.out) HB.out
  · clear u0 u1
    go_wp2
    go_ret2
    exact PiPost.mk_ (by decide) (by decide) (.inr (.inr rfl)) (fun g => absurd g NG.out) HB.out
set_option maxHeartbeats 4000000 in
set_option maxRecDepth 100000 in
theorem pi_minus (s : ByteArray) (c0 : UInt8) (r : List UInt8) (hL : s.data.toList = c0 :: r) (hc : c0 = 45) (hmax : s.size ≤ 9223372036854775806) (w : World) :
    Calls Tryd.prog 38 #[.string s, .int .i64 16, .int .i64 64] w (PiPost w s.data.toList) := by
  have hne : s.size ≠ 0 := by rw [Lib.size_eq, hL]; simp
  have hemp : s.toList.isEmpty = false := by
    rw [← decide_eq_emptyBytes]
    exact decide_eq_false (fun h => hne (by rw [h]; rfl))
  have hpos : 0 < s.size := by omega
  have hs0 : s[0]'hpos = c0 := by have := Lib.getD_at s 0 hpos; rw [hL] at this; exact this
  have hq2 := neq_two
  have hq1 := neq_one
  have hmin : wrap64 (-wrap64 9223372036854775808) = -9223372036854775808 := by
    unfold wrap64
    omega
  have NG : Hid (¬ GoodT s.data.toList) := Lib.hid fun g => by
    have h := g.2 c0 (by rw [hL]; exact List.mem_cons_self ..)
    rw [hc] at h
    revert h
    unfold Sg.isHex
    decide
  have hsl : ∀ W, (Instr.slice 9 (.string s) (some (.int .i64 1)) none none).run Tryd.prog W = .ok (.string (s.extract 1 s.size)) W := fun W => by
    rw [run_slice_string_from_if W 9 s .i64 _ Tryd.underlying9, if_pos ⟨by omega, by omega⟩]
    rfl
  have hts : (s.extract 1 s.size).size ≤ 9223372036854775806 := by rw [ByteArray.size_extract]; omega
  have PU := Lib.hid (pu_any (s.extract 1 s.size) hts w)
  subst hc
  generalize s.extract 1 s.size = t at *
  clear hL hmax hts
  go_enter Tryd.func38, Tryd.ntmps38
  go_wp2_with fail
  refine PU.out.mono ?_; rintro e w1 ⟨u, ev, rfl, hr, hb⟩
  obtain ⟨u0, u1, hev, hg⟩ := hr.out
  have HG := Lib.hid hg
  have HB := Lib.hid hb.out
  clear hr hg PU hb
  rcases hev with rfl | rfl | rfl
  · by_cases hout : 9223372036854775808 < u
    · clear u0
      go_wp2
      go_ret2
      simp only [hmin]
      exact PiPost.mk_ (by decide) (by decide) (.inr (.inl rfl)) (fun g => absurd g NG.out) HB.out
    · have hin : u ≤ 9223372036854775808 := by omega
      have hwn : wrap64 (-wrap64 u) = -u := by unfold wrap64; omega
      clear hout u1
      go_wp2
      go_ret2
      simp only [hwn]
      exact PiPost.mk_ (by omega) (by omega) (.inl rfl) (fun g => absurd g NG.out) HB.out
  · by_cases hout : 9223372036854775808 < u
    · clear u0
      go_wp2
      go_ret2
      simp only [hmin]
      exact PiPost.mk_ (by decide) (by decide) (.inr (.inl rfl)) (fun g => absurd g NG.out) HB.out
    · have hin : u ≤ 9223372036854775808 := by omega
      have hwn : wrap64 (-wrap64 u) = -u := by unfold wrap64; omega
      clear hout u1
      go_wp2
      go_ret2
      simp only [hwn]
      exact PiPost.mk_ (by omega) (by omega) (.inl rfl) (fun g => absurd g NG.out) HB.out
  · clear u0 u1
    go_wp2
    go_ret2
    exact PiPost.mk_ (by decide) (by decide) (.inr (.inr rfl)) (fun g => absurd g NG.out) HB.out
theorem pi_any (s : ByteArray) (hmax : s.size ≤ 9223372036854775806) (w : World) :
    Calls Tryd.prog 38 #[.string s, .int .i64 16, .int .i64 64] w (PiPost w s.data.toList) := by
  cases hL : s.data.toList with
  | nil =>
    have hs : s = ⟨#[]⟩ := by
      obtain ⟨⟨l⟩⟩ := s
      simp at hL
      subst hL; rfl
    subst hs
    exact pi_empty w
  | cons c0 r =>
    rw [← hL]
    by_cases h43 : c0 = 43
    · exact pi_plus s c0 r hL h43 hmax w
    · by_cases h45 : c0 = 45
      · exact pi_minus s c0 r hL h45 hmax w
      · exact pi_plain s c0 r hL h43 h45 hmax w
end Go.Proofs.YtlaomaefhanacaaDoor
