/-
  Part 23 of the texts behind the law: SegInt, SegName, SegRead.
-/
import Derived.Test.YtdbhicifjljjnaaGreatDoorMf22
import Derived.Shelf.Strconv.ToError
import Derived.Lib.IfaceNeq
import Derived.Lib.ItoaWalk
/-
  strconv.ParseInt at base 16 and 64 bits, at every text: a signed number and an error; at a text of at most twelve hexadecimal digits in lower case: its value.
-/
namespace Go.Proofs.YtdbhicifjljjnaaGreatDoor
open Go.RowKit
theorem pu_any (t : ByteArray) (hmax : t.size ≤ 9223372036854775806) (w : World) :
    Calls Tryz.prog 117 #[.string t, .int .i64 16, .int .i64 64] w (PuPost w t.data.toList) := by
  by_cases h0 : t.size = 0
  · have ht : t = ⟨#[]⟩ := by
      obtain ⟨⟨l⟩⟩ := t
      cases l with
      | nil => rfl
      | cons _ _ => simp [ByteArray.size] at h0
    subst ht
    exact pu_empty w
  · exact pu_16 t h0 hmax w
/-- What is told of a signed number and an error that were read off a text. -/
def PiR (l : List UInt8) (v : Int) (ev : Value) : Prop :=
  -9223372036854775808 ≤ v ∧ v ≤ 9223372036854775807 ∧ (ev = .nilIface ∨ ev = .iface 171 (.int .i64 1) ∨ ev = .iface 171 (.int .i64 2)) ∧ (GoodT l → v = (Sg.valH 0 l : Nat))
def PiPost (w : World) (l : List UInt8) (e : Ending) (w' : World) : Prop :=
  ∃ v ev, e = .returned (.tuple #[.int .i64 v, ev]) ∧ Hid (PiR l v ev) ∧ Hid (Below w.heap.size w w')
theorem PiPost.mk_ {w w' : World} {l : List UInt8} {v : Int} {ev : Value} (h0 : -9223372036854775808 ≤ v) (h1 : v ≤ 9223372036854775807) (he : ev = .nilIface ∨ ev = .iface 171 (.int .i64 1) ∨ ev = .iface 171 (.int .i64 2))
    (hg : GoodT l → v = (Sg.valH 0 l : Nat)) (hb : Below w.heap.size w w') : PiPost w l (.returned (.tuple #[.int .i64 v, ev])) w' := ⟨v, ev, rfl, Lib.hid ⟨h0, h1, he, hg⟩, Lib.hid hb⟩
theorem neq_two (W : World) : (binOp .neq 123 (.iface 171 (.int .i64 2)) (.iface 171 (.int .i64 1))).run Tryz.prog W = .ok (.bool true) W :=
  Lib.run_neq_iface_int W 2 1 Tryz.underlying123 (by kernel_rfl) Tryz.underlying171
theorem neq_one (W : World) : (binOp .neq 123 (.iface 171 (.int .i64 1)) (.iface 171 (.int .i64 1))).run Tryz.prog W = .ok (.bool false) W :=
  Lib.run_neq_iface_int W 1 1 Tryz.underlying123 (by kernel_rfl) Tryz.underlying171
set_option maxRecDepth 100000 in
theorem pi_empty (w : World) : Calls Tryz.prog 85 #[.string ⟨#[]⟩, .int .i64 16, .int .i64 64] w (PiPost w []) := by
  go_enter Tryz.func85, Tryz.ntmps85
  go_wp2
  go_ret2
  exact PiPost.mk_ (by decide) (by decide) (.inr (.inr rfl)) (fun g => absurd g.1.1 (by decide)) (Below.refl _ _)
set_option maxHeartbeats 4000000 in
set_option maxRecDepth 100000 in
theorem pi_plain (s : ByteArray) (c0 : UInt8) (r : List UInt8) (hL : s.data.toList = c0 :: r) (h43 : c0 ≠ 43) (h45 : c0 ≠ 45) (hmax : s.size ≤ 9223372036854775806) (w : World) :
    Calls Tryz.prog 85 #[.string s, .int .i64 16, .int .i64 64] w (PiPost w s.data.toList) := by
  have hne : s.size ≠ 0 := by rw [Lib.size_eq, hL]; simp
  have hemp : s.toList.isEmpty = false := by
    rw [← decide_eq_emptyBytes]
    exact decide_eq_false (fun h => hne (by rw [h]; rfl))
  have hpos : 0 < s.size := by omega
  have hs0 : s[0]'hpos = c0 := by have := Lib.getD_at s 0 hpos; rw [hL] at this; exact this
  have hq2 := neq_two
  have hq1 := neq_one
  have hmin : wrap64 (-wrap64 9223372036854775808) = -9223372036854775808 := by
    unfold wrap64
    omega
  have n43 : c0.toNat ≠ 43 := fun h => h43 (UInt8.toNat_inj.1 h)
  have n45 : c0.toNat ≠ 45 := fun h => h45 (UInt8.toNat_inj.1 h)
  have i43 : ¬ (c0.toNat : Int) = 43 := by omega
  have i45 : ¬ (c0.toNat : Int) = 45 := by omega
  have PU := Lib.hid (pu_any s hmax w)
  clear h43 h45 n43 n45 hL hmax
  go_enter Tryz.func85, Tryz.ntmps85
  go_wp2_with fail
  refine PU.out.mono ?_; rintro e w1 ⟨u, ev, rfl, hr, hb⟩
  obtain ⟨u0, u1, hev, hg⟩ := hr.out
  have HG := Lib.hid hg
  have HB := Lib.hid hb.out
  clear hr hg PU hb
  rcases hev with rfl | rfl | rfl
  · by_cases hout : 9223372036854775808 ≤ u
    · clear u0
      go_wp2
      go_ret2
      exact PiPost.mk_ (by decide) (by decide) (.inr (.inl rfl)) (fun g => by have h1 := (HG.out g).1; have h2 := g.lt s.data.toList.length; rw [List.take_length] at h2; omega) HB.out
    · have hin : u < 9223372036854775808 := by omega
      have hwu : wrap64 u = u := by unfold wrap64; omega
      clear hout u1
      go_wp2
      go_ret2
      exact PiPost.mk_ (by omega) (by omega) (.inl rfl) (fun g => (HG.out g).1) HB.out
  · by_cases hout : 9223372036854775808 ≤ u
    · clear u0
      go_wp2
      go_ret2
      exact PiPost.mk_ (by decide) (by decide) (.inr (.inl rfl)) (fun g => by have h1 := (HG.out g).2; cases h1) HB.out
    · have hin : u < 9223372036854775808 := by omega
      have hwu : wrap64 u = u := by unfold wrap64; omega
      clear hout u1
      go_wp2
      go_ret2
      exact PiPost.mk_ (by omega) (by omega) (.inl rfl) (fun g => by have h1 := (HG.out g).2; cases h1) HB.out
  · clear u0 u1
    go_wp2
    go_ret2
    exact PiPost.mk_ (by decide) (by decide) (.inr (.inr rfl)) (fun g => by have h1 := (HG.out g).2; cases h1) HB.out
set_option maxHeartbeats 4000000 in
set_option maxRecDepth 100000 in
theorem pi_plus (s : ByteArray) (c0 : UInt8) (r : List UInt8) (hL : s.data.toList = c0 :: r) (hc : c0 = 43) (hmax : s.size ≤ 9223372036854775806) (w : World) :
    Calls Tryz.prog 85 #[.string s, .int .i64 16, .int .i64 64] w (PiPost w s.data.toList) := by
  have hne : s.size ≠ 0 := by rw [Lib.size_eq, hL]; simp
  have hemp : s.toList.isEmpty = false := by
    rw [← decide_eq_emptyBytes]
    exact decide_eq_false (fun h => hne (by rw [h]; rfl))
  have hpos : 0 < s.size := by omega
  have hs0 : s[0]'hpos = c0 := by have := Lib.getD_at s 0 hpos; rw [hL] at this; exact this
  have hq2 := neq_two
  have hq1 := neq_one
  have hmin : wrap64 (-wrap64 9223372036854775808) = -9223372036854775808 := by
    unfold wrap64
    omega
  have NG : Hid (¬ GoodT s.data.toList) := Lib.hid fun g => by
    have h := g.2 c0 (by rw [hL]; exact List.mem_cons_self ..)
    rw [hc] at h
    revert h
    unfold Sg.isHex
    decide
  have hsl : ∀ W, (Instr.slice 9 (.string s) (some (.int .i64 1)) none none).run Tryz.prog W = .ok (.string (s.extract 1 s.size)) W := fun W => by
    rw [run_slice_string_from_if W 9 s .i64 _ Tryz.underlying9, if_pos ⟨by omega, by omega⟩]
    rfl
  have hts : (s.extract 1 s.size).size ≤ 9223372036854775806 := by rw [ByteArray.size_extract]; omega
  have PU := Lib.hid (pu_any (s.extract 1 s.size) hts w)
  subst hc
  generalize s.extract 1 s.size = t at *
  clear hL hmax hts
  go_enter Tryz.func85, Tryz.ntmps85
  go_wp2_with fail
  refine PU.out.mono ?_; rintro e w1 ⟨u, ev, rfl, hr, hb⟩
  obtain ⟨u0, u1, hev, hg⟩ := hr.out
  have HG := Lib.hid hg
  have HB := Lib.hid hb.out
  clear hr hg PU hb
  rcases hev with rfl | rfl | rfl
  · by_cases hout : 9223372036854775808 ≤ u
    · clear u0
      go_wp2
      go_ret2
      exact PiPost.mk_ (by decide) (by decide) (.inr (.inl rfl)) (fun g => absurd g NG.out) HB.out
    · have hin : u < 9223372036854775808 := by omega
      have hwu : wrap64 u = u := by unfold wrap64; omega
      clear hout u1
      go_wp2
      go_ret2
      exact PiPost.mk_ (by omega) (by omega) (.inl rfl) (fun g => absurd g NG.out) HB.out
  · by_cases hout : 9223372036854775808 ≤ u
    · clear u0
      go_wp2
      go_ret2
      exact PiPost.mk_ (by decide) (by decide) (.inr (.inl rfl)) (fun g => absurd g NG.out) HB.out
    · have hin : u < 9223372036854775808 := by omega
      have hwu : wrap64 u = u := by unfold wrap64; omega
      clear hout u1
      go_wp2
      go_ret2
      exact PiPost.mk_ (by omega) (by omega) (.inl rfl) (fun g => absurd g NG.out) HB.out
  · clear u0 u1
    go_wp2
    go_ret2
    exact PiPost.mk_ (by decide) (by decide) (.inr (.inr rfl)) (fun g => absurd g NG.out) HB.out
set_option maxHeartbeats 4000000 in
set_option maxRecDepth 100000 in
theorem pi_minus (s : ByteArray) (c0 : UInt8) (r : List UInt8) (hL : s.data.toList = c0 :: r) (hc : c0 = 45) (hmax : s.size ≤ 9223372036854775806) (w : World) :
    Calls Tryz.prog 85 #[.string s, .int .i64 16, .int .i64 64] w (PiPost w s.data.toList) := by
  have hne : s.size ≠ 0 := by rw [Lib.size_eq, hL]; simp
  have hemp : s.toList.isEmpty = false := by
    rw [← decide_eq_emptyBytes]
    exact decide_eq_false (fun h => hne (by rw [h]; rfl))
  have hpos : 0 < s.size := by omega
  have hs0 : s[0]'hpos = c0 := by have := Lib.getD_at s 0 hpos; rw [hL] at this; exact this
  have hq2 := neq_two
  have hq1 := neq_one
  have hmin : wrap64 (-wrap64 9223372036854775808) = -9223372036854775808 := by
    unfold wrap64
    omega
  have NG : Hid (¬ GoodT s.data.toList) := Lib.hid fun g => by
    have h := g.2 c0 (by rw [hL]; exact List.mem_cons_self ..)
    rw [hc] at h
    revert h
    unfold Sg.isHex
    decide
  have hsl : ∀ W, (Instr.slice 9 (.string s) (some (.int .i64 1)) none none).run Tryz.prog W = .ok (.string (s.extract 1 s.size)) W := fun W => by
    rw [run_slice_string_from_if W 9 s .i64 _ Tryz.underlying9, if_pos ⟨by omega, by omega⟩]
    rfl
  have hts : (s.extract 1 s.size).size ≤ 9223372036854775806 := by rw [ByteArray.size_extract]; omega
  have PU := Lib.hid (pu_any (s.extract 1 s.size) hts w)
  subst hc
  generalize s.extract 1 s.size = t at *
  clear hL hmax hts
  go_enter Tryz.func85, Tryz.ntmps85
  go_wp2_with fail
  refine PU.out.mono ?_; rintro e w1 ⟨u, ev, rfl, hr, hb⟩
  obtain ⟨u0, u1, hev, hg⟩ := hr.out
  have HG := Lib.hid hg
  have HB := Lib.hid hb.out
  clear hr hg PU hb
  rcases hev with rfl | rfl | rfl
  · by_cases hout : 9223372036854775808 < u
    · clear u0
      go_wp2
      go_ret2
      simp only [hmin]
      exact PiPost.mk_ (by decide) (by decide) (.inr (.inl rfl)) (fun g => absurd g NG.out) HB.out
    · have hin : u ≤ 9223372036854775808 := by omega
      have hwn : wrap64 (-wrap64 u) = -u := by unfold wrap64; omega
      clear hout u1
      go_wp2
      go_ret2
      simp only [hwn]
      exact PiPost.mk_ (by omega) (by omega) (.inl rfl) (fun g => absurd g NG.out) HB.out
  · by_cases hout : 9223372036854775808 < u
    · clear u0
      go_wp2
      go_ret2
      simp only [hmin]
      exact PiPost.mk_ (by decide) (by decide) (.inr (.inl rfl)) (fun g => absurd g NG.out) HB.out
    · have hin : u ≤ 9223372036854775808 := by omega
      have hwn : wrap64 (-wrap64 u) = -u := by unfold wrap64; omega
      clear hout u1
      go_wp2
      go_ret2
      simp only [hwn]
      exact PiPost.mk_ (by omega) (by omega) (.inl rfl) (fun g => absurd g NG.out) HB.out
  · clear u0 u1
    go_wp2
    go_ret2
    exact PiPost.mk_ (by decide) (by decide) (.inr (.inr rfl)) (fun g => absurd g NG.out) HB.out
theorem pi_any (s : ByteArray) (hmax : s.size ≤ 9223372036854775806) (w : World) :
    Calls Tryz.prog 85 #[.string s, .int .i64 16, .int .i64 64] w (PiPost w s.data.toList) := by
  cases hL : s.data.toList with
  | nil =>
    have hs : s = ⟨#[]⟩ := by
      obtain ⟨⟨l⟩⟩ := s
      simp at hL
      subst hL; rfl
    subst hs
    exact pi_empty w
  | cons c0 r =>
    rw [← hL]
    by_cases h43 : c0 = 43
    · exact pi_plus s c0 r hL h43 hmax w
    · by_cases h45 : c0 = 45
      · exact pi_minus s c0 r hL h45 hmax w
      · exact pi_plain s c0 r hL h43 h45 hmax w
end Go.Proofs.YtdbhicifjljjnaaGreatDoor
/-
  seg.Name and seg.Parse at every argument.
-/
namespace Go.Proofs.YtdbhicifjljjnaaGreatDoor
open Go.RowKit
theorem str_cat (a b : List UInt8) : (⟨a.toArray⟩ : ByteArray) ++ ⟨b.toArray⟩ = ⟨(a ++ b).toArray⟩ := by
  apply ByteArray.ext
  rw [ByteArray.data_append]; simp
theorem str_len (a : List UInt8) : (⟨a.toArray⟩ : ByteArray).size = a.length := by
  show a.toArray.size = _
  rw [List.size_toArray]
def NamePost (w : World) (s : ByteArray) (ok : Bool) (e : Ending) (w' : World) : Prop :=
  e = .returned (.tuple #[.string s, .bool ok]) ∧ Hid (Below w.heap.size w w')
theorem name_off (f : Int) (h : f < 0 ∨ (0 ≤ f ∧ 17592186044415 < f)) (w : World) : Calls Tryz.prog 46 #[.int .i64 f] w (NamePost w ⟨#[]⟩ false) := by
  rcases h with h | ⟨h, h2⟩
  all_goals
    go_enter Tryz.func46, Tryz.ntmps46
    go_wp2
    go_ret2
    exact ⟨rfl, Lib.hid (Below.refl _ _)⟩
theorem zeros_name (n : Nat) (f : Int) (hn : n ≤ 12) (hf : f.toNat < 16 ^ n) :
    (⟨#[119, 45]⟩ : ByteArray) ++ ⟨(Lib.repeatL [48] (12 - n)).toArray⟩ ++ ⟨(Sg.pad n f.toNat).toArray⟩ = Sg.nameB f := by
  have e1 : (⟨#[119, 45]⟩ : ByteArray) = ⟨([119, 45] : List UInt8).toArray⟩ := rfl
  rw [e1, str_cat, str_cat]
  have e2 : Lib.repeatL [48] (12 - n) = List.replicate (12 - n) 48 := by
    have := Lib.repeatL_replicate 48 1 (12 - n)
    simpa using this
  have e3 := Sg.pad_more (12 - n) n f.toNat hf
  rw [show 12 - n + n = 12 by omega] at e3
  unfold Sg.nameB Sg.nameL
  rw [e3, e2]
  simp
set_option maxHeartbeats 1000000 in
set_option maxRecDepth 100000 in
theorem name_on (f : Int) (h0 : 0 ≤ f) (h1 : f ≤ 17592186044415) (w : World) (hF : Facts w) : Calls Tryz.prog 46 #[.int .i64 f] w (NamePost w (Sg.nameB f) true) := by
  have G := Lib.hid (fmt_16 f h0 h1 w hF)
  go_enter Tryz.func46, Tryz.ntmps46
  go_wp2_with fail
  refine G.out.mono ?_; rintro e w1 ⟨st, rfl, hst, hb⟩
  clear h0 h1 hF G
  obtain ⟨n, n0, n1, hn, hs⟩ := hst.out
  have hsz : st.size = n := by rw [hs, str_len, Sg.pad_len]
  have RP := Tryz.strings_Repeat ⟨#[48]⟩ (12 - n) w1 (by omega) (by show 1 * (12 - n) ≤ _; omega)
  rw [show ((12 - n : Nat) : Int) = 12 - (n : Int) by omega] at RP
  have EQ := Lib.hid (zeros_name n f n1 hn)
  rw [← hs] at EQ
  have hz : (⟨(Lib.repeatL (⟨#[48]⟩ : ByteArray).data.toList (12 - n)).toArray⟩ : ByteArray).size = 12 - n := by
    rw [str_len, Lib.repeatL_length]; simp
  generalize hzz : (⟨(Lib.repeatL (⟨#[48]⟩ : ByteArray).data.toList (12 - n)).toArray⟩ : ByteArray) = z at *
  clear hzz hs hn hst
  obtain ⟨x, hx⟩ : ∃ x, x = (⟨#[119, 45]⟩ : ByteArray) ++ z := ⟨_, rfl⟩
  have hxs : x.size = 2 + (12 - n) := by rw [hx, ByteArray.size_append, hz]; rfl
  have a1 : ∀ W, (Op.stringOp .add (⟨#[119, 45]⟩ : ByteArray) z).run Tryz.prog W = .ok (.string x) W := fun W => by
    rw [hx]; exact run_string_add_sum W _ _ (by rw [hz]; show 2 + (12 - n) ≤ _; omega)
  have a2 : ∀ W, (Op.stringOp .add x st).run Tryz.prog W = .ok (.string (Sg.nameB f)) W := fun W => by
    rw [← EQ.out, ← hx]; exact run_string_add_sum W _ _ (by omega)
  clear hx hxs hz
  have hsz' : (st.size : Int) = (n : Int) := by omega
  clear hsz
  have hn' : (n : Int) ≤ 12 := by omega
  have B1 := hb
  go_wp2_with fail
  refine RP.mono ?_; rintro e w2 ⟨rfl, hb2⟩
  have B2 := Lib.hid (B1.out.trans (hb2.mono B1.out.size))
  clear hb2 RP hb B1
  go_wp2
  go_ret2
  exact ⟨rfl, B2⟩
theorem name_any (f : Int) (w : World) (hF : Facts w) : Calls Tryz.prog 46 #[.int .i64 f] w (NamePost w (if Sg.inO f then Sg.nameB f else ⟨#[]⟩) (Sg.inO f)) := by
  by_cases h : Sg.inO f = true
  · rw [h, if_pos rfl]
    have hh := (Sg.inO_iff f).1 h
    exact name_on f hh.1 hh.2 w hF
  · have hh : ¬ (0 ≤ f ∧ f ≤ 17592186044415) := fun k => h ((Sg.inO_iff f).2 k)
    rw [if_neg h, show Sg.inO f = false by simpa using h]
    exact name_off f (by omega) w
/-- What a text that is read tells: a number, and of which offset's name. -/
def PubPost (w : World) (l : List UInt8) (e : Ending) (w' : World) : Prop :=
  ∃ v ev, e = .returned (.tuple #[.int .i64 v, ev]) ∧ Hid (-9223372036854775808 ≤ v ∧ v ≤ 9223372036854775807 ∧ (GoodT l → v = (Sg.valH 0 l : Nat))) ∧ Hid (Below w.heap.size w w')
theorem te_syn (s : ByteArray) (hmax : s.size ≤ 281474976710656) (w : World) (hF : Facts w) :
    Calls Tryz.prog 86 #[.string ⟨#[80, 97, 114, 115, 101, 73, 110, 116]⟩, .string s, .int .i64 16, .int .i64 64, .iface 171 (.int .i64 2)] w fun e w' => ∃ N, e = .returned (.iface 174 (.pointer (some ⟨N, 0, none⟩))) ∧ Hid (Below w.heap.size w w') := by
  obtain ⟨ev, h1, h2⟩ := hF.synCell
  refine (Any.strconv_toError_syntax Tryz.laysC245 ⟨#[80, 97, 114, 115, 101, 73, 110, 116]⟩ s 16 64 ev w hmax h1 h2).mono ?_
  rintro e w' ⟨N, h1, _, _, h2⟩
  exact ⟨N, h1, Lib.hid h2⟩
theorem te_rng (s : ByteArray) (hmax : s.size ≤ 281474976710656) (w : World) (hF : Facts w) :
    Calls Tryz.prog 86 #[.string ⟨#[80, 97, 114, 115, 101, 73, 110, 116]⟩, .string s, .int .i64 16, .int .i64 64, .iface 171 (.int .i64 1)] w fun e w' => ∃ N, e = .returned (.iface 174 (.pointer (some ⟨N, 0, none⟩))) ∧ Hid (Below w.heap.size w w') := by
  obtain ⟨ev, h1, h2⟩ := hF.rngCell
  refine (Tryz.strconv_toError_range ⟨#[80, 97, 114, 115, 101, 73, 110, 116]⟩ s 16 64 ev w hmax h1 h2).mono ?_
  rintro e w' ⟨N, h1, _, _, h2⟩
  exact ⟨N, h1, Lib.hid h2⟩
set_option maxHeartbeats 1000000 in
theorem pub_any (s : ByteArray) (hmax : s.size ≤ 281474976710656) (w : World) (hF : Facts w) :
    Calls Tryz.prog 68 #[.string s, .int .i64 16, .int .i64 64] w (PubPost w s.data.toList) := by
  have PI := Lib.hid (pi_any s (by omega) w)
  have TS := Lib.hid (fun (W : World) (h : Below w.heap.size w W) => te_syn s hmax W (hF.below h))
  have TR := Lib.hid (fun (W : World) (h : Below w.heap.size w W) => te_rng s hmax W (hF.below h))
  clear hF hmax
  go_enter Tryz.func68, Tryz.ntmps68
  go_wp2_with fail
  refine PI.out.mono ?_; rintro e w1 ⟨v, ev, rfl, hr, hb⟩
  obtain ⟨h0, h1, hev, hg⟩ := hr.out
  have HR : Hid (-9223372036854775808 ≤ v ∧ v ≤ 9223372036854775807 ∧ (GoodT s.data.toList → v = (Sg.valH 0 s.data.toList : Nat))) := Lib.hid ⟨h0, h1, hg⟩
  have B1 := hb
  clear h0 h1 hg hr hb PI
  rcases hev with rfl | rfl | rfl
  · go_wp2
    go_ret2
    exact ⟨v, _, rfl, HR, B1⟩
  · go_wp2_with fail
    refine (TR.out _ B1.out).mono ?_; rintro e w2 ⟨N, rfl, hb2⟩
    have B2 := Lib.hid (B1.out.trans (hb2.out.mono B1.out.size))
    clear hb2
    go_wp2
    go_ret2
    exact ⟨v, _, rfl, HR, B2⟩
  · go_wp2_with fail
    refine (TS.out _ B1.out).mono ?_; rintro e w2 ⟨N, rfl, hb2⟩
    have B2 := Lib.hid (B1.out.trans (hb2.out.mono B1.out.size))
    clear hb2
    go_wp2
    go_ret2
    exact ⟨v, _, rfl, HR, B2⟩
end Go.Proofs.YtdbhicifjljjnaaGreatDoor
/-
  seg.Parse at every text.
-/
namespace Go.Proofs.YtdbhicifjljjnaaGreatDoor
open Go.RowKit
theorem toList_inj {a b : ByteArray} (h : a.toList = b.toList) : a = b := by
  rw [Lib.toList_data, Lib.toList_data] at h
  apply ByteArray.ext
  exact Array.toList_inj.1 h
theorem good_pad (f : Int) : GoodT (Sg.pad 12 f.toNat) := ⟨by rw [Sg.pad_len]; decide, Sg.pad_hex _ _⟩
theorem trim_name (f : Int) : Lib.trimPrefix (Sg.nameB f).data.toList [119, 45] = Sg.pad 12 f.toNat := by
  rw [Sg.nameB_data]
  unfold Sg.nameL
  simp [Lib.trimPrefix, Lib.hasPrefix]
def ParsePost (w : World) (s : ByteArray) (e : Ending) (w' : World) : Prop :=
  e = .returned (.tuple #[.int .i64 ((Sg.segP s).getD 0), .bool (Sg.segP s).isSome]) ∧ Hid (Below w.heap.size w w')
set_option maxHeartbeats 1000000 in
theorem parse_any (s : ByteArray) (hmax : s.size ≤ 281474976710656) (w : World) (hF : Facts w) :
    Calls Tryz.prog 52 #[.string s] w (ParsePost w s) := by
  obtain ⟨t, ht⟩ : ∃ t, t = (⟨(Lib.trimPrefix s.data.toList [119, 45]).toArray⟩ : ByteArray) := ⟨_, rfl⟩
  have CP : ∀ W, ∃ b, Calls Tryz.prog 67 #[.string s, .string ⟨#[119, 45]⟩] W fun e w' => e = .returned (.tuple #[.string t, .bool b]) ∧ w' = W := fun W => by
    have := Tryz.strings_CutPrefix s ⟨#[119, 45]⟩ W
    rw [ht]; exact ⟨_, this⟩
  have hts : t.size ≤ 281474976710656 := by
    have h1 : (Lib.trimPrefix s.data.toList [119, 45]).length ≤ s.data.toList.length := by
      unfold Lib.trimPrefix; split
      · rw [List.length_drop]; omega
      · exact Nat.le_refl _
    rw [ht, str_len]
    rw [Lib.size_eq] at hmax
    omega
  have HT := Lib.hid ht
  have PB := Lib.hid (pub_any t hts w hF)
  clear ht hts hmax
  obtain ⟨b, CPw⟩ := CP w
  clear CP
  go_enter Tryz.func52, Tryz.ntmps52
  go_wp2_with fail
  refine CPw.mono ?_; rintro e w' ⟨rfl, rfl⟩
  go_wp2_with fail
  refine PB.out.mono ?_; rintro e w1 ⟨v, ev, rfl, hv, hb⟩
  have NM := Lib.hid (name_any v w1 (hF.below hb.out))
  clear PB CPw
  cases hs : Sg.segP s with
  | some f =>
    obtain ⟨hf, hn⟩ := Sg.segP_some hs
    have hvf : v = f := by
      have h1 := hv.out.2.2
      rw [HT.out, ← hn, trim_name] at h1
      have h2 := h1 (good_pad f)
      have h3 := Sg.val_name f hf
      rw [Sg.nameB_data] at h3
      exact h2.trans h3
    subst hvf
    have N2 := Lib.hid NM.out
    rw [hf, if_pos rfl, hn] at N2
    have HS := Lib.hid hs
    clear hs NM hv HT hn hf
    go_wp2_with fail
    refine N2.out.mono ?_; rintro e w2 ⟨rfl, hb2⟩
    have B2 := Lib.hid (hb.out.trans (hb2.out.mono hb.out.size))
    clear hb2 hb
    go_wp2
    go_ret2
    exact ⟨by rw [HS.out]; rfl, B2⟩
  | none =>
    have HS := Lib.hid hs
    have hx : Hid (Sg.inO v = true → ((Sg.nameB v).toList == s.toList) = false) := Lib.hid fun ho => by
      rcases Bool.eq_false_or_eq_true ((Sg.nameB v).toList == s.toList) with h | h
      · have e := toList_inj (beq_iff_eq.1 h)
        have h2 := Sg.segP_name v ho
        rw [e, HS.out] at h2
        cases h2
      · exact h
    clear hs hv HT
    by_cases ho : Sg.inO v = true
    · have N2 := Lib.hid NM.out
      rw [ho, if_pos rfl] at N2
      have hq := hx.out ho
      clear NM hx ho
      go_wp2_with fail
      refine N2.out.mono ?_; rintro e w2 ⟨rfl, hb2⟩
      have B2 := Lib.hid (hb.out.trans (hb2.out.mono hb.out.size))
      clear hb2 hb
      go_wp2
      go_ret2
      exact ⟨by rw [HS.out]; rfl, B2⟩
    · have N2 := Lib.hid NM.out
      rw [if_neg ho, show Sg.inO v = false by simpa using ho] at N2
      clear NM hx ho
      go_wp2_with fail
      refine N2.out.mono ?_; rintro e w2 ⟨rfl, hb2⟩
      have B2 := Lib.hid (hb.out.trans (hb2.out.mono hb.out.size))
      clear hb2 hb
      go_wp2
      go_ret2
      exact ⟨by rw [HS.out]; rfl, B2⟩
end Go.Proofs.YtdbhicifjljjnaaGreatDoor
