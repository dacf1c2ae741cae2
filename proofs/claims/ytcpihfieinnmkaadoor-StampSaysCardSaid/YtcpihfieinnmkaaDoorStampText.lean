/-
  Package stamp's String and Parse, at every stamp and every text: what they return, and that the world has at most grown.
-/
import Derived.Test.YtcpihfieinnmkaaDoorShelf
import Derived.Test.YtcpihfieinnmkaaDoorStampTextPlain
import Derived.Test.YtcpihfieinnmkaaDoorStampAwake
import Derived.Lib.Hide
import Derived.Lib.CutLaws
import Derived.WalkSmall
namespace Go.Proofs.YtcpihfieinnmkaaDoor
open Go.RowKit

/-- What the laws' rows tell of the library's variables: the powers of ten, and that the two errors are there. -/
structure Facts (w : World) : Prop where
  tab : Lib.TabIs Tryd.prog w "internal/strconv.uint64pow10" .u64 Lib.pow10Tab
  syn : ∃ p, w.var? Tryd.prog "strconv.ErrSyntax" = some #[.iface 88 p]
  rng : ∃ p, w.var? Tryd.prog "strconv.ErrRange" = some #[.iface 88 p]
theorem g_tab : Tryd.prog.globalNamed "internal/strconv.uint64pow10" = some 3 := by kernel_rfl
theorem g_syn : Tryd.prog.globalNamed "strconv.ErrSyntax" = some 1 := by kernel_rfl
theorem g_rng : Tryd.prog.globalNamed "strconv.ErrRange" = some 2 := by kernel_rfl
theorem lt_of_var {P : Program} {w : World} {name : String} {g : Nat} {cs : Array Value} (hg : P.globalNamed name = some g) (h : w.var? P name = some cs) : g < w.heap.size := by
  unfold World.var? at h
  rw [hg, Option.bind_some] at h
  by_cases hlt : g < w.heap.size
  · exact hlt
  · rw [Array.getElem?_eq_none (by omega)] at h; cases h
theorem Facts.below {w w' : World} (h : Facts w) (hb : Below w.heap.size w w') : Facts w' where
  tab := var?_below hb g_tab (lt_of_var g_tab h.tab) h.tab
  syn := by obtain ⟨p, hp⟩ := h.syn; exact ⟨p, var?_below hb g_syn (lt_of_var g_syn hp) hp⟩
  rng := by obtain ⟨p, hp⟩ := h.rng; exact ⟨p, var?_below hb g_rng (lt_of_var g_rng hp) hp⟩
theorem below_on {w w1 w2 : World} (h : Below w.heap.size w w1) (k : Below w1.heap.size w1 w2) : Below w.heap.size w w2 := h.trans (k.mono h.size)

theorem below_grow (w : World) (k : Nat) (os : Array Obj) : Below w.heap.size w (Sort.grow (w.drewN k) os) :=
  ⟨rfl, rfl, rfl, by simp [Sort.grow], fun b hb => by simp only [Sort.grow]; exact Array.getElem?_append_left hb⟩
theorem fmt_any (n : Int) (h0 : -9223372036854775808 ≤ n) (h1 : n ≤ 9223372036854775807) (w : World) (hF : Facts w) :
    Calls Tryd.prog 36 #[.int .i64 n, .int .i64 10] w fun e w' => e = .returned (.string ⟨(Lib.itoa n).toArray⟩) ∧ Below w.heap.size w w' := by
  refine (Tryd.strconv_FormatInt_10 n h0 h1 w hF.tab).mono ?_
  rintro e w' ⟨rfl, k, os, rfl⟩
  exact ⟨rfl, below_grow w k os⟩
theorem itoa_len (n : Int) (h0 : 0 ≤ n) (h1 : n ≤ 17592186044415) : (Lib.itoa n).length ≤ 15 := by
  obtain ⟨m, rfl⟩ := Int.eq_ofNat_of_zero_le h0
  rw [Pl.itoa_nat]
  have p15 : 10 ^ 15 = 1000000000000000 := by decide
  exact Pl.dec_len 15 m (by decide) (by rw [p15]; omega)
def strOf (l : List UInt8) : ByteArray := ⟨l.toArray⟩
theorem strOf_app (a b : List UInt8) : strOf a ++ strOf b = strOf (a ++ b) := by
  apply ByteArray.ext
  rw [ByteArray.data_append]; simp [strOf]
set_option maxHeartbeats 400000 in
theorem string_any (s : Int) (h0 : 0 ≤ s) (h1 : s < 18446744073709551616) (w : World) (hF : Facts w) :
    Calls Tryd.prog 26 #[.int .u64 s] w fun e w' => e = .returned (.string (strOf (Pl.textOf s))) ∧ Below w.heap.size w w' := by
  have he : 0 ≤ Pl.epochV s ∧ Pl.epochV s ≤ 1048575 := by unfold Pl.epochV; omega
  have ho : 0 ≤ Pl.offV s ∧ Pl.offV s ≤ 17592186044415 := by unfold Pl.offV; omega
  obtain ⟨he1, he2⟩ := he
  obtain ⟨ho1, ho2⟩ := ho
  have hl1 := itoa_len (Pl.epochV s) he1 (by omega)
  have hl2 := itoa_len (Pl.offV s) ho1 (by omega)
  go_enter Tryd.func26, Tryd.ntmps26
  go_wp2_with (go_at_call 24; refine (epoch_any _ h0 h1 _).mono ?_; rintro e w' ⟨rfl, rfl⟩)
  refine (fmt_any _ (by omega) (by omega) w hF).mono ?_
  rintro e w1 ⟨rfl, hb1⟩
  have hF1 := hF.below hb1
  go_wp2_with (go_at_call 25; refine (off_any _ h0 h1 _).mono ?_; rintro e w' ⟨rfl, rfl⟩)
  refine (fmt_any _ (by omega) (by omega) w1 hF1).mono ?_
  rintro e w2 ⟨rfl, hb2⟩
  go_wp2
  go_ret
  refine ⟨?_, below_on hb1 hb2⟩
  show Ending.returned (Value.string (strOf (Lib.itoa (Pl.epochV s)) ++ strOf [46] ++ strOf (Lib.itoa (Pl.offV s)))) = _
  rw [strOf_app, strOf_app, List.append_assoc]; rfl

theorem indexByte_split : ∀ (l : List UInt8), (Pl.splitDot l = none ∧ Lib.indexByte l 46 = -1) ∨ ∃ i : Nat, i < l.length ∧ Lib.indexByte l 46 = i ∧ Pl.splitDot l = some (l.take i, l.drop (i + 1))
  | [] => .inl ⟨rfl, rfl⟩
  | c :: r => by
    have hs : Pl.splitDot (c :: r) = if c = 46 then some ([], r) else (Pl.splitDot r).map fun x => (c :: x.1, x.2) := rfl
    have hi : Lib.indexByte (c :: r) 46 = if c == 46 then 0 else if Lib.indexByte r 46 == -1 then -1 else Lib.indexByte r 46 + 1 := rfl
    rw [hs, hi]
    by_cases hc : c = 46
    · right
      refine ⟨0, by simp, ?_, ?_⟩
      · rw [if_pos (beq_iff_eq.2 hc)]; rfl
      · rw [if_pos hc]; rfl
    · have hc' : ¬ (c == 46) = true := fun e => hc (beq_iff_eq.1 e)
      rw [if_neg hc, if_neg hc']
      rcases indexByte_split r with ⟨h1, h2⟩ | ⟨i, h1, h2, h3⟩
      · left; rw [h1, h2]; exact ⟨rfl, rfl⟩
      · right
        refine ⟨i + 1, by simpa using h1, ?_, ?_⟩
        · rw [h2, if_neg (by simp)]; push_cast; rfl
        · rw [h3]; rfl
theorem extract_take (t : ByteArray) (i : Nat) : t.extract 0 i = strOf (t.data.toList.take i) := by
  apply ByteArray.ext
  apply Array.toList_inj.1
  rw [Lib.extract_data]; simp [strOf]
theorem extract_drop (t : ByteArray) (i : Nat) : t.extract i t.size = strOf (t.data.toList.drop i) := by
  apply ByteArray.ext
  apply Array.toList_inj.1
  rw [Lib.extract_to_end]; simp [strOf]
set_option maxHeartbeats 400000 in
theorem cut_none (t : ByteArray) (h : Pl.splitDot t.data.toList = none) (w : World) :
    Calls Tryd.prog 38 #[.string t, .string ⟨#[46]⟩] w fun e w' => e = .returned (.tuple #[.string t, .string ⟨#[]⟩, .bool false]) ∧ w = w' := by
  have hi : Lib.indexByte t.data.toList 46 = -1 := by
    rcases indexByte_split t.data.toList with ⟨_, h2⟩ | ⟨i, _, _, h2⟩
    · exact h2
    · rw [h] at h2; cases h2
  have HI := Lib.hid hi
  clear hi h
  go_enter Tryd.func38, Tryd.ntmps38
  go_wp2_with (go_at_call 42; refine (Tryd.stringslite_Index_one _ _ _).mono ?_; rintro e w' ⟨rfl, rfl⟩; rw [HI.out])
  go_ret3
  exact ⟨rfl, rfl⟩
set_option maxHeartbeats 400000 in
theorem cut_some (t : ByteArray) (i : Nat) (hlt : i < t.size) (hi : Lib.indexByte t.data.toList 46 = i) (hm : t.size ≤ 140737488355328) (w : World) :
    Calls Tryd.prog 38 #[.string t, .string ⟨#[46]⟩] w fun e w' => e = .returned (.tuple #[.string (strOf (t.data.toList.take i)), .string (strOf (t.data.toList.drop (i + 1))), .bool true]) ∧ ∃ n, w' = w.drewN n := by
  have HI := Lib.hid hi
  clear hi
  have c1 : (0 : Int) ≤ ↑i := by omega
  have c2 : (↑i : Int) ≤ ↑t.size := by omega
  have c3 : (0 : Int) ≤ ↑i + 1 := by omega
  have c4 : (↑i + 1 : Int) ≤ ↑t.size := by omega
  go_enter Tryd.func38, Tryd.ntmps38
  go_wp2_with (go_at_call 42; refine (Tryd.stringslite_Index_one _ _ _).mono ?_; rintro e w' ⟨rfl, rfl⟩; rw [HI.out])
  go_region
  all_goals go_wp2
  all_goals go_ret3
  all_goals refine ⟨?_, 1, rfl⟩
  all_goals show Ending.returned (Value.tuple #[.string (t.extract 0 i), .string (t.extract (i + 1) t.size), .bool true]) = _
  all_goals rw [extract_take, extract_drop]
set_option maxHeartbeats 400000 in
theorem cut31_none (t : ByteArray) (h : Pl.splitDot t.data.toList = none) (w : World) :
    Calls Tryd.prog 31 #[.string t, .string ⟨#[46]⟩] w fun e w' => e = .returned (.tuple #[.string t, .string ⟨#[]⟩, .bool false]) ∧ Below w.heap.size w w' := by
  have H := Lib.hid (cut_none t h)
  clear h
  go_enter Tryd.func31, Tryd.ntmps31
  go_wp2_with (go_at_call 38; refine (H.out _).mono ?_; rintro e w' ⟨rfl, rfl⟩)
  go_ret3
  exact ⟨rfl, Below.refl _ _⟩
set_option maxHeartbeats 400000 in
theorem cut31_some (t : ByteArray) (a b : List UInt8) (h : Pl.splitDot t.data.toList = some (a, b)) (hm : t.size ≤ 140737488355328) (w : World) :
    Calls Tryd.prog 31 #[.string t, .string ⟨#[46]⟩] w fun e w' => e = .returned (.tuple #[.string (strOf a), .string (strOf b), .bool true]) ∧ Below w.heap.size w w' := by
  obtain ⟨i, h1, h2, rfl, rfl⟩ : ∃ i : Nat, i < t.size ∧ Lib.indexByte t.data.toList 46 = i ∧ a = t.data.toList.take i ∧ b = t.data.toList.drop (i + 1) := by
    rcases indexByte_split t.data.toList with ⟨h2, _⟩ | ⟨i, h1, h2, h3⟩
    · rw [h] at h2; cases h2
    · rw [h] at h3
      refine ⟨i, by simpa using h1, h2, ?_, ?_⟩
      · injection h3 with e; injection e
      · injection h3 with e; injection e
  have H := Lib.hid (cut_some t i h1 h2 hm)
  clear h h1 h2
  go_enter Tryd.func31, Tryd.ntmps31
  go_wp2_with (go_at_call 38; refine (H.out _).mono ?_; rintro e w' ⟨rfl, n, rfl⟩)
  go_ret3
  exact ⟨rfl, below_drewN (Below.refl _ _) n⟩

/-! ### strconv.ParseInt at base 10, 64 bits -/
theorem below_bytes (w : World) (e : TypeId) (s : ByteArray) : Below w.heap.size w (Lib.bytesWorld w e s) := Lib.bytesWorld_below w e s
theorem pint_ok (s : ByteArray) (hz : s.size ≤ 140737488355328) (v : Int) (h : Pl.okInt (Lib.parseIntB 64 s.data.toList) = some v) (w : World) :
    Calls Tryd.prog 32 #[.string s, .int .i64 10, .int .i64 64] w fun e w' => e = .returned (.tuple #[.int .i64 v, .nilIface]) ∧ Below w.heap.size w w' := by
  have h' : Lib.parseIntB 64 s.data.toList = .ok v := by
    cases hp : Lib.parseIntB 64 s.data.toList with
    | ok u => rw [hp] at h; simp only [Pl.okInt, Option.some.injEq] at h; rw [h]
    | _ => rw [hp] at h; cases h
  refine (Tryd.strconv_ParseInt_10_at64_ok s (by omega) v h' w).mono ?_
  rintro e w' ⟨rfl, hw⟩
  refine ⟨rfl, ?_⟩
  rcases hw with rfl | ⟨t, rfl⟩
  · exact Below.refl _ _
  · exact below_bytes w _ t
theorem pint_err (s : ByteArray) (hz : s.size ≤ 140737488355328) (h : Pl.okInt (Lib.parseIntB 64 s.data.toList) = none) (w : World) (hF : Facts w) :
    Calls Tryd.prog 32 #[.string s, .int .i64 10, .int .i64 64] w fun e w' => (∃ v N, e = .returned (.tuple #[.int .i64 v, .iface 63 (.pointer (some ⟨N, 0, none⟩))])) ∧ Below w.heap.size w w' := by
  obtain ⟨p1, hp1⟩ := hF.syn
  obtain ⟨p2, hp2⟩ := hF.rng
  cases hp : Lib.parseIntB 64 s.data.toList with
  | ok u => rw [hp] at h; cases h
  | range =>
    refine (Any.strconv_ParseInt_10_at64_range_var Tryd.laysC174 s (by omega) hp _ p2 w hp2).mono ?_
    rintro e w' ⟨N, rfl, _, _, hb⟩
    exact ⟨⟨_, N, rfl⟩, hb⟩
  | _ =>
    refine (Any.strconv_ParseInt_10_at64_syntax_var Tryd.laysC174 s (by omega) hp _ p1 w hp1).mono ?_
    rintro e w' ⟨N, rfl, _, _, hb⟩
    exact ⟨⟨_, N, rfl⟩, hb⟩

/-! ### Parse: by what Cut and the two readings answer -/
set_option maxHeartbeats 400000 in
theorem parse_err1 (t a b : ByteArray) (f : Bool) (ha : a.size ≤ 140737488355328) (hb : b.size ≤ 140737488355328) (w : World) (hF : Facts w)
    (hcut : Calls Tryd.prog 31 #[.string t, .string ⟨#[46]⟩] w fun e w' => e = .returned (.tuple #[.string a, .string b, .bool f]) ∧ Below w.heap.size w w')
    (h1 : Pl.okInt (Lib.parseIntB 64 a.data.toList) = none) :
    Calls Tryd.prog 11 #[.string t] w fun e w' => e = .returned (.tuple #[.int .u64 0, .bool false]) ∧ Below w.heap.size w w' := by
  have H1 := fun w2 hF2 => pint_err a ha h1 w2 hF2
  have H1 := Lib.hid H1
  have H2 : (∃ v, Pl.okInt (Lib.parseIntB 64 b.data.toList) = some v) ∨ Pl.okInt (Lib.parseIntB 64 b.data.toList) = none := by
    cases Pl.okInt (Lib.parseIntB 64 b.data.toList) with
    | none => right; rfl
    | some v => left; exact ⟨v, rfl⟩
  have HC := Lib.hid hcut
  clear hcut h1
  rcases H2 with ⟨v2, h2⟩ | h2
  · have H2 := Lib.hid (fun w2 => pint_ok b hb v2 h2 w2)
    clear h2
    go_enter Tryd.func11, Tryd.ntmps11
    go_wp2_with fail
    refine HC.out.mono ?_
    rintro e w1 ⟨rfl, hb1⟩
    have hF1 := hF.below hb1
    go_wp2_with fail
    refine (H1.out w1 hF1).mono ?_
    rintro e w2 ⟨⟨v, N, rfl⟩, hb2⟩
    go_wp2_with fail
    refine (H2.out w2).mono ?_
    rintro e w3 ⟨rfl, hb3⟩
    go_wp2_with (go_at_call 12; refine (pack_any _ _ _).mono ?_; rintro e w' ⟨rfl, rfl⟩)
    go_ret2
    exact ⟨rfl, below_on hb1 (below_on hb2 hb3)⟩
  · have H2 := Lib.hid (fun w2 hF2 => pint_err b hb h2 w2 hF2)
    clear h2
    go_enter Tryd.func11, Tryd.ntmps11
    go_wp2_with fail
    refine HC.out.mono ?_
    rintro e w1 ⟨rfl, hb1⟩
    have hF1 := hF.below hb1
    go_wp2_with fail
    refine (H1.out w1 hF1).mono ?_
    rintro e w2 ⟨⟨v, N, rfl⟩, hb2⟩
    have hF2 := hF1.below hb2
    go_wp2_with fail
    refine (H2.out w2 hF2).mono ?_
    rintro e w3 ⟨⟨v', N', rfl⟩, hb3⟩
    go_wp2_with (go_at_call 12; refine (pack_any _ _ _).mono ?_; rintro e w' ⟨rfl, rfl⟩)
    go_ret2
    exact ⟨rfl, below_on hb1 (below_on hb2 hb3)⟩
set_option maxHeartbeats 400000 in
theorem parse_err2 (t a b : ByteArray) (f : Bool) (ha : a.size ≤ 140737488355328) (hb : b.size ≤ 140737488355328) (w : World) (hF : Facts w)
    (hcut : Calls Tryd.prog 31 #[.string t, .string ⟨#[46]⟩] w fun e w' => e = .returned (.tuple #[.string a, .string b, .bool f]) ∧ Below w.heap.size w w')
    (v1 : Int) (h1 : Pl.okInt (Lib.parseIntB 64 a.data.toList) = some v1) (h2 : Pl.okInt (Lib.parseIntB 64 b.data.toList) = none) :
    Calls Tryd.prog 11 #[.string t] w fun e w' => e = .returned (.tuple #[.int .u64 0, .bool false]) ∧ Below w.heap.size w w' := by
  have H1 := Lib.hid (fun w2 => pint_ok a ha v1 h1 w2)
  have H2 := Lib.hid (fun w2 hF2 => pint_err b hb h2 w2 hF2)
  have HC := Lib.hid hcut
  clear hcut h1 h2
  go_enter Tryd.func11, Tryd.ntmps11
  go_wp2_with fail
  refine HC.out.mono ?_
  rintro e w1 ⟨rfl, hb1⟩
  have hF1 := hF.below hb1
  go_wp2_with fail
  refine (H1.out w1).mono ?_
  rintro e w2 ⟨rfl, hb2⟩
  have hF2 := hF1.below hb2
  go_wp2_with fail
  refine (H2.out w2 hF2).mono ?_
  rintro e w3 ⟨⟨v', N', rfl⟩, hb3⟩
  go_wp2_with (go_at_call 12; refine (pack_any _ _ _).mono ?_; rintro e w' ⟨rfl, rfl⟩)
  go_ret2
  exact ⟨rfl, below_on hb1 (below_on hb2 hb3)⟩
set_option maxHeartbeats 400000 in
theorem parse_nopack (t a b : ByteArray) (f : Bool) (ha : a.size ≤ 140737488355328) (hb : b.size ≤ 140737488355328) (w : World)
    (hcut : Calls Tryd.prog 31 #[.string t, .string ⟨#[46]⟩] w fun e w' => e = .returned (.tuple #[.string a, .string b, .bool f]) ∧ Below w.heap.size w w')
    (v1 v2 : Int) (h1 : Pl.okInt (Lib.parseIntB 64 a.data.toList) = some v1) (h2 : Pl.okInt (Lib.parseIntB 64 b.data.toList) = some v2) (hp : Pl.packOk v1 v2 = false) :
    Calls Tryd.prog 11 #[.string t] w fun e w' => e = .returned (.tuple #[.int .u64 0, .bool false]) ∧ Below w.heap.size w w' := by
  have H1 := Lib.hid (fun w2 => pint_ok a ha v1 h1 w2)
  have H2 := Lib.hid (fun w2 => pint_ok b hb v2 h2 w2)
  have hp0 : ∀ w, Calls Tryd.prog 12 #[.int .i64 v1, .int .i64 v2] w fun x w' => x = .returned (.tuple #[.int .u64 0, .bool false]) ∧ w = w' := fun w => by
    refine (pack_any v1 v2 w).mono ?_
    rintro x w' ⟨rfl, rfl⟩
    exact ⟨ret_pair (by simp [Pl.packV, hp]) hp, rfl⟩
  have HP := Lib.hid hp0
  clear hp0
  have HC := Lib.hid hcut
  clear hcut h1 h2 hp
  go_enter Tryd.func11, Tryd.ntmps11
  go_wp2_with fail
  refine HC.out.mono ?_
  rintro e w1 ⟨rfl, hb1⟩
  go_wp2_with fail
  refine (H1.out w1).mono ?_
  rintro e w2 ⟨rfl, hb2⟩
  go_wp2_with fail
  refine (H2.out w2).mono ?_
  rintro e w3 ⟨rfl, hb3⟩
  go_wp2_with (go_at_call 12; refine (HP.out _).mono ?_; rintro e w' ⟨rfl, rfl⟩)
  go_ret2
  exact ⟨rfl, below_on hb1 (below_on hb2 hb3)⟩
set_option maxHeartbeats 400000 in
theorem parse_pack (t a b : ByteArray) (f : Bool) (ha : a.size ≤ 140737488355328) (hb : b.size ≤ 140737488355328) (w : World) (hF : Facts w)
    (hcut : Calls Tryd.prog 31 #[.string t, .string ⟨#[46]⟩] w fun e w' => e = .returned (.tuple #[.string a, .string b, .bool f]) ∧ Below w.heap.size w w')
    (v1 v2 : Int) (h1 : Pl.okInt (Lib.parseIntB 64 a.data.toList) = some v1) (h2 : Pl.okInt (Lib.parseIntB 64 b.data.toList) = some v2) (hp : Pl.packOk v1 v2 = true) :
    Calls Tryd.prog 11 #[.string t] w fun e w' => e = .returned (.tuple #[.int .u64 (if Pl.textOf (Pl.packV v1 v2) = t.data.toList then Pl.packV v1 v2 else 0), .bool (decide (Pl.textOf (Pl.packV v1 v2) = t.data.toList))]) ∧ Below w.heap.size w w' := by
  have hv : 0 ≤ Pl.packV v1 v2 ∧ Pl.packV v1 v2 < 18446744073709551616 := by
    have h : 0 ≤ v1 ∧ v1 ≤ 1048575 ∧ 0 ≤ v2 ∧ v2 ≤ 17592186044415 := by simpa [Pl.packOk] using hp
    unfold Pl.packV; rw [if_pos hp]; omega
  have H1 := Lib.hid (fun w2 => pint_ok a ha v1 h1 w2)
  have H2 := Lib.hid (fun w2 => pint_ok b hb v2 h2 w2)
  have hp0 : ∀ w, Calls Tryd.prog 12 #[.int .i64 v1, .int .i64 v2] w fun x w' => x = .returned (.tuple #[.int .u64 (Pl.packV v1 v2), .bool true]) ∧ w = w' := fun w => by
    refine (pack_any v1 v2 w).mono ?_
    rintro x w' ⟨rfl, rfl⟩
    exact ⟨ret_pair rfl hp, rfl⟩
  have HP := Lib.hid hp0
  clear hp0
  have HC := Lib.hid hcut
  clear hcut h1 h2 hp
  generalize Pl.packV v1 v2 = v at *
  obtain ⟨hv0, hv1⟩ := hv
  have HS := Lib.hid (fun w2 hF2 => string_any v hv0 hv1 w2 hF2)
  by_cases ht : Pl.textOf v = t.data.toList
  · rw [if_pos ht, decide_eq_true ht]
    have e0 : strOf (Pl.textOf v) = t := by
      apply ByteArray.ext; apply Array.toList_inj.1; rw [ht.symm]; simp [strOf]
    rw [e0] at HS
    clear ht e0
    go_enter Tryd.func11, Tryd.ntmps11
    go_wp2_with fail
    refine HC.out.mono ?_
    rintro e w1 ⟨rfl, hb1⟩
    have hF1 := hF.below hb1
    go_wp2_with fail
    refine (H1.out w1).mono ?_
    rintro e w2 ⟨rfl, hb2⟩
    have hF2 := hF1.below hb2
    go_wp2_with fail
    refine (H2.out w2).mono ?_
    rintro e w3 ⟨rfl, hb3⟩
    have hF3 := hF2.below hb3
    go_wp2_with (go_at_call 12; refine (HP.out _).mono ?_; rintro e w' ⟨rfl, rfl⟩)
    refine (HS.out w3 hF3).mono ?_
    rintro e w4 ⟨rfl, hb4⟩
    go_wp2
    go_ret2
    exact ⟨rfl, below_on hb1 (below_on hb2 (below_on hb3 hb4))⟩
  · rw [if_neg ht, decide_eq_false ht]
    have hne : ¬ (strOf (Pl.textOf v)).toList = t.toList := fun e => ht (by rw [Lib.toList_data, Lib.toList_data] at e; rw [← e]; simp [strOf])
    have e1 : ((strOf (Pl.textOf v)).toList == t.toList) = false := beq_eq_false_iff_ne.2 hne
    have e2 : (!((strOf (Pl.textOf v)).toList == t.toList)) = true := by rw [e1]; rfl
    generalize strOf (Pl.textOf v) = u at *
    clear ht hne
    go_enter Tryd.func11, Tryd.ntmps11
    go_wp2_with fail
    refine HC.out.mono ?_
    rintro e w1 ⟨rfl, hb1⟩
    have hF1 := hF.below hb1
    go_wp2_with fail
    refine (H1.out w1).mono ?_
    rintro e w2 ⟨rfl, hb2⟩
    have hF2 := hF1.below hb2
    go_wp2_with fail
    refine (H2.out w2).mono ?_
    rintro e w3 ⟨rfl, hb3⟩
    have hF3 := hF2.below hb3
    go_wp2_with (go_at_call 12; refine (HP.out _).mono ?_; rintro e w' ⟨rfl, rfl⟩)
    refine (HS.out w3 hF3).mono ?_
    rintro e w4 ⟨rfl, hb4⟩
    go_wp2
    go_ret2
    exact ⟨rfl, below_on hb1 (below_on hb2 (below_on hb3 hb4))⟩

/-- What Parse returns: the number and whether there is one. -/
def pnum (o : Option Int) : Int := o.getD 0
theorem parse_any (t : ByteArray) (hm : t.size ≤ 140737488355328) (w : World) (hF : Facts w) :
    Calls Tryd.prog 11 #[.string t] w fun e w' => e = .returned (.tuple #[.int .u64 (pnum (Pl.codeParse t.data.toList)), .bool (Pl.codeParse t.data.toList).isSome]) ∧ Below w.heap.size w w' := by
  cases hs : Pl.splitDot t.data.toList with
  | none =>
    have hc : Pl.codeParse t.data.toList = none := by unfold Pl.codeParse; rw [hs]
    rw [hc]
    have hcut := cut31_none t hs w
    have h2 : Pl.okInt (Lib.parseIntB 64 (⟨#[]⟩ : ByteArray).data.toList) = none := rfl
    cases h1 : Pl.okInt (Lib.parseIntB 64 t.data.toList) with
    | none => exact parse_err1 t t ⟨#[]⟩ false hm (by decide) w hF hcut h1
    | some v => exact parse_err2 t t ⟨#[]⟩ false hm (by decide) w hF hcut v h1 h2
  | some x =>
    obtain ⟨a, b⟩ := x
    have hl := Pl.split_eq _ _ _ hs
    have hsz : a.length + b.length + 1 = t.size := by
      have := congrArg List.length hl
      simp at this; omega
    have hcut := cut31_some t a b hs hm w
    have sa : (strOf a).size ≤ 140737488355328 := by show a.toArray.size ≤ _; simp; omega
    have sb : (strOf b).size ≤ 140737488355328 := by show b.toArray.size ≤ _; simp; omega
    have da : (strOf a).data.toList = a := by simp [strOf]
    have db : (strOf b).data.toList = b := by simp [strOf]
    cases h1 : Pl.okInt (Lib.parseIntB 64 a) with
    | none =>
      have hc : Pl.codeParse t.data.toList = none := by unfold Pl.codeParse; rw [hs]; simp only; rw [h1]
      rw [hc]
      exact parse_err1 t _ _ true sa sb w hF hcut (by rw [da]; exact h1)
    | some v1 =>
      cases h2 : Pl.okInt (Lib.parseIntB 64 b) with
      | none =>
        have hc : Pl.codeParse t.data.toList = none := by unfold Pl.codeParse; rw [hs]; simp only; rw [h1, h2]
        rw [hc]
        exact parse_err2 t _ _ true sa sb w hF hcut v1 (by rw [da]; exact h1) (by rw [db]; exact h2)
      | some v2 =>
        cases hp : Pl.packOk v1 v2 with
        | false =>
          have hc : Pl.codeParse t.data.toList = none := by unfold Pl.codeParse; rw [hs]; simp only; rw [h1, h2]; simp [hp]
          rw [hc]
          exact parse_nopack t _ _ true sa sb w hcut v1 v2 (by rw [da]; exact h1) (by rw [db]; exact h2) hp
        | true =>
          have hc : Pl.codeParse t.data.toList = if Pl.textOf (Pl.packV v1 v2) = t.data.toList then some (Pl.packV v1 v2) else none := by unfold Pl.codeParse; rw [hs]; simp only; rw [h1, h2]; simp [hp]
          rw [hc]
          refine (parse_pack t _ _ true sa sb w hF hcut v1 v2 (by rw [da]; exact h1) (by rw [db]; exact h2) hp).mono ?_
          rintro e w' ⟨rfl, hb⟩
          refine ⟨?_, hb⟩
          by_cases ht : Pl.textOf (Pl.packV v1 v2) = t.data.toList
          · rw [if_pos ht, if_pos ht, decide_eq_true ht]; rfl
          · rw [if_neg ht, if_neg ht, decide_eq_false ht]; rfl
end Go.Proofs.YtcpihfieinnmkaaDoor
