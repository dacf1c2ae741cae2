/-
  The laws that read texts: StampBack, StampKnown and StampSays return true at every argument, and the world has at most grown.
-/
import Derived.Test.YtcpihfieinnmkaaDoorCards
import Derived.Test.YtcpihfieinnmkaaDoorStampRead
import Derived.Test.YtcpihfieinnmkaaDoorStampSmall
import Derived.Lib.LaidTab
import Derived.Stop.LaidErr
import Derived.MakeChecks
import Derived.ProofKit
namespace Go.Proofs.YtcpihfieinnmkaaDoor
open Go.RowKit Go.ChangeShapes Go.WideShapes Go.ChangeAt

/-! ### What the rows' lists give -/
theorem ty_tab : (Tryd.prog.globals[3]?).map (·.type) = some 81 := by kernel_rfl
theorem ty_syn : (Tryd.prog.globals[1]?).map (·.type) = some 49 := by kernel_rfl
theorem ty_rng : (Tryd.prog.globals[2]?).map (·.type) = some 49 := by kernel_rfl
theorem cells_u64 : Tryd.prog.cellsOf 24 = 1 := by kernel_rfl
theorem cells_tab : Tryd.prog.cellsOf 81 = 20 := by kernel_rfl
theorem cells_es : Tryd.prog.cellsOf 90 = 1 := by kernel_rfl
theorem cells_str : Tryd.prog.cellsOf 9 = 1 := by kernel_rfl
theorem star : "*" ++ "errors.errorString" = "*errors.errorString" := by decide
theorem row_es (u : TypeId) (h : Tryd.prog.typeName? 3 u = some "*errors.errorString") : u = 88 :=
  typeName_ptr_named (nm := "errors.errorString") (by rw [star]; kernel_rfl) (by kernel_rfl) (by decide) u (by rw [star]; exact h)
theorem Facts.of_laid {W : World} (h : laidMetH Tryd.prog Rows.stampKnownRow.laid W) : Facts W := by
  rw [MakeChecks.laidMetH_plain _ _ _ (by kernel_rfl)] at h
  have h3 := h.tail.tail
  have h4 := h3.tail
  have h5 := h4.tail
  obtain ⟨a1, s1, hv1, _, _, _⟩ := laid_sentinel h4 g_rng ty_rng Tryd.underlying49 row_es Tryd.underlying88 Tryd.underlying90 rfl rfl Tryd.underlying9 cells_es cells_str
  obtain ⟨a2, s2, hv2, _, _, _⟩ := laid_sentinel h5 g_syn ty_syn Tryd.underlying49 row_es Tryd.underlying88 Tryd.underlying90 rfl rfl Tryd.underlying9 cells_es cells_str
  exact ⟨Lib.tabIs_of_head g_tab ty_tab Tryd.underlying81 Tryd.underlying24 cells_u64 cells_tab h3, ⟨_, hv2⟩, ⟨_, hv1⟩⟩

/-! ### Back -/
theorem pack_parts_of (u : Int) (h0 : 0 ≤ u) (h1 : u < 18446744073709551616) : Pl.packOk (Pl.epochV u) (Pl.offV u) = true ∧ Pl.packV (Pl.epochV u) (Pl.offV u) = u := by
  have h : Pl.packOk (Pl.epochV u) (Pl.offV u) = true := by unfold Pl.packOk Pl.epochV Pl.offV; exact decide_eq_true (by omega)
  refine ⟨h, ?_⟩
  unfold Pl.packV; rw [if_pos h]; unfold Pl.epochV Pl.offV; omega
theorem text_size (u : Int) (h0 : 0 ≤ u) (h1 : u < 18446744073709551616) : (strOf (Pl.textOf u)).size ≤ 31 := by
  show (Pl.textOf u).toArray.size ≤ _
  have h2 := itoa_len (Pl.epochV u) (by unfold Pl.epochV; omega) (by unfold Pl.epochV; omega)
  have h3 := itoa_len (Pl.offV u) (by unfold Pl.offV; omega) (by unfold Pl.offV; omega)
  simp [Pl.textOf]; omega
/-- Shifted up again, what Wide tells has the bits that it was told of. -/
theorem shl_back (u b : Int) (hb1 : 1 ≤ b) (hb2 : b ≤ 63) : IntKind.u64.wrap (IntKind.u64.wrap (Pl.wideV u b) * 2 ^ (64 - b).toNat) = IntKind.u64.wrap (u * 2 ^ (64 - b).toNat) := by
  have hw : Pl.isW b = true := by simp [Pl.isW]; omega
  obtain ⟨n, rfl⟩ := Int.eq_ofNat_of_zero_le (a := b) (by omega)
  have ek : (64 - (n : Int)).toNat = 64 - n := by omega
  have hs := Pl.pow_split n (64 - n) (by omega)
  simp only [IntKind.wrap_u64]
  rw [ek]
  unfold Pl.wideV
  rw [if_pos hw, Int.toNat_natCast]
  have hp := Pl.pow_pos (64 - n)
  have hd : ∃ q, Pl.signed (u % 2 ^ n) n = u + q * 2 ^ n := by
    have e := Int.emod_add_mul_ediv u (2 ^ n)
    unfold Pl.signed
    split
    · exact ⟨-(u / 2 ^ n), by rw [Int.neg_mul, Int.mul_comm]; omega⟩
    · exact ⟨-(u / 2 ^ n) - 1, by rw [Int.sub_mul, Int.neg_mul, Int.mul_comm]; omega⟩
  obtain ⟨q, hq⟩ := hd
  have hK : (u + q * 2 ^ n) * 2 ^ (64 - n) = u * 2 ^ (64 - n) + q * 18446744073709551616 := by rw [Int.add_mul, Int.mul_assoc, hs]
  rw [hq, Int.mul_emod, Int.emod_emod, ← Int.mul_emod, hK, Int.add_mul_emod_self_right]
/-- What the law's calls return, at one word and one number. -/
structure Bk (u v E O F U : Int) (T : ByteArray) : Prop where
  ep : ∀ w, Calls Tryd.prog 24 #[.int .u64 u] w fun e w' => e = .returned (.int .i64 E) ∧ w = w'
  of : ∀ w, Calls Tryd.prog 25 #[.int .u64 u] w fun e w' => e = .returned (.int .i64 O) ∧ w = w'
  pk : ∀ w, Calls Tryd.prog 12 #[.int .i64 E, .int .i64 O] w fun e w' => e = .returned (.tuple #[.int .u64 u, .bool true]) ∧ w = w'
  st : ∀ w, Facts w → Calls Tryd.prog 26 #[.int .u64 u] w fun e w' => e = .returned (.string T) ∧ Below w.heap.size w w'
  pr : ∀ w, Facts w → Calls Tryd.prog 11 #[.string T] w fun e w' => e = .returned (.tuple #[.int .u64 u, .bool true]) ∧ Below w.heap.size w w'
  f1 : ∀ w, Calls Tryd.prog 16 #[.int .i64 v] w fun e w' => e = .returned (.int .u64 F) ∧ w = w'
  u1 : ∀ w, Calls Tryd.prog 17 #[.int .u64 F] w fun e w' => e = .returned (.int .i64 v) ∧ w = w'
  u2 : ∀ w, Calls Tryd.prog 17 #[.int .u64 u] w fun e w' => e = .returned (.int .i64 U) ∧ w = w'
  f2 : ∀ w, Calls Tryd.prog 16 #[.int .i64 U] w fun e w' => e = .returned (.int .u64 u) ∧ w = w'
theorem bk_of (u v : Int) (h0 : 0 ≤ u) (h1 : u < 18446744073709551616) (h2 : -9223372036854775808 ≤ v) (h3 : v ≤ 9223372036854775807) : Bk u v (Pl.epochV u) (Pl.offV u) (Pl.foldV v) (Pl.unfoldV u) (strOf (Pl.textOf u)) := by
  obtain ⟨p1, p2⟩ := pack_parts_of u h0 h1
  have hsz := text_size u h0 h1
  have hct : Pl.codeParse (strOf (Pl.textOf u)).data.toList = some u := by
    have : (strOf (Pl.textOf u)).data.toList = Pl.textOf u := by simp [strOf]
    rw [this]; exact Pl.parse_text u h0 h1
  obtain ⟨f1, f2⟩ := Pl.foldV_range v h2 h3
  obtain ⟨g1, g2⟩ := Pl.unfoldV_range u h0 h1
  exact {
    ep := fun w => epoch_any u h0 h1 w
    of := fun w => off_any u h0 h1 w
    pk := fun w => (pack_any _ _ w).mono fun e w' ⟨he, hw⟩ => ⟨by rw [he, p1, p2], hw⟩
    st := fun w hF => string_any u h0 h1 w hF
    pr := fun w hF => (parse_any _ (by omega) w hF).mono fun e w' ⟨he, hw⟩ => ⟨by rw [he, hct]; rfl, hw⟩
    f1 := fun w => fold_any v h2 h3 w
    u1 := fun w => (unfold_any _ f1 f2 w).mono fun e w' ⟨he, hw⟩ => ⟨by rw [he, Pl.unfold_fold], hw⟩
    u2 := fun w => unfold_any u h0 h1 w
    f2 := fun w => (fold_any _ g1 g2 w).mono fun e w' ⟨he, hw⟩ => ⟨by rw [he, Pl.fold_unfold u h0], hw⟩ }
set_option maxHeartbeats 1000000 in
theorem back_out (u v b E O F U N : Int) (T : ByteArray) (B : Bk u v E O F U T) (hb : b < 1 ∨ 64 < b)
    (HN : Hid (∀ w, Calls Tryd.prog 15 #[.int .u64 u, .int .i64 b] w fun e w' => e = .returned (.tuple #[.int .u64 N, .bool false]) ∧ w = w'))
    (HW : Hid (∀ w, Calls Tryd.prog 18 #[.int .u64 u, .int .i64 64] w fun e w' => e = .returned (.int .i64 (wrap64 u)) ∧ w = w')) (w : World) (hF : Facts w) :
    Calls Tryd.prog 5 #[.int .u64 u, .int .i64 v, .int .i64 b] w fun e w' => e = .returned (.bool true) ∧ Below w.heap.size w w' := by
  have hne : (b == 64) = false := beq_eq_false_iff_ne.2 (by omega)
  rcases hb with hb | hb
  all_goals
    go_enter Tryd.func5, Tryd.ntmps5
    go_wp2_with (first
      | (go_at_call 10; refine (awake_any _).mono ?_; rintro e w' ⟨rfl, rfl⟩)
      | (go_at_call 24; refine (B.ep _).mono ?_; rintro e w' ⟨rfl, rfl⟩)
      | (go_at_call 25; refine (B.of _).mono ?_; rintro e w' ⟨rfl, rfl⟩)
      | (go_at_call 12; refine (B.pk _).mono ?_; rintro e w' ⟨rfl, rfl⟩))
    refine (B.st _ hF).mono ?_
    rintro e w1 ⟨rfl, hb1⟩
    have hF1 := hF.below hb1
    go_wp2_with fail
    refine (B.pr _ hF1).mono ?_
    rintro e w2 ⟨rfl, hb2⟩
    go_wp2_with fail
    refine (B.f1 _).mono ?_
    rintro e w3 ⟨rfl, rfl⟩
    go_wp2_with fail
    refine (B.u1 _).mono ?_
    rintro e w3 ⟨rfl, rfl⟩
    go_wp2_with fail
    refine (B.u2 _).mono ?_
    rintro e w3 ⟨rfl, rfl⟩
    go_wp2_with fail
    refine (B.f2 _).mono ?_
    rintro e w3 ⟨rfl, rfl⟩
    go_wp2_with (first
      | (go_at_call 15; refine (HN.out _).mono ?_; rintro e w' ⟨rfl, rfl⟩)
      | (go_at_call 18; refine (HW.out _).mono ?_; rintro e w' ⟨rfl, rfl⟩))
    go_ret
    exact ⟨rfl, below_on hb1 hb2⟩
set_option maxHeartbeats 1000000 in
theorem back_64 (u v E O F U N : Int) (T : ByteArray) (B : Bk u v E O F U T)
    (HN : Hid (∀ w, Calls Tryd.prog 15 #[.int .u64 u, .int .i64 64] w fun e w' => e = .returned (.tuple #[.int .u64 N, .bool true]) ∧ w = w'))
    (HW : Hid (∀ w, Calls Tryd.prog 18 #[.int .u64 u, .int .i64 64] w fun e w' => e = .returned (.int .i64 (wrap64 u)) ∧ w = w')) (w : World) (hF : Facts w) :
    Calls Tryd.prog 5 #[.int .u64 u, .int .i64 v, .int .i64 64] w fun e w' => e = .returned (.bool true) ∧ Below w.heap.size w w' := by
  go_enter Tryd.func5, Tryd.ntmps5
  go_wp2_with (first
    | (go_at_call 10; refine (awake_any _).mono ?_; rintro e w' ⟨rfl, rfl⟩)
    | (go_at_call 24; refine (B.ep _).mono ?_; rintro e w' ⟨rfl, rfl⟩)
    | (go_at_call 25; refine (B.of _).mono ?_; rintro e w' ⟨rfl, rfl⟩)
    | (go_at_call 12; refine (B.pk _).mono ?_; rintro e w' ⟨rfl, rfl⟩))
  refine (B.st _ hF).mono ?_
  rintro e w1 ⟨rfl, hb1⟩
  have hF1 := hF.below hb1
  go_wp2_with fail
  refine (B.pr _ hF1).mono ?_
  rintro e w2 ⟨rfl, hb2⟩
  go_wp2_with fail
  refine (B.f1 _).mono ?_
  rintro e w3 ⟨rfl, rfl⟩
  go_wp2_with fail
  refine (B.u1 _).mono ?_
  rintro e w3 ⟨rfl, rfl⟩
  go_wp2_with fail
  refine (B.u2 _).mono ?_
  rintro e w3 ⟨rfl, rfl⟩
  go_wp2_with fail
  refine (B.f2 _).mono ?_
  rintro e w3 ⟨rfl, rfl⟩
  go_wp2_with (first
    | (go_at_call 15; refine (HN.out _).mono ?_; rintro e w' ⟨rfl, rfl⟩)
    | (go_at_call 18; refine (HW.out _).mono ?_; rintro e w' ⟨rfl, rfl⟩))
  go_ret
  exact ⟨rfl, below_on hb1 hb2⟩
set_option maxHeartbeats 1000000 in
theorem back_mid (u v b E O F U N H W R : Int) (ok : Bool) (T : ByteArray) (B : Bk u v E O F U T) (_h0 : 0 ≤ u) (_h1 : u < 18446744073709551616) (hb1 : 1 ≤ b) (hb2 : b ≤ 63)
    (HN : Hid (∀ w, Calls Tryd.prog 15 #[.int .u64 u, .int .i64 b] w fun e w' => e = .returned (.tuple #[.int .u64 (if ok = true then u else N), .bool ok]) ∧ w = w'))
    (HW : Hid (∀ w, Calls Tryd.prog 18 #[.int .u64 u, .int .i64 b] w fun e w' => e = .returned (.int .i64 W) ∧ w = w'))
    (hP : wrap64 (2 ^ (b.toNat - 1)) = H) (hH : 1 ≤ H) (hH2 : H ≤ 4611686018427387904) (hq : (u / 2 ^ b.toNat == 0) = ok) (hw1 : -H ≤ W) (hw2 : W < H)
    (hr1 : IntKind.u64.wrap (IntKind.u64.wrap W * 2 ^ (64 - b).toNat) = R) (hr2 : IntKind.u64.wrap (u * 2 ^ (64 - b).toNat) = R) (w : World) (hF : Facts w) :
    Calls Tryd.prog 5 #[.int .u64 u, .int .i64 v, .int .i64 b] w fun e w' => e = .returned (.bool true) ∧ Below w.heap.size w w' := by
  cases ok
  · simp only [Bool.false_eq_true, if_false] at HN
    go_enter Tryd.func5, Tryd.ntmps5
    go_wp2_with (first
      | (go_at_call 10; refine (awake_any _).mono ?_; rintro e w' ⟨rfl, rfl⟩)
      | (go_at_call 24; refine (B.ep _).mono ?_; rintro e w' ⟨rfl, rfl⟩)
      | (go_at_call 25; refine (B.of _).mono ?_; rintro e w' ⟨rfl, rfl⟩)
      | (go_at_call 12; refine (B.pk _).mono ?_; rintro e w' ⟨rfl, rfl⟩))
    refine (B.st _ hF).mono ?_
    rintro e w1 ⟨rfl, hb1⟩
    have hF1 := hF.below hb1
    go_wp2_with fail
    refine (B.pr _ hF1).mono ?_
    rintro e w2 ⟨rfl, hb2⟩
    go_wp2_with fail
    refine (B.f1 _).mono ?_
    rintro e w3 ⟨rfl, rfl⟩
    go_wp2_with fail
    refine (B.u1 _).mono ?_
    rintro e w3 ⟨rfl, rfl⟩
    go_wp2_with fail
    refine (B.u2 _).mono ?_
    rintro e w3 ⟨rfl, rfl⟩
    go_wp2_with fail
    refine (B.f2 _).mono ?_
    rintro e w3 ⟨rfl, rfl⟩
    go_wp2_with (first
      | (go_at_call 15; refine (HN.out _).mono ?_; rintro e w' ⟨rfl, rfl⟩)
      | (go_at_call 18; refine (HW.out _).mono ?_; rintro e w' ⟨rfl, rfl⟩))
    go_ret
    exact ⟨rfl, below_on hb1 hb2⟩
  · simp only [if_true] at HN
    go_enter Tryd.func5, Tryd.ntmps5
    go_wp2_with (first
      | (go_at_call 10; refine (awake_any _).mono ?_; rintro e w' ⟨rfl, rfl⟩)
      | (go_at_call 24; refine (B.ep _).mono ?_; rintro e w' ⟨rfl, rfl⟩)
      | (go_at_call 25; refine (B.of _).mono ?_; rintro e w' ⟨rfl, rfl⟩)
      | (go_at_call 12; refine (B.pk _).mono ?_; rintro e w' ⟨rfl, rfl⟩))
    refine (B.st _ hF).mono ?_
    rintro e w1 ⟨rfl, hb1⟩
    have hF1 := hF.below hb1
    go_wp2_with fail
    refine (B.pr _ hF1).mono ?_
    rintro e w2 ⟨rfl, hb2⟩
    go_wp2_with fail
    refine (B.f1 _).mono ?_
    rintro e w3 ⟨rfl, rfl⟩
    go_wp2_with fail
    refine (B.u1 _).mono ?_
    rintro e w3 ⟨rfl, rfl⟩
    go_wp2_with fail
    refine (B.u2 _).mono ?_
    rintro e w3 ⟨rfl, rfl⟩
    go_wp2_with fail
    refine (B.f2 _).mono ?_
    rintro e w3 ⟨rfl, rfl⟩
    go_wp2_with (first
      | (go_at_call 15; refine (HN.out _).mono ?_; rintro e w' ⟨rfl, rfl⟩)
      | (go_at_call 18; refine (HW.out _).mono ?_; rintro e w' ⟨rfl, rfl⟩))
    go_ret
    exact ⟨rfl, below_on hb1 hb2⟩
theorem back_walk (u v b : Int) (h0 : 0 ≤ u) (h1 : u < 18446744073709551616) (h2 : -9223372036854775808 ≤ v) (h3 : v ≤ 9223372036854775807) (w : World) (hF : Facts w) :
    Calls Tryd.prog 5 #[.int .u64 u, .int .i64 v, .int .i64 b] w fun e w' => e = .returned (.bool true) ∧ Below w.heap.size w w' := by
  have B := bk_of u v h0 h1 h2 h3
  have HW : ∀ w, Calls Tryd.prog 18 #[.int .u64 u, .int .i64 64] w fun e w' => e = .returned (.int .i64 (wrap64 u)) ∧ w = w' := fun w => (wide_any u 64 w).mono fun e w' ⟨he, hw⟩ => ⟨by rw [he, wide_64], hw⟩
  have hc : (b < 1 ∨ 64 < b) ∨ (64 ≤ b ∧ b ≤ 64) ∨ (1 ≤ b ∧ b ≤ 63) := by omega
  rcases hc with h | ⟨h, h'⟩ | ⟨h, h'⟩
  · have hok : Pl.narrowOk u b = false := by
      unfold Pl.narrowOk Pl.isW
      rw [decide_eq_false (by omega), Bool.false_and]
    exact back_out u v b _ _ _ _ _ _ B h (Lib.hid fun w => (narrow_any u b h0 h1 w).mono fun e w' ⟨he, hw⟩ => ⟨by rw [he, hok], hw⟩) (Lib.hid HW) w hF
  · obtain rfl : b = 64 := by omega
    have e : (2 : Int) ^ (64 : Int).toNat = 18446744073709551616 := by decide
    have hok : Pl.narrowOk u 64 = true := by unfold Pl.narrowOk; rw [e]; simp [Pl.isW]; omega
    exact back_64 u v _ _ _ _ _ _ B (Lib.hid fun w => (narrow_any u 64 h0 h1 w).mono fun e w' ⟨he, hw⟩ => ⟨by rw [he, hok], hw⟩) (Lib.hid HW) w hF
  · have hw : Pl.isW b = true := by simp [Pl.isW]; omega
    obtain ⟨q1, q2, q3⟩ := Pl.half_wrap b h h'
    have hp := Pl.pow_pos b.toNat
    have hok : Pl.narrowOk u b = decide (u < 2 ^ b.toNat) := by unfold Pl.narrowOk; rw [hw, Bool.true_and]
    have hq : (u / 2 ^ b.toNat == 0) = Pl.narrowOk u b := by
      have := Pl.narrow_bits u b h0
      rw [hok]
      cases hd : decide (u < 2 ^ b.toNat) <;> rw [hd] at this <;> simp_all
    have hm0 := Int.emod_nonneg u (b := 2 ^ b.toNat) (by omega)
    have hm1 := Int.emod_lt_of_pos u (b := 2 ^ b.toNat) (by omega)
    obtain ⟨s1, s2⟩ := Pl.signed_range (u % 2 ^ b.toNat) b.toNat (by omega) hm0 hm1
    have hW : Pl.wideV u b = Pl.signed (u % 2 ^ b.toNat) b.toNat := by unfold Pl.wideV; rw [if_pos hw]
    rw [← hW] at s1 s2
    exact back_mid u v b _ _ _ _ 0 _ (Pl.wideV u b) _ (Pl.narrowOk u b) _ B h0 h1 h h' (Lib.hid fun w => (narrow_any u b h0 h1 w).mono fun e w' ⟨he, hw⟩ => ⟨he, hw⟩) (Lib.hid fun w => wide_any u b w) q1 q2 q3 hq s1 s2 (shl_back u b h h') rfl w hF
end Go.Proofs.YtcpihfieinnmkaaDoor
