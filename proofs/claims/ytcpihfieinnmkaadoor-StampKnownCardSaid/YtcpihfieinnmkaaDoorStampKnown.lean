/-
  The law StampKnown: the fixed examples of chapter 1 come out as it says.
-/
import Derived.Test.YtcpihfieinnmkaaDoorStampLaws
namespace Go.Proofs.YtcpihfieinnmkaaDoor
open Go.RowKit
def badTexts : List ByteArray := [⟨#[]⟩, ⟨#[46]⟩, ⟨#[49]⟩, ⟨#[49, 46]⟩, ⟨#[46, 49]⟩, ⟨#[48, 49, 46, 49]⟩, ⟨#[49, 46, 48, 49]⟩, ⟨#[49, 46, 49, 46, 49]⟩, ⟨#[45, 49, 46, 49]⟩, ⟨#[49, 48, 52, 56, 53, 55, 54, 46, 48]⟩,
  ⟨#[48, 46, 49, 55, 53, 57, 50, 49, 56, 54, 48, 52, 52, 52, 49, 54]⟩, ⟨#[32, 49, 46, 49]⟩]
theorem bad_none : ∀ k, k < 12 → Pl.refParse (badTexts.getD k ByteArray.empty).data.toList = none ∧ (badTexts.getD k ByteArray.empty).size ≤ 140737488355328 := by decide +kernel
theorem bad_parse (k : Nat) (hk : k < 12) (w : World) (hF : Facts w) :
    Calls Tryd.prog 11 #[.string (badTexts.getD k ByteArray.empty)] w fun e w' => e = .returned (.tuple #[.int .u64 0, .bool false]) ∧ Below w.heap.size w w' := by
  obtain ⟨h1, h2⟩ := bad_none k hk
  refine (parse_any _ h2 w hF).mono ?_
  rintro e w' ⟨rfl, hb⟩
  rw [Pl.parse_agree, h1]; exact ⟨rfl, hb⟩
/-- What the loop keeps: the world has grown, and the texts lie in their block. -/
structure Kn (w wr : World) : Prop where
  below : Below w.heap.size w wr
  size : w.heap.size < wr.heap.size
  cell : ∀ k, k < 12 → wr.cell? ⟨w.heap.size, k, none⟩ = some (.string (badTexts.getD k ByteArray.empty))
theorem Kn.on {w wr w' : World} (h : Kn w wr) (hb : Below wr.heap.size wr w') : Kn w w' where
  below := below_on h.below hb
  size := Nat.lt_of_lt_of_le h.size hb.size
  cell := fun k hk => by rw [hb.cell (p := ⟨w.heap.size, k, none⟩) h.size]; exact h.cell k hk
theorem kn_start (w : World) : Kn w (w.alloc (.cells #[.string { data := #[] }, .string { data := #[46] }, .string { data := #[49] }, .string { data := #[49, 46] }, .string { data := #[46, 49] }, .string { data := #[48, 49, 46, 49] }, .string { data := #[49, 46, 48, 49] },
      .string { data := #[49, 46, 49, 46, 49] }, .string { data := #[45, 49, 46, 49] }, .string { data := #[49, 48, 52, 56, 53, 55, 54, 46, 48] }, .string { data := #[48, 46, 49, 55, 53, 57, 50, 49, 56, 54, 48, 52, 52, 52, 49, 54] }, .string { data := #[32, 49, 46, 49] }] 9)) where
  below := (Below.refl _ _).alloc (Nat.le_refl _) _
  size := by simp
  cell := fun k hk => by
    rw [World.cell?_alloc_new]
    match k, hk with
    | 0, _ | 1, _ | 2, _ | 3, _ | 4, _ | 5, _ | 6, _ | 7, _ | 8, _ | 9, _ | 10, _ | 11, _ => rfl
theorem ka (w : World) : Calls Tryd.prog 12 #[.int .i64 1048575, .int .i64 17592186044415] w fun e w' => e = .returned (.tuple #[.int .u64 18446744073709551615, .bool true]) ∧ w = w' :=
  (pack_any 1048575 17592186044415 w).mono fun e w' ⟨he, hw⟩ => ⟨by rw [he]; first | exact ret_pair (by decide +kernel) (by decide +kernel) | exact ret_int (by decide +kernel), hw⟩
theorem kb (w : World) : Calls Tryd.prog 12 #[.int .i64 1048576, .int .i64 0] w fun e w' => e = .returned (.tuple #[.int .u64 0, .bool false]) ∧ w = w' :=
  (pack_any 1048576 0 w).mono fun e w' ⟨he, hw⟩ => ⟨by rw [he]; first | exact ret_pair (by decide +kernel) (by decide +kernel) | exact ret_int (by decide +kernel), hw⟩
theorem kc (w : World) : Calls Tryd.prog 12 #[.int .i64 0, .int .i64 17592186044416] w fun e w' => e = .returned (.tuple #[.int .u64 0, .bool false]) ∧ w = w' :=
  (pack_any 0 17592186044416 w).mono fun e w' ⟨he, hw⟩ => ⟨by rw [he]; first | exact ret_pair (by decide +kernel) (by decide +kernel) | exact ret_int (by decide +kernel), hw⟩
theorem kd (w : World) : Calls Tryd.prog 12 #[.int .i64 (-1), .int .i64 0] w fun e w' => e = .returned (.tuple #[.int .u64 0, .bool false]) ∧ w = w' :=
  (pack_any (-1) 0 w).mono fun e w' ⟨he, hw⟩ => ⟨by rw [he]; first | exact ret_pair (by decide +kernel) (by decide +kernel) | exact ret_int (by decide +kernel), hw⟩
theorem ke (w : World) : Calls Tryd.prog 13 #[.int .u64 18446744073709551615] w fun e w' => e = .returned (.tuple #[.int .u64 0, .bool false]) ∧ w = w' :=
  (next_any 18446744073709551615 (by decide) (by decide) w).mono fun e w' ⟨he, hw⟩ => ⟨by rw [he]; first | exact ret_pair (by decide +kernel) (by decide +kernel) | exact ret_int (by decide +kernel), hw⟩
theorem kf (w : World) : Calls Tryd.prog 14 #[.int .u64 18446744073709551615] w fun e w' => e = .returned (.tuple #[.int .u64 0, .bool false]) ∧ w = w' :=
  (up_any 18446744073709551615 (by decide) (by decide) w).mono fun e w' ⟨he, hw⟩ => ⟨by rw [he]; first | exact ret_pair (by decide +kernel) (by decide +kernel) | exact ret_int (by decide +kernel), hw⟩
theorem kg (w : World) : Calls Tryd.prog 13 #[.int .u64 5] w fun e w' => e = .returned (.tuple #[.int .u64 6, .bool true]) ∧ w = w' :=
  (next_any 5 (by decide) (by decide) w).mono fun e w' ⟨he, hw⟩ => ⟨by rw [he]; first | exact ret_pair (by decide +kernel) (by decide +kernel) | exact ret_int (by decide +kernel), hw⟩
theorem kh (w : World) : Calls Tryd.prog 14 #[.int .u64 5] w fun e w' => e = .returned (.tuple #[.int .u64 17592186044421, .bool true]) ∧ w = w' :=
  (up_any 5 (by decide) (by decide) w).mono fun e w' ⟨he, hw⟩ => ⟨by rw [he]; first | exact ret_pair (by decide +kernel) (by decide +kernel) | exact ret_int (by decide +kernel), hw⟩
theorem ki (w : World) : Calls Tryd.prog 15 #[.int .u64 255, .int .i64 8] w fun e w' => e = .returned (.tuple #[.int .u64 255, .bool true]) ∧ w = w' :=
  (narrow_any 255 8 (by decide) (by decide) w).mono fun e w' ⟨he, hw⟩ => ⟨by rw [he]; first | exact ret_pair (by decide +kernel) (by decide +kernel) | exact ret_int (by decide +kernel), hw⟩
theorem kj (w : World) : Calls Tryd.prog 15 #[.int .u64 256, .int .i64 8] w fun e w' => e = .returned (.tuple #[.int .u64 0, .bool false]) ∧ w = w' :=
  (narrow_any 256 8 (by decide) (by decide) w).mono fun e w' ⟨he, hw⟩ => ⟨by rw [he]; first | exact ret_pair (by decide +kernel) (by decide +kernel) | exact ret_int (by decide +kernel), hw⟩
theorem kk (w : World) : Calls Tryd.prog 15 #[.int .u64 0, .int .i64 0] w fun e w' => e = .returned (.tuple #[.int .u64 0, .bool false]) ∧ w = w' :=
  (narrow_any 0 0 (by decide) (by decide) w).mono fun e w' ⟨he, hw⟩ => ⟨by rw [he]; first | exact ret_pair (by decide +kernel) (by decide +kernel) | exact ret_int (by decide +kernel), hw⟩
theorem km (w : World) : Calls Tryd.prog 15 #[.int .u64 18446744073709551615, .int .i64 64] w fun e w' => e = .returned (.tuple #[.int .u64 18446744073709551615, .bool true]) ∧ w = w' :=
  (narrow_any 18446744073709551615 64 (by decide) (by decide) w).mono fun e w' ⟨he, hw⟩ => ⟨by rw [he]; first | exact ret_pair (by decide +kernel) (by decide +kernel) | exact ret_int (by decide +kernel), hw⟩
theorem kn (w : World) : Calls Tryd.prog 16 #[.int .i64 (-9223372036854775808)] w fun e w' => e = .returned (.int .u64 18446744073709551615) ∧ w = w' :=
  (fold_any (-9223372036854775808) (by decide) (by decide) w).mono fun e w' ⟨he, hw⟩ => ⟨by rw [he]; first | exact ret_pair (by decide +kernel) (by decide +kernel) | exact ret_int (by decide +kernel), hw⟩
theorem ko (w : World) : Calls Tryd.prog 17 #[.int .u64 18446744073709551615] w fun e w' => e = .returned (.int .i64 (-9223372036854775808)) ∧ w = w' :=
  (unfold_any 18446744073709551615 (by decide) (by decide) w).mono fun e w' ⟨he, hw⟩ => ⟨by rw [he]; first | exact ret_pair (by decide +kernel) (by decide +kernel) | exact ret_int (by decide +kernel), hw⟩
theorem kp (w : World) : Calls Tryd.prog 18 #[.int .u64 128, .int .i64 8] w fun e w' => e = .returned (.int .i64 (-128)) ∧ w = w' :=
  (wide_any 128 8 w).mono fun e w' ⟨he, hw⟩ => ⟨by rw [he]; first | exact ret_pair (by decide +kernel) (by decide +kernel) | exact ret_int (by decide +kernel), hw⟩
theorem kq (w : World) : Calls Tryd.prog 18 #[.int .u64 127, .int .i64 8] w fun e w' => e = .returned (.int .i64 127) ∧ w = w' :=
  (wide_any 127 8 w).mono fun e w' ⟨he, hw⟩ => ⟨by rw [he]; first | exact ret_pair (by decide +kernel) (by decide +kernel) | exact ret_int (by decide +kernel), hw⟩
theorem kr (w : World) : Calls Tryd.prog 18 #[.int .u64 18446744073709551615, .int .i64 64] w fun e w' => e = .returned (.int .i64 (-1)) ∧ w = w' :=
  (wide_any 18446744073709551615 64 w).mono fun e w' ⟨he, hw⟩ => ⟨by rw [he]; first | exact ret_pair (by decide +kernel) (by decide +kernel) | exact ret_int (by decide +kernel), hw⟩
theorem ks (w : World) : Calls Tryd.prog 18 #[.int .u64 5, .int .i64 0] w fun e w' => e = .returned (.int .i64 0) ∧ w = w' :=
  (wide_any 5 0 w).mono fun e w' ⟨he, hw⟩ => ⟨by rw [he]; first | exact ret_pair (by decide +kernel) (by decide +kernel) | exact ret_int (by decide +kernel), hw⟩
theorem kt (w : World) : Calls Tryd.prog 18 #[.int .u64 5, .int .i64 65] w fun e w' => e = .returned (.int .i64 0) ∧ w = w' :=
  (wide_any 5 65 w).mono fun e w' ⟨he, hw⟩ => ⟨by rw [he]; first | exact ret_pair (by decide +kernel) (by decide +kernel) | exact ret_int (by decide +kernel), hw⟩
theorem ku (w : World) : Calls Tryd.prog 18 #[.int .u64 1, .int .i64 1] w fun e w' => e = .returned (.int .i64 (-1)) ∧ w = w' :=
  (wide_any 1 1 w).mono fun e w' ⟨he, hw⟩ => ⟨by rw [he]; first | exact ret_pair (by decide +kernel) (by decide +kernel) | exact ret_int (by decide +kernel), hw⟩
set_option maxHeartbeats 2000000 in
set_option maxRecDepth 100000 in
theorem known_walk (w : World) (hF : Facts w) :
    Calls Tryd.prog 3 #[] w fun e w' => e = .returned (.bool true) ∧ Below w.heap.size w w' := by
  have hst := kn_start w
  go_enter Tryd.func3, Tryd.ntmps3
  go_wp2_with (go_at_call 10; refine (awake_any _).mono ?_; rintro e w' ⟨rfl, rfl⟩)
  go_loopw [2] (fun i wr => ∃ k : Nat, k ≤ 12 ∧ i = .int .i64 k ∧ Kn w wr) (fun i _ => 12 - (intOf i).toNat)
  case atStart => exact ⟨0, by omega, rfl, hst⟩
  case round =>
    clear hst
    obtain ⟨k, hk, rfl, hK⟩ := hrel
    by_cases hlt : k < 12
    · have hcell := hK.cell k hlt
      have HP := Lib.hid (fun hF => bad_parse k hlt wr hF)
      have hF1 := hF.below hK.below
      generalize badTexts.getD k ByteArray.empty = S at *
      go_wp2_with fail
      refine (HP.out hF1).mono ?_
      rintro e w2 ⟨rfl, hb2⟩
      have hK2 := hK.on hb2
      go_wp2
      go_roundw
      case rel => exact ⟨k + 1, by omega, by go_num, hK2⟩
      case measure => simp [intOf]; omega
    · have hge : 12 ≤ k := by omega
      clear hlt
      go_wp2_with fail
      refine (ka _).mono ?_
      rintro e w' ⟨rfl, rfl⟩
      go_wp2_with fail
      refine (kb _).mono ?_
      rintro e w' ⟨rfl, rfl⟩
      go_wp2_with fail
      refine (kc _).mono ?_
      rintro e w' ⟨rfl, rfl⟩
      go_wp2_with fail
      refine (kd _).mono ?_
      rintro e w' ⟨rfl, rfl⟩
      go_wp2_with fail
      refine (ke _).mono ?_
      rintro e w' ⟨rfl, rfl⟩
      go_wp2_with fail
      refine (kf _).mono ?_
      rintro e w' ⟨rfl, rfl⟩
      go_wp2_with fail
      refine (kg _).mono ?_
      rintro e w' ⟨rfl, rfl⟩
      go_wp2_with fail
      refine (kh _).mono ?_
      rintro e w' ⟨rfl, rfl⟩
      go_wp2_with fail
      refine (ki _).mono ?_
      rintro e w' ⟨rfl, rfl⟩
      go_wp2_with fail
      refine (kj _).mono ?_
      rintro e w' ⟨rfl, rfl⟩
      go_wp2_with fail
      refine (kk _).mono ?_
      rintro e w' ⟨rfl, rfl⟩
      go_wp2_with fail
      refine (km _).mono ?_
      rintro e w' ⟨rfl, rfl⟩
      go_wp2_with fail
      refine (kn _).mono ?_
      rintro e w' ⟨rfl, rfl⟩
      go_wp2_with fail
      refine (ko _).mono ?_
      rintro e w' ⟨rfl, rfl⟩
      go_wp2_with fail
      refine (kp _).mono ?_
      rintro e w' ⟨rfl, rfl⟩
      go_wp2_with fail
      refine (kq _).mono ?_
      rintro e w' ⟨rfl, rfl⟩
      go_wp2_with fail
      refine (kr _).mono ?_
      rintro e w' ⟨rfl, rfl⟩
      go_wp2_with fail
      refine (ks _).mono ?_
      rintro e w' ⟨rfl, rfl⟩
      go_wp2_with fail
      refine (kt _).mono ?_
      rintro e w' ⟨rfl, rfl⟩
      go_wp2_with fail
      refine (ku _).mono ?_
      rintro e w' ⟨rfl, rfl⟩
      go_wp2
      go_ret
      exact ⟨rfl, hK.below⟩
end Go.Proofs.YtcpihfieinnmkaaDoor
