/-
  The layer's examples, which every law of it asks first: they come out true, and the world is as it was.
-/
import Derived.Test.YtcpihfieinnmkaaDoorShelf
import Derived.Test.YtcpihfieinnmkaaDoorStampWalks
import Derived.Lib.Hide
namespace Go.Proofs.YtcpihfieinnmkaaDoor
open Go.RowKit
theorem dec_3 : Lib.decDigits 3 = [51] := by rw [Lib.decDigits]; rfl
theorem dec_17 : Lib.decDigits 17 = [49, 55] := by rw [Lib.decDigits, dif_neg (by decide), Lib.decDigits]; rfl
theorem fmt_3 (w : World) : Calls Tryd.prog 36 #[.int .i64 3, .int .i64 10] w fun e w' => e = .returned (.string ⟨#[51]⟩) ∧ w = w' := by
  refine (Tryd.strconv_FormatInt_10_small 3 (by decide) w).mono ?_
  rintro e w' ⟨rfl, rfl⟩
  rw [dec_3]; exact ⟨rfl, rfl⟩
theorem fmt_17 (w : World) : Calls Tryd.prog 36 #[.int .i64 17, .int .i64 10] w fun e w' => e = .returned (.string ⟨#[49, 55]⟩) ∧ w = w' := by
  refine (Tryd.strconv_FormatInt_10_small 17 (by decide) w).mono ?_
  rintro e w' ⟨rfl, rfl⟩
  rw [dec_17]; exact ⟨rfl, rfl⟩
theorem ep_3 (w : World) : Calls Tryd.prog 24 #[.int .u64 52776558133265] w fun e w' => e = .returned (.int .i64 3) ∧ w = w' := epoch_any _ (by decide) (by decide) w
theorem of_17 (w : World) : Calls Tryd.prog 25 #[.int .u64 52776558133265] w fun e w' => e = .returned (.int .i64 17) ∧ w = w' := off_any _ (by decide) (by decide) w
theorem pk_3 (w : World) : Calls Tryd.prog 12 #[.int .i64 3, .int .i64 17] w fun e w' => e = .returned (.tuple #[.int .u64 52776558133265, .bool true]) ∧ w = w' := pack_any 3 17 w
theorem fo_1 (w : World) : Calls Tryd.prog 16 #[.int .i64 (-1)] w fun e w' => e = .returned (.int .u64 1) ∧ w = w' := fold_any (-1) (by decide) (by decide) w
theorem wi_1 (w : World) : Calls Tryd.prog 18 #[.int .u64 255, .int .i64 8] w fun e w' => e = .returned (.int .i64 (-1)) ∧ w = w' := wide_any 255 8 w
set_option maxHeartbeats 400000 in
theorem str_3 (w : World) : Calls Tryd.prog 26 #[.int .u64 52776558133265] w fun e w' => e = .returned (.string ⟨#[51, 46, 49, 55]⟩) ∧ w = w' := by
  go_enter Tryd.func26, Tryd.ntmps26
  go_wp2_with (first
    | (go_at_call 24; refine (ep_3 _).mono ?_; rintro e w' ⟨rfl, rfl⟩)
    | (go_at_call 25; refine (of_17 _).mono ?_; rintro e w' ⟨rfl, rfl⟩)
    | (go_at_call 36; (first | refine (fmt_3 _).mono ?_ | refine (fmt_17 _).mono ?_); rintro e w' ⟨rfl, rfl⟩))
  go_ret
  exact ⟨rfl, rfl⟩
set_option maxHeartbeats 400000 in
theorem awake_any (w : World) : Calls Tryd.prog 10 #[] w fun e w' => e = .returned (.bool true) ∧ w = w' := by
  go_enter Tryd.func10, Tryd.ntmps10
  go_wp2_with (first
    | (go_at_call 24; refine (ep_3 _).mono ?_; rintro e w' ⟨rfl, rfl⟩)
    | (go_at_call 25; refine (of_17 _).mono ?_; rintro e w' ⟨rfl, rfl⟩)
    | (go_at_call 12; refine (pk_3 _).mono ?_; rintro e w' ⟨rfl, rfl⟩)
    | (go_at_call 16; refine (fo_1 _).mono ?_; rintro e w' ⟨rfl, rfl⟩)
    | (go_at_call 18; refine (wi_1 _).mono ?_; rintro e w' ⟨rfl, rfl⟩)
    | (go_at_call 26; refine (str_3 _).mono ?_; rintro e w' ⟨rfl, rfl⟩))
  go_ret
  exact ⟨rfl, rfl⟩
end Go.Proofs.YtcpihfieinnmkaaDoor
