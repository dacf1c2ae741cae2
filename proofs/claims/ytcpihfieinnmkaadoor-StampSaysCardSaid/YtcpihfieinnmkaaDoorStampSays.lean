/-
  The law StampSays: package stamp and the reference answer alike, at every argument.
-/
import Derived.Test.YtcpihfieinnmkaaDoorStampLaws
namespace Go.Proofs.YtcpihfieinnmkaaDoor
open Go.RowKit
/-- What the law's calls return, on both sides, at one set of arguments. -/
structure Sy (e o u v b : Int) (t : ByteArray) (A P N X Y E O F U W : Int) (a p n x y : Bool) (T : ByteArray) : Prop where
  pk : ∀ w, Calls Tryd.prog 12 #[.int .i64 e, .int .i64 o] w fun e' w' => e' = .returned (.tuple #[.int .u64 A, .bool a]) ∧ w = w'
  pk' : ∀ w, Calls Tryd.prog 19 #[.int .i64 e, .int .i64 o] w fun e' w' => e' = .returned (.tuple #[.int .u64 A, .bool a]) ∧ w = w'
  pr : ∀ w, Facts w → Calls Tryd.prog 11 #[.string t] w fun e' w' => e' = .returned (.tuple #[.int .u64 P, .bool p]) ∧ Below w.heap.size w w'
  pr' : ∀ w, Calls Tryd.prog 20 #[.string t] w fun e' w' => e' = .returned (.tuple #[.int .u64 P, .bool p]) ∧ w = w'
  na : ∀ w, Calls Tryd.prog 15 #[.int .u64 u, .int .i64 b] w fun e' w' => e' = .returned (.tuple #[.int .u64 N, .bool n]) ∧ w = w'
  na' : ∀ w, Calls Tryd.prog 21 #[.int .u64 u, .int .i64 b] w fun e' w' => e' = .returned (.tuple #[.int .u64 N, .bool n]) ∧ w = w'
  nx : ∀ w, Calls Tryd.prog 13 #[.int .u64 u] w fun e' w' => e' = .returned (.tuple #[.int .u64 X, .bool x]) ∧ w = w'
  nx' : ∀ w, Calls Tryd.prog 19 #[.int .i64 E, .int .i64 (O + 1)] w fun e' w' => e' = .returned (.tuple #[.int .u64 X, .bool x]) ∧ w = w'
  up : ∀ w, Calls Tryd.prog 14 #[.int .u64 u] w fun e' w' => e' = .returned (.tuple #[.int .u64 Y, .bool y]) ∧ w = w'
  up' : ∀ w, Calls Tryd.prog 19 #[.int .i64 (E + 1), .int .i64 O] w fun e' w' => e' = .returned (.tuple #[.int .u64 Y, .bool y]) ∧ w = w'
  ep : ∀ w, Calls Tryd.prog 24 #[.int .u64 u] w fun e' w' => e' = .returned (.int .i64 E) ∧ w = w'
  ep' : ∀ w, Calls Tryd.prog 22 #[.int .u64 u] w fun e' w' => e' = .returned (.int .i64 E) ∧ w = w'
  of : ∀ w, Calls Tryd.prog 25 #[.int .u64 u] w fun e' w' => e' = .returned (.int .i64 O) ∧ w = w'
  of' : ∀ w, Calls Tryd.prog 23 #[.int .u64 u] w fun e' w' => e' = .returned (.int .i64 O) ∧ w = w'
  st : ∀ w, Facts w → Calls Tryd.prog 26 #[.int .u64 u] w fun e' w' => e' = .returned (.string T) ∧ Below w.heap.size w w'
  st' : ∀ w, Calls Tryd.prog 27 #[.int .u64 u] w fun e' w' => e' = .returned (.string T) ∧ Below w.heap.size w w'
  fo : ∀ w, Calls Tryd.prog 16 #[.int .i64 v] w fun e' w' => e' = .returned (.int .u64 F) ∧ w = w'
  fo' : ∀ w, Calls Tryd.prog 28 #[.int .i64 v] w fun e' w' => e' = .returned (.int .u64 F) ∧ w = w'
  un : ∀ w, Calls Tryd.prog 17 #[.int .u64 u] w fun e' w' => e' = .returned (.int .i64 U) ∧ w = w'
  un' : ∀ w, Calls Tryd.prog 29 #[.int .u64 u] w fun e' w' => e' = .returned (.int .i64 U) ∧ w = w'
  wi : ∀ w, Calls Tryd.prog 18 #[.int .u64 u, .int .i64 b] w fun e' w' => e' = .returned (.int .i64 W) ∧ w = w'
  wi' : ∀ w, Calls Tryd.prog 30 #[.int .u64 u, .int .i64 b] w fun e' w' => e' = .returned (.int .i64 W) ∧ w = w'
set_option maxHeartbeats 2000000 in
set_option maxRecDepth 100000 in
theorem says_core (e o u v b : Int) (t : ByteArray) (A P N X Y E O F U W : Int) (a p n x y : Bool) (T : ByteArray) (S : Sy e o u v b t A P N X Y E O F U W a p n x y T)
    (hE0 : 0 ≤ E) (hE1 : E ≤ 1048575) (hO0 : 0 ≤ O) (hO1 : O ≤ 17592186044415) (w : World) (hF : Facts w) :
    Calls Tryd.prog 4 #[.int .i64 e, .int .i64 o, .int .u64 u, .int .i64 v, .int .i64 b, .string t] w fun e w' => e = .returned (.bool true) ∧ Below w.heap.size w w' := by
  go_enter Tryd.func4, Tryd.ntmps4
  go_wp2_with (first
    | (go_at_call 10; refine (awake_any _).mono ?_; rintro e w' ⟨rfl, rfl⟩)
    | (go_at_call 12; refine (S.pk _).mono ?_; rintro e w' ⟨rfl, rfl⟩))
  refine (S.pk' _).mono ?_
  rintro e w3 ⟨rfl, rfl⟩
  go_wp2_with fail
  refine (S.pr _ hF).mono ?_
  rintro e w1 ⟨rfl, hb1⟩
  have hF1 := hF.below hb1
  go_wp2_with (first
    | (go_at_call 20; refine (S.pr' _).mono ?_; rintro e w' ⟨rfl, rfl⟩)
    | (go_at_call 15; refine (S.na _).mono ?_; rintro e w' ⟨rfl, rfl⟩)
    | (go_at_call 21; refine (S.na' _).mono ?_; rintro e w' ⟨rfl, rfl⟩)
    | (go_at_call 13; refine (S.nx _).mono ?_; rintro e w' ⟨rfl, rfl⟩)
    | (go_at_call 14; refine (S.up _).mono ?_; rintro e w' ⟨rfl, rfl⟩)
    | (go_at_call 22; refine (S.ep' _).mono ?_; rintro e w' ⟨rfl, rfl⟩)
    | (go_at_call 23; refine (S.of' _).mono ?_; rintro e w' ⟨rfl, rfl⟩))
  refine (S.nx' _).mono ?_
  rintro e w3 ⟨rfl, rfl⟩
  go_wp2_with (first
    | (go_at_call 22; refine (S.ep' _).mono ?_; rintro e w' ⟨rfl, rfl⟩)
    | (go_at_call 23; refine (S.of' _).mono ?_; rintro e w' ⟨rfl, rfl⟩))
  refine (S.up' _).mono ?_
  rintro e w3 ⟨rfl, rfl⟩
  go_wp2_with (first
    | (go_at_call 24; refine (S.ep _).mono ?_; rintro e w' ⟨rfl, rfl⟩)
    | (go_at_call 25; refine (S.of _).mono ?_; rintro e w' ⟨rfl, rfl⟩)
    | (go_at_call 22; refine (S.ep' _).mono ?_; rintro e w' ⟨rfl, rfl⟩)
    | (go_at_call 23; refine (S.of' _).mono ?_; rintro e w' ⟨rfl, rfl⟩))
  refine (S.st _ hF1).mono ?_
  rintro e w2 ⟨rfl, hb2⟩
  go_wp2_with fail
  refine (S.st' _).mono ?_
  rintro e w3 ⟨rfl, hb3⟩
  go_wp2_with (first
    | (go_at_call 16; refine (S.fo _).mono ?_; rintro e w' ⟨rfl, rfl⟩)
    | (go_at_call 28; refine (S.fo' _).mono ?_; rintro e w' ⟨rfl, rfl⟩)
    | (go_at_call 17; refine (S.un _).mono ?_; rintro e w' ⟨rfl, rfl⟩)
    | (go_at_call 29; refine (S.un' _).mono ?_; rintro e w' ⟨rfl, rfl⟩)
    | (go_at_call 18; refine (S.wi _).mono ?_; rintro e w' ⟨rfl, rfl⟩)
    | (go_at_call 30; refine (S.wi' _).mono ?_; rintro e w' ⟨rfl, rfl⟩))
  go_ret
  exact ⟨rfl, below_on hb1 (below_on hb2 hb3)⟩
theorem says_walk (e o u v b : Int) (t : ByteArray) (h0 : 0 ≤ u) (h1 : u < 18446744073709551616) (h2 : -9223372036854775808 ≤ v) (h3 : v ≤ 9223372036854775807) (hm : t.size ≤ 140737488355328) (w : World) (hF : Facts w) :
    Calls Tryd.prog 4 #[.int .i64 e, .int .i64 o, .int .u64 u, .int .i64 v, .int .i64 b, .string t] w fun e w' => e = .returned (.bool true) ∧ Below w.heap.size w w' :=
  says_core e o u v b t _ _ _ _ _ (Pl.epochV u) (Pl.offV u) _ _ _ _ _ _ _ _ _
    { pk := fun w => pack_any e o w
      pk' := fun w => refPack_any e o w
      pr := fun w hF => parse_any t hm w hF
      pr' := fun w => by rw [Pl.parse_agree]; exact refParse_any t hm w
      na := fun w => narrow_any u b h0 h1 w
      na' := fun w => refNarrow_any u b h0 h1 w
      nx := fun w => next_any u h0 h1 w
      nx' := fun w => refPack_any _ _ w
      up := fun w => up_any u h0 h1 w
      up' := fun w => refPack_any _ _ w
      ep := fun w => epoch_any u h0 h1 w
      ep' := fun w => refEpoch_any u h0 h1 w
      of := fun w => off_any u h0 h1 w
      of' := fun w => refOff_any u h0 h1 w
      st := fun w hF => string_any u h0 h1 w hF
      st' := fun w => refText_any u h0 h1 w
      fo := fun w => fold_any v h2 h3 w
      fo' := fun w => refFold_any v h2 h3 w
      un := fun w => unfold_any u h0 h1 w
      un' := fun w => refUnfold_any u h0 h1 w
      wi := fun w => wide_any u b w
      wi' := fun w => refWide_any u b h0 h1 w }
    (by unfold Pl.epochV; omega) (by unfold Pl.epochV; omega) (by unfold Pl.offV; omega) (by unfold Pl.offV; omega) w hF
end Go.Proofs.YtcpihfieinnmkaaDoor
