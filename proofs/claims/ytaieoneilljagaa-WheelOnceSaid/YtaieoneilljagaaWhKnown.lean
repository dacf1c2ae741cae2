/-
  The law WheelKnown, walked: the examples of chapter 14. (Written by wip/genwhknown.py.)
-/
import Derived.Test.YtaieoneilljagaaWhAwake
namespace Go.Proofs.Ytaieoneilljagaa
open Go.RowKit
set_option maxRecDepth 40000 in
set_option maxHeartbeats 16000000 in
theorem known_walk (w : World) : Calls Try.prog 3 #[] w (BoolP w true) := by
  have AW := Lib.hid (awake_any w)
  have NW := Lib.hid (fun w' => oneNew w')
  go_enter Try.func3, Try.ntmps3
  go_wp2_with fail
  (with_reducible refine AW.out.mono ?_); rintro e w0 ⟨rfl, b0⟩
  go_wp2_with fail
  (with_reducible refine (NW.out w0).mono ?_); rintro e w1 ⟨T, rfl, R1', -, -⟩
  have R1 := Lib.hid (R1'.out.from b0.out)
  go_wp2_with fail
  (with_reducible refine (knSet R1.out (by decide) 1 0 0 (ok3 rfl) (er := 1) (s' := ⟨0, []⟩) rfl rfl).mono ?_); rintro e w2 ⟨rfl, R2, K2⟩
  go_wp2_with fail
  (with_reducible refine (knSet R2.out (by decide) 1 0 1099511627777 (ok3 rfl) (er := 1) (s' := ⟨0, []⟩) rfl rfl).mono ?_); rintro e w3 ⟨rfl, R3, K3⟩
  go_wp2_with fail
  (with_reducible refine (knSet R3.out (by decide) 2 1 70 (ok3 rfl) (er := 0) (s' := ⟨0, [⟨2, 1, 70⟩]⟩) rfl rfl).mono ?_); rintro e w4 ⟨rfl, R4, K4⟩
  go_wp2_with fail
  (with_reducible refine (knSet R4.out (by decide) 1 9 70 (ok3 rfl) (er := 0) (s' := ⟨0, [⟨1, 9, 70⟩, ⟨2, 1, 70⟩]⟩) rfl rfl).mono ?_); rintro e w5 ⟨rfl, R5, K5⟩
  go_wp2_with fail
  (with_reducible refine (knSet R5.out (by decide) 2 0 70 (ok3 rfl) (er := 0) (s' := ⟨0, [⟨1, 9, 70⟩, ⟨2, 0, 70⟩, ⟨2, 1, 70⟩]⟩) rfl rfl).mono ?_); rintro e w6 ⟨rfl, R6, K6⟩
  go_wp2_with fail
  (with_reducible refine (knSet R6.out (by decide) 3 0 100000 (ok3 rfl) (er := 0) (s' := ⟨0, [⟨1, 9, 70⟩, ⟨2, 0, 70⟩, ⟨2, 1, 70⟩, ⟨3, 0, 100000⟩]⟩) rfl rfl).mono ?_); rintro e w7 ⟨rfl, R7, K7⟩
  go_wp2_with fail
  (with_reducible refine (knSet R7.out (by decide) 4 0 3 (ok3 rfl) (er := 0) (s' := ⟨0, [⟨4, 0, 3⟩, ⟨1, 9, 70⟩, ⟨2, 0, 70⟩, ⟨2, 1, 70⟩, ⟨3, 0, 100000⟩]⟩) rfl rfl).mono ?_); rintro e w8 ⟨rfl, R8, K8⟩
  go_wp2_with fail
  (with_reducible refine (knSet R8.out (by decide) 4 0 1099511627776 (ok3 rfl) (er := 0) (s' := ⟨0, [⟨1, 9, 70⟩, ⟨2, 0, 70⟩, ⟨2, 1, 70⟩, ⟨3, 0, 100000⟩, ⟨4, 0, 1099511627776⟩]⟩) rfl rfl).mono ?_); rintro e w9 ⟨rfl, R9, K9⟩
  go_wp2_with fail
  (with_reducible refine (knDrop R9.out 3 0 (in64 rfl) (in64 rfl) (b := true) (s' := ⟨0, [⟨1, 9, 70⟩, ⟨2, 0, 70⟩, ⟨2, 1, 70⟩, ⟨4, 0, 1099511627776⟩]⟩) rfl rfl).mono ?_); rintro e w10 ⟨rfl, R10, K10⟩
  go_wp2_with fail
  (with_reducible refine (knDrop R10.out 3 0 (in64 rfl) (in64 rfl) (b := false) (s' := ⟨0, [⟨1, 9, 70⟩, ⟨2, 0, 70⟩, ⟨2, 1, 70⟩, ⟨4, 0, 1099511627776⟩]⟩) rfl rfl).mono ?_); rintro e w11 ⟨rfl, R11, K11⟩
  go_wp2_with fail
  (with_reducible refine (knNext R11.out (by decide) (at_ := 70) (b := true) rfl rfl).mono ?_); rintro e w12 ⟨rfl, b12⟩
  have R12 := Lib.hid (R11.out.on b12.out)
  go_wp2_with fail
  (with_reducible refine (knAt R12.out 4 0 (in64 rfl) (in64 rfl) (at_ := 1099511627776) (b := true) rfl rfl).mono ?_); rintro e w13 ⟨rfl, b13⟩
  have R13 := Lib.hid (R12.out.on b13.out)
  go_wp2_with fail
  (with_reducible refine (knAt R13.out 3 0 (in64 rfl) (in64 rfl) (at_ := 0) (b := false) rfl rfl).mono ?_); rintro e w14 ⟨rfl, b14⟩
  have R14 := Lib.hid (R13.out.on b14.out)
  go_wp2_with fail
  (with_reducible refine (knTo R14.out (by decide) 100 (in64 rfl) (er := 0) (s' := ⟨100, [⟨4, 0, 1099511627776⟩]⟩) (l := [⟨1, 9, 70⟩, ⟨2, 0, 70⟩, ⟨2, 1, 70⟩]) (n := 3) rfl rfl rfl rfl).mono ?_); rintro e w15 ⟨A15, c15, rfl, R15, K15, D15⟩
  go_wp2_with fail
  (with_reducible refine (knTo R15.out (by decide) 99 (in64 rfl) (er := 1) (s' := ⟨100, [⟨4, 0, 1099511627776⟩]⟩) (l := []) (n := 0) rfl rfl rfl rfl).mono ?_); rintro e w16 ⟨A16, c16, rfl, R16, K16, D16⟩
  have D15 := Lib.hid (D15.out.kept K16.out fun k hk => .inr hk)
  have R16 := Lib.hid (R16.out.fewer (G' := fun k => noG k ∨ rowG A15 [⟨1, 9, 70⟩, ⟨2, 0, 70⟩, ⟨2, 1, 70⟩] k) fun k hk => .inl hk)
  go_wp2_with fail
  (with_reducible refine (knTo R16.out (by decide) 1099511627777 (in64 rfl) (er := 1) (s' := ⟨100, [⟨4, 0, 1099511627776⟩]⟩) (l := []) (n := 0) rfl rfl rfl rfl).mono ?_); rintro e w17 ⟨A17, c17, rfl, R17, K17, D17⟩
  have D15 := Lib.hid (D15.out.kept K17.out fun k hk => .inr hk)
  have R17 := Lib.hid (R17.out.fewer (G' := fun k => noG k ∨ rowG A15 [⟨1, 9, 70⟩, ⟨2, 0, 70⟩, ⟨2, 1, 70⟩] k) fun k hk => .inl hk)
  go_wp2_with fail
  (with_reducible refine (knTo R17.out (by decide) 100 (in64 rfl) (er := 0) (s' := ⟨100, [⟨4, 0, 1099511627776⟩]⟩) (l := []) (n := 0) rfl rfl rfl rfl).mono ?_); rintro e w18 ⟨A18, c18, rfl, R18, K18, D18⟩
  have D15 := Lib.hid (D15.out.kept K18.out fun k hk => .inr hk)
  have R18 := Lib.hid (R18.out.fewer (G' := fun k => noG k ∨ rowG A15 [⟨1, 9, 70⟩, ⟨2, 0, 70⟩, ⟨2, 1, 70⟩] k) fun k hk => .inl hk)
  go_wp2_with fail
  (with_reducible refine (knLen R18.out (n := 1) rfl).mono ?_); rintro e w19 ⟨rfl, b19⟩
  have R19 := Lib.hid (R18.out.on b19.out)
  have D15 := Lib.hid (D15.out.kept (R18.out.kept b19.out) fun k hk => .inr hk)
  go_wp2_with fail
  (with_reducible refine (knTo R19.out (by decide) 1099511627776 (in64 rfl) (er := 0) (s' := ⟨1099511627776, []⟩) (l := [⟨4, 0, 1099511627776⟩]) (n := 1) rfl rfl rfl rfl).mono ?_); rintro e w20 ⟨A20, c20, rfl, R20, K20, D20⟩
  have D15 := Lib.hid (D15.out.kept K20.out fun k hk => .inr hk)
  have R20 := Lib.hid (R20.out.fewer (G' := fun k => noG k ∨ rowG A15 [⟨1, 9, 70⟩, ⟨2, 0, 70⟩, ⟨2, 1, 70⟩] k) fun k hk => .inl hk)
  go_wp2_with fail
  (with_reducible refine (knNext R20.out (by decide) (at_ := 0) (b := false) rfl rfl).mono ?_); rintro e w21 ⟨rfl, b21⟩
  have R21 := Lib.hid (R20.out.on b21.out)
  have D15 := Lib.hid (D15.out.kept (R20.out.kept b21.out) fun k hk => .inr hk)
  go_wp2_with fail
  have BL : Hid (Below w21.heap.size w21 (w21.alloc (.cells #[.int .i64 1, .int .i64 9, .int .i64 70, .int .i64 2, .int .i64 0, .int .i64 70, .int .i64 2, .int .i64 1, .int .i64 70] 39))) := Lib.hid ((Below.refl _ _).alloc (Nat.le_refl _) _)
  have DL := Lib.hid (lit_dues w21 [⟨1, 9, 70⟩, ⟨2, 0, 70⟩, ⟨2, 1, 70⟩] #[.int .i64 1, .int .i64 9, .int .i64 70, .int .i64 2, .int .i64 0, .int .i64 70, .int .i64 2, .int .i64 1, .int .i64 70] rfl (by decide) (fun a ha => by
    simp only [List.mem_cons, List.not_mem_nil, or_false] at ha
    rcases ha with rfl | rfl | rfl <;> exact ok3 rfl))
  (with_reducible refine (dues_same _ _ A15 (some ⟨w21.heap.size, 0, none⟩) [⟨1, 9, 70⟩, ⟨2, 0, 70⟩, ⟨2, 1, 70⟩] 3 c15 3 _ rfl (D15.out.on BL.out) DL.out (by decide)).mono ?_); rintro e wx ⟨rfl, bx⟩
  have RX := Lib.hid (R21.out.on (BL.out.trans (bx.out.mono BL.out.size)))
  go_wp2_with fail
  (with_reducible refine (knLen RX.out (n := 0) rfl).mono ?_); rintro e wy ⟨rfl, by_⟩
  go_wp2
  go_ret
  exact ⟨rfl, Lib.hid (RX.out.on by_.out).below⟩
end Go.Proofs.Ytaieoneilljagaa
