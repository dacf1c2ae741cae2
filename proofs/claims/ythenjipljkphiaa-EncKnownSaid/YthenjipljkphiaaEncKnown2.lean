/-
  The law EncKnown, walked.
-/
import Derived.Test.YthenjipljkphiaaEncKnown
namespace Go.Proofs.Ythenjipljkphiaa
open Go.RowKit
def r0 : List Int := [0, 1, 2, 104, 105, 255, 255, 255, 255, 255, 255, 255, 255, 255, 1, 7]
def r1 : List Int := [1, 2, 104, 105, 255, 255, 255, 255, 255, 255, 255, 255, 255, 1, 7]
def r2 : List Int := [2, 104, 105, 255, 255, 255, 255, 255, 255, 255, 255, 255, 1, 7]
def r3 : List Int := [255, 255, 255, 255, 255, 255, 255, 255, 255, 1, 7]
theorem s0 : (En.okU r0 false = true ∧ En.valU r0 false = 0) ∧ En.restU r0 false = r1 := by decide +kernel
theorem s1 : (En.okU r1 false = true ∧ Pl.unfoldV (En.valU r1 false) = -1) ∧ En.restU r1 false = r2 := by decide +kernel
theorem s2 : (En.okS r2 false 2 = true ∧ En.valS r2 false 2 = ⟨#[104, 105]⟩) ∧ En.restS r2 false 2 = r3 := ⟨⟨by decide +kernel, by decide +kernel⟩, by decide +kernel⟩
theorem s3 : (En.okU r3 false = true ∧ En.valU r3 false = 18446744073709551615) ∧ En.restU r3 false = [7] := by decide +kernel
theorem s4 : (En.okM [7] false 7 = true ∧ En.valM [7] false 7 = 7) ∧ En.restM [7] false 7 = [] := by decide +kernel
theorem s5 : (En.okS [2, 104, 105] false 1 = false ∧ En.valS [2, 104, 105] false 1 = ByteArray.empty) ∧ En.restS [2, 104, 105] false 1 = [] := ⟨⟨by decide +kernel, by decide +kernel⟩, by decide +kernel⟩
theorem s6 : (En.okS [0] false (-1) = false ∧ En.valS [0] false (-1) = ByteArray.empty) ∧ En.restS [0] false (-1) = [] := ⟨⟨by decide +kernel, by decide +kernel⟩, by decide +kernel⟩
theorem s7 : (En.okM [8] false 7 = false ∧ En.valM [8] false 7 = 0) ∧ En.restM [8] false 7 = [] := by decide +kernel
theorem s8 : (En.okM [128, 128, 128, 128, 8] false 1099511627776 = false ∧ En.valM [128, 128, 128, 128, 8] false 1099511627776 = 0) ∧ En.restM [128, 128, 128, 128, 8] false 1099511627776 = [] := by decide +kernel
theorem inS_at (zs : List Int) (most : Int) (m0 : -9223372036854775808 ≤ most) (m1 : most ≤ 9223372036854775807) {o : Bool} {v : ByteArray} {ys : List Int} (hs : (En.okS zs false most = o ∧ En.valS zs false most = v) ∧ En.restS zs false most = ys) (g : Nat) (w : World) (h : InAt w 33 g zs false) :
    Calls Try.prog 14 #[.pointer (some ⟨g, 0, none⟩), .int .i64 most] w fun e w' => e = .returned (.string v) ∧ InPost w 33 g ys (!o) w' := by
  obtain ⟨⟨rfl, rfl⟩, rfl⟩ := hs
  exact inS_any g zs false most m0 m1 w h
theorem inM_at (zs : List Int) (most : Int) (m0 : 0 ≤ most) (m1 : most < 18446744073709551616) {o : Bool} {v : Int} {ys : List Int} (hs : (En.okM zs false most = o ∧ En.valM zs false most = v) ∧ En.restM zs false most = ys) (g : Nat) (w : World) (h : InAt w 33 g zs false) :
    Calls Try.prog 15 #[.pointer (some ⟨g, 0, none⟩), .int .u64 most] w fun e w' => e = .returned (.int .i64 v) ∧ InPost w 33 g ys (!o) w' := by
  obtain ⟨⟨rfl, rfl⟩, rfl⟩ := hs
  exact inSmall_any g zs false most m0 m1 w h
theorem inU_at (zs : List Int) {o : Bool} {v : Int} {ys : List Int} (hs : (En.okU zs false = o ∧ En.valU zs false = v) ∧ En.restU zs false = ys) (g : Nat) (w : World) (h : InAt w 33 g zs false) :
    Calls Try.prog 12 #[.pointer (some ⟨g, 0, none⟩)] w fun e w' => e = .returned (.int .u64 v) ∧ InPost w 33 g ys (!o) w' := by
  obtain ⟨⟨rfl, rfl⟩, rfl⟩ := hs
  exact inU_any g zs false w h
theorem inI_at (zs : List Int) {o : Bool} {v : Int} {ys : List Int} (hs : (En.okU zs false = o ∧ Pl.unfoldV (En.valU zs false) = v) ∧ En.restU zs false = ys) (g : Nat) (w : World) (h : InAt w 33 g zs false) :
    Calls Try.prog 13 #[.pointer (some ⟨g, 0, none⟩)] w fun e w' => e = .returned (.int .i64 v) ∧ InPost w 33 g ys (!o) w' := by
  obtain ⟨⟨rfl, rfl⟩, rfl⟩ := hs
  exact inI_any g zs false w h
set_option maxHeartbeats 4000000 in
set_option maxRecDepth 100000 in
theorem known_walk (w : World) : Calls Try.prog 3 #[] w fun e w' => e = .returned (.bool true) ∧ Below w.heap.size w w' := by
  have WO := Lib.hid whole_of
  have HI : Hid (hi = ⟨#[104, 105]⟩) := rfl
  go_enter Try.func3, Try.ntmps3
  go_wp2_with fail
  refine (awake_any _).mono ?_; rintro e w1 ⟨rfl, hb1⟩
  have HB1 := Lib.hid hb1
  have hs1 := hb1.size
  clear hb1
  go_wp2_with fail
  refine (outU_any 0 (by decide) (by decide) (w1.heap.size + 1) w1.heap.size [] (by decide) _ (OutOwn.start (heap_alloc_new w1 _) (by simp)).at_).mono ?_; rintro e w2 ⟨rfl, hp2⟩
  have HP2 := Lib.hid hp2
  clear hp2
  go_wp2_with fail
  refine (outI_any (-1) (by decide) (by decide) (w1.heap.size + 1) w1.heap.size _ (by rw [leb0]; decide) _ HP2.out.1.at_).mono ?_; rintro e w3 ⟨rfl, hp3⟩
  have HP3 := Lib.hid (HP2.out.trans hp3)
  clear hp3 HP2
  go_wp2_with fail
  refine (outS_any hi (by decide) (w1.heap.size + 1) w1.heap.size _ (by rw [leb0, leb1]; decide) _ HP3.out.1.at_).mono ?_; rintro e w4 ⟨rfl, hp4⟩
  have HP4 := Lib.hid (HP3.out.trans hp4)
  clear hp4 HP3
  go_wp2_with fail
  refine (outU_any 18446744073709551615 (by decide) (by decide) (w1.heap.size + 1) w1.heap.size _ (by rw [leb0, leb1, putHi]; decide) _ HP4.out.1.at_).mono ?_; rintro e w5 ⟨rfl, hp5⟩
  have hq5 := HP4.out.trans hp5
  clear hp5 HP4
  rw [WO.out] at hq5
  have HB5 : Hid (Below w.heap.size w w5) := (HB1.out.alloc hs1 _).trans (hq5.2.below (by omega) (by omega))
  have hs5 : w1.heap.size + 1 ≤ w5.heap.size := by have := hq5.2.size; simp at this; omega
  obtain ⟨A, cap, ho, _, hrow⟩ := hq5.1
  obtain ⟨x0, _⟩ := obj1 ho
  have BY5 := Lib.hid hrow.bytes
  have hg5 : w1.heap.size < w5.heap.size := by omega
  clear hq5 ho hrow HB1 WO
  go_wp2_with (first
    | (at_builtin; refine wp_app rfl (.tmp 29) (.tmp 33) rfl rfl rfl (OwnB.start w5 w5.heap.size (Nat.le_refl _)) (by simp) rfl rfl (BY5.out.below ((Below.refl _ _).alloc (Nat.le_refl _) _)) (by decide) ?_; intro A6 cap6 w6 o6 d6; rw [List.nil_append] at o6; have O6 := Lib.hid o6; have D6 := Lib.hid (((Below.refl w5.heap.size w5).alloc (Nat.le_refl _) _).trans d6.below); have hs6 := D6.out.size; clear o6 d6)
    | (at_builtin; refine wp_app rfl (.tmp 34) (.tmp 35) rfl rfl (by simp) (O6.out.grew ((Below.refl w6.heap.size w6).alloc (Nat.le_refl _) _) (Nat.le_refl _)) (by simp; omega) rfl rfl (Bytes.new w6 [7] (by decide) _ _ rfl) (by decide) ?_; intro A7 cap7 w7 o7 d7; have O7 := Lib.hid o7; have D7 := Lib.hid ((D6.out.alloc hs6 _).trans d7.below); have hs7 := D7.out.size; clear o7 d7 D6 O6)
    | fail)
  have IN : Hid (InAt (w7.alloc (.cells #[.slice A7 16 cap7, .bool false] 33)) 33 w7.heap.size r0 false) :=
    in_new 33 cap7 16 rfl O7.out.cap_ (by decide) O7.out.bytes (Nat.le_refl _) false
  refine (inU_at r0 s0 _ _ IN.out).mono ?_; rintro e w8 ⟨rfl, h8⟩
  have H8 := Lib.hid h8
  clear h8 IN
  go_wp2_with fail
  refine (inI_at r1 s1 _ _ H8.out.1).mono ?_; rintro e w9 ⟨rfl, h9⟩
  have H9 := Lib.hid (H8.out.trans h9)
  clear h9 H8
  go_wp2_with fail
  refine (inS_at r2 2 (by decide) (by decide) s2 _ _ H9.out.1).mono ?_; rintro e w10 ⟨rfl, h10⟩
  have H10 := Lib.hid (H9.out.trans h10)
  clear h10 H9
  go_wp2_with fail
  refine (inU_at r3 s3 _ _ H10.out.1).mono ?_; rintro e w11 ⟨rfl, h11⟩
  have H11 := Lib.hid (H10.out.trans h11)
  clear h11 H10
  go_wp2_with fail
  refine (inM_at [7] 7 (by decide) (by decide) s4 _ _ H11.out.1).mono ?_; rintro e w12 ⟨rfl, h12⟩
  have H12 := Lib.hid (H11.out.trans h12)
  clear h12 H11
  go_wp2_with fail
  refine (inEnd_any _ _ _ _ _ H12.out.1).mono ?_; rintro e w' ⟨rfl, rfl⟩
  rw [show En.isEnd [] (!true) = true from rfl]
  have D12 : Hid (Below w5.heap.size w5 w12) := (D7.out.alloc hs7 _).trans (H12.out.2.below (by simp; omega) hs7)
  have hs12 := D12.out.size
  clear H12 D7 O7
  go_wp2_with fail
  refine (inS_at [2, 104, 105] 1 (by decide) (by decide) s5 _ _ (in_lit w12 _ [2, 104, 105] (by decide) (by decide) 3 rfl _ _ rfl false)).mono ?_; rintro e w13 ⟨rfl, h13⟩
  have D13 := Lib.hid (lit_below h13)
  have I13 := Lib.hid (IsBad.of h13.1)
  have hs13 := D13.out.size
  clear h13
  go_wp2_with fail
  refine (inS_at [0] (-1) (by decide) (by decide) s6 _ _ (in_lit w13 _ [0] (by decide) (by decide) 1 rfl _ _ rfl false)).mono ?_; rintro e w14 ⟨rfl, h14⟩
  have D14 := Lib.hid (lit_below h14)
  have I14 := Lib.hid (IsBad.of h14.1)
  have hs14 := D14.out.size
  clear h14
  go_wp2_with fail
  refine (inM_at [8] 7 (by decide) (by decide) s7 _ _ (in_lit w14 _ [8] (by decide) (by decide) 1 rfl _ _ rfl false)).mono ?_; rintro e w15 ⟨rfl, h15⟩
  have D15 := Lib.hid (lit_below h15)
  have I15 := Lib.hid (IsBad.of h15.1)
  have hs15 := D15.out.size
  clear h15
  go_wp2_with fail
  refine (inM_at [128, 128, 128, 128, 8] 1099511627776 (by decide) (by decide) s8 _ _ (in_lit w15 _ [128, 128, 128, 128, 8] (by decide) (by decide) 5 rfl _ _ rfl false)).mono ?_; rintro e w16 ⟨rfl, h16⟩
  have D16 := Lib.hid (lit_below h16)
  have I16 := IsBad.of h16.1
  have hs16 := D16.out.size
  clear h16
  have hs50 : w5.heap.size ≤ w13.heap.size := by omega
  have E16 : Below w5.heap.size w5 w16 := (((D12.out.trans (D13.out.mono hs12)).trans (D14.out.mono (by omega))).trans (D15.out.mono (by omega))).trans (D16.out.mono (by omega))
  have x16 := (E16.cell (p := ⟨w1.heap.size, 0, none⟩) hg5).trans x0
  have cv := conv_str (BY5.out.below E16) cap
  rw [whole_str] at cv
  have y15 := (I15.out.keep D16.out (by omega)).1
  have y14 := ((I14.out.keep D15.out (by omega)).keep D16.out (by omega)).1
  have y13 := (((I13.out.keep D14.out (by omega)).keep D15.out (by omega)).keep D16.out (by omega)).1
  have y16 := I16.1
  have HB16 := Lib.hid (HB5.out.trans (E16.mono (by omega)))
  have hs160 : w.heap.size ≤ w16.heap.size := by omega
  clear E16 I13 I14 I15 I16 D12 D13 D14 D15 D16 x0 BY5 HB5
  go_wp2_with fail
  clear x16 cv y13 y14 y15 y16
  refine (bad_nil _).mono ?_; rintro e w17 ⟨rfl, b17⟩
  have F17 := Lib.hid (HB16.out.trans (b17.mono hs160))
  have hs17 := F17.out.size
  clear b17
  go_wp2_with fail
  refine (bad_lit _ [128] (by decide) (by decide) (by decide) 1 rfl _ _ rfl).mono ?_; rintro e w18 ⟨rfl, b18⟩
  have F18 := Lib.hid (F17.out.trans (b18.mono hs17))
  have hs18 := F18.out.size
  clear b18
  go_wp2_with fail
  refine (bad_lit _ [128, 0] (by decide) (by decide) (by decide) 2 rfl _ _ rfl).mono ?_; rintro e w19 ⟨rfl, b19⟩
  have F19 := Lib.hid (F18.out.trans (b19.mono hs18))
  have hs19 := F19.out.size
  clear b19
  go_wp2_with fail
  refine (bad_lit _ [255, 255, 255, 255, 255, 255, 255, 255, 255, 2] (by decide) (by decide) (by decide) 10 rfl _ _ rfl).mono ?_; rintro e w20 ⟨rfl, b20⟩
  have F20 := Lib.hid (F19.out.trans (b20.mono hs19))
  have hs20 := F20.out.size
  clear b20
  go_wp2_with fail
  refine (bad_lit _ [255, 255, 255, 255, 255, 255, 255, 255, 255, 129, 0] (by decide) (by decide) (by decide) 11 rfl _ _ rfl).mono ?_; rintro e w21 ⟨rfl, b21⟩
  have F21 := Lib.hid (F20.out.trans (b21.mono hs20))
  clear b21
  go_wp2
  go_ret
  exact ⟨rfl, F21.out⟩
end Go.Proofs.Ythenjipljkphiaa
