/-
  The reading of a signed number, of a string and of a small number by the reference's chapter 3: the same plain reading.
-/
import Derived.Test.YthenjipljkphiaaEncRef
namespace Go.Proofs.Ythenjipljkphiaa
open Go.RowKit
set_option maxHeartbeats 1000000 in
theorem refI_any (g : Nat) (zs : List Int) (b : Bool) (w : World) (h : InAt w 41 g zs b) :
    Calls Try.prog 19 #[.pointer (some ⟨g, 0, none⟩)] w fun e w' => e = .returned (.int .i64 (Pl.unfoldV (En.valU zs b))) ∧ InPost w 41 g (En.restU zs b) (!En.okU zs b) w' := by
  have U := Lib.hid (refU_all g zs b w h)
  have hr := En.valU_range zs b h.byte
  have F := Lib.hid (fun w => refUnfold_any (En.valU zs b) hr.1 hr.2 w)
  clear h hr
  generalize En.valU zs b = v at *
  generalize En.restU zs b = ys at *
  generalize En.okU zs b = o at *
  go_enter Try.func19, Try.ntmps19
  go_wp2_with fail
  refine U.out.mono ?_; rintro e w' ⟨rfl, hp⟩
  go_wp2_with fail
  refine (F.out _).mono ?_; rintro e w' ⟨rfl, rfl⟩
  go_wp2
  go_ret
  exact ⟨rfl, hp⟩
set_option maxHeartbeats 1000000 in
theorem refS_yes (g : Nat) (ys : List Int) (b : Bool) (most : Int) (k : Nat) (m0 : (k : Int) ≤ most) (m1 : most ≤ 9223372036854775807) (hk : k ≤ ys.length) (w : World)
    (U : Calls Try.prog 18 #[.pointer (some ⟨g, 0, none⟩)] w fun e w' => e = .returned (.int .u64 (k : Int)) ∧ InPost w 41 g ys b w') (hb : b = false) :
    Calls Try.prog 20 #[.pointer (some ⟨g, 0, none⟩), .int .i64 most] w fun e w' => e = .returned (.string (strOfNums (ys.take k))) ∧ InPost w 41 g (ys.drop k) false w' := by
  subst hb
  have HU := Lib.hid U
  clear U
  have m2 : 0 ≤ most := by omega
  go_enter Try.func20, Try.ntmps20
  go_wp2_with fail
  refine HU.out.mono ?_; rintro e w1 ⟨rfl, hp⟩
  have HP := Lib.hid hp
  obtain ⟨A, cap, h1, h2, h3, h4⟩ := hp.1
  clear hp
  obtain ⟨⟨c0, c1⟩, f0, f1⟩ := obj2 h1
  have HM := Lib.hid (InAt.moved h1 h2 h3 h4 k)
  have CS := conv_head h4 k cap hk
  have ST := slice_to A ys.length cap k (by omega) .u64
  have SF := slice_from A ys.length cap k hk .u64
  clear h1 h4
  go_wp2
  go_ret
  exact ⟨rfl, HP.out.trans HM.out⟩
set_option maxHeartbeats 1000000 in
theorem refS_no (g : Nat) (ys : List Int) (b : Bool) (most v : Int) (m0 : -9223372036854775808 ≤ most) (m1 : most ≤ 9223372036854775807) (_v0 : 0 ≤ v) (_v1 : v < 18446744073709551616) (w : World)
    (U : Calls Try.prog 18 #[.pointer (some ⟨g, 0, none⟩)] w fun e w' => e = .returned (.int .u64 v) ∧ InPost w 41 g ys b w')
    (hc : b = true ∨ (b = false ∧ most < 0) ∨ (b = false ∧ 0 ≤ most ∧ most < v) ∨ (b = false ∧ 0 ≤ most ∧ v ≤ most ∧ (ys.length : Int) < v)) :
    Calls Try.prog 20 #[.pointer (some ⟨g, 0, none⟩), .int .i64 most] w fun e w' => e = .returned (.string ByteArray.empty) ∧ InPost w 41 g [] true w' := by
  have HU := Lib.hid U
  clear U
  rcases hc with rfl | ⟨rfl, c⟩ | ⟨rfl, c, c2⟩ | ⟨rfl, c, c2, c3⟩
  all_goals
    go_enter Try.func20, Try.ntmps20
    go_wp2_with fail
    refine HU.out.mono ?_; rintro e w1 ⟨rfl, hp⟩
    have HP := Lib.hid hp
    have SP := Lib.hid (refFail_any g _ _ _ hp.1)
    obtain ⟨A, cap, h1, h2, h3, h4⟩ := hp.1
    clear hp
    obtain ⟨⟨c0, c1⟩, f0, f1⟩ := obj2 h1
    clear h1 h4
    go_wp2_with fail
    refine SP.out.mono ?_; rintro e w' ⟨rfl, hp2⟩
    go_wp2
    go_ret
    exact ⟨rfl, HP.out.trans hp2⟩
theorem refS_any (g : Nat) (zs : List Int) (b : Bool) (most : Int) (m0 : -9223372036854775808 ≤ most) (m1 : most ≤ 9223372036854775807) (w : World) (h : InAt w 41 g zs b) :
    Calls Try.prog 20 #[.pointer (some ⟨g, 0, none⟩), .int .i64 most] w fun e w' => e = .returned (.string (En.valS zs b most)) ∧ InPost w 41 g (En.restS zs b most) (!En.okS zs b most) w' := by
  have U := refU_all g zs b w h
  have hr := En.valU_range zs b h.byte
  by_cases hk : En.okS zs b most = true
  · have hv : En.valS zs b most = strOfNums ((En.restU zs b).take (En.valU zs b).toNat) := by unfold En.valS; rw [if_pos hk]
    have hrr : En.restS zs b most = (En.restU zs b).drop (En.valU zs b).toNat := by unfold En.restS; rw [if_pos hk]
    have hk' := hk
    unfold En.okS at hk'
    simp only [Bool.and_eq_true, decide_eq_true_eq] at hk'
    obtain ⟨⟨⟨k1, k2⟩, k3⟩, k4⟩ := hk'
    rw [hv, hrr, hk]
    have e : ((En.valU zs b).toNat : Int) = En.valU zs b := by omega
    rw [← e] at U
    rw [k1] at U
    exact refS_yes g (En.restU zs b) (!true) most (En.valU zs b).toNat (by omega) m1 (by omega) w U rfl
  · have hk' : En.okS zs b most = false := by simpa using hk
    have hv : En.valS zs b most = ByteArray.empty := by unfold En.valS; rw [if_neg hk]
    have hrr : En.restS zs b most = [] := by unfold En.restS; rw [if_neg hk]
    rw [hv, hrr, hk']
    refine refS_no g (En.restU zs b) (!En.okU zs b) most (En.valU zs b) m0 m1 hr.1 hr.2 w U ?_
    unfold En.okS at hk'
    cases ho : En.okU zs b
    · left; rfl
    · right
      rw [ho] at hk'
      simp at hk'
      simp
      omega
theorem small_no {zs : List Int} {b : Bool} {most : Int} (hk : En.okM zs b most = false) : En.valM zs b most = 0 ∧ En.restM zs b most = [] := by
  refine ⟨?_, ?_⟩
  · unfold En.valM; rw [hk]; rfl
  · unfold En.restM; rw [hk]; rfl
set_option maxHeartbeats 1000000 in
theorem refSmall_any (g : Nat) (zs : List Int) (b : Bool) (most : Int) (_m0 : 0 ≤ most) (_m1 : most < 18446744073709551616) (w : World) (h : InAt w 41 g zs b) :
    Calls Try.prog 21 #[.pointer (some ⟨g, 0, none⟩), .int .u64 most] w fun e w' => e = .returned (.int .i64 (En.valM zs b most)) ∧ InPost w 41 g (En.restM zs b most) (!En.okM zs b most) w' := by
  have U := Lib.hid (refU_all g zs b w h)
  have hr := En.valU_range zs b h.byte
  by_cases hk : En.okM zs b most = true
  · have hk' := hk
    unfold En.okM at hk'
    simp only [Bool.and_eq_true, decide_eq_true_eq] at hk'
    obtain ⟨⟨ho, s1⟩, s2⟩ := hk'
    have hv : En.valM zs b most = En.valU zs b := by unfold En.valM; rw [if_pos hk]
    have hrr : En.restM zs b most = En.restU zs b := by unfold En.restM; rw [if_pos hk]
    rw [hk, hv, hrr]
    rw [ho] at U
    clear hk hv hrr ho h
    obtain ⟨r1, r2⟩ := hr
    generalize En.valU zs b = v at *
    go_enter Try.func21, Try.ntmps21
    go_wp2_with fail
    refine U.out.mono ?_; rintro e w1 ⟨rfl, hp⟩
    have HP := Lib.hid hp
    obtain ⟨A, cap, h1, h2, h3, h4⟩ := hp.1
    clear hp
    obtain ⟨⟨c0, c1⟩, f0, f1⟩ := obj2 h1
    clear h1 h4
    go_wp2
    go_ret
    exact ⟨rfl, HP.out⟩
  · have hk' : En.okM zs b most = false := by simpa using hk
    obtain ⟨hv, hrr⟩ := small_no hk'
    rw [hv, hrr, hk']
    have hc : En.okU zs b = false ∨ (En.okU zs b = true ∧ most < En.valU zs b) ∨ (En.okU zs b = true ∧ En.valU zs b ≤ most ∧ 2147483647 < En.valU zs b) := by
      unfold En.okM at hk'
      cases ho : En.okU zs b
      · left; rfl
      · right
        rw [ho] at hk'
        simp at hk'
        simp
        omega
    clear hk hk' hv hrr h
    obtain ⟨r1, r2⟩ := hr
    generalize En.valU zs b = v at *
    generalize En.restU zs b = ys at *
    generalize En.okU zs b = o at *
    rcases hc with rfl | ⟨rfl, c⟩ | ⟨rfl, c, c2⟩
    all_goals
      go_enter Try.func21, Try.ntmps21
      go_wp2_with fail
      refine U.out.mono ?_; rintro e w1 ⟨rfl, hp⟩
      have HP := Lib.hid hp
      have SP := Lib.hid (refFail_any g _ _ _ hp.1)
      obtain ⟨A, cap, h1, h2, h3, h4⟩ := hp.1
      clear hp
      obtain ⟨⟨c0, c1⟩, f0, f1⟩ := obj2 h1
      clear h1 h4
      go_wp2_with fail
      refine SP.out.mono ?_; rintro e w' ⟨rfl, hp2⟩
      go_wp2
      go_ret
      exact ⟨rfl, HP.out.trans hp2⟩
end Go.Proofs.Ythenjipljkphiaa
