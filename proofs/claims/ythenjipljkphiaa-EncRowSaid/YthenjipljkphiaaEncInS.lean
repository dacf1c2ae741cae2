/-
  The reading of a string: In.S, at every reader.
-/
import Derived.Test.YthenjipljkphiaaEncIn
namespace Go.Proofs.Ythenjipljkphiaa
open Go.RowKit
theorem conv_head {w : World} {B : Nat} {A : Option Addr} {zs : List Int} (h : Bytes w B A zs) (k cap : Nat) (hk : k ≤ zs.length) : (convert 24 9 (.slice A k cap)).run Try.prog w = .ok (.string (strOfNums (zs.take k))) w := by
  have e : (zs.take k).length = k := by rw [List.length_take]; omega
  have h1 := conv_str (h.head k) cap
  rw [e] at h1
  exact h1
set_option maxHeartbeats 1000000 in
theorem inS_yes (g : Nat) (ys : List Int) (b : Bool) (most : Int) (k : Nat) (m0 : (k : Int) ≤ most) (m1 : most ≤ 9223372036854775807) (hk : k ≤ ys.length) (w : World)
    (U : Calls Try.prog 12 #[.pointer (some ⟨g, 0, none⟩)] w fun e w' => e = .returned (.int .u64 (k : Int)) ∧ InPost w 33 g ys b w') (hb : b = false) :
    Calls Try.prog 14 #[.pointer (some ⟨g, 0, none⟩), .int .i64 most] w fun e w' => e = .returned (.string (strOfNums (ys.take k))) ∧ InPost w 33 g (ys.drop k) false w' := by
  subst hb
  have HU := Lib.hid U
  clear U
  have m2 : 0 ≤ most := by omega
  go_enter Try.func14, Try.ntmps14
  go_wp2_with fail
  refine HU.out.mono ?_; rintro e w1 ⟨rfl, hp⟩
  have HP := Lib.hid hp
  obtain ⟨A, cap, h1, h2, h3, h4⟩ := hp.1
  clear hp
  obtain ⟨⟨c0, c1⟩, f0, f1⟩ := obj2 h1
  have HM := Lib.hid (InAt.moved h1 h2 h3 h4 k)
  have CS := conv_head h4 k cap hk
  have ST := slice_to A ys.length cap k (by omega) .u64
  have SF := slice_from A ys.length cap k hk .u64
  clear h1 h4
  go_wp2
  go_ret
  exact ⟨rfl, HP.out.trans HM.out⟩
set_option maxHeartbeats 1000000 in
theorem inS_no (g : Nat) (ys : List Int) (b : Bool) (most v : Int) (m0 : -9223372036854775808 ≤ most) (m1 : most ≤ 9223372036854775807) (_v0 : 0 ≤ v) (_v1 : v < 18446744073709551616) (w : World)
    (U : Calls Try.prog 12 #[.pointer (some ⟨g, 0, none⟩)] w fun e w' => e = .returned (.int .u64 v) ∧ InPost w 33 g ys b w')
    (hc : b = true ∨ (b = false ∧ most < 0) ∨ (b = false ∧ 0 ≤ most ∧ most < v) ∨ (b = false ∧ 0 ≤ most ∧ v ≤ most ∧ (ys.length : Int) < v)) :
    Calls Try.prog 14 #[.pointer (some ⟨g, 0, none⟩), .int .i64 most] w fun e w' => e = .returned (.string ByteArray.empty) ∧ InPost w 33 g [] true w' := by
  have HU := Lib.hid U
  clear U
  rcases hc with rfl | ⟨rfl, c⟩ | ⟨rfl, c, c2⟩ | ⟨rfl, c, c2, c3⟩
  all_goals
    go_enter Try.func14, Try.ntmps14
    go_wp2_with fail
    refine HU.out.mono ?_; rintro e w1 ⟨rfl, hp⟩
    have HP := Lib.hid hp
    have SP := Lib.hid (spoil_any g _ _ _ hp.1)
    obtain ⟨A, cap, h1, h2, h3, h4⟩ := hp.1
    clear hp
    obtain ⟨⟨c0, c1⟩, f0, f1⟩ := obj2 h1
    clear h1 h4
    go_wp2_with fail
    refine SP.out.mono ?_; rintro e w' ⟨rfl, hp2⟩
    go_wp2
    go_ret
    exact ⟨rfl, HP.out.trans hp2⟩
theorem inS_any (g : Nat) (zs : List Int) (b : Bool) (most : Int) (m0 : -9223372036854775808 ≤ most) (m1 : most ≤ 9223372036854775807) (w : World) (h : InAt w 33 g zs b) :
    Calls Try.prog 14 #[.pointer (some ⟨g, 0, none⟩), .int .i64 most] w fun e w' => e = .returned (.string (En.valS zs b most)) ∧ InPost w 33 g (En.restS zs b most) (!En.okS zs b most) w' := by
  have U := inU_any g zs b w h
  have hr := En.valU_range zs b h.byte
  by_cases hk : En.okS zs b most = true
  · have hv : En.valS zs b most = strOfNums ((En.restU zs b).take (En.valU zs b).toNat) := by unfold En.valS; rw [if_pos hk]
    have hrr : En.restS zs b most = (En.restU zs b).drop (En.valU zs b).toNat := by unfold En.restS; rw [if_pos hk]
    have hk' := hk
    unfold En.okS at hk'
    simp only [Bool.and_eq_true, decide_eq_true_eq] at hk'
    obtain ⟨⟨⟨k1, k2⟩, k3⟩, k4⟩ := hk'
    rw [hv, hrr, hk]
    have e : ((En.valU zs b).toNat : Int) = En.valU zs b := by omega
    rw [← e] at U
    rw [k1] at U
    exact inS_yes g (En.restU zs b) (!true) most (En.valU zs b).toNat (by omega) m1 (by omega) w U rfl
  · have hk' : En.okS zs b most = false := by simpa using hk
    have hv : En.valS zs b most = ByteArray.empty := by unfold En.valS; rw [if_neg hk]
    have hrr : En.restS zs b most = [] := by unfold En.restS; rw [if_neg hk]
    rw [hv, hrr, hk']
    refine inS_no g (En.restU zs b) (!En.okU zs b) most (En.valU zs b) m0 m1 hr.1 hr.2 w U ?_
    unfold En.okS at hk'
    cases ho : En.okU zs b
    · left; rfl
    · right
      rw [ho] at hk'
      simp at hk'
      simp
      omega
end Go.Proofs.Ythenjipljkphiaa
