/-
  The law FrameBehind: Get tells the first record whatever stands behind it.
-/
import Derived.Test.YtgjjpehelhdfdaaFrAwake
namespace Go.Proofs.Ytgjjpehelhdfdaa
open Go.RowKit
set_option maxHeartbeats 1000000 in
theorem behind_off (A1 A2 : Option Addr) (n m cap1 cap2 : Nat) (at_ : Int) (h : 300 < n ∨ (n ≤ 300 ∧ 300 < m)) (w : World) :
    Calls Try.prog 7 #[.int .u64 at_, .slice A1 n cap1, .slice A2 m cap2] w fun e w' => e = .returned (.bool true) ∧ Below w.heap.size w w' := by
  rcases h with h | ⟨h1, h2⟩
  · have h' : (300 : Int) < (n : Int) := by omega
    go_enter Try.func7, Try.ntmps7
    go_wp2_with fail
    refine (awake_any _).mono ?_; rintro e w1 ⟨rfl, hb1⟩
    go_wp2
    go_ret
    exact ⟨rfl, hb1⟩
  · have h1' : (n : Int) ≤ 300 := by omega
    have h2' : (300 : Int) < (m : Int) := by omega
    go_enter Try.func7, Try.ntmps7
    go_wp2_with fail
    refine (awake_any _).mono ?_; rintro e w1 ⟨rfl, hb1⟩
    go_wp2
    go_ret
    exact ⟨rfl, hb1⟩
set_option maxHeartbeats 2000000 in
theorem behind_core (A1 A2 : Option Addr) (p r : List Int) (cap1 cap2 N : Nat) (at_ : Int) (a0 : 0 ≤ at_) (a1 : at_ < 18446744073709551616) (h1 : p.length ≤ 300) (h2 : r.length ≤ 300) (hN : 16 + p.length = N) (w : World) (hp : Bytes w w.heap.size A1 p) (hr : Bytes w w.heap.size A2 r) :
    Calls Try.prog 7 #[.int .u64 at_, .slice A1 p.length cap1, .slice A2 r.length cap2] w fun e w' => e = .returned (.bool true) ∧ Below w.heap.size w w' := by
  have h1' : (p.length : Int) ≤ 300 := by omega
  have h2' : (r.length : Int) ≤ 300 := by omega
  have HP := Lib.hid hp
  have HR := Lib.hid hr
  have HN := Lib.hid hN
  have LV : Hid ((Fr.putV at_ p).length = N) := (Fr.putV_len at_ p).trans hN
  clear hp hr hN
  go_enter Try.func7, Try.ntmps7
  go_wp2_with fail
  refine (awake_any _).mono ?_; rintro e w1 ⟨rfl, hb1⟩
  have B1 := Lib.hid hb1
  clear hb1
  go_wp2_with fail
  refine (put_nil A1 p _ N cap1 at_ rfl HN.out a0 a1 (by omega) _ ((HP.out.below B1.out).more B1.out.size)).mono ?_; rintro e w2 ⟨A3, c3, rfl, o3, b3⟩
  have B2 := Lib.hid (below_on B1.out b3.out)
  clear b3
  go_wp2_with (first
    | (at_builtin; refine wp_app rfl (.tmp 32) (.tmp 33) rfl rfl rfl (OwnB.start w2 w.heap.size B2.out.size) (by simp; exact Nat.le_succ_of_le B2.out.size) rfl LV.out.symm (o3.out.bytes.below ((Below.refl _ _).alloc (Nat.le_refl _) _)) (by rw [LV.out]; have := HN.out; simp; omega) ?_; intro A4 c4 w4 o4 d4; rw [List.nil_append] at o4; have O4 := Lib.hid o4; have B4 := Lib.hid ((B2.out.alloc B2.out.size _).trans d4.below); clear o4 d4)
    | (at_builtin; refine wp_app rfl (.tmp 34) (.tmp 35) rfl rfl (by simp) O4.out B4.out.size rfl rfl (HR.out.below B4.out) (by rw [LV.out]; have := HN.out; omega) ?_; intro A5 c5 w5 o5 d5; have O5 := Lib.hid o5; have B5 := Lib.hid (B4.out.trans d5.below); clear o5 d5)
    | fail)
  refine (get_rec _ (Fr.putV at_ p ++ r) p r _ p.length N c5 at_ (by simp) rfl rfl HN.out a0 a1 (by omega) (by rw [List.length_append, LV.out]; have := HN.out; omega) O5.out.cap_ _ O5.out.bytes).mono ?_; rintro e w6 ⟨A6, c6, rfl, o6, b6⟩
  have B6 := Lib.hid (below_on B5.out b6.out)
  have B7 : Hid (Below w.heap.size w (w6.alloc (.cells #[.int .u64 at_, .slice A6 p.length c6] 30))) := B6.out.alloc B6.out.size _
  have cv1 := conv_str (o6.out.bytes.below ((Below.refl _ _).alloc (Nat.le_refl _) (.cells #[.int .u64 at_, .slice A6 p.length c6] 30))) c6
  have cv2 := conv_str (HP.out.below B7.out) cap1
  generalize strOfNums p = st at *
  go_wp2
  go_ret
  exact ⟨rfl, B7.out⟩
theorem behind_walk (A1 A2 : Option Addr) (p r : List Int) (cap1 cap2 : Nat) (at_ : Int) (a0 : 0 ≤ at_) (a1 : at_ < 18446744073709551616) (w : World) (hp : Bytes w w.heap.size A1 p) (hr : Bytes w w.heap.size A2 r) :
    Calls Try.prog 7 #[.int .u64 at_, .slice A1 p.length cap1, .slice A2 r.length cap2] w fun e w' => e = .returned (.bool true) ∧ Below w.heap.size w w' := by
  by_cases h : p.length ≤ 300 ∧ r.length ≤ 300
  · exact behind_core A1 A2 p r cap1 cap2 _ at_ a0 a1 h.1 h.2 rfl w hp hr
  · exact behind_off A1 A2 _ _ cap1 cap2 at_ (by omega) w
end Go.Proofs.Ytgjjpehelhdfdaa
