/-
  The law FrameTurned: a record of which one byte behind its length is another is none.
-/
import Derived.Test.YtgjjpehelhdfdaaFrAwake
import Derived.Test.YtgjjpehelhdfdaaOwnStore
namespace Go.Proofs.Ytgjjpehelhdfdaa
open Go.RowKit
set_option maxHeartbeats 1000000 in
theorem turned_off (A1 : Option Addr) (n cap1 : Nat) (at_ k t : Int) (h : 200 < n) (w : World) :
    Calls Try.prog 6 #[.int .u64 at_, .slice A1 n cap1, .int .i64 k, .int .u8 t] w fun e w' => e = .returned (.bool true) ∧ Below w.heap.size w w' := by
  have h' : (200 : Int) < (n : Int) := by omega
  go_enter Try.func6, Try.ntmps6
  go_wp2_with fail
  refine (awake_any _).mono ?_; rintro e w1 ⟨rfl, hb1⟩
  go_wp2
  go_ret
  exact ⟨rfl, hb1⟩
set_option maxHeartbeats 2000000 in
theorem turned_out (A1 : Option Addr) (p : List Int) (cap1 N : Nat) (at_ k t : Int) (a0 : 0 ≤ at_) (a1 : at_ < 18446744073709551616) (h1 : p.length ≤ 200) (hN : 16 + p.length = N) (hk : k < 4 ∨ (4 ≤ k ∧ (N : Int) ≤ k)) (w : World) (hp : Bytes w w.heap.size A1 p) :
    Calls Try.prog 6 #[.int .u64 at_, .slice A1 p.length cap1, .int .i64 k, .int .u8 t] w fun e w' => e = .returned (.bool true) ∧ Below w.heap.size w w' := by
  have h1' : (p.length : Int) ≤ 200 := by omega
  have HP := Lib.hid hp
  have HN := Lib.hid hN
  clear hp hN
  rcases hk with hk | ⟨hk, hk2⟩
  all_goals
    go_enter Try.func6, Try.ntmps6
    go_wp2_with fail
    refine (awake_any _).mono ?_; rintro e w1 ⟨rfl, hb1⟩
    have B1 := Lib.hid hb1
    clear hb1
    go_wp2_with fail
    refine (put_nil A1 p _ N cap1 at_ rfl HN.out a0 a1 (by omega) _ ((HP.out.below B1.out).more B1.out.size)).mono ?_; rintro e w2 ⟨A3, c3, rfl, o3, b3⟩
    have B2 := Lib.hid (below_on B1.out b3.out)
    clear b3
    go_wp2
    go_ret
    exact ⟨rfl, B2.out⟩
set_option maxHeartbeats 4000000 in
theorem turned_in (A1 : Option Addr) (p : List Int) (cap1 N k : Nat) (at_ t x : Int) (a0 : 0 ≤ at_) (a1 : at_ < 18446744073709551616) (h1 : p.length ≤ 200) (hN : 16 + p.length = N) (hk : 4 ≤ k) (hk2 : k < N) (t0 : 0 ≤ t) (t1 : t ≤ 255) (hx : (Fr.putV at_ p).getD k 0 = x) (w : World) (hp : Bytes w w.heap.size A1 p) :
    Calls Try.prog 6 #[.int .u64 at_, .slice A1 p.length cap1, .int .i64 k, .int .u8 t] w fun e w' => e = .returned (.bool true) ∧ Below w.heap.size w w' := by
  have h1' : (p.length : Int) ≤ 200 := by omega
  have hk' : 4 ≤ (k : Int) := by omega
  have hk2' : (k : Int) < (N : Int) := by omega
  have LV : Hid ((Fr.putV at_ p).length = N) := (Fr.putV_len at_ p).trans hN
  have HP := Lib.hid hp
  have HN := Lib.hid hN
  have HX := Lib.hid hx
  clear hp hN hx
  by_cases ht : x = t
  · subst ht
    go_enter Try.func6, Try.ntmps6
    go_wp2_with fail
    refine (awake_any _).mono ?_; rintro e w1 ⟨rfl, hb1⟩
    have B1 := Lib.hid hb1
    clear hb1
    go_wp2_with fail
    refine (put_nil A1 p _ N cap1 at_ rfl HN.out a0 a1 (by omega) _ ((HP.out.below B1.out).more B1.out.size)).mono ?_; rintro e w2 ⟨A3, c3, rfl, o3, b3⟩
    have B2 := Lib.hid (below_on B1.out b3.out)
    clear b3
    obtain ⟨g, rfl, hg1, hg2⟩ := o3.out.shape (by rw [LV.out]; omega)
    obtain ⟨cc, cf⟩ := o3.out.cell (j := k) (by rw [LV.out]; omega)
    rw [HX.out] at cc
    go_wp2
    go_ret
    exact ⟨rfl, B2.out⟩
  · have E5 := Lib.hid (Fr.get_turned at_ p k t HP.out.byte (by omega) hk (by have := HN.out; omega) t0 t1 (by rw [HX.out]; exact ht))
    have ht' : (x == t) = false := by simpa using ht
    clear ht
    go_enter Try.func6, Try.ntmps6
    go_wp2_with fail
    refine (awake_any _).mono ?_; rintro e w1 ⟨rfl, hb1⟩
    have B1 := Lib.hid hb1
    clear hb1
    go_wp2_with fail
    refine (put_nil A1 p _ N cap1 at_ rfl HN.out a0 a1 (by omega) _ ((HP.out.below B1.out).more B1.out.size)).mono ?_; rintro e w2 ⟨A3, c3, rfl, o3, b3⟩
    have B2 := Lib.hid (below_on B1.out b3.out)
    clear b3
    obtain ⟨g, rfl, hg1, hg2⟩ := o3.out.shape (by rw [LV.out]; omega)
    obtain ⟨cc, cf⟩ := o3.out.cell (j := k) (by rw [LV.out]; omega)
    rw [HX.out] at cc
    have O4 := Lib.hid (o3.out.stored k t t0 t1)
    have B4 : Hid (Below w.heap.size w (w2.setCell ⟨g, k, none⟩ (.int .u8 t))) := B2.out.setCell (p := ⟨g, k, none⟩) (Nat.le_trans B1.out.size hg1) _
    go_wp2_with fail
    refine (get_bad _ _ N c3 2 (by rw [List.length_set, LV.out]) E5.out (by decide) (by rw [List.length_set, LV.out]; have := HN.out; omega) O4.out.cap_ _ O4.out.bytes).mono ?_; rintro e w5 ⟨A5, c5, rfl, b5⟩
    have B5 := Lib.hid (below_on B4.out b5.out)
    clear b5
    go_wp2
    go_ret
    exact ⟨rfl, B5.out.alloc B5.out.size _⟩
theorem turned_walk (A1 : Option Addr) (p : List Int) (cap1 : Nat) (at_ k t : Int) (a0 : 0 ≤ at_) (a1 : at_ < 18446744073709551616) (t0 : 0 ≤ t) (t1 : t < 256) (w : World) (hp : Bytes w w.heap.size A1 p) :
    Calls Try.prog 6 #[.int .u64 at_, .slice A1 p.length cap1, .int .i64 k, .int .u8 t] w fun e w' => e = .returned (.bool true) ∧ Below w.heap.size w w' := by
  by_cases h : p.length ≤ 200
  · by_cases hk : 4 ≤ k ∧ k < ((16 + p.length : Nat) : Int)
    · obtain ⟨k, rfl⟩ := Int.eq_ofNat_of_zero_le (show 0 ≤ k by omega)
      exact turned_in A1 p cap1 _ k at_ t _ a0 a1 h rfl (by omega) (by omega) t0 (by omega) rfl w hp
    · exact turned_out A1 p cap1 _ at_ k t a0 a1 h rfl (by omega) w hp
  · exact turned_off A1 _ cap1 at_ k t (by omega) w
end Go.Proofs.Ytgjjpehelhdfdaa
