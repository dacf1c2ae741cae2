/-
  The law StoreSure, walked.
-/
import Derived.Test.YtdfehdaeeigofaaStoCuts
namespace Go.Proofs.Ytdfehdaeeigofaa
open Go.RowKit St

set_option maxRecDepth 20000 in
set_option maxHeartbeats 4000000 in
theorem sure_out (A1 A2 : Option Addr) (n1 n2 cap1 cap2 : Nat) (k : Int) (h : 500 < n1 ∨ (n1 ≤ 500 ∧ 500 < n2)) (w : World) :
    Calls Try.prog 5 #[.slice A1 n1 cap1, .slice A2 n2 cap2, .int .i64 k] w fun e w' => e = .returned (.bool true) ∧ Below w.heap.size w w' := by
  rcases h with h | ⟨g1, h⟩
  · have h' : (500 : Int) < (n1 : Int) := by omega
    clear h
    go_enter Try.func5, Try.ntmps5
    go_wp2_with fail
    refine (awake_any _).mono ?_; rintro e w1 ⟨rfl, hb1⟩
    have B1 := Lib.hid hb1
    clear hb1
    go_wp2
    go_ret
    exact ⟨rfl, B1.out⟩
  · have g1' : ¬ (500 : Int) < (n1 : Int) := by omega
    have h' : (500 : Int) < (n2 : Int) := by omega
    clear h g1
    go_enter Try.func5, Try.ntmps5
    go_wp2_with fail
    refine (awake_any _).mono ?_; rintro e w1 ⟨rfl, hb1⟩
    have B1 := Lib.hid hb1
    clear hb1
    go_wp2
    go_ret
    exact ⟨rfl, B1.out⟩
theorem still_sure {w0 w : World} {T : Nat} {s : S} (h : Run w0 w T s) (sn : ByteArray) (hsn : sn.size ≤ 9223372036854775807) (n : Int) (hn : ((file s (bs sn)).sure : Int) = n) (k : Nat) :
    Calls Try.prog 18 #[.pointer (some ⟨T, 0, none⟩), .string sn] (w.drewN k) fun e w' => e = .returned (.int .i64 n) ∧ ∃ j, w' = w.drewN j :=
  (sure_run (h.draw k) sn hsn n hn).mono fun _ _ ⟨h1, h2⟩ => ⟨h1, k, h2.symm⟩
set_option maxRecDepth 20000 in
set_option maxHeartbeats 8000000 in
theorem sure_core (A1 A2 : Option Addr) (a b : List Int) (n1 n2 cap1 cap2 j N : Nat) (keep : Int) (hn1 : n1 = a.length) (hn2 : n2 = b.length) (h1 : n1 ≤ 500) (h2 : n2 ≤ 500) (hj : j = min keep.toNat n2) (hN : N = n1 + j) (hc : n2 ≤ cap2) (w : World) (ha : Bytes w w.heap.size A1 a) (hb : Bytes w w.heap.size A2 b) :
    Calls Try.prog 5 #[.slice A1 n1 cap1, .slice A2 n2 cap2, .int .i64 keep] w fun e w' => e = .returned (.bool true) ∧ Below w.heap.size w w' := by
  have g1 : (n1 : Int) ≤ 500 := by omega
  have g2 : (n2 : Int) ≤ 500 := by omega
  have hcases : (keep < 0 ∧ j = 0) ∨ ((n2 : Int) < keep ∧ ¬ keep < 0 ∧ j = n2) ∨ (¬ keep < 0 ∧ ¬ (n2 : Int) < keep ∧ keep = (j : Int)) := by omega
  have HA := Lib.hid ha
  have HB := Lib.hid hb
  have H1 := Lib.hid hn1
  have H2 := Lib.hid hn2
  have L1 := Lib.hid (show a.length ≤ 500 ∧ b.length ≤ 500 ∧ j ≤ b.length by omega)
  have TL := Lib.hid (show (b.take j).length = j by rw [List.length_take]; omega)
  have LE := Lib.hid (show (a ++ b.take j).length = N by rw [List.length_append, List.length_take]; omega)
  have sl : ∀ W, (Instr.slice 28 (.slice A2 n2 cap2) none (some (.int .i64 (j : Int))) none).run Try.prog W = .ok (.slice A2 j cap2) W := fun W => slice_to A2 n2 cap2 j (by omega) .i64 W
  have EC : Hid (crash (one 2000 (a ++ b) a.length false) [keep] = one 2000 (a ++ b.take j) N true) := Lib.hid (by
    by_cases hbn : b = []
    · subst hbn
      have e0 : N = a.length := by have := LE.out; simp at this; omega
      rw [one_crash_same _ _ _ _ (by simp), List.take_nil, e0]
    · have hp : 0 < b.length := List.length_pos_iff.2 hbn
      rw [one_crash _ _ _ _ (by rw [List.length_append]; omega)]
      have e0 : a.length + min (([keep] : List Int).headD 0).toNat ((a ++ b).length - a.length) = a.length + j := by
        show a.length + min keep.toNat _ = _
        rw [List.length_append]; omega
      rw [e0, List.take_length_add_append, hN, hn1])
  clear ha hb hn1 hn2 h1 h2 hc hj hN
  go_enter Try.func5, Try.ntmps5
  go_wp2_with fail
  refine (awake_any _).mono ?_; rintro e w1 ⟨rfl, hb1⟩
  have B1 := Lib.hid hb1
  clear hb1
  go_wp2_with fail
  refine (new_run 2000 2000 rfl (by decide) (by decide) w w1 B1.out).mono ?_; rintro e w2 ⟨T, rfl, r2⟩
  go_wp2_with fail
  refine (append_run r2.out ⟨#[102]⟩ (by decide) A1 n1 cap1 a H1.out ((HA.out.below r2.out.below).more r2.out.size) 0 (one 2000 a 0 false) (app0_E 2000 a (by have := L1.out; omega)) (app0_S 2000 a (by have := L1.out; omega))).mono ?_; rintro e w3 ⟨rfl, r3⟩
  go_wp2_with fail
  refine (sync_run r3.out ⟨#[102]⟩ (by decide) 0 (one 2000 a a.length false) (one_sync_E _ _ _) (one_sync_S _ _ _)).mono ?_; rintro e w4 ⟨rfl, r4⟩
  go_wp2_with fail
  refine (append_run r4.out ⟨#[102]⟩ (by decide) A2 n2 cap2 b H2.out ((HB.out.below r4.out.below).more r4.out.size) 0 (one 2000 (a ++ b) a.length false) (one_app_E _ _ _ b (by have := L1.out; omega)) (one_app_S _ _ _ b (by have := L1.out; omega))).mono ?_; rintro e w5 ⟨rfl, r5⟩
  go_wp2_with fail
  refine (crash_run (r5.out.alloc _) _ [keep] 1 1 rfl (by decide) (by decide) (ints_lit w5 _ rfl keep _) (one 2000 (a ++ b.take j) N true) EC.out).mono ?_; rintro e w6 ⟨rfl, r6⟩
  go_wp2_with fail
  refine (on_run r6.out (one 2000 (a ++ b.take j) N false) rfl).mono ?_; rintro e w7 ⟨rfl, r7⟩
  go_wp2_with fail
  refine (read_run2 r7.out ⟨#[102]⟩ (by decide) (a ++ b.take j) 0 (one_read_E _ _ _) (one_read_L _ _ _) N LE.out).mono ?_; rintro e w8 ⟨A8, c8, rfl, o8, r8, b8⟩
  have cvR : ∀ n, (convert 28 9 (.slice A8 N c8)).run Try.prog (w8.drewN n) = .ok (.string (strOfNums a ++ strOfNums (b.take j))) (w8.drewN n) := fun n => by
    have h := conv_str (w := w8.drewN n) (o8.out.bytes.keep fun _ _ _ => rfl) c8
    rw [LE.out, str_app] at h
    exact h
  have cvA : ∀ n, (convert 28 9 (.slice A1 n1 cap1)).run Try.prog (w8.drewN n) = .ok (.string (strOfNums a)) (w8.drewN n) := fun n => by
    have h := conv_str (w := w8.drewN n) ((HA.out.below r8.out.below).keep fun _ _ _ => rfl) cap1
    rw [← H1.out] at h
    exact h
  have cvB : ∀ n, (convert 28 9 (.slice A2 j cap2)).run Try.prog (w8.drewN n) = .ok (.string (strOfNums (b.take j))) (w8.drewN n) := fun n => by
    have h := conv_str (w := w8.drewN n) (((HB.out.head j).below r8.out.below).keep fun _ _ _ => rfl) cap2
    rw [TL.out] at h
    exact h
  have hss : (strOfNums a).size + (strOfNums (b.take j)).size ≤ 9223372036854775807 := by rw [strOfNums_size, strOfNums_size, TL.out]; have := L1.out; omega
  have sa : ∀ W, (Op.stringOp .add (strOfNums a) (strOfNums (b.take j))).run Try.prog W = .ok (.string (strOfNums a ++ strOfNums (b.take j))) W := fun W => run_string_add_sum W _ _ hss
  have SU := Lib.hid (still_sure r8.out ⟨#[102]⟩ (by decide) (N : Int) (one_sure _ _ _ _))
  have R8 := Lib.hid r8.out.below
  clear r2 r3 r4 r5 r6 r7 r8 o8 b8 B1 EC
  generalize strOfNums a = SA at *
  generalize strOfNums (b.take j) = SB at *
  rcases hcases with ⟨k1, rfl⟩ | ⟨k1, k2, rfl⟩ | ⟨k1, k2, rfl⟩
  all_goals
    try have sl0 : ∀ W, (Instr.slice 28 (.slice A2 n2 cap2) none (some (.int .i64 0)) none).run Try.prog W = .ok (.slice A2 0 cap2) W := sl
    go_wp2_with fail
    go_quiet ((go_at_call 18; exact SU.out _))
    go_wp2
    go_ret
    exact ⟨rfl, below_n R8.out _⟩
theorem sure_walk (A1 A2 : Option Addr) (a b : List Int) (cap1 cap2 : Nat) (k : Int) (hc : b.length ≤ cap2) (w : World) (ha : Bytes w w.heap.size A1 a) (hb : Bytes w w.heap.size A2 b) :
    Calls Try.prog 5 #[.slice A1 a.length cap1, .slice A2 b.length cap2, .int .i64 k] w fun e w' => e = .returned (.bool true) ∧ Below w.heap.size w w' := by
  by_cases h : a.length ≤ 500 ∧ b.length ≤ 500
  · exact sure_core A1 A2 a b _ _ cap1 cap2 _ _ k rfl rfl h.1 h.2 rfl rfl hc w ha hb
  · exact sure_out A1 A2 _ _ cap1 cap2 k (by omega) w
end Go.Proofs.Ytdfehdaeeigofaa
