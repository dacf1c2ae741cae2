/-
  The law SumJoins: three parts put together in either bracket have the checksum of the whole.
-/
import Derived.Test.YtlhoeekeafjogaaSumKnown
import Derived.Test.YtlhoeekeafjogaaSumOwn
namespace Go.Proofs.Ytlhoeekeafjogaa
open Go.RowKit
set_option maxHeartbeats 2000000 in
set_option maxRecDepth 100000 in
theorem joins_core (w : World) (A B C : Option Addr) (a b c : List Int) (ka kb kc : Nat) (X Y Z P Q L : Int)
    (la : a.length ≤ 1000) (lb : b.length ≤ 1000) (lc : c.length ≤ 1000) (ha : Bytes w w.heap.size A a) (hb : Bytes w w.heap.size B b) (hc : Bytes w w.heap.size C c)
    (ofa : ∀ W, Below w.heap.size w W → Calls Try.prog 12 #[.slice A a.length ka] W fun e w' => e = .returned (.int .u32 X) ∧ W = w')
    (ofb : ∀ W, Below w.heap.size w W → Calls Try.prog 12 #[.slice B b.length kb] W fun e w' => e = .returned (.int .u32 Y) ∧ W = w')
    (ofc : ∀ W, Below w.heap.size w W → Calls Try.prog 12 #[.slice C c.length kc] W fun e w' => e = .returned (.int .u32 Z) ∧ W = w')
    (j1 : ∀ W, Calls Try.prog 10 #[.int .u32 X, .int .u32 Y, .int .i64 b.length] W fun e w' => e = .returned (.tuple #[.int .u32 P, .bool true]) ∧ W = w')
    (j2 : ∀ W, Calls Try.prog 10 #[.int .u32 Y, .int .u32 Z, .int .i64 c.length] W fun e w' => e = .returned (.tuple #[.int .u32 Q, .bool true]) ∧ W = w')
    (j3 : ∀ W, Calls Try.prog 10 #[.int .u32 P, .int .u32 Z, .int .i64 c.length] W fun e w' => e = .returned (.tuple #[.int .u32 L, .bool true]) ∧ W = w')
    (j4 : ∀ W, Calls Try.prog 10 #[.int .u32 X, .int .u32 Q, .int .i64 ((b.length : Int) + (c.length : Int))] W fun e w' => e = .returned (.tuple #[.int .u32 L, .bool true]) ∧ W = w')
    (all : ∀ W D k n, n = (([] ++ a) ++ b ++ c).length → Bytes W W.heap.size D (([] ++ a) ++ b ++ c) → Calls Try.prog 12 #[.slice D n k] W fun e w' => e = .returned (.int .u32 L) ∧ W = w') :
    Calls Try.prog 6 #[.slice A a.length ka, .slice B b.length kb, .slice C c.length kc] w fun e w' => e = .returned (.bool true) ∧ Below w.heap.size w w' := by
  have la2 : (a.length : Int) ≤ 1000 := by omega
  have lb2 : (b.length : Int) ≤ 1000 := by omega
  have lc2 : (c.length : Int) ≤ 1000 := by omega
  have HA := Lib.hid ha
  have HB := Lib.hid hb
  have HC := Lib.hid hc
  have FA := Lib.hid ofa
  have FB := Lib.hid ofb
  have FC := Lib.hid ofc
  have J1 := Lib.hid j1
  have J2 := Lib.hid j2
  have J3 := Lib.hid j3
  have J4 := Lib.hid j4
  have AL := Lib.hid all
  clear ha hb hc ofa ofb ofc j1 j2 j3 j4 all
  go_enter Try.func6, Try.ntmps6
  go_wp2_with fail
  refine (awake_any _).mono ?_; rintro e w1 ⟨rfl, b1⟩
  have B1 := Lib.hid b1
  clear b1
  go_wp2_with fail
  refine (FA.out _ B1.out).mono ?_; rintro e w' ⟨rfl, rfl⟩
  go_wp2_with fail
  refine (FB.out _ B1.out).mono ?_; rintro e w' ⟨rfl, rfl⟩
  go_wp2_with fail
  refine (FC.out _ B1.out).mono ?_; rintro e w' ⟨rfl, rfl⟩
  go_wp2_with fail
  refine (J1.out _).mono ?_; rintro e w' ⟨rfl, rfl⟩
  go_wp2_with fail
  refine (J2.out _).mono ?_; rintro e w' ⟨rfl, rfl⟩
  go_wp2_with fail
  refine (J3.out _).mono ?_; rintro e w' ⟨rfl, rfl⟩
  go_wp2_with fail
  refine (J4.out _).mono ?_; rintro e w' ⟨rfl, rfl⟩
  have hs1 := B1.out.size
  go_wp2_with (first
    | (at_builtin; refine wp_app rfl (.tmp 75) (.tmp 76) rfl rfl rfl (OwnB.start w1 w.heap.size hs1) (by simp; omega) rfl rfl ((HA.out.below B1.out).below ((Below.refl _ _).alloc hs1 _)) (by simp; omega) ?_; intro A2 c2 w2 o2 d2; have D2 := Lib.hid (B1.out.trans (((Below.refl _ _).alloc hs1 _).trans d2)); have O2 := Lib.hid o2; clear o2 d2)
    | (at_builtin; refine wp_app rfl (.tmp 77) (.tmp 78) rfl rfl (by simp) O2.out D2.out.size rfl rfl (HB.out.below D2.out) (by simp; omega) ?_; intro A3 c3 w3 o3 d3; have D3 := Lib.hid (D2.out.trans d3); have O3 := Lib.hid o3; clear o3 d3)
    | (at_builtin; refine wp_app rfl (.tmp 79) (.tmp 80) rfl rfl (by simp) O3.out D3.out.size rfl rfl (HC.out.below D3.out) (by simp; omega) ?_; intro A4 c4 w4 o4 d4; have D4 := Lib.hid (D3.out.trans d4); have O4 := Lib.hid o4; clear o4 d4))
  refine (AL.out _ _ _ _ (by simp) O4.out.bytes).mono ?_; rintro e w' ⟨rfl, rfl⟩
  go_wp2
  go_ret
  exact ⟨rfl, D4.out⟩
set_option maxHeartbeats 1000000 in
theorem joins_long (w : World) (A B C : Option Addr) (la lb lc ka kb kc : Nat) (h : 1000 < la ∨ (la ≤ 1000 ∧ 1000 < lb) ∨ (la ≤ 1000 ∧ lb ≤ 1000 ∧ 1000 < lc)) :
    Calls Try.prog 6 #[.slice A la ka, .slice B lb kb, .slice C lc kc] w fun e w' => e = .returned (.bool true) ∧ Below w.heap.size w w' := by
  rcases h with h | ⟨h1, h2⟩ | ⟨h1, h2, h3⟩
  · have h' : (1000 : Int) < (la : Int) := by omega
    go_enter Try.func6, Try.ntmps6
    go_wp2_with fail
    refine (awake_any _).mono ?_; rintro e w1 ⟨rfl, b1⟩
    go_wp2
    go_ret
    exact ⟨rfl, b1⟩
  · have h1' : (la : Int) ≤ 1000 := by omega
    have h2' : (1000 : Int) < (lb : Int) := by omega
    go_enter Try.func6, Try.ntmps6
    go_wp2_with fail
    refine (awake_any _).mono ?_; rintro e w1 ⟨rfl, b1⟩
    go_wp2
    go_ret
    exact ⟨rfl, b1⟩
  · have h1' : (la : Int) ≤ 1000 := by omega
    have h2' : (lb : Int) ≤ 1000 := by omega
    have h3' : (1000 : Int) < (lc : Int) := by omega
    go_enter Try.func6, Try.ntmps6
    go_wp2_with fail
    refine (awake_any _).mono ?_; rintro e w1 ⟨rfl, b1⟩
    go_wp2
    go_ret
    exact ⟨rfl, b1⟩
theorem join_of_any (xs ys : List Int) (n : Int) (hn : n = ys.length) (w : World) :
    Calls Try.prog 10 #[.int .u32 (Su.ofV xs), .int .u32 (Su.ofV ys), .int .i64 n] w fun e w' => e = .returned (.tuple #[.int .u32 (Su.ofV (xs ++ ys)), .bool true]) ∧ w = w' := by
  obtain ⟨h1, h2⟩ := Su.join_of xs ys n hn
  have := join_any (Su.ofV xs) (Su.ofV ys) n (Su.ofV_range xs).1 (Su.ofV_range xs).2 (Su.ofV_range ys).1 (Su.ofV_range ys).2 w
  rw [h1, h2] at this
  exact this
theorem joins_walk (w : World) (A B C : Option Addr) (a b c : List Int) (ka kb kc : Nat) (_ma : a.length ≤ 9223372036854775807) (_mb : b.length ≤ 9223372036854775807) (_mc : c.length ≤ 9223372036854775807)
    (ha : Bytes w w.heap.size A a) (hb : Bytes w w.heap.size B b) (hc : Bytes w w.heap.size C c) :
    Calls Try.prog 6 #[.slice A a.length ka, .slice B b.length kb, .slice C c.length kc] w fun e w' => e = .returned (.bool true) ∧ Below w.heap.size w w' := by
  by_cases h : a.length ≤ 1000 ∧ b.length ≤ 1000 ∧ c.length ≤ 1000
  · obtain ⟨la, lb, lc⟩ := h
    refine joins_core w A B C a b c ka kb kc (Su.ofV a) (Su.ofV b) (Su.ofV c) (Su.ofV (a ++ b)) (Su.ofV (b ++ c)) (Su.ofV (a ++ b ++ c)) la lb lc ha hb hc
      (fun W h => of_any _ A a ka (by omega) W (ha.below h)) (fun W h => of_any _ B b kb (by omega) W (hb.below h)) (fun W h => of_any _ C c kc (by omega) W (hc.below h))
      (join_of_any a b _ rfl) (join_of_any b c _ rfl) (join_of_any (a ++ b) c _ rfl) ?_ ?_
    · rw [List.append_assoc]
      exact join_of_any a (b ++ c) _ (by rw [List.length_append]; omega)
    · intro W D k n hn hD
      subst hn
      exact of_any _ D _ k (by simp; omega) W hD
  · exact joins_long w A B C _ _ _ ka kb kc (by omega)
end Go.Proofs.Ytlhoeekeafjogaa
