/-
  The law SumSays: package sum and the reference answer alike, at every argument.
-/
import Derived.Test.YtlhoeekeafjogaaSumKnown
import Derived.Test.YtlhoeekeafjogaaSumRef
namespace Go.Proofs.Ytlhoeekeafjogaa
open Go.RowKit
/-- What the law's calls return, on both sides, at one set of arguments, in every world that holds the bytes. -/
structure Sy (w : World) (A : Option Addr) (len cap : Nat) (s t n i x y : Int) (O J U F : Int) (o j u : Bool) : Prop where
  on : ∀ W, Below w.heap.size w W → Calls Try.prog 9 #[.int .u32 s, .slice A len cap] W fun e w' => e = .returned (.tuple #[.int .u32 O, .bool o]) ∧ W = w'
  on' : ∀ W, Below w.heap.size w W → Calls Try.prog 14 #[.int .u32 s, .slice A len cap] W fun e w' => e = .returned (.tuple #[.int .u32 O, .bool o]) ∧ Below W.heap.size W w'
  jn : ∀ W, Calls Try.prog 10 #[.int .u32 s, .int .u32 t, .int .i64 n] W fun e w' => e = .returned (.tuple #[.int .u32 J, .bool j]) ∧ W = w'
  jn' : ∀ W, Calls Try.prog 15 #[.int .u32 s, .int .u32 t, .int .i64 n] W fun e w' => e = .returned (.tuple #[.int .u32 J, .bool j]) ∧ Below W.heap.size W w'
  tn : ∀ W, Calls Try.prog 11 #[.int .u32 s, .int .i64 n, .int .i64 i, .int .u8 x, .int .u8 y] W fun e w' => e = .returned (.tuple #[.int .u32 U, .bool u]) ∧ W = w'
  tn' : ∀ W, Calls Try.prog 16 #[.int .u32 s, .int .i64 n, .int .i64 i, .int .u8 x, .int .u8 y] W fun e w' => e = .returned (.tuple #[.int .u32 U, .bool u]) ∧ Below W.heap.size W w'
  of : ∀ W, Below w.heap.size w W → Calls Try.prog 12 #[.slice A len cap] W fun e w' => e = .returned (.int .u32 F) ∧ W = w'
  of' : ∀ W, Below w.heap.size w W → Calls Try.prog 17 #[.slice A len cap] W fun e w' => e = .returned (.int .u32 F) ∧ Below W.heap.size W w'
  gd : ∀ W, Calls Try.prog 13 #[.int .u32 s] W fun e w' => e = .returned (.bool o) ∧ W = w'
  gd' : ∀ W, Calls Try.prog 18 #[.int .u32 s] W fun e w' => e = .returned (.bool o) ∧ W = w'
set_option maxHeartbeats 2000000 in
set_option maxRecDepth 100000 in
theorem says_core (w : World) (A : Option Addr) (len cap : Nat) (s t n i x y : Int) (O J U F : Int) (o j u : Bool) (S : Sy w A len cap s t n i x y O J U F o j u) (hl : len ≤ 5000) :
    Calls Try.prog 4 #[.slice A len cap, .int .u32 s, .int .u32 t, .int .i64 n, .int .i64 i, .int .u8 x, .int .u8 y] w fun e w' => e = .returned (.bool true) ∧ Below w.heap.size w w' := by
  have hl2 : (len : Int) ≤ 5000 := by omega
  go_enter Try.func4, Try.ntmps4
  go_wp2_with fail
  refine (awake_any _).mono ?_; rintro e w1 ⟨rfl, b1⟩
  go_wp2_with fail
  refine (S.on _ b1).mono ?_; rintro e w' ⟨rfl, rfl⟩
  go_wp2_with fail
  refine (S.on' _ b1).mono ?_; rintro e w2 ⟨rfl, b2⟩
  replace b2 := below_on b1 b2
  go_wp2_with fail
  refine (S.jn _).mono ?_; rintro e w' ⟨rfl, rfl⟩
  go_wp2_with fail
  refine (S.jn' _).mono ?_; rintro e w3 ⟨rfl, b3⟩
  replace b3 := below_on b2 b3
  go_wp2_with fail
  refine (S.tn _).mono ?_; rintro e w' ⟨rfl, rfl⟩
  go_wp2_with fail
  refine (S.tn' _).mono ?_; rintro e w4 ⟨rfl, b4⟩
  replace b4 := below_on b3 b4
  go_wp2_with fail
  refine (S.of _ b4).mono ?_; rintro e w' ⟨rfl, rfl⟩
  go_wp2_with fail
  refine (S.of' _ b4).mono ?_; rintro e w5 ⟨rfl, b5⟩
  replace b5 := below_on b4 b5
  go_wp2_with fail
  refine (S.gd _).mono ?_; rintro e w' ⟨rfl, rfl⟩
  go_wp2_with fail
  refine (S.gd' _).mono ?_; rintro e w' ⟨rfl, rfl⟩
  go_wp2
  go_ret
  exact ⟨rfl, b5⟩
set_option maxHeartbeats 400000 in
theorem says_walk (w : World) (A : Option Addr) (zs : List Int) (cap : Nat) (s t n i x y : Int) (hl : zs.length ≤ 9223372036854775807) (hb : Bytes w w.heap.size A zs)
    (s0 : 0 ≤ s) (s1 : s < 4294967296) (t0 : 0 ≤ t) (t1 : t < 4294967296) (n1 : n ≤ 9223372036854775807) (x0 : 0 ≤ x) (x1 : x < 256) (y0 : 0 ≤ y) (y1 : y < 256) :
    Calls Try.prog 4 #[.slice A zs.length cap, .int .u32 s, .int .u32 t, .int .i64 n, .int .i64 i, .int .u8 x, .int .u8 y] w fun e w' => e = .returned (.bool true) ∧ Below w.heap.size w w' := by
  by_cases h : zs.length ≤ 5000
  · refine says_core w A zs.length cap s t n i x y (Su.onV s zs) (Su.joinV s t n) (Su.turnV s n i x y) (Su.ofV zs) (Su.okS s) (Su.joinOk s t n) (Su.turnOk s n i) ?_ h
    exact {
      on := fun W h => on_any s s0 s1 _ A zs cap hl W (hb.below h)
      on' := fun W h => refOn_any s s0 s1 A zs cap hl W ((hb.below h).more h.size)
      jn := fun W => join_any s t n s0 s1 t0 t1 W
      jn' := fun W => refJoin_any s t n s0 s1 t0 t1 n1 W
      tn := fun W => turn_any s n i x y s0 s1 n1 x0 (by omega) y0 (by omega) W
      tn' := fun W => refTurn_any s n i x y s0 s1 n1 x0 (by omega) y0 (by omega) W
      of := fun W h => of_any _ A zs cap hl W (hb.below h)
      of' := fun W h => refSum_any A zs cap hl W ((hb.below h).more h.size)
      gd := fun W => good_any s s0 s1 W
      gd' := fun W => refGood_any s s0 s1 W }
  · generalize zs.length = len at *
    have hl2 : (5000 : Int) < (len : Int) := by omega
    go_enter Try.func4, Try.ntmps4
    go_wp2_with fail
    refine (awake_any _).mono ?_; rintro e w1 ⟨rfl, b1⟩
    go_wp2
    go_ret
    exact ⟨rfl, b1⟩
end Go.Proofs.Ytlhoeekeafjogaa
