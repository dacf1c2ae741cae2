/-
  The reference's On, Sum and GoodSum at every argument: the same plain numbers as package sum's.
-/
import Derived.Test.YtlaomaefhanacaaDoorFrSum
import Derived.Deep.QuietTactic
import Derived.BigQuiet
import Derived.Deep.RegionWith
namespace Go.Proofs.YtlaomaefhanacaaDoor
open Go.RowKit

theorem prime_any (w : World) : Calls Tryd.prog 102 #[] w fun e w' => e = .returned (.int .u64 65521) ∧ w = w' := by
  go_enter Tryd.func102, Tryd.ntmps102
  go_wp2
  go_ret
  exact ⟨rfl, rfl⟩
set_option maxHeartbeats 400000 in
theorem refGood_any (s : Int) (h0 : 0 ≤ s) (h1 : s < 4294967296) (w : World) :
    Calls Tryd.prog 100 #[.int .u32 s] w fun e w' => e = .returned (.bool (Su.okS s)) ∧ w = w' := by
  by_cases h : s % 65536 < 65521
  · go_enter Tryd.func100, Tryd.ntmps100
    go_wp2_with (go_at_call 102; refine (prime_any _).mono ?_; rintro e w' ⟨rfl, rfl⟩)
    go_ret
    exact ⟨ret_bool (by simp [Su.okS, h]), rfl⟩
  · have h' : 65521 ≤ s % 65536 := by omega
    go_enter Tryd.func100, Tryd.ntmps100
    go_wp2_with (go_at_call 102; refine (prime_any _).mono ?_; rintro e w' ⟨rfl, rfl⟩)
    go_ret
    exact ⟨ret_bool (by simp [Su.okS]; omega), rfl⟩
set_option maxHeartbeats 400000 in
theorem halves_any (s : Int) (h0 : 0 ≤ s) (h1 : s < 4294967296) (w : World) :
    Calls Tryd.prog 101 #[.int .u32 s] w fun e w' => e = .returned (.tuple #[.int .u64 (s % 65536), .int .u64 (s / 65536)]) ∧ w = w' := by
  go_enter Tryd.func101, Tryd.ntmps101
  go_wp2
  go_ret2
  exact ⟨rfl, rfl⟩
set_option maxHeartbeats 400000 in
theorem refWord_any (a c : Int) (h0 : 0 ≤ a) (h1 : a < 65521) (h2 : 0 ≤ c) (h3 : c < 65521) (w : World) :
    Calls Tryd.prog 103 #[.int .u64 a, .int .u64 c] w fun e w' => e = .returned (.int .u32 (Su.word (a, c))) ∧ w = w' := by
  have ew : Su.word (a, c) = c * 65536 + a := rfl
  rw [ew]; clear ew
  go_enter Tryd.func103, Tryd.ntmps103
  go_wp2
  go_ret
  exact ⟨rfl, rfl⟩

/-- A call that changes nothing, inside a region that draws. -/
theorem still {P : Program} {f : FuncId} {args : Array Value} {w : World} {n : Nat} {v : Value} (h : ∀ W, Calls P f args W fun e w' => e = .returned v ∧ W = w') :
    Calls P f args (w.drewN n) fun e w' => e = .returned v ∧ ∃ m, w' = w.drewN m :=
  (h _).mono fun _ _ ⟨he, hm⟩ => ⟨he, n, hm.symm⟩

/-! ### On, Sum -/
set_option maxHeartbeats 1000000 in
theorem refOn_yes (s : Int) (h0 : 0 ≤ s) (h1 : s < 4294967296) (hs : Su.okS s = true) (A : Option Addr) (zs : List Int) (cap : Nat) (hl : zs.length ≤ 9223372036854775807) (w : World) (hb : Bytes w w.heap.size A zs) :
    Calls Tryd.prog 80 #[.int .u32 s, .slice A zs.length cap] w fun e w' => e = .returned (.tuple #[.int .u32 (Su.ext s zs), .bool true]) ∧ Below w.heap.size w w' := by
  have hs' := (Su.okS_iff s).1 hs
  have S0 := At.start (zs := zs) (a0 := s % 65536) (c0 := s / 65536) (by omega) hs'.2 (by omega) hs'.1
  have E0 := fun a c => At.end_ (s := s) (zs := zs) (a := a) (c := c)
  have S := Lib.hid S0
  have E := Lib.hid E0
  have H := Lib.hid hb
  have G := Lib.hid (fun w => refGood_any s h0 h1 w)
  rw [hs] at G
  have HH := Lib.hid (fun w => halves_any s h0 h1 w)
  clear hb hs hs' S0 E0
  go_enter Tryd.func80, Tryd.ntmps80
  go_wp2_with fail
  refine (G.out _).mono ?_; rintro e w' ⟨rfl, rfl⟩
  go_wp2_with fail
  refine (HH.out _).mono ?_; rintro e w' ⟨rfl, rfl⟩
  go_wp2_with fail
  go_loopw [6, 7, 8] (fun a c i wr => ∃ (k : Nat) (x y : Int), k ≤ zs.length ∧ At (s % 65536) (s / 65536) zs k x y ∧ i = .int .i64 k ∧ a = .int .u64 x ∧ c = .int .u64 y ∧ Below w.heap.size w wr) (fun _ _ i _ => zs.length - (intOf i).toNat)
  case atStart => exact ⟨0, _, _, Nat.zero_le _, S.out, rfl, rfl, rfl, Below.refl _ _⟩
  case round =>
    obtain ⟨k, x, y, hk, hat, rfl, rfl, rfl, hbel⟩ := hrel
    obtain ⟨x0, x1, y0, y1⟩ := hat.2
    have HA := Lib.hid hat
    have HB := Lib.hid hbel
    clear hat hbel
    by_cases hlt : k < zs.length
    · obtain ⟨b, off, z, rfl, hbb, hc, hz, z0, z1⟩ := (H.out.below HB.out).at_ hlt
      have hlt2 : (k : Int) < (zs.length : Int) := by omega
      have t1 : IntKind.u64.wrap (x + z) = x + z := IntWalk.u64_in _ (by omega)
      have t2 : (x + z).tmod 65521 = (x + z) % 65521 := Int.tmod_eq_emod_of_nonneg (by omega)
      have t3 : IntKind.u64.wrap z = z := IntWalk.u64_in _ (by omega)
      go_wp2_with fail
      go_quiet ((go_at_call 102; exact still prime_any))
      clear t1 t2 t3
      go_wp2_with (go_at_call 102; refine (prime_any _).mono ?_; rintro e w' ⟨rfl, rfl⟩)
      go_roundw
      case rel => exact ⟨k + 1, _, _, by omega, HA.out.next hlt hz.out, by go_num, rfl, rfl, below_n HB.out _⟩
      case measure => simp [intOf]; omega
    · go_wp2_with (go_at_call 103; refine (refWord_any _ _ x0 x1 y0 y1 _).mono ?_; rintro e w' ⟨rfl, rfl⟩)
      go_ret2
      have hkk : k = zs.length := by omega
      subst hkk
      exact ⟨ret_pair (E.out _ _ HA.out) rfl, HB.out⟩
set_option maxHeartbeats 400000 in
theorem refOn_any (s : Int) (h0 : 0 ≤ s) (h1 : s < 4294967296) (A : Option Addr) (zs : List Int) (cap : Nat) (hl : zs.length ≤ 9223372036854775807) (w : World) (hb : Bytes w w.heap.size A zs) :
    Calls Tryd.prog 80 #[.int .u32 s, .slice A zs.length cap] w fun e w' => e = .returned (.tuple #[.int .u32 (Su.onV s zs), .bool (Su.okS s)]) ∧ Below w.heap.size w w' := by
  by_cases hs : Su.okS s = true
  · have hv : Su.onV s zs = Su.ext s zs := by unfold Su.onV; rw [if_pos hs]
    rw [hv, hs]
    exact refOn_yes s h0 h1 hs A zs cap hl w hb
  · have hs' : Su.okS s = false := by simpa using hs
    have hv : Su.onV s zs = 0 := by unfold Su.onV; rw [if_neg hs]
    have G := Lib.hid (fun w => refGood_any s h0 h1 w)
    rw [hv, hs']
    rw [hs'] at G
    clear hv hs hs' hb
    go_enter Tryd.func80, Tryd.ntmps80
    go_wp2_with fail
    refine (G.out _).mono ?_; rintro e w' ⟨rfl, rfl⟩
    go_wp2
    go_ret2
    exact ⟨rfl, Below.refl _ _⟩
set_option maxHeartbeats 400000 in
theorem refSum_any (A : Option Addr) (zs : List Int) (cap : Nat) (hl : zs.length ≤ 9223372036854775807) (w : World) (hb : Bytes w w.heap.size A zs) :
    Calls Tryd.prog 52 #[.slice A zs.length cap] w fun e w' => e = .returned (.int .u32 (Su.ofV zs)) ∧ Below w.heap.size w w' := by
  have X := Lib.hid (refOn_yes 1 (by decide) (by decide) (by decide) A zs cap hl w hb)
  have hv : Su.ext 1 zs = Su.ofV zs := rfl
  rw [hv] at X
  clear hv hb
  generalize Su.ofV zs = v at *
  go_enter Tryd.func52, Tryd.ntmps52
  go_wp2_with fail
  refine X.out.mono ?_; rintro e w' ⟨rfl, hb⟩
  go_wp2
  go_ret
  exact ⟨rfl, hb⟩

end Go.Proofs.YtlaomaefhanacaaDoor
