/-
  Package sum's On, Of and Good at every argument, for the seats of the layers above it: the same plain numbers as in chapter 2.
-/
import Derived.Test.YtlaomaefhanacaaDoorBytesKit
import Derived.Test.YtlaomaefhanacaaDoorSumPlain
namespace Go.Proofs.YtlaomaefhanacaaDoor
open Go.RowKit

set_option maxHeartbeats 400000 in
theorem good_any (s : Int) (h0 : 0 ≤ s) (h1 : s < 4294967296) (w : World) :
    Calls Tryd.prog 81 #[.int .u32 s] w fun e w' => e = .returned (.bool (Su.okS s)) ∧ w = w' := by
  by_cases h : s / 65536 < 65521
  · go_enter Tryd.func81, Tryd.ntmps81
    go_wp2
    go_ret
    exact ⟨ret_bool (by simp [Su.okS, h]), rfl⟩
  · have h' : 65521 ≤ s / 65536 := by omega
    go_enter Tryd.func81, Tryd.ntmps81
    go_wp2
    go_ret
    exact ⟨ret_bool (by simp [Su.okS]; omega), rfl⟩

/-! ### extend: the loop over the bytes -/
/-- Where the loop stands in front of byte k: the two numbers. -/
def At (a0 c0 : Int) (zs : List Int) (k : Nat) (a c : Int) : Prop := Su.run a0 c0 (zs.take k) = (a, c) ∧ 0 ≤ a ∧ a < 65521 ∧ 0 ≤ c ∧ c < 65521
theorem At.next {a0 c0 : Int} {zs : List Int} {k : Nat} {a c z : Int} (h : At a0 c0 zs k a c) (hk : k < zs.length) (hz : zs.getD k 0 = z) :
    At a0 c0 zs (k + 1) ((a + z) % 65521) ((c + (a + z) % 65521) % 65521) := by
  refine ⟨?_, by omega, by omega, by omega, by omega⟩
  have e : zs.take (k + 1) = zs.take k ++ [z] := by
    rw [List.take_succ_eq_append_getElem hk]
    rw [List.getD_eq_getElem?_getD, List.getElem?_eq_getElem hk] at hz
    simp at hz
    rw [hz]
  rw [e, Su.run_app, h.1]
  rfl
theorem At.start {a0 c0 : Int} {zs : List Int} (h0 : 0 ≤ a0) (h1 : a0 < 65521) (h2 : 0 ≤ c0) (h3 : c0 < 65521) : At a0 c0 zs 0 a0 c0 := ⟨rfl, h0, h1, h2, h3⟩
theorem At.end_ {s : Int} {zs : List Int} {a c : Int} (h : At (s % 65536) (s / 65536) zs zs.length a c) : c * 65536 + a = Su.ext s zs := by
  unfold Su.ext
  rw [← List.take_length (l := zs), h.1]
  rfl
set_option maxHeartbeats 400000 in
theorem extend_any (s : Int) (h0 : 0 ≤ s) (h1 : s < 4294967296) (hs : Su.okS s = true) (B : Nat) (A : Option Addr) (zs : List Int) (cap : Nat) (hl : zs.length ≤ 9223372036854775807) (w : World) (hb : Bytes w B A zs) :
    Calls Tryd.prog 82 #[.int .u32 s, .slice A zs.length cap] w fun e w' => e = .returned (.int .u32 (Su.ext s zs)) ∧ w = w' := by
  have hs' := (Su.okS_iff s).1 hs
  have S0 := At.start (zs := zs) (a0 := s % 65536) (c0 := s / 65536) (by omega) hs'.2 (by omega) hs'.1
  have E0 := fun a c => At.end_ (s := s) (zs := zs) (a := a) (c := c)
  have S := Lib.hid S0
  have E := Lib.hid E0
  have H := Lib.hid hb
  clear hb hs hs' S0 E0
  go_enter Tryd.func82, Tryd.ntmps82
  go_wp2
  go_loop [5, 6, 15] (fun a c i => ∃ (k : Nat) (x y : Int), k ≤ zs.length ∧ At (s % 65536) (s / 65536) zs k x y ∧ i = .int .i64 k ∧ a = .int .u32 x ∧ c = .int .u32 y) (fun _ _ i => zs.length - (intOf i).toNat)
  case atStart => exact ⟨0, _, _, Nat.zero_le _, S.out, rfl, rfl, rfl⟩
  case round =>
    obtain ⟨k, x, y, hk, hat, rfl, rfl, rfl⟩ := hrel
    obtain ⟨x0, x1, y0, y1⟩ := hat.2
    have HA := Lib.hid hat
    clear hat
    by_cases hlt : k < zs.length
    · obtain ⟨b, off, z, rfl, hbb, hc, hz, z0, z1⟩ := H.out.at_ hlt
      go_wp2
      go_round
      case rel => exact ⟨k + 1, _, _, by omega, HA.out.next hlt hz.out, by go_num, rfl, rfl⟩
      case measure => simp [intOf]; omega
    · go_wp2
      go_ret
      have hkk : k = zs.length := by omega
      subst hkk
      exact ⟨ret_int (E.out _ _ HA.out), rfl⟩
/-! ### On, Of -/
set_option maxHeartbeats 400000 in
theorem on_any (s : Int) (h0 : 0 ≤ s) (h1 : s < 4294967296) (B : Nat) (A : Option Addr) (zs : List Int) (cap : Nat) (hl : zs.length ≤ 9223372036854775807) (w : World) (hb : Bytes w B A zs) :
    Calls Tryd.prog 53 #[.int .u32 s, .slice A zs.length cap] w fun e w' => e = .returned (.tuple #[.int .u32 (Su.onV s zs), .bool (Su.okS s)]) ∧ w = w' := by
  have G := Lib.hid (fun w => good_any s h0 h1 w)
  by_cases hs : Su.okS s = true
  · have X := Lib.hid (extend_any s h0 h1 hs B A zs cap hl w hb)
    have hv : Su.onV s zs = Su.ext s zs := by unfold Su.onV; rw [if_pos hs]
    rw [hv, hs]
    rw [hs] at G
    clear hv hs hb
    generalize Su.ext s zs = v at *
    go_enter Tryd.func53, Tryd.ntmps53
    go_wp2_with fail
    refine (G.out _).mono ?_; rintro e w' ⟨rfl, rfl⟩
    go_wp2_with fail
    refine X.out.mono ?_; rintro e w' ⟨rfl, rfl⟩
    go_wp2
    go_ret2
    exact ⟨rfl, rfl⟩
  · have hs' : Su.okS s = false := by simpa using hs
    have hv : Su.onV s zs = 0 := by unfold Su.onV; rw [if_neg hs]
    rw [hv, hs']
    rw [hs'] at G
    clear hv hs hs' hb
    go_enter Tryd.func53, Tryd.ntmps53
    go_wp2_with fail
    refine (G.out _).mono ?_; rintro e w' ⟨rfl, rfl⟩
    go_wp2
    go_ret2
    exact ⟨rfl, rfl⟩
set_option maxHeartbeats 400000 in
theorem of_any (B : Nat) (A : Option Addr) (zs : List Int) (cap : Nat) (hl : zs.length ≤ 9223372036854775807) (w : World) (hb : Bytes w B A zs) :
    Calls Tryd.prog 54 #[.slice A zs.length cap] w fun e w' => e = .returned (.int .u32 (Su.ofV zs)) ∧ w = w' := by
  have X := Lib.hid (extend_any 1 (by decide) (by decide) (by decide) B A zs cap hl w hb)
  have hv : Su.ext 1 zs = Su.ofV zs := rfl
  rw [hv] at X
  clear hv hb
  generalize Su.ofV zs = v at *
  go_enter Tryd.func54, Tryd.ntmps54
  go_wp2_with fail
  refine X.out.mono ?_; rintro e w' ⟨rfl, rfl⟩
  go_wp2
  go_ret
  exact ⟨rfl, rfl⟩

end Go.Proofs.YtlaomaefhanacaaDoor
