/-
  What each function of package sum does, and each of the reference's chapter 2, at every argument in range: the same whole numbers; the world is as it was. A row of bytes is told by 'Bytes': what it holds, nil and empty among them.
-/
import Derived.Test.YtlhoeekeafjogaaProg
import Derived.Test.YtlhoeekeafjogaaSumPlain
import Derived.WalkKit
import Derived.WalkSpells
import Derived.WalkLawsBesides
import Derived.Lib.Hide
namespace Go.Proofs.Ytlhoeekeafjogaa
open Go.RowKit

theorem ret_int {k : IntKind} {a b : Int} (h : a = b) : Ending.returned (.int k a) = .returned (.int k b) := by rw [h]
theorem ret_pair {k : IntKind} {a b : Int} {x y : Bool} (h : a = b) (h2 : x = y) : Ending.returned (.tuple #[.int k a, .bool x]) = .returned (.tuple #[.int k b, .bool y]) := by rw [h, h2]
theorem ret_two {k : IntKind} {a b c d : Int} (h : a = b) (h2 : c = d) : Ending.returned (.tuple #[.int k a, .int k c]) = .returned (.tuple #[.int k b, .int k d]) := by rw [h, h2]
theorem ret_bool {a b : Bool} (h : a = b) : Ending.returned (.bool a) = .returned (.bool b) := by rw [h]

/-- The slice at address A whose elements are the numbers zs, each a byte, below block B. -/
def Bytes (w : World) (B : Nat) (A : Option Addr) (zs : List Int) : Prop :=
  (∀ i, i < zs.length → 0 ≤ zs.getD i 0 ∧ zs.getD i 0 ≤ 255) ∧
  (0 < zs.length → ∃ b off, A = some ⟨b, off, none⟩ ∧ b < B ∧ ∀ i, i < zs.length → w.cell? ⟨b, off + i, none⟩ = some (.int .u8 (zs.getD i 0)))
theorem Bytes.at_ {w : World} {B : Nat} {A : Option Addr} {zs : List Int} {k : Nat} (h : Bytes w B A zs) (hk : k < zs.length) :
    ∃ b off z, A = some ⟨b, off, none⟩ ∧ Hid (b < B) ∧ w.cell? ⟨b, off + k, none⟩ = some (.int .u8 z) ∧ Hid (zs.getD k 0 = z) ∧ 0 ≤ z ∧ z ≤ 255 := by
  obtain ⟨b, off, e, hb, hc⟩ := h.2 (by omega)
  exact ⟨b, off, _, e, Lib.hid hb, hc k hk, Lib.hid rfl, (h.1 k hk).1, (h.1 k hk).2⟩
theorem Bytes.nil_ {w : World} {B : Nat} {A : Option Addr} : Bytes w B A [] := ⟨fun i h => by simp at h, fun h => by simp at h⟩
theorem Bytes.keep {w w' : World} {B : Nat} {A : Option Addr} {zs : List Int} (h : Bytes w B A zs) (hk : ∀ b off, b < B → w'.cell? ⟨b, off, none⟩ = w.cell? ⟨b, off, none⟩) : Bytes w' B A zs :=
  ⟨h.1, fun hn => by
    obtain ⟨b, off, e, hb, hc⟩ := h.2 hn
    exact ⟨b, off, e, hb, fun i hi => (hk b _ hb).trans (hc i hi)⟩⟩
theorem Bytes.below {w w' : World} {B : Nat} {A : Option Addr} {zs : List Int} (h : Bytes w B A zs) (hb : Below B w w') : Bytes w' B A zs :=
  h.keep fun b off hl => hb.cell (p := ⟨b, off, none⟩) hl
theorem Bytes.more {w : World} {B B' : Nat} {A : Option Addr} {zs : List Int} (h : Bytes w B A zs) (hB : B ≤ B') : Bytes w B' A zs :=
  ⟨h.1, fun hn => by
    obtain ⟨b, off, e, hb, hc⟩ := h.2 hn
    exact ⟨b, off, e, by omega, hc⟩⟩

/-! ### Good, split, residue, pack -/
set_option maxHeartbeats 400000 in
theorem good_any (s : Int) (h0 : 0 ≤ s) (h1 : s < 4294967296) (w : World) :
    Calls Try.prog 13 #[.int .u32 s] w fun e w' => e = .returned (.bool (Su.okS s)) ∧ w = w' := by
  by_cases h : s / 65536 < 65521
  · go_enter Try.func13, Try.ntmps13
    go_wp2
    go_ret
    exact ⟨ret_bool (by simp [Su.okS, h]), rfl⟩
  · have h' : 65521 ≤ s / 65536 := by omega
    go_enter Try.func13, Try.ntmps13
    go_wp2
    go_ret
    exact ⟨ret_bool (by simp [Su.okS]; omega), rfl⟩
set_option maxHeartbeats 400000 in
theorem split_any (s : Int) (h0 : 0 ≤ s) (h1 : s < 4294967296) (w : World) :
    Calls Try.prog 20 #[.int .u32 s] w fun e w' => e = .returned (.tuple #[.int .i64 (s % 65536), .int .i64 (s / 65536)]) ∧ w = w' := by
  go_enter Try.func20, Try.ntmps20
  go_wp2
  go_ret2
  exact ⟨rfl, rfl⟩
theorem tmod_mod (v : Int) : v.tmod 65521 % 65521 = v % 65521 := by
  have e := Int.tmod_add_tdiv_mul v 65521
  omega
set_option maxHeartbeats 400000 in
theorem residue_any (v : Int) (_h0 : -4611686018427387904 ≤ v) (_h1 : v ≤ 4611686018427387904) (w : World) :
    Calls Try.prog 25 #[.int .i64 v] w fun e w' => e = .returned (.int .u32 (v % 65521)) ∧ w = w' := by
  have ha : -65521 < v.tmod 65521 := by have := Int.lt_tmod_of_pos v (b := 65521) (by decide); omega
  have hb : v.tmod 65521 < 65521 := Int.tmod_lt_of_pos v (by decide)
  go_enter Try.func25, Try.ntmps25
  go_wp2
  go_ret
  exact ⟨ret_int (tmod_mod v), rfl⟩
set_option maxHeartbeats 400000 in
theorem pack_any (a c : Int) (h0 : -4611686018427387904 ≤ a) (h1 : a ≤ 4611686018427387904) (h2 : -4611686018427387904 ≤ c) (h3 : c ≤ 4611686018427387904) (w : World) :
    Calls Try.prog 21 #[.int .i64 a, .int .i64 c] w fun e w' => e = .returned (.int .u32 (Su.word (a % 65521, c % 65521))) ∧ w = w' := by
  have ra := Lib.hid (residue_any a h0 h1)
  have rc := Lib.hid (residue_any c h2 h3)
  have ea : Su.word (a % 65521, c % 65521) = c % 65521 * 65536 + a % 65521 := rfl
  rw [ea]; clear ea
  have ha0 : 0 ≤ a % 65521 := by omega
  have ha1 : a % 65521 < 65521 := by omega
  have hc0 : 0 ≤ c % 65521 := by omega
  have hc1 : c % 65521 < 65521 := by omega
  clear h0 h1 h2 h3
  generalize a % 65521 = x at *
  generalize c % 65521 = y at *
  go_enter Try.func21, Try.ntmps21
  go_wp2_with fail
  refine (rc.out _).mono ?_; rintro e w' ⟨rfl, rfl⟩
  go_wp2_with fail
  refine (ra.out _).mono ?_; rintro e w' ⟨rfl, rfl⟩
  go_wp2
  go_ret
  exact ⟨rfl, rfl⟩

/-! ### extend: the loop over the bytes -/
/-- Where the loop stands in front of byte k: the two numbers. -/
def At (a0 c0 : Int) (zs : List Int) (k : Nat) (a c : Int) : Prop := Su.run a0 c0 (zs.take k) = (a, c) ∧ 0 ≤ a ∧ a < 65521 ∧ 0 ≤ c ∧ c < 65521
theorem At.next {a0 c0 : Int} {zs : List Int} {k : Nat} {a c z : Int} (h : At a0 c0 zs k a c) (hk : k < zs.length) (hz : zs.getD k 0 = z) :
    At a0 c0 zs (k + 1) ((a + z) % 65521) ((c + (a + z) % 65521) % 65521) := by
  refine ⟨?_, by omega, by omega, by omega, by omega⟩
  have e : zs.take (k + 1) = zs.take k ++ [z] := by
    rw [List.take_succ_eq_append_getElem hk]
    rw [List.getD_eq_getElem?_getD, List.getElem?_eq_getElem hk] at hz
    simp at hz
    rw [hz]
  rw [e, Su.run_app, h.1]
  rfl
theorem At.start {a0 c0 : Int} {zs : List Int} (h0 : 0 ≤ a0) (h1 : a0 < 65521) (h2 : 0 ≤ c0) (h3 : c0 < 65521) : At a0 c0 zs 0 a0 c0 := ⟨rfl, h0, h1, h2, h3⟩
theorem At.end_ {s : Int} {zs : List Int} {a c : Int} (h : At (s % 65536) (s / 65536) zs zs.length a c) : c * 65536 + a = Su.ext s zs := by
  unfold Su.ext
  rw [← List.take_length (l := zs), h.1]
  rfl
set_option maxHeartbeats 400000 in
theorem extend_any (s : Int) (h0 : 0 ≤ s) (h1 : s < 4294967296) (hs : Su.okS s = true) (B : Nat) (A : Option Addr) (zs : List Int) (cap : Nat) (hl : zs.length ≤ 9223372036854775807) (w : World) (hb : Bytes w B A zs) :
    Calls Try.prog 19 #[.int .u32 s, .slice A zs.length cap] w fun e w' => e = .returned (.int .u32 (Su.ext s zs)) ∧ w = w' := by
  have hs' := (Su.okS_iff s).1 hs
  have S0 := At.start (zs := zs) (a0 := s % 65536) (c0 := s / 65536) (by omega) hs'.2 (by omega) hs'.1
  have E0 := fun a c => At.end_ (s := s) (zs := zs) (a := a) (c := c)
  have S := Lib.hid S0
  have E := Lib.hid E0
  have H := Lib.hid hb
  clear hb hs hs' S0 E0
  go_enter Try.func19, Try.ntmps19
  go_wp2
  go_loop [5, 6, 15] (fun a c i => ∃ (k : Nat) (x y : Int), k ≤ zs.length ∧ At (s % 65536) (s / 65536) zs k x y ∧ i = .int .i64 k ∧ a = .int .u32 x ∧ c = .int .u32 y) (fun _ _ i => zs.length - (intOf i).toNat)
  case atStart => exact ⟨0, _, _, Nat.zero_le _, S.out, rfl, rfl, rfl⟩
  case round =>
    obtain ⟨k, x, y, hk, hat, rfl, rfl, rfl⟩ := hrel
    obtain ⟨x0, x1, y0, y1⟩ := hat.2
    have HA := Lib.hid hat
    clear hat
    by_cases hlt : k < zs.length
    · obtain ⟨b, off, z, rfl, hbb, hc, hz, z0, z1⟩ := H.out.at_ hlt
      go_wp2
      go_round
      case rel => exact ⟨k + 1, _, _, by omega, HA.out.next hlt hz.out, by go_num, rfl, rfl⟩
      case measure => simp [intOf]; omega
    · go_wp2
      go_ret
      have hkk : k = zs.length := by omega
      subst hkk
      exact ⟨ret_int (E.out _ _ HA.out), rfl⟩
end Go.Proofs.Ytlhoeekeafjogaa
