/-
  The law SumParts: the checksum of two parts is that of the whole; with one byte changed, that of the changed string, which is another one exactly if the byte is.
-/
import Derived.Test.YtlhoeekeafjogaaSumKnown
import Derived.Test.YtlhoeekeafjogaaSumOwn
import Derived.Deep.QuietTactic
import Derived.BigQuiet
import Derived.Deep.Cut
namespace Go.Proofs.Ytlhoeekeafjogaa
open Go.RowKit
theorem below_dn {B : Nat} {a w : World} (h : Below B a w) (n : Nat) : Below B a (w.drewN n) := ⟨h.os, h.tape, h.output, h.size, h.block⟩
/-- A call that changes nothing, inside a region that draws, in a world that holds what the call reads. -/
theorem stillB {P : Program} {f : FuncId} {args : Array Value} {w W : World} {n : Nat} {v : Value} (hb : Below w.heap.size w W) (h : ∀ W, Below w.heap.size w W → Calls P f args W fun e w' => e = .returned v ∧ W = w') :
    Calls P f args (W.drewN n) fun e w' => e = .returned v ∧ ∃ m, w' = W.drewN m :=
  (h _ (below_dn hb n)).mono fun _ _ ⟨he, hm⟩ => ⟨he, n, hm.symm⟩
theorem stillP {P : Program} {f : FuncId} {args : Array Value} {W : World} {n : Nat} {v : Value} (h : ∀ W, Calls P f args W fun e w' => e = .returned v ∧ W = w') :
    Calls P f args (W.drewN n) fun e w' => e = .returned v ∧ ∃ m, w' = W.drewN m :=
  (h _).mono fun _ _ ⟨he, hm⟩ => ⟨he, n, hm.symm⟩
set_option maxHeartbeats 2000000 in
set_option maxRecDepth 100000 in
theorem parts_core (w : World) (b off : Nat) (zs : List Int) (cap cut i n : Nat) (v z S H T U : Int) (hn : n ≤ 3000) (hnl : zs.length = n) (hcap : n ≤ cap) (hcut : cut ≤ n) (hi : i < n) (v0 : 0 ≤ v) (v1 : v ≤ 255)
    (hb : Bytes w w.heap.size (some ⟨b, off, none⟩) zs) (hbb : b < w.heap.size) (hc : w.cell? ⟨b, off + i, none⟩ = some (.int .u8 z))
    (ofz : ∀ W, Below w.heap.size w W → Calls Try.prog 12 #[.slice (some ⟨b, off, none⟩) n cap] W fun e w' => e = .returned (.int .u32 S) ∧ W = w')
    (ofh : ∀ W, Below w.heap.size w W → Calls Try.prog 12 #[.slice (some ⟨b, off, none⟩) cut cap] W fun e w' => e = .returned (.int .u32 H) ∧ W = w')
    (oft : ∀ W, Below w.heap.size w W → Calls Try.prog 12 #[.slice (tailA (some ⟨b, off, none⟩) cap cut) (n - cut) (cap - cut)] W fun e w' => e = .returned (.int .u32 T) ∧ W = w')
    (jn : ∀ W, Calls Try.prog 10 #[.int .u32 H, .int .u32 T, .int .i64 ((n : Int) - (cut : Int))] W fun e w' => e = .returned (.tuple #[.int .u32 S, .bool true]) ∧ W = w')
    (on : ∀ W, Below w.heap.size w W → Calls Try.prog 9 #[.int .u32 H, .slice (tailA (some ⟨b, off, none⟩) cap cut) (n - cut) (cap - cut)] W fun e w' => e = .returned (.tuple #[.int .u32 S, .bool true]) ∧ W = w')
    (tn : ∀ W, Calls Try.prog 11 #[.int .u32 S, .int .i64 (n : Int), .int .i64 (i : Int), .int .u8 z, .int .u8 v] W fun e w' => e = .returned (.tuple #[.int .u32 U, .bool true]) ∧ W = w')
    (ofc : ∀ W D k m, m = n → Bytes W W.heap.size D (([] ++ zs).set i v) → Calls Try.prog 12 #[.slice D m k] W fun e w' => e = .returned (.int .u32 U) ∧ W = w')
    (gd : ∀ W, Calls Try.prog 13 #[.int .u32 S] W fun e w' => e = .returned (.bool true) ∧ W = w')
    (same : (U == S) = (z == v)) :
    Calls Try.prog 5 #[.slice (some ⟨b, off, none⟩) n cap, .int .i64 (cut : Int), .int .i64 (i : Int), .int .u8 v] w fun e w' => e = .returned (.bool true) ∧ Below w.heap.size w w' := by
  have n1 : (n : Int) ≤ 3000 := by omega
  have c1 : (cut : Int) ≤ (n : Int) := by omega
  have i1 : (i : Int) < (n : Int) := by omega
  have HB := Lib.hid hb
  have OZ := Lib.hid ofz
  have OH := Lib.hid ofh
  have OT := Lib.hid oft
  have JN := Lib.hid jn
  have ON := Lib.hid on
  have TN := Lib.hid tn
  have OC := Lib.hid ofc
  have GD := Lib.hid gd
  have SM := Lib.hid same
  have NL := Lib.hid hnl
  have HC := Lib.hid hc
  clear hb ofz ofh oft jn on tn ofc gd same hnl hc
  go_enter Try.func5, Try.ntmps5
  go_wp2_with fail
  refine (awake_any _).mono ?_; rintro e w1 ⟨rfl, b1⟩
  have B1 := Lib.hid b1
  clear b1
  go_wp2_with fail
  refine (OZ.out _ B1.out).mono ?_; rintro e w' ⟨rfl, rfl⟩
  go_wp2_with fail
  have sto := fun W => slice_to (some ⟨b, off, none⟩) n cap cut (by omega) W
  have sfr := fun W => slice_from (some ⟨b, off, none⟩) n cap cut hcut W
  have t1 : IntKind.i64.wrap ((n : Int) - (cut : Int)) = (n : Int) - (cut : Int) := IntWalk.i64_in _ (by omega)
  go_quiet ((first | (go_at_call 12; with_reducible exact stillB B1.out OH.out) | (go_at_call 12; with_reducible exact stillB B1.out OT.out) | (go_at_call 10; exact stillP JN.out)))
  generalize hw2 : World.drewN w1 _ = w2
  have B2 : Hid (Below w.heap.size w w2) := Lib.hid (by rw [← hw2]; exact below_dn B1.out _)
  clear hw2 B1
  go_wp2_with fail
  go_quiet ((first | (go_at_call 12; with_reducible exact stillB B2.out OH.out) | (go_at_call 9; with_reducible exact stillB B2.out ON.out)))
  generalize hw3 : World.drewN w2 _ = w3
  have B3 : Hid (Below w.heap.size w w3) := Lib.hid (by rw [← hw3]; exact below_dn B2.out _)
  clear hw3 B2 sto sfr t1
  have hs3 := B3.out.size
  go_upto_region 9 with (at_builtin; refine wp_app rfl (.tmp 71) (.tmp 72) rfl rfl rfl (OwnB.start w3 w.heap.size hs3) (by simp; omega) rfl NL.out.symm ((HB.out.below B3.out).below ((Below.refl _ _).alloc hs3 _)) (by have := NL.out; simp; omega) ?_; intro A4 c4 w4 o4 d4; have B4 := Lib.hid (B3.out.trans (((Below.refl _ _).alloc hs3 _).trans d4)); have O4 := Lib.hid o4; clear o4 d4)
  have i2 : (i : Int) < (zs.length : Int) := by rw [NL.out]; exact i1
  obtain ⟨g, rfl, hg1, hg2⟩ := O4.out.shape (by simp; omega)
  obtain ⟨cc, cf⟩ := O4.out.cell (j := i) (by simp; omega)
  generalize ([] ++ zs).getD i 0 = y0 at cc
  go_upto_region 10 with fail
  generalize hw5 : World.setCell w4 _ _ = w5
  have O5 : Hid (OwnB w5 w.heap.size (some ⟨g, 0, none⟩) c4 (([] ++ zs).set i v)) := Lib.hid (by rw [← hw5]; exact O4.out.stored i v v0 v1)
  have B5 : Hid (Below w.heap.size w w5) := Lib.hid (by rw [← hw5]; exact B4.out.setCell hg1 _)
  have hc5 : w5.cell? ⟨b, off + i, none⟩ = some (.int .u8 z) := (B5.out.cell hbb).trans HC.out
  clear hw5 O4 B4 cc cf hg1 hg2
  go_wp2_with fail
  refine (TN.out _).mono ?_; rintro e w' ⟨rfl, rfl⟩
  go_wp2_with fail
  refine (OC.out _ _ _ _ NL.out O5.out.bytes).mono ?_; rintro e w' ⟨rfl, rfl⟩
  have same := SM.out
  go_wp2_with fail
  refine (GD.out _).mono ?_; rintro e w' ⟨rfl, rfl⟩
  go_wp2
  go_ret
  exact ⟨rfl, B5.out⟩
set_option maxHeartbeats 1000000 in
theorem parts_out (w : World) (A : Option Addr) (n cap : Nat) (cut i v : Int)
    (h : (3000 : Int) < (n : Int) ∨ ((n : Int) ≤ 3000 ∧ cut < 0) ∨ ((n : Int) ≤ 3000 ∧ 0 ≤ cut ∧ (n : Int) < cut) ∨ ((n : Int) ≤ 3000 ∧ 0 ≤ cut ∧ cut ≤ (n : Int) ∧ i < 0) ∨ ((n : Int) ≤ 3000 ∧ 0 ≤ cut ∧ cut ≤ (n : Int) ∧ 0 ≤ i ∧ (n : Int) ≤ i)) :
    Calls Try.prog 5 #[.slice A n cap, .int .i64 cut, .int .i64 i, .int .u8 v] w fun e w' => e = .returned (.bool true) ∧ Below w.heap.size w w' := by
  rcases h with h1 | ⟨h1, h2⟩ | ⟨h1, h2, h3⟩ | ⟨h1, h2, h3, h4⟩ | ⟨h1, h2, h3, h4, h5⟩
  all_goals
    go_enter Try.func5, Try.ntmps5
    go_wp2_with fail
    refine (awake_any _).mono ?_; rintro e w1 ⟨rfl, b1⟩
    go_wp2
    go_ret
    exact ⟨rfl, b1⟩
theorem turn_of_any (zs : List Int) (i : Nat) (v n : Int) (hi : i < zs.length) (hn : n = zs.length) (hl : zs.length ≤ 3000) (z : Int) (hz : zs.getD i 0 = z) (z0 : 0 ≤ z) (z1 : z ≤ 255) (v0 : 0 ≤ v) (v1 : v ≤ 255) (w : World) :
    Calls Try.prog 11 #[.int .u32 (Su.ofV zs), .int .i64 n, .int .i64 (i : Int), .int .u8 z, .int .u8 v] w fun e w' => e = .returned (.tuple #[.int .u32 (Su.ofV (zs.set i v)), .bool true]) ∧ w = w' := by
  obtain ⟨h1, h2⟩ := Su.turn_of zs i v n hi hn
  subst hz
  have := turn_any (Su.ofV zs) n i (zs.getD i 0) v (Su.ofV_range zs).1 (Su.ofV_range zs).2 (by omega) z0 z1 v0 v1 w
  rw [h1, h2] at this
  exact this
theorem parts_walk (w : World) (A : Option Addr) (zs : List Int) (cap : Nat) (cut i v : Int) (_hl : zs.length ≤ 9223372036854775807) (hcap : zs.length ≤ cap) (hb : Bytes w w.heap.size A zs) (v0 : 0 ≤ v) (v1 : v < 256) :
    Calls Try.prog 5 #[.slice A zs.length cap, .int .i64 cut, .int .i64 i, .int .u8 v] w fun e w' => e = .returned (.bool true) ∧ Below w.heap.size w w' := by
  by_cases h : zs.length ≤ 3000 ∧ 0 ≤ cut ∧ cut ≤ (zs.length : Int) ∧ 0 ≤ i ∧ i < (zs.length : Int)
  · obtain ⟨h1, h2, h3, h4, h5⟩ := h
    obtain ⟨k, rfl⟩ := Int.eq_ofNat_of_zero_le h2
    obtain ⟨j, rfl⟩ := Int.eq_ofNat_of_zero_le h4
    have hj : j < zs.length := by omega
    have hk : k ≤ zs.length := by omega
    obtain ⟨b, off, z, rfl, hbb, hc, hz, z0, z1⟩ := hb.at_ hj
    have hzz := hz.out
    have e1 : (zs.take k).length = k := by simp; omega
    have e2 : (zs.drop k).length = zs.length - k := by simp
    have e3 : zs.take k ++ zs.drop k = zs := List.take_append_drop k zs
    have oh : ∀ W, Below w.heap.size w W → Calls Try.prog 12 #[.slice (some ⟨b, off, none⟩) k cap] W fun e w' => e = .returned (.int .u32 (Su.ofV (zs.take k))) ∧ W = w' := fun W hW => by
      have := of_any _ (some ⟨b, off, none⟩) (zs.take k) cap (by omega) W ((hb.head k).below hW)
      rw [e1] at this
      exact this
    have ot : ∀ W, Below w.heap.size w W → Calls Try.prog 12 #[.slice (tailA (some ⟨b, off, none⟩) cap k) (zs.length - k) (cap - k)] W fun e w' => e = .returned (.int .u32 (Su.ofV (zs.drop k))) ∧ W = w' := fun W hW => by
      have := of_any _ (tailA (some ⟨b, off, none⟩) cap k) (zs.drop k) (cap - k) (by omega) W ((hb.tail k cap hcap).below hW)
      rw [e2] at this
      exact this
    have jn : ∀ W, Calls Try.prog 10 #[.int .u32 (Su.ofV (zs.take k)), .int .u32 (Su.ofV (zs.drop k)), .int .i64 ((zs.length : Int) - (k : Int))] W fun e w' => e = .returned (.tuple #[.int .u32 (Su.ofV zs), .bool true]) ∧ W = w' := fun W => by
      obtain ⟨g1, g2⟩ := Su.join_of (zs.take k) (zs.drop k) ((zs.length : Int) - (k : Int)) (by omega)
      have := join_any _ _ ((zs.length : Int) - (k : Int)) (Su.ofV_range (zs.take k)).1 (Su.ofV_range (zs.take k)).2 (Su.ofV_range (zs.drop k)).1 (Su.ofV_range (zs.drop k)).2 W
      rw [g1, g2, e3] at this
      exact this
    have on : ∀ W, Below w.heap.size w W → Calls Try.prog 9 #[.int .u32 (Su.ofV (zs.take k)), .slice (tailA (some ⟨b, off, none⟩) cap k) (zs.length - k) (cap - k)] W fun e w' => e = .returned (.tuple #[.int .u32 (Su.ofV zs), .bool true]) ∧ W = w' := fun W hW => by
      have := on_any _ (Su.ofV_range (zs.take k)).1 (Su.ofV_range (zs.take k)).2 _ (tailA (some ⟨b, off, none⟩) cap k) (zs.drop k) (cap - k) (by omega) W ((hb.tail k cap hcap).below hW)
      rw [e2, Su.on_of, e3, Su.ofV_ok] at this
      exact this
    refine parts_core w b off zs cap k j zs.length v z (Su.ofV zs) (Su.ofV (zs.take k)) (Su.ofV (zs.drop k)) (Su.ofV (zs.set j v)) h1 rfl hcap hk hj v0 (by omega) hb hbb.out hc
      (fun W hW => of_any _ _ zs cap (by omega) W (hb.below hW)) oh ot jn on (fun W => turn_of_any zs j v _ hj rfl h1 z hzz z0 z1 v0 (by omega) W) ?_ (fun W => ?_) ?_
    · intro W D c m hm hD
      rw [List.nil_append] at hD
      have := of_any _ D (zs.set j v) c (by simp; omega) W hD
      rw [List.length_set] at this
      subst hm
      exact this
    · have := good_any (Su.ofV zs) (Su.ofV_range zs).1 (Su.ofV_range zs).2 W
      rw [Su.ofV_ok] at this
      exact this
    · have := Su.set_same zs j v hj v0 (by omega) (by omega) (by omega)
      rw [hzz] at this
      rw [Bool.eq_iff_iff]
      simpa using this
  · exact parts_out w A zs.length cap cut i v (by omega)
end Go.Proofs.Ytlhoeekeafjogaa
