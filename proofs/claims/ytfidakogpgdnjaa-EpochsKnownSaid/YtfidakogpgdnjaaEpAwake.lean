/-
  The layer's example, which every law of it asks first: it comes out true.
-/
import Derived.Test.YtfidakogpgdnjaaEpOf
namespace Go.Proofs.Ytfidakogpgdnjaa
open Go.RowKit
set_option maxHeartbeats 400000 in
theorem pk_any (e o : Int) (w : World) : Calls Try.prog 9 #[.int .i64 e, .int .i64 o] w fun e' w' => e' = .returned (.int .u64 (Pl.packV e o)) ∧ w = w' := by
  have P := pack_any e o
  generalize Pl.packV e o = v at *
  generalize Pl.packOk e o = k at *
  go_enter Try.func9, Try.ntmps9
  go_wp2_with fail
  refine (P _).mono ?_; rintro e' w' ⟨rfl, rfl⟩
  go_wp2
  go_ret
  exact ⟨rfl, rfl⟩
theorem Sts.new (w : World) (zs : List Int) (hz : ∀ i, i < zs.length → 0 ≤ zs.getD i 0 ∧ zs.getD i 0 < 18446744073709551616) (fr : Nat × Nat) (cs : Array Value) (hc : cs = (zs.map (Value.int .u64)).toArray) :
    Sts (w.alloc (.cells cs 29 fr)) (w.heap.size + 1) (some ⟨w.heap.size, 0, none⟩) zs := by
  subst hc
  refine ⟨hz, fun _ => ⟨w.heap.size, 0, rfl, by omega, fun i hi => ?_⟩⟩
  rw [Nat.zero_add, World.cell?_alloc_mark]
  simp [hi]
theorem Sts.size_ {w : World} {A : Option Addr} {zs : List Int} {o : Obj} (h : Sts (w.alloc o) (w.heap.size + 1) A zs) : Sts (w.alloc o) (w.alloc o).heap.size A zs := by rw [World.size_alloc]; exact h
theorem awake_of : Ep.ofV [17592186044416, 17592186044417, 35184372088834] = some ([17592186044416, 35184372088834], 3) := by decide
set_option maxHeartbeats 4000000 in
set_option maxRecDepth 20000 in
theorem awake_any (w : World) : Calls Try.prog 7 #[] w (BoolB w true) := by
  have K1 : Hid (∀ W, Calls Try.prog 9 #[.int .i64 1, .int .i64 0] W fun e' w' => e' = .returned (.int .u64 17592186044416) ∧ W = w') := Lib.hid (pk_any 1 0)
  have K2 : Hid (∀ W, Calls Try.prog 9 #[.int .i64 1, .int .i64 1] W fun e' w' => e' = .returned (.int .u64 17592186044417) ∧ W = w') := Lib.hid (pk_any 1 1)
  have K3 : Hid (∀ W, Calls Try.prog 9 #[.int .i64 2, .int .i64 2] W fun e' w' => e' = .returned (.int .u64 35184372088834) ∧ W = w') := Lib.hid (pk_any 2 2)
  have OF : Hid (∀ W : World, Calls Try.prog 8 #[.slice (some ⟨W.heap.size, 0, none⟩) 3 3] (W.alloc (.cells #[.int .u64 17592186044416, .int .u64 17592186044417, .int .u64 35184372088834] 29)) (TabPost (W.alloc (.cells #[.int .u64 17592186044416, .int .u64 17592186044417, .int .u64 35184372088834] 29)) [17592186044416, 35184372088834] 3 true)) := Lib.hid fun W => by
    have := of_any (some ⟨W.heap.size, 0, none⟩) [17592186044416, 17592186044417, 35184372088834] 3 (by decide) _ (Sts.new W [17592186044416, 17592186044417, 35184372088834] (by decide) (0, 0) _ rfl).size_
    rw [awake_of] at this
    exact this
  go_enter Try.func7, Try.ntmps7
  go_wp2_with fail
  (with_reducible refine (K1.out _).mono ?_); rintro e w' ⟨rfl, rfl⟩
  go_wp2_with fail
  (with_reducible refine (K2.out _).mono ?_); rintro e w' ⟨rfl, rfl⟩
  go_wp2_with fail
  (with_reducible refine (K3.out _).mono ?_); rintro e w' ⟨rfl, rfl⟩
  go_wp2_with fail
  (with_reducible refine (OF.out _).mono ?_); rintro e w1 ⟨A, cap, rfl, ho, hb⟩
  have B1 : Hid (Below w.heap.size w w1) := Lib.hid (((Below.refl _ w).alloc (Nat.le_refl _) _).trans (hb.out.mono (by simp)))
  clear hb
  go_wp2_with fail
  obtain ⟨X, hX⟩ : ∃ X, X = w1.heap.size := ⟨_, rfl⟩
  obtain ⟨W2, hW2⟩ : ∃ W2, W2 = w1.alloc (.cells #[.slice A 2 cap, .int .i64 3] 25) := ⟨_, rfl⟩
  rw [← hX, ← hW2]
  have P2 : Hid (W2.heap[X]? = some (.cells #[.slice A 2 cap, .int .i64 3] 25 (0, 0))) := Lib.hid (by rw [hW2, hX]; exact heap_alloc_new ..)
  have BL : Hid (Below w1.heap.size w1 W2) := Lib.hid (by rw [hW2]; exact (Below.refl _ _).alloc (Nat.le_refl _) _)
  have ST : Hid (Sts W2 W2.heap.size A [17592186044416, 35184372088834]) := Lib.hid (ho.out.sts.on BL.out)
  have B2 : Hid (Below w.heap.size w W2) := Lib.hid (B1.out.trans (BL.out.mono B1.out.size))
  have GD : Hid (Calls Try.prog 13 #[.agg #[.slice A 2 cap, .int .i64 3]] W2.drew (BoolB W2.drew true)) := Lib.hid (good_any A [17592186044416, 35184372088834] cap 3 (by decide) W2.drew ST.out)
  clear hX hW2 ho B1 BL K1 K2 K3 OF
  have K1 : Hid (∀ W, Calls Try.prog 9 #[.int .i64 1, .int .i64 0] W fun e' w' => e' = .returned (.int .u64 17592186044416) ∧ W = w') := Lib.hid (pk_any 1 0)
  have K3 : Hid (∀ W, Calls Try.prog 9 #[.int .i64 2, .int .i64 2] W fun e' w' => e' = .returned (.int .u64 35184372088834) ∧ W = w') := Lib.hid (pk_any 2 2)
  obtain ⟨b, off, rfl, hb, hcs⟩ := ST.out.2 (by decide)
  have c0 := hcs 0 (by decide)
  have c1 := hcs 1 (by decide)
  have S0 : Hid ((W2.drew.cell? ⟨X, 0, none⟩ = some (.slice (some ⟨b, off, none⟩) 2 cap) ∧ W2.drew.cell? ⟨X, 1, none⟩ = some (.int .i64 3)) ∧ W2.drew.cell? ⟨b, off, none⟩ = some (.int .u64 17592186044416) ∧ W2.drew.cell? ⟨b, off + 1, none⟩ = some (.int .u64 35184372088834)) := Lib.hid ⟨(ob2 (w := W2) P2.out).1, c0, c1⟩
  have HBX : Hid (b < W2.heap.size ∧ X < W2.heap.size) := Lib.hid ⟨hb, lt_of_block P2.out⟩
  clear c0 c1 hcs ST hb P2
  go_region_held3 (fun w' => (w'.cell? ⟨X, 0, none⟩ = some (.slice (some ⟨b, off, none⟩) 2 cap) ∧ w'.cell? ⟨X, 1, none⟩ = some (.int .i64 3)) ∧ w'.cell? ⟨b, off, none⟩ = some (.int .u64 17592186044416) ∧ w'.cell? ⟨b, off + 1, none⟩ = some (.int .u64 35184372088834)) ((first | exact S0.out | exact S3.out | go_keep))
    (first
      | (go_simp; go_at_call 9; (with_reducible refine (K1.out _).mono ?_); rintro e w3 ⟨rfl, rfl⟩)
      | (go_simp; go_at_call 9; (with_reducible refine (K3.out _).mono ?_); rintro e w3 ⟨rfl, rfl⟩)
      | (go_simp; go_at_call 13; (with_reducible refine GD.out.mono ?_); rintro e w4 ⟨rfl, b4⟩; have S3 : Hid ((w4.cell? ⟨X, 0, none⟩ = some (.slice (some ⟨b, off, none⟩) 2 cap) ∧ w4.cell? ⟨X, 1, none⟩ = some (.int .i64 3)) ∧ w4.cell? ⟨b, off, none⟩ = some (.int .u64 17592186044416) ∧ w4.cell? ⟨b, off + 1, none⟩ = some (.int .u64 35184372088834)) := Lib.hid ⟨⟨(b4.out.cell (p := ⟨X, 0, none⟩) HBX.out.2).trans S0.out.1.1, (b4.out.cell (p := ⟨X, 1, none⟩) HBX.out.2).trans S0.out.1.2⟩, (b4.out.cell (p := ⟨b, off, none⟩) HBX.out.1).trans S0.out.2.1, (b4.out.cell (p := ⟨b, off + 1, none⟩) HBX.out.1).trans S0.out.2.2⟩))
  go_wp2
  go_ret
  exact ⟨rfl, Lib.hid (B2.out.drew.trans (b4.out.mono B2.out.size))⟩
end Go.Proofs.Ytfidakogpgdnjaa
