/-
  The layer's example, which every law of it asks first: it comes out true; below the heap's old size the world is as it was.
-/
import Derived.Test.YthenjipljkphiaaEncOut
import Derived.Test.YthenjipljkphiaaEncIn
namespace Go.Proofs.Ythenjipljkphiaa
open Go.RowKit
/-- A reader that the call has just laid, over a row of bytes. -/
theorem in_new {w : World} {B : Nat} {A : Option Addr} {zs : List Int} (t : TypeId) (cap n : Nat) (hn : n = zs.length) (hc : zs.length ≤ cap) (hl : zs.length ≤ 4611686018427387904) (hb : Bytes w B A zs) (hB : B ≤ w.heap.size) (b : Bool) :
    InAt (w.alloc (.cells #[.slice A n cap, .bool b] t)) t w.heap.size zs b := by
  subst hn
  refine ⟨A, cap, heap_alloc_new w _, hc, hl, ?_⟩
  exact (hb.below ((Below.refl _ _).alloc hB _)).more (by simp; omega)
theorem in_lit (w : World) (t : TypeId) (zs : List Int) (hz : zs.all isByte = true) (hl : zs.length ≤ 1000) (n : Nat) (hn : n = zs.length) (fr : Nat × Nat) (cs : Array Value) (hc : cs = (zs.map (Value.int .u8)).toArray) (b : Bool) :
    InAt ((w.alloc (.cells cs 5 fr)).alloc (.cells #[.slice (some ⟨w.heap.size, 0, none⟩) n n, .bool b] t)) t (w.heap.size + 1) zs b := by
  subst hn
  have h := in_new (w := w.alloc (.cells cs 5 fr)) t zs.length zs.length rfl (Nat.le_refl _) (by omega) (Bytes.new w zs hz fr cs hc) (by simp) b
  have e : (w.alloc (.cells cs 5 fr)).heap.size = w.heap.size + 1 := by simp
  rw [e] at h
  exact h
theorem leb300 : En.leb 300 = [172, 2] := by
  rw [En.leb_big 300 (by decide), En.leb_small (300 / 128) (by decide) (by decide)]; rfl
theorem dec300 : En.decU [172, 2] = (300, 2) := by decide
theorem out_new (w : World) (base : Nat) (hb : base ≤ w.heap.size) : OutOwn (w.alloc (.cells #[.slice none 0 0] 26)) base w.heap.size [] :=
  OutOwn.start (heap_alloc_new w _) (by simp; omega)
set_option maxHeartbeats 1000000 in
theorem awake_any (w : World) : Calls Try.prog 8 #[] w fun e w' => e = .returned (.bool true) ∧ Below w.heap.size w w' := by
  go_enter Try.func8, Try.ntmps8
  go_wp2_with fail
  refine (outU_any 300 (by decide) (by decide) w.heap.size w.heap.size [] (by decide) _ (out_new w _ (Nat.le_refl _)).at_).mono ?_; rintro e w2 ⟨rfl, hp⟩
  rw [List.nil_append, leb300] at hp
  have HP := Lib.hid hp
  obtain ⟨A, cap, ho, hbase, hrow⟩ := hp.1
  clear hp
  obtain ⟨c0, f0⟩ := obj1 ho
  obtain ⟨r, rfl, hr1, hr2⟩ := hrow.shape (by decide)
  have k0 := (hrow.cell (j := 0) (by decide)).1
  have k1 := (hrow.cell (j := 1) (by decide)).1
  have BL : Below w.heap.size w w2 := (((Below.refl _ _).alloc (Nat.le_refl _) _).trans (HP.out.2.below (Nat.le_refl _) (Nat.le_refl _)))
  have BH := Lib.hid BL
  have hw2 : w.heap.size < w2.heap.size := by have := HP.out.2.size; simp at this; omega
  have hw3 : w.heap.size < w2.heap.size + 1 := by omega
  have hr3 : r < w2.heap.size + 1 := by omega
  clear ho hrow hbase BL f0
  go_wp2_with fail
  refine (inU_any _ [172, 2] false _ (in_lit w2 _ [172, 2] (by decide) (by decide) 2 rfl _ _ rfl false)).mono ?_; rintro e w3 ⟨rfl, hq⟩
  have v1 : En.valU [172, 2] false = 300 := by decide
  have v2 : En.restU [172, 2] false = [] := by decide
  have v3 : (!En.okU [172, 2] false) = false := by decide
  rw [v2, v3] at hq
  rw [v1]
  have HQ := Lib.hid hq
  clear hq v1 v2 v3
  go_wp2_with fail
  refine (inEnd_any _ _ _ _ _ HQ.out.1).mono ?_; rintro e w' ⟨rfl, rfl⟩
  have v4 : En.isEnd [] false = true := by decide
  rw [v4]
  clear v4
  go_wp2
  go_ret
  have hs := BH.out.size
  exact ⟨rfl, (((BH.out.alloc hs _).alloc (by simp; omega) _).trans (HQ.out.2.below (by simp; omega) (by omega)))⟩
end Go.Proofs.Ythenjipljkphiaa
