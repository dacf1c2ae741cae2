/-
  The laws' own: awake.
-/
import Derived.Test.YtgeefkfolejbnaaToProg
import Derived.Test.YtgeefkfolejbnaaToInts
namespace Go.Proofs.Ytgeefkfolejbnaa
open Go.RowKit
theorem small_E (es : List (Int × Int)) (h : (es.all fun e => decide (-100 ≤ e.1 ∧ e.1 ≤ 100 ∧ -100 ≤ e.2 ∧ e.2 ≤ 100)) = true) : ∀ e ∈ es, inE e := fun e he => by
  have := List.all_eq_true.1 h e he
  simp only [decide_eq_true_eq] at this
  exact ⟨⟨by omega, by omega⟩, ⟨by omega, by omega⟩⟩
theorem small_Z (zs : List Int) (h : (zs.all fun z => decide (-100 ≤ z ∧ z ≤ 100)) = true) : ∀ z ∈ zs, inI z := fun z hz => by
  have := List.all_eq_true.1 h z hz
  simp only [decide_eq_true_eq] at this
  exact ⟨by omega, by omega⟩
theorem Below.new (w : World) (o : Obj) : Below w.heap.size w (w.alloc o) := (Below.refl _ _).alloc (Nat.le_refl _) _
def NumY (w : World) (p : Nat) (e : Ending) (w' : World) : Prop := e = .returned (.tuple #[.int .u64 (p : Int), .bool true]) ∧ Hid (Below w.heap.size w w')
theorem NumG.yes {w w' : World} {p : Nat} {e : Ending} (h : NumG w (some p) e w') : NumY w p e w' := h
theorem NumG.no {w w' : World} {e : Ending} (h : NumG w none e w') : NumN w e w' := h
theorem awake_order : To.orderI 3 [(2, 0)] = some [1, 2, 0] := by decide +kernel
set_option maxHeartbeats 4000000 in
theorem awake_any (w : World) : Calls Try.prog 8 #[] w (BoolG w true) := by
  obtain ⟨W1, hW1⟩ : ∃ W1, W1 = w.alloc (.cells #[.int .i64 2, .int .i64 0] 24) := ⟨_, rfl⟩
  obtain ⟨g, hg⟩ : ∃ g, g = w.heap.size := ⟨_, rfl⟩
  have E1 : Hid (Edg W1 W1.heap.size (some ⟨g, 0, none⟩) [(2, 0)]) := Lib.hid (by rw [hW1, hg]; exact (OwnE.lit (w := w) (T := 24) [(2, 0)] (small_E _ (by decide)) (by decide) _ rfl).edg)
  have B1 : Hid (Below w.heap.size w W1) := Lib.hid (by rw [hW1]; exact Below.new _ _)
  have OR : Hid (Calls Try.prog 9 #[.agg #[.int .i64 3, .slice (some ⟨g, 0, none⟩) 1 1]] W1 (OptY W1 [1, 2, 0] 3)) := Lib.hid ((order_any 3 (some ⟨g, 0, none⟩) [(2, 0)] 1 (by decide) W1 E1.out).mono fun e w' h => by rw [awake_order] at h; exact h.yes rfl)
  go_enter Try.func8, Try.ntmps8
  go_wp2_with fail
  rw [← hW1, ← hg]
  clear hW1 hg
  (with_reducible refine OR.out.mono ?_); rintro e w2 ⟨A2, c2, rfl, z2, b2⟩
  have B2 : Hid (Below w.heap.size w w2) := Lib.hid (B1.out.trans (b2.out.mono B1.out.size))
  obtain ⟨u, hu⟩ : ∃ u, u = w2.alloc (.cells #[.int .i64 1, .int .i64 2, .int .i64 0] 3) := ⟨_, rfl⟩
  have bu : Below w2.heap.size w2 u := by rw [hu]; exact Below.new _ _
  have ZQ : Hid (Zs u u.heap.size A2 [1, 2, 0]) := Lib.hid (z2.out.on bu)
  have ZL : Hid (Zs u u.heap.size (some ⟨w2.heap.size, 0, none⟩) [1, 2, 0]) := Lib.hid (by rw [hu]; exact Zs.lit (w := w2) [1, 2, 0] (small_Z _ (by decide)) #[.int .i64 1, .int .i64 2, .int .i64 0] (0, 0) rfl)
  have IN : Hid (Calls Try.prog 12 #[.slice A2 3 c2, .slice (some ⟨w2.heap.size, 0, none⟩) 3 3] u (BoolG u true)) := Lib.hid (by
    have := ints_any A2 [1, 2, 0] c2 (some ⟨w2.heap.size, 0, none⟩) [1, 2, 0] 3 (by decide) (by decide) u ZQ.out ZL.out
    rwa [sameI_refl] at this)
  have BU : Hid (Below w.heap.size w u) := Lib.hid (B2.out.trans (bu.mono B2.out.size))
  clear z2 b2 bu ZQ ZL E1 OR
  go_wp2_with fail
  rw [← hu]
  clear hu
  (with_reducible refine IN.out.mono ?_); rintro e w3 ⟨rfl, b3⟩
  go_wp2
  go_ret
  exact ⟨rfl, Lib.hid (BU.out.trans (b3.out.mono BU.out.size))⟩
end Go.Proofs.Ytgeefkfolejbnaa
