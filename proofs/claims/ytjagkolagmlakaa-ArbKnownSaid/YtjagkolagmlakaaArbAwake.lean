/-
  The layer's example, which every law of it asks first: it comes out true.
-/
import Derived.Test.YtjagkolagmlakaaArbSwap
import Derived.Test.YtjagkolagmlakaaArbLog
namespace Go.Proofs.Ytjagkolagmlakaa
open Go.RowKit
/-- A state told by its numbers. -/
abbrev OneB (w : World) (e h : Int) (s : Bool) (f : Int) (x : Ending) (w' : World) : Prop := x = .returned (.agg #[.int .i64 e, .int .i64 h, .bool s, .int .i64 f]) ∧ Hid (Below w.heap.size w w')
abbrev TwoB (w : World) (e h : Int) (s : Bool) (f : Int) (ok : Bool) (x : Ending) (w' : World) : Prop := x = .returned (.tuple #[.agg #[.int .i64 e, .int .i64 h, .bool s, .int .i64 f], .bool ok]) ∧ Hid (Below w.heap.size w w')
theorem get_at {w : World} {g : Nat} {O : Nat → Prop} {L : List Ar.S} (h : AR w g O L) (s : Ar.S) (hs : L.getLast? = some s) (hl : L.length ≤ 1000000000) : ∀ W, Below w.heap.size w W → Calls Try.prog 11 #[.pointer (some ⟨g, 0, none⟩)] W (OneB W s.ep s.ho s.so s.fl) :=
  fun W hW => get_any g O L s hs hl W (h.grew hW)
theorem log_at {w : World} {g : Nat} {O : Nat → Prop} {L : List Ar.S} (h : AR w g O L) (hl : L.length ≤ 1000000000) : ∀ W, Below w.heap.size w W → Calls Try.prog 15 #[.pointer (some ⟨g, 0, none⟩)] W (LogPost W L) :=
  fun W hW => log_any g O L hl W (h.grew hW)
set_option maxHeartbeats 4000000 in
set_option maxRecDepth 20000 in
theorem awake_any (w : World) : Calls Try.prog 8 #[] w (BoolB w true) := by
  have LD : Hid (∀ W, Calls Try.prog 10 #[.agg #[.int .i64 0, .int .i64 (-1), .bool false, .int .i64 0], .int .i64 1] W (TwoB W 1 1 false 0 true)) := Lib.hid fun W => lead_any 0 (-1) false 0 1 W
  have SG := st_guard
  have NW := Lib.hid (new_any w)
  go_enter Try.func8, Try.ntmps8
  go_wp2_with fail
  (with_reducible refine NW.out.mono ?_); rintro e w1 ⟨g, rfl, h1, b1⟩
  have GT := Lib.hid (get_at h1.out Ar.first rfl (by decide))
  have LG := Lib.hid (log_at h1.out (by decide))
  clear h1 NW
  go_wp2_with fail
  (with_reducible refine (GT.out _ (Below.refl _ _)).mono ?_); rintro e w2 ⟨rfl, b2⟩
  have B2 : Hid (Below w.heap.size w w2) := Lib.hid (b1.out.trans (b2.out.mono b1.out.size))
  simp only [Ar.first]
  go_wp2_with fail
  (with_reducible refine (LD.out _).mono ?_); rintro e w3 ⟨rfl, b3⟩
  have B3 : Hid (Below w1.heap.size w1 w3) := Lib.hid (b2.out.trans (b3.out.mono b2.out.size))
  have B3' : Hid (Below w.heap.size w w3) := Lib.hid (B2.out.trans (b3.out.mono B2.out.size))
  clear b2 b3 B2
  go_wp2_with fail
  (with_reducible refine (GT.out _ (B3.out.alloc B3.out.size _)).mono ?_); rintro e w4 ⟨rfl, b4⟩
  have B4 : Hid (Below w1.heap.size w1 w4) := Lib.hid ((B3.out.alloc B3.out.size _).trans (b4.out.mono (by have := B3.out.size; simp; omega)))
  simp only [Ar.first]
  go_wp2_with fail
  (with_reducible refine (LG.out _ B4.out).mono ?_); rintro e w5 ⟨A, cap, rfl, o5, b5⟩
  have B5 : Hid (Below w.heap.size w w5) := Lib.hid (b1.out.trans ((B4.out.trans (b5.out.mono B4.out.size)).mono b1.out.size))
  go_wp2
  go_ret
  exact ⟨rfl, B5⟩
end Go.Proofs.Ytjagkolagmlakaa
