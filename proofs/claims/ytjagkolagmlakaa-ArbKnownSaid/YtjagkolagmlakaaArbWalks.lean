/-
  What Lead, Alone and Both make of any state, and the reference's beside them.
-/
import Derived.Test.YtjagkolagmlakaaArbPlain
import Derived.Test.YtjagkolagmlakaaKRows
import Derived.Laws.StructEq
import Derived.Deep.QuietTactic
import Derived.BigQuiet
import Derived.Deep.RegionHeld3
namespace Go.Proofs.Ytjagkolagmlakaa
open Go.RowKit
def IntB (w : World) (n : Int) (e : Ending) (w' : World) : Prop := e = .returned (.int .i64 n) ∧ Hid (Below w.heap.size w w')
def BoolB (w : World) (b : Bool) (e : Ending) (w' : World) : Prop := e = .returned (.bool b) ∧ Hid (Below w.heap.size w w')
def StPost (w : World) (s : Ar.S) (ok : Bool) (e : Ending) (w' : World) : Prop := e = .returned (.tuple #[s.val, .bool ok]) ∧ Hid (Below w.heap.size w w')
def OnePost (w : World) (s : Ar.S) (e : Ending) (w' : World) : Prop := e = .returned s.val ∧ Hid (Below w.heap.size w w')
theorem obj4 {w : World} {g : Nat} {a b c d : Value} {t : TypeId} (h : w.heap[g]? = some (.cells #[a, b, c, d] t (0, 0))) :
    (w.cell? ⟨g, 0, none⟩ = some a ∧ w.cell? ⟨g, 1, none⟩ = some b ∧ w.cell? ⟨g, 2, none⟩ = some c ∧ w.cell? ⟨g, 3, none⟩ = some d) ∧
    (w.frozen? ⟨g, 0, none⟩ = false ∧ w.frozen? ⟨g, 1, none⟩ = false ∧ w.frozen? ⟨g, 2, none⟩ = false ∧ w.frozen? ⟨g, 3, none⟩ = false) :=
  ⟨⟨by simp [World.cell?, h], by simp [World.cell?, h], by simp [World.cell?, h], by simp [World.cell?, h]⟩,
   by simp [World.frozen?, h], by simp [World.frozen?, h], by simp [World.frozen?, h], by simp [World.frozen?, h]⟩
/-- A struct of four cells stored. -/
def S4 (w : World) (g : Nat) (p q r s : Value) : World := (((w.setCell ⟨g, 0, none⟩ p).setCell ⟨g, 1, none⟩ q).setCell ⟨g, 2, none⟩ r).setCell ⟨g, 3, none⟩ s
theorem S4.at_ {w : World} {g : Nat} {a b c d : Value} {t : TypeId} (h : w.heap[g]? = some (.cells #[a, b, c, d] t (0, 0))) (p q r s : Value) : (S4 w g p q r s).heap[g]? = some (.cells #[p, q, r, s] t (0, 0)) :=
  heap_setCell_same _ g 3 _ _ _ (heap_setCell_same _ g 2 _ _ _ (heap_setCell_same _ g 1 _ _ _ (heap_setCell_same w g 0 _ _ _ h)))
theorem S4.else_ (w : World) (g : Nat) (p q r s : Value) {k : Nat} (hk : k ≠ g) : (S4 w g p q r s).heap[k]? = w.heap[k]? :=
  (Below.heap_setCell _ _ _ _ hk).trans ((Below.heap_setCell _ _ _ _ hk).trans ((Below.heap_setCell _ _ _ _ hk).trans (Below.heap_setCell _ _ _ _ hk)))
theorem S4.size_ (w : World) (g : Nat) (p q r s : Value) : (S4 w g p q r s).heap.size = w.heap.size := by simp [S4, World.setCell]
theorem S4.below {a w : World} {B g : Nat} (h : Below B a w) (hg : B ≤ g) (p q r s : Value) : Below B a (S4 w g p q r s) :=
  (((h.setCell (p := ⟨g, 0, none⟩) hg _).setCell (p := ⟨g, 1, none⟩) hg _).setCell (p := ⟨g, 2, none⟩) hg _).setCell (p := ⟨g, 3, none⟩) hg _
theorem new1 (w : World) (X Y : Obj) : ((w.alloc X).alloc Y).heap[w.heap.size + 1]? = some Y := by have := heap_alloc_new (w.alloc X) Y; rwa [World.size_alloc] at this
theorem new0 (w : World) (X Y : Obj) : ((w.alloc X).alloc Y).heap[w.heap.size]? = some X := by rw [Below.heap_alloc _ _ _ (by simp)]; exact heap_alloc_new w X
set_option maxHeartbeats 400000 in
theorem node_any (who : Int) (w : World) : Calls Try.prog 20 #[.int .i64 who] w fun e w' => e = .returned (.bool (Ar.node who)) ∧ w = w' := by
  unfold Ar.node
  by_cases h0 : who = 0
  · subst h0
    go_enter Try.func20, Try.ntmps20
    go_wp2
    go_ret
    exact ⟨rfl, rfl⟩
  · by_cases h1 : who = 1
    · subst h1
      go_enter Try.func20, Try.ntmps20
      go_wp2
      go_ret
      exact ⟨rfl, rfl⟩
    · have e0 : (who == 0) = false := by simp [h0]
      have e1 : (who == 1) = false := by simp [h1]
      rw [e0, e1]
      go_enter Try.func20, Try.ntmps20
      go_wp2
      go_ret
      exact ⟨rfl, rfl⟩
theorem two_below (w : World) (X Y : Obj) : Below w.heap.size w ((w.alloc X).alloc Y) := ((Below.refl _ _).alloc (Nat.le_refl _) _).alloc (by simp) _
set_option maxHeartbeats 1000000 in
theorem lead_any (e h : Int) (so : Bool) (f who : Int) (w : World) :
    Calls Try.prog 10 #[.agg #[.int .i64 e, .int .i64 h, .bool so, .int .i64 f], .int .i64 who] w (StPost w (Ar.leadV ⟨e, h, so, f⟩ who) (Ar.okL ⟨e, h, so, f⟩ who)) := by
  have N := node_any who
  unfold Ar.leadV
  by_cases h1 : Ar.node who = true
  · rw [h1] at N
    by_cases h5 : (so && !(who == h)) = true
    · rw [show Ar.okL ⟨e, h, so, f⟩ who = false by simp [Ar.okL, h5]]
      simp only [Bool.and_eq_true, Bool.not_eq_true', beq_eq_false_iff_ne] at h5
      obtain ⟨rfl, h5⟩ := h5
      go_enter Try.func10, Try.ntmps10
      go_wp2_with fail
      (with_reducible refine (N _).mono ?_); rintro e w' ⟨rfl, rfl⟩
      go_wp2
      exact bodyPost_ret (v := .tuple #[.agg #[.int .i64 0, .int .i64 0, .bool false, .int .i64 0], .bool false]) (by simp [results, Try.results10, go_sem]) rfl ⟨rfl, Lib.hid (two_below _ _ _)⟩
    · rw [show Ar.okL ⟨e, h, so, f⟩ who = (decide (0 ≤ e) && decide (e < 1048575)) by simp [Ar.okL, h1, h5]]
      have h6 : so = false ∨ (so = true ∧ who = h) := by
        cases so
        · exact .inl rfl
        · exact .inr ⟨rfl, by simpa using h5⟩
      clear h5
      by_cases h0 : 0 ≤ e
      · by_cases h2 : e < 1048575
        · rw [decide_eq_true h0, decide_eq_true h2]
          rcases h6 with rfl | ⟨rfl, rfl⟩
          · go_enter Try.func10, Try.ntmps10
            go_wp2_with fail
            (with_reducible refine (N _).mono ?_); rintro e w' ⟨rfl, rfl⟩
            go_wp2
            exact bodyPost_ret (v := .tuple #[.agg #[.int .i64 (e + 1), .int .i64 who, .bool false, .int .i64 f], .bool true]) (by simp [results, Try.results10, go_sem]) rfl ⟨rfl, Lib.hid (two_below _ _ _)⟩
          · go_enter Try.func10, Try.ntmps10
            go_wp2_with fail
            (with_reducible refine (N _).mono ?_); rintro e w' ⟨rfl, rfl⟩
            go_wp2
            exact bodyPost_ret (v := .tuple #[.agg #[.int .i64 (e + 1), .int .i64 who, .bool true, .int .i64 f], .bool true]) (by simp [results, Try.results10, go_sem]) rfl ⟨rfl, Lib.hid (two_below _ _ _)⟩
        · rw [decide_eq_true h0, decide_eq_false h2]
          rcases h6 with rfl | ⟨rfl, rfl⟩ <;>
          · go_enter Try.func10, Try.ntmps10
            go_wp2_with fail
            (with_reducible refine (N _).mono ?_); rintro e w' ⟨rfl, rfl⟩
            go_wp2
            exact bodyPost_ret (v := .tuple #[.agg #[.int .i64 0, .int .i64 0, .bool false, .int .i64 0], .bool false]) (by simp [results, Try.results10, go_sem]) rfl ⟨rfl, Lib.hid (two_below _ _ _)⟩
      · rw [decide_eq_false h0, Bool.false_and]
        rcases h6 with rfl | ⟨rfl, rfl⟩ <;>
        · go_enter Try.func10, Try.ntmps10
          go_wp2_with fail
          (with_reducible refine (N _).mono ?_); rintro e w' ⟨rfl, rfl⟩
          go_wp2
          exact bodyPost_ret (v := .tuple #[.agg #[.int .i64 0, .int .i64 0, .bool false, .int .i64 0], .bool false]) (by simp [results, Try.results10, go_sem]) rfl ⟨rfl, Lib.hid (two_below _ _ _)⟩
  · have h1' : Ar.node who = false := by simpa using h1
    rw [h1'] at N
    rw [show Ar.okL ⟨e, h, so, f⟩ who = false by simp [Ar.okL, h1']]
    go_enter Try.func10, Try.ntmps10
    go_wp2_with fail
    (with_reducible refine (N _).mono ?_); rintro e w' ⟨rfl, rfl⟩
    go_wp2
    exact bodyPost_ret (v := .tuple #[.agg #[.int .i64 0, .int .i64 0, .bool false, .int .i64 0], .bool false]) (by simp [results, Try.results10, go_sem]) rfl ⟨rfl, Lib.hid (two_below _ _ _)⟩
end Go.Proofs.Ytjagkolagmlakaa
