/-
  Steps of a wheel with the state written out; awake.
-/
import Derived.Test.YtaieoneilljagaaWhOne
namespace Go.Proofs.Ytaieoneilljagaa
open Go.RowKit
theorem ok3 {a b c : Int} (h : decide ((-9223372036854775808 ≤ a ∧ a ≤ 9223372036854775807) ∧ (-9223372036854775808 ≤ b ∧ b ≤ 9223372036854775807) ∧ (-9223372036854775808 ≤ c ∧ c ≤ 9223372036854775807)) = true) : Wh.T.ok ⟨a, b, c⟩ := by
  have h' := of_decide_eq_true h
  exact h'
theorem in64 {a : Int} (h : decide (-9223372036854775808 ≤ a ∧ a ≤ 9223372036854775807) = true) : is64 a := by
  have h' := of_decide_eq_true h
  exact h'
section
variable {w0 w : World} {T : Nat} {s : Wh.S} {m : Nat} {G : Nat → Prop}
theorem knSet (h : OneW w0 w T s m G) (hm : m ≤ 999999) (run task at_ : Int) (hx : Wh.T.ok ⟨run, task, at_⟩) {er : Int} {s' : Wh.S} (he : Wh.setE s at_ = er) (hs : Wh.setS s run task at_ = s') :
    Calls Try.prog 8 #[.pointer (some ⟨T, 0, none⟩), .agg #[.int .i64 run, .int .i64 task], .int .i64 at_] w fun e w' => e = .returned (.int .i64 er) ∧ Hid (OneW w0 w' T s' (m + 1) G) ∧ Hid (KeptG G w w') := by
  subst he hs
  exact oneSet h hm run task at_ hx
theorem knDrop (h : OneW w0 w T s m G) (run task : Int) (hr : is64 run) (ht : is64 task) {b : Bool} {s' : Wh.S} (he : Wh.dropB s run task = b) (hs : Wh.dropS s run task = s') :
    Calls Try.prog 9 #[.pointer (some ⟨T, 0, none⟩), .agg #[.int .i64 run, .int .i64 task]] w fun e w' => e = .returned (.bool b) ∧ Hid (OneW w0 w' T s' m G) ∧ Hid (KeptG G w w') := by
  subst he hs
  exact oneDrop h run task hr ht
theorem knTo (h : OneW w0 w T s m G) (hm : m ≤ 999999) (now : Int) (hn : is64 now) {er : Int} {s' : Wh.S} {l : List Wh.T} {n : Nat} (he : Wh.toE s now = er) (hs : Wh.toS s now = s') (hl : Wh.toL s now = l) (hnl : l.length = n) :
    Calls Try.prog 12 #[.pointer (some ⟨T, 0, none⟩), .int .i64 now] w fun e w' => ∃ A c, e = .returned (.tuple #[.slice A n c, .int .i64 er]) ∧ Hid (OneW w0 w' T s' m (fun k => G k ∨ rowG A l k)) ∧ Hid (KeptG G w w') ∧ Hid (Dues w' (fun b => w.heap.size ≤ b) A l) := by
  subst he hs hl hnl
  exact oneTo h hm now hn
theorem knAt (h : OneW w0 w T s m G) (run task : Int) (hr : is64 run) (ht : is64 task) {at_ : Int} {b : Bool} (h1 : (Wh.atV s run task).getD 0 = at_) (h2 : (Wh.atV s run task).isSome = b) :
    Calls Try.prog 11 #[.pointer (some ⟨T, 0, none⟩), .agg #[.int .i64 run, .int .i64 task]] w fun e w' => e = .returned (.tuple #[.int .i64 at_, .bool b]) ∧ Hid (Below w.heap.size w w') := by
  subst h1 h2
  exact oneAt h run task hr ht
theorem knNext (h : OneW w0 w T s m G) (hm : m ≤ 999999) {at_ : Int} {b : Bool} (h1 : (Wh.nextV s).getD 0 = at_) (h2 : (Wh.nextV s).isSome = b) :
    Calls Try.prog 10 #[.pointer (some ⟨T, 0, none⟩)] w fun e w' => e = .returned (.tuple #[.int .i64 at_, .bool b]) ∧ Hid (Below w.heap.size w w') := by
  subst h1 h2
  exact oneNext h hm
theorem knLen (h : OneW w0 w T s m G) {n : Int} (h1 : (s.l.length : Int) = n) : Calls Try.prog 13 #[.pointer (some ⟨T, 0, none⟩)] w fun e w' => e = .returned (.int .i64 n) ∧ Hid (Below w.heap.size w w') := by
  subst h1
  exact oneLen h
end
/-- Timers written out. -/
theorem lit_dues (w : World) (l : List Wh.T) (cs : Array Value) (hcs : cs.toList = flatW l) (hn : l.length ≤ maxLen) (hok : ∀ a ∈ l, a.ok) : Dues (w.alloc (.cells cs 39)) (fun b => w.heap.size ≤ b) (some ⟨w.heap.size, 0, none⟩) l := by
  have hs : cs.size = l.length * 3 := by rw [← Array.length_toList, hcs, flatW_len]
  have h := World.ownsRow_lit (base := w.heap.size) (size := 3) (e := 39) w cs l.length (Nat.le_refl _) hn hs
  rw [hcs] at h
  exact Dues.row h hok fun a ha => by injection ha with ha; subst ha; exact Nat.le_refl _
set_option maxRecDepth 20000 in
set_option maxHeartbeats 4000000 in
theorem awake_any (w : World) : Calls Try.prog 6 #[] w (BoolP w true) := by
  have NW := Lib.hid (oneNew w)
  go_enter Try.func6, Try.ntmps6
  go_wp2_with fail
  (with_reducible refine NW.out.mono ?_); rintro e w1 ⟨T, rfl, R1, -, -⟩
  go_wp2_with fail
  (with_reducible refine (knSet R1.out (by decide) 1 0 5 (ok3 rfl) (er := 0) (s' := ⟨0, [⟨1, 0, 5⟩]⟩) rfl rfl).mono ?_); rintro e w2 ⟨rfl, R2, -⟩
  go_wp2_with fail
  (with_reducible refine (knTo R2.out (by decide) 4 (in64 rfl) (er := 0) (s' := ⟨4, [⟨1, 0, 5⟩]⟩) (l := []) (n := 0) rfl rfl rfl rfl).mono ?_); rintro e w3 ⟨A3, c3, rfl, R3, -, -⟩
  go_wp2_with fail
  (with_reducible refine (knTo R3.out (by decide) 5 (in64 rfl) (er := 0) (s' := ⟨5, []⟩) (l := [⟨1, 0, 5⟩]) (n := 1) rfl rfl rfl rfl).mono ?_); rintro e w4 ⟨A4, c4, rfl, R4, -, D4⟩
  go_wp2_with fail
  have B5 : Hid (Below w4.heap.size w4 (w4.alloc (.cells #[.int .i64 1, .int .i64 0, .int .i64 5] 39))) := Lib.hid ((Below.refl _ _).alloc (Nat.le_refl _) _)
  have D5 := Lib.hid (lit_dues w4 [⟨1, 0, 5⟩] #[.int .i64 1, .int .i64 0, .int .i64 5] rfl (by decide) (fun a ha => by simp at ha; subst ha; exact ok3 rfl))
  (with_reducible refine (dues_same _ _ A4 (some ⟨w4.heap.size, 0, none⟩) [⟨1, 0, 5⟩] 1 c4 1 _ rfl (D4.out.on B5.out) D5.out (by decide)).mono ?_); rintro e w6 ⟨rfl, b6⟩
  have R6 := Lib.hid (R4.out.on (B5.out.trans (b6.out.mono B5.out.size)))
  go_wp2_with fail
  (with_reducible refine (oneNow R6.out).mono ?_); rintro e w7 ⟨rfl, b7⟩
  go_wp2
  go_ret
  exact ⟨rfl, Lib.hid (R6.out.on b7.out).below⟩
end Go.Proofs.Ytaieoneilljagaa
