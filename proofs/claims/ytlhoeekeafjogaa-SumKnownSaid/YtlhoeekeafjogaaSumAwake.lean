/-
  The layer's example, which every law of it asks first: it comes out true; below the heap's old size the world is as it was. And bytes laid anew by the call itself.
-/
import Derived.Test.YtlhoeekeafjogaaSumCalls
import Derived.Lib.SlBytesConst
namespace Go.Proofs.Ytlhoeekeafjogaa
open Go.RowKit

theorem conv_lit (w : World) (C : Array Value) (n c : Nat) : (convert 30 30 (.slice (some ⟨w.heap.size, 0, none⟩) n c)).run Try.prog (w.alloc (.cells C 5)) = .ok (.slice (some ⟨w.heap.size, 0, none⟩) n c) (w.alloc (.cells C 5 (C.size, C.size + 1))) :=
  Lib.run_convert_bytes_const w 30 5 C n c Try.underlying30 Try.underlying5
def isByte (z : Int) : Bool := decide (0 ≤ z) && decide (z ≤ 255)
/-- Bytes that the call itself has just laid, out of a literal text. -/
theorem Bytes.new (w : World) (zs : List Int) (hz : zs.all isByte = true) (fr : Nat × Nat) (cs : Array Value) (hc : cs = (zs.map (Value.int .u8)).toArray) :
    Bytes (w.alloc (.cells cs 5 fr)) (w.heap.size + 1) (some ⟨w.heap.size, 0, none⟩) zs := by
  subst hc
  refine ⟨fun i hi => ?_, fun _ => ⟨w.heap.size, 0, rfl, by omega, fun i hi => ?_⟩⟩
  · have h := List.all_eq_true.1 hz (zs.getD i 0) (by rw [List.getD_eq_getElem?_getD, List.getElem?_eq_getElem hi]; exact List.getElem_mem hi)
    unfold isByte at h
    simp only [Bool.and_eq_true, decide_eq_true_eq] at h
    exact h
  · rw [Nat.zero_add, World.cell?_alloc_mark]
    simp [hi]
theorem lit_any (w : World) (zs : List Int) (hz : zs.all isByte = true) (hl : zs.length ≤ 1000) (v : Int) (hv : Su.ofV zs = v) (n : Nat) (hn : n = zs.length) (fr : Nat × Nat) (cs : Array Value) (hc : cs = (zs.map (Value.int .u8)).toArray) :
    Calls Try.prog 12 #[.slice (some ⟨w.heap.size, 0, none⟩) n n] (w.alloc (.cells cs 5 fr)) fun e w' => e = .returned (.int .u32 v) ∧ Below w.heap.size w w' := by
  subst hn hv
  refine (of_any (w.heap.size + 1) _ zs zs.length (by omega) _ (Bytes.new w zs hz fr cs hc)).mono ?_
  rintro e w' ⟨rfl, rfl⟩
  exact ⟨rfl, (Below.refl _ _).alloc (Nat.le_refl _) _⟩
theorem nil_of (w : World) : Calls Try.prog 12 #[.slice none 0 0] w fun e w' => e = .returned (.int .u32 1) ∧ w = w' := by
  have e2 : Su.ofV [] = 1 := by decide
  have := of_any 0 none [] 0 (by decide) w Bytes.nil_
  rw [e2] at this
  exact this
set_option maxHeartbeats 400000 in
theorem awake_any (w : World) : Calls Try.prog 8 #[] w fun e w' => e = .returned (.bool true) ∧ Below w.heap.size w w' := by
  have G := Lib.hid (fun w => good_any 1 (by decide) (by decide) w)
  have g1 : Su.okS 1 = true := by decide
  rw [g1] at G
  clear g1
  have hcv := conv_lit
  go_enter Try.func8, Try.ntmps8
  go_wp2_with fail
  refine (lit_any w [97] (by decide) (by decide) 6422626 (by decide) 1 rfl _ _ rfl).mono ?_; rintro e w1 ⟨rfl, hb⟩
  go_wp2_with fail
  refine (nil_of _).mono ?_; rintro e w' ⟨rfl, rfl⟩
  go_wp2_with fail
  refine (G.out _).mono ?_; rintro e w' ⟨rfl, rfl⟩
  go_wp2
  go_ret
  exact ⟨rfl, hb⟩
end Go.Proofs.Ytlhoeekeafjogaa
