/-
  The laws' dues: the same timers in two rows.
-/
import Derived.Test.YtaieoneilljagaaWhLess
import Derived.BigQuiet
namespace Go.Proofs.Ytaieoneilljagaa
open Go.RowKit
theorem Dues.on {w w' : World} {O : Nat → Prop} {A : Option Addr} {l : List Wh.T} (h : Dues w O A l) (hb : Below w.heap.size w w') : Dues w' O A l := h.keep hb.size fun b _ hlt _ => hb.block b hlt
set_option maxRecDepth 20000 in
set_option maxHeartbeats 4000000 in
theorem dues_same (O O2 : Nat → Prop) (A A2 : Option Addr) (l : List Wh.T) (n c c2 : Nat) (w : World) (hn : n = l.length) (h1 : Dues w O A l) (h2 : Dues w O2 A2 l) (hl : n ≤ 1000000) :
    Calls Try.prog 14 #[.slice A n c, .slice A2 n c2] w (BoolP w true) := by
  have HN := Lib.hid hn
  have D1 := Lib.hid h1
  have D2 := Lib.hid h2
  clear h1 h2 hn
  go_enter Try.func14, Try.ntmps14
  go_wp2_with fail
  go_loopw [5] (fun iv wr => ∃ k : Nat, k ≤ n ∧ iv = .int .i64 k ∧ Hid (Below w.heap.size w wr)) (fun iv _ => n - (intOf iv).toNat)
  case atStart => exact ⟨0, Nat.zero_le _, rfl, Lib.hid (Below.refl _ _)⟩
  case round =>
    obtain ⟨k, hk, rfl, HB⟩ := hrel
    by_cases hlt : k < n
    · have hlt' : (k : Int) < (n : Int) := by omega
      obtain ⟨b, off, a, rfl, -, ha, c0, c1, c2', -⟩ := (D1.out.on HB.out).at_ (k := k) (by rw [← HN.out]; exact hlt)
      obtain ⟨b', off', a', rfl, -, ha', d0, d1, d2', -⟩ := (D2.out.on HB.out).at_ (k := k) (by rw [← HN.out]; exact hlt)
      obtain rfl : a = a' := by have := ha.out.symm.trans ha'.out; injection this
      go_wp2_with fail
      go_quiet (fail)
      go_wp2
      go_roundw
      case rel => exact ⟨k + 1, by omega, by go_num, Lib.hid (below_n HB.out _)⟩
      case measure => simp [intOf]; omega
    · obtain rfl : n = k := by omega
      go_wp2
      go_ret
      exact ⟨rfl, HB⟩
end Go.Proofs.Ytaieoneilljagaa
