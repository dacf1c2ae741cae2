/-
  Part 20 of the texts behind the law: SegFacts.
-/
import Derived.Test.YtdbhicifjljjnaaGreatDoorMf4
import Derived.Test.YtdbhicifjljjnaaGreatDoorMf6
import Derived.Lib.LaidTab
import Derived.Lib.SmallJoins
/-
  The library's variables that a segment's name is made and read with: what the rows tell of them, kept where the world grows.
-/
namespace Go.Proofs.YtdbhicifjljjnaaGreatDoor
open Go.RowKit
/-- Where the lowest bit of a number lies, by the product's six highest bits. -/
def bitTab : List Int := [0, 1, 56, 2, 57, 49, 28, 3, 61, 58, 42, 50, 38, 29, 17, 4, 62, 47, 59, 36, 45, 43, 51, 22, 53, 39, 33, 30, 24, 18, 12, 5, 63, 55, 48, 27, 60, 41, 37, 16, 46, 35, 44, 21, 52, 32, 23, 11, 54, 26, 40, 15, 34, 20, 31, 10, 25, 14, 19, 9, 13, 8, 7, 6]
/-- What the laws' rows tell of the library's variables: the table of bits, and that the two errors are there. -/
structure Facts (w : World) : Prop where
  bit : Lib.TabIs Tryz.prog w "math/bits.deBruijn64tab" .u8 bitTab
  syn : ∃ p, w.var? Tryz.prog "strconv.ErrSyntax" = some #[.iface 203 p]
  rng : ∃ p, w.var? Tryz.prog "strconv.ErrRange" = some #[.iface 203 p]
theorem g_bit : Tryz.prog.globalNamed "math/bits.deBruijn64tab" = some 5 := by kernel_rfl
theorem g_syn : Tryz.prog.globalNamed "strconv.ErrSyntax" = some 1 := by kernel_rfl
theorem g_rng : Tryz.prog.globalNamed "strconv.ErrRange" = some 2 := by kernel_rfl
theorem lt_of_var {P : Program} {w : World} {name : String} {g : Nat} {cs : Array Value} (hg : P.globalNamed name = some g) (h : w.var? P name = some cs) : g < w.heap.size := by
  unfold World.var? at h
  rw [hg, Option.bind_some] at h
  by_cases hlt : g < w.heap.size
  · exact hlt
  · rw [Array.getElem?_eq_none (by omega)] at h; cases h
theorem Facts.below {w w' : World} (h : Facts w) (hb : Below w.heap.size w w') : Facts w' where
  bit := var?_below hb g_bit (lt_of_var g_bit h.bit) h.bit
  syn := by obtain ⟨p, hp⟩ := h.syn; exact ⟨p, var?_below hb g_syn (lt_of_var g_syn hp) hp⟩
  rng := by obtain ⟨p, hp⟩ := h.rng; exact ⟨p, var?_below hb g_rng (lt_of_var g_rng hp) hp⟩
theorem Facts.bit16 {w : World} (h : Facts w) : w.cell? ⟨5, 15, none⟩ = some (.int .u8 4) := by
  have := Lib.TabIs.cell h.bit g_bit 15 (by decide)
  exact this
theorem Facts.synCell {w : World} (h : Facts w) : ∃ ev, w.cell? ⟨1, 0, none⟩ = some ev ∧ (ev = .nilIface ∨ ∃ te pe, ev = .iface te pe) := by
  obtain ⟨p, hp⟩ := h.syn
  exact ⟨_, by have h0 := World.var?_cell g_syn hp 0; simpa using h0, .inr ⟨_, p, rfl⟩⟩
theorem Facts.rngCell {w : World} (h : Facts w) : ∃ ev, w.cell? ⟨2, 0, none⟩ = some ev ∧ (ev = .nilIface ∨ ∃ te pe, ev = .iface te pe) := by
  obtain ⟨p, hp⟩ := h.rng
  exact ⟨_, by have h0 := World.var?_cell g_rng hp 0; simpa using h0, .inr ⟨_, p, rfl⟩⟩
end Go.Proofs.YtdbhicifjljjnaaGreatDoor
