/-
  Part 6 of the texts behind the law: TDfFacts, TEvFacts.
-/
import Derived.Test.YtkbekojnmdgdgaaGreatDoorTf1
import Derived.Lib.LaidTab
import Derived.Lib.ItoaNum
import Derived.WalkSmall
/- DfFacts -/
namespace Go.Proofs.YtkbekojnmdgdgaaGreatDoor
open Go.RowKit
def FactsD (w : World) : Prop := Lib.TabIs Tryz.prog w "internal/strconv.uint64pow10" .u64 Lib.pow10Tab
theorem gd_tab : Tryz.prog.globalNamed "internal/strconv.uint64pow10" = some 4 := by kernel_rfl
theorem ltd_of_var {P : Program} {w : World} {name : String} {g : Nat} {cs : Array Value} (hg : P.globalNamed name = some g) (h : w.var? P name = some cs) : g < w.heap.size := by
 unfold World.var? at h
 rw [hg, Option.bind_some] at h
 by_cases hlt : g < w.heap.size
 ·exact hlt
 ·rw [Array.getElem?_eq_none (by omega)] at h; cases h
theorem FactsD.on {w w' : World} (h : FactsD w) (hb : Below w.heap.size w w') : FactsD w' := var?_below hb gd_tab (ltd_of_var gd_tab h) h
end Go.Proofs.YtkbekojnmdgdgaaGreatDoor
/- EvFacts -/
namespace Go.Proofs.YtkbekojnmdgdgaaGreatDoor
open Go.RowKit
def shapeRow : Nat → List Value
 | 1 => [.string ⟨#[100, 101, 102, 105, 110, 101]⟩, .int .i64 0, .int .i64 0, .int .i64 0, .int .i64 0, .int .i64 16, .int .i64 0, .int .i64 900]
 | 2 => [.string ⟨#[115, 116, 97, 114, 116]⟩, .int .i64 64, .int .i64 0, .int .i64 0, .int .i64 0, .int .i64 16, .int .i64 16, .int .i64 0]
 | 3 => [.string ⟨#[108, 101, 97, 115, 101]⟩, .int .i64 64, .int .i64 15, .int .i64 9, .int .i64 0, .int .i64 0, .int .i64 0, .int .i64 0]
 | 4 => [.string ⟨#[100, 111, 110, 101]⟩, .int .i64 64, .int .i64 15, .int .i64 9, .int .i64 0, .int .i64 0, .int .i64 0, .int .i64 64]
 | 5 => [.string ⟨#[102, 97, 105, 108]⟩, .int .i64 64, .int .i64 15, .int .i64 9, .int .i64 0, .int .i64 0, .int .i64 0, .int .i64 0]
 | 6 => [.string ⟨#[116, 105, 99, 107]⟩, .int .i64 0, .int .i64 0, .int .i64 0, .int .i64 1099511627776, .int .i64 0, .int .i64 0, .int .i64 0]
 | 7 => [.string ⟨#[115, 105, 103, 110, 97, 108]⟩, .int .i64 64, .int .i64 0, .int .i64 0, .int .i64 0, .int .i64 16, .int .i64 0, .int .i64 0]
 | 8 => [.string ⟨#[99, 97, 110, 99, 101, 108]⟩, .int .i64 64, .int .i64 0, .int .i64 0, .int .i64 0, .int .i64 0, .int .i64 0, .int .i64 0]
 | 9 => [.string ⟨#[101, 112, 111, 99, 104]⟩, .int .i64 0, .int .i64 0, .int .i64 0, .int .i64 1048575, .int .i64 0, .int .i64 0, .int .i64 0]
 | _ => [.string ⟨#[]⟩, .int .i64 0, .int .i64 0, .int .i64 0, .int .i64 0, .int .i64 0, .int .i64 0, .int .i64 0]
theorem gd_shapes : Tryz.prog.globalNamed "outrider/event.shapes" = some 0 := by kernel_rfl
def FactsS (w : World) : Prop := ∃ cs, w.var? Tryz.prog "outrider/event.shapes" = some cs ∧ ∀ k j, k < 10 → j < 8 → cs[k * 8 + j]? = (shapeRow k)[j]?
theorem FactsS.on {w w' : World} (h : FactsS w) (hb : Below w.heap.size w w') : FactsS w' := by
 obtain ⟨cs, h1, h2⟩ := h
 have hlt : 0 < w.heap.size := by
  unfold World.var? at h1
  rw [gd_shapes, Option.bind_some] at h1
  by_cases hlt : 0 < w.heap.size
  ·exact hlt
  ·rw [Array.getElem?_eq_none (by omega)] at h1; cases h1
 exact ⟨cs, var?_below hb gd_shapes hlt h1, h2⟩
theorem FactsS.cell {w : World} (h : FactsS w) (k j : Nat) (hk : k < 10) (hj : j < 8) : w.cell? ⟨0, k * 8 + j, none⟩ = (shapeRow k)[j]? := by
 obtain ⟨cs, h1, h2⟩ := h
 rw [World.var?_cell gd_shapes h1 (k * 8 + j), h2 k j hk hj]
structure FactsE (w : World) : Prop where
 d : FactsD w
 s : FactsS w
theorem FactsE.on {w w' : World} (h : FactsE w) (hb : Below w.heap.size w w') : FactsE w' := ⟨h.d.on hb, h.s.on hb⟩
end Go.Proofs.YtkbekojnmdgdgaaGreatDoor
