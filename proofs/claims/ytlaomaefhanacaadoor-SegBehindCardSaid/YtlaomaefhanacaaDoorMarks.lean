/-
  Slices of marks (an epoch, an offset and bytes) that came in, as the walks take them.
-/
import Derived.Test.YtlaomaefhanacaaDoorBytesKit
namespace Go.Proofs.YtlaomaefhanacaaDoor
open Go.RowKit
abbrev Mk := Int × Int × List Int
/-- The slice at address A whose elements are the marks ms, below block B. -/
def Marks (w : World) (B : Nat) (A : Option Addr) (ms : List Mk) : Prop :=
  0 < ms.length → ∃ b off, A = some ⟨b, off, none⟩ ∧ b < B ∧ ∀ i, i < ms.length → ∃ Ai ci, w.cell? ⟨b, off + i * 3, none⟩ = some (.int .i64 (ms.getD i (0, 0, [])).1) ∧ w.cell? ⟨b, off + i * 3 + 1, none⟩ = some (.int .i64 (ms.getD i (0, 0, [])).2.1) ∧
    w.cell? ⟨b, off + i * 3 + 2, none⟩ = some (.slice Ai (ms.getD i (0, 0, [])).2.2.length ci) ∧ Bytes w B Ai (ms.getD i (0, 0, [])).2.2 ∧ (ms.getD i (0, 0, [])).2.2.length ≤ ci ∧ ci ≤ 9223372036854775807
theorem Marks.nil_ {w : World} {B : Nat} {A : Option Addr} : Marks w B A [] := fun h => by simp at h
theorem Marks.below {w w' : World} {B : Nat} {A : Option Addr} {ms : List Mk} (h : Marks w B A ms) (hb : Below B w w') : Marks w' B A ms := fun hn => by
  obtain ⟨b, off, e, hl, hc⟩ := h hn
  refine ⟨b, off, e, hl, fun i hi => ?_⟩
  obtain ⟨Ai, ci, h1, h2, h3, h4, h5, h6⟩ := hc i hi
  exact ⟨Ai, ci, (hb.cell (p := ⟨b, _, none⟩) hl).trans h1, (hb.cell (p := ⟨b, _, none⟩) hl).trans h2, (hb.cell (p := ⟨b, _, none⟩) hl).trans h3, h4.below hb, h5, h6⟩
theorem Marks.at_ {w : World} {B : Nat} {A : Option Addr} {ms : List Mk} {k : Nat} (h : Marks w B A ms) (hk : k < ms.length) :
    ∃ b off e o p Ai ci, A = some ⟨b, off, none⟩ ∧ Hid (b < B) ∧ w.cell? ⟨b, off + k * 3, none⟩ = some (.int .i64 e) ∧ w.cell? ⟨b, off + k * 3 + 1, none⟩ = some (.int .i64 o) ∧ w.cell? ⟨b, off + k * 3 + 2, none⟩ = some (.slice Ai p.length ci) ∧
      Hid (ms.getD k (0, 0, []) = (e, o, p)) ∧ Hid (Bytes w B Ai p) ∧ Hid (p.length ≤ 9223372036854775807) := by
  obtain ⟨b, off, e, hb, hc⟩ := h (by omega)
  obtain ⟨Ai, ci, h1, h2, h3, h4, h5, h6⟩ := hc k hk
  exact ⟨b, off, _, _, _, Ai, ci, e, Lib.hid hb, h1, h2, h3, Lib.hid rfl, Lib.hid h4, Lib.hid (by show _ ≤ _; omega)⟩
end Go.Proofs.YtlaomaefhanacaaDoor
