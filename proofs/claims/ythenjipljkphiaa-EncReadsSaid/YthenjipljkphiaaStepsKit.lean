/-
  The rows of the slice of steps that the law EncReads takes: two whole numbers each.
-/
import Derived.Test.YthenjipljkphiaaBytesKit
namespace Go.Proofs.Ythenjipljkphiaa
open Go.RowKit
def inI64 (z : Int) : Prop := -9223372036854775808 ≤ z ∧ z ≤ 9223372036854775807
/-- The slice at address A whose elements are the pairs ps, below block B. -/
def Pairs (w : World) (B : Nat) (A : Option Addr) (ps : List (Int × Int)) : Prop :=
  (∀ i, i < ps.length → inI64 (ps.getD i (0, 0)).1 ∧ inI64 (ps.getD i (0, 0)).2) ∧
  (0 < ps.length → ∃ b off, A = some ⟨b, off, none⟩ ∧ b < B ∧ ∀ i, i < ps.length → w.cell? ⟨b, off + i * 2, none⟩ = some (.int .i64 (ps.getD i (0, 0)).1) ∧ w.cell? ⟨b, off + i * 2 + 1, none⟩ = some (.int .i64 (ps.getD i (0, 0)).2))
theorem Pairs.at_ {w : World} {B : Nat} {A : Option Addr} {ps : List (Int × Int)} {k : Nat} (h : Pairs w B A ps) (hk : k < ps.length) :
    ∃ b off x y, A = some ⟨b, off, none⟩ ∧ Hid (b < B) ∧ w.cell? ⟨b, off + k * 2, none⟩ = some (.int .i64 x) ∧ w.cell? ⟨b, off + k * 2 + 1, none⟩ = some (.int .i64 y) ∧ inI64 x ∧ inI64 y := by
  obtain ⟨b, off, e, hb, hc⟩ := h.2 (by omega)
  exact ⟨b, off, _, _, e, Lib.hid hb, (hc k hk).1, (hc k hk).2, h.1 k hk⟩
theorem Pairs.nil_ {w : World} {B : Nat} {A : Option Addr} : Pairs w B A [] := ⟨fun i h => by simp at h, fun h => by simp at h⟩
theorem Pairs.below {w w' : World} {B : Nat} {A : Option Addr} {ps : List (Int × Int)} (h : Pairs w B A ps) (hb : Below B w w') : Pairs w' B A ps :=
  ⟨h.1, fun hn => by
    obtain ⟨b, off, e, hl, hc⟩ := h.2 hn
    exact ⟨b, off, e, hl, fun i hi => ⟨(hb.cell (p := ⟨b, _, none⟩) hl).trans (hc i hi).1, (hb.cell (p := ⟨b, _, none⟩) hl).trans (hc i hi).2⟩⟩⟩
end Go.Proofs.Ythenjipljkphiaa
