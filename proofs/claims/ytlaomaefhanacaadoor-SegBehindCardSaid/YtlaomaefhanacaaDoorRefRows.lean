/-
  Rows of records as the reference has them, beside package frame's: the cells of one of each.
-/
import Derived.Test.YtlaomaefhanacaaDoorFrRefGet
import Derived.Test.YtlaomaefhanacaaDoorRecRows
namespace Go.Proofs.YtlaomaefhanacaaDoor
open Go.RowKit

def valR (r : Fr.Rc) : Value × Value := (.int .u64 r.1, .string (strOfNums r.2))
theorem rrec_info : (Tryd.prog.info? 71).map (fun i => (i.zero, i.size, i.bytes)) = some (some (.agg #[.int .u64 0, .string ⟨#[]⟩]), 2, 24) := by kernel_rfl
theorem OwnR.at_ {w : World} {base : Nat} {A : Option Addr} {cap : Nat} {l : List Fr.Rc} (h : OwnR w base A cap l) {i : Nat} (hi : i < l.length) :
    ∃ g A2 cap2 at_ p, A = some ⟨g, 0, none⟩ ∧ Hid (g < w.heap.size) ∧ w.cell? ⟨g, i * 2, none⟩ = some (.int .u64 at_) ∧ w.cell? ⟨g, i * 2 + 1, none⟩ = some (.slice A2 p.length cap2) ∧ Hid (Bytes w w.heap.size A2 p) ∧ Hid (l.getD i (0, []) = (at_, p)) := by
  obtain ⟨vs, hl, ho, hv⟩ := h
  obtain ⟨g, rfl, _, hg⟩ := ho.shape (by omega)
  obtain ⟨h1, A2, cap2, h2, h3⟩ := hv i hi
  obtain ⟨c0, c1⟩ := ho.cell (undef, undef) (i := i) (by omega)
  rw [h1] at c0
  rw [h2] at c1
  exact ⟨g, A2, cap2, _, _, rfl, Lib.hid hg, c0, c1, Lib.hid h3.bytes, Lib.hid rfl⟩
theorem ownRef_at {w : World} {base : Nat} {T : TypeId} {A : Option Addr} {cap : Nat} {l : List Fr.Rc} (h : OwnP w base T A cap (l.map valR)) {i : Nat} (hi : i < l.length) {at_ : Int} {p : List Int} (he : l.getD i (0, []) = (at_, p)) :
    ∃ g, A = some ⟨g, 0, none⟩ ∧ Hid (g < w.heap.size) ∧ w.cell? ⟨g, i * 2, none⟩ = some (.int .u64 at_) ∧ w.cell? ⟨g, i * 2 + 1, none⟩ = some (.string (strOfNums p)) := by
  obtain ⟨g, rfl, _, hg⟩ := h.shape (by simp; omega)
  obtain ⟨c0, c1⟩ := h.cell (undef, undef) (i := i) (by simp; omega)
  have e : (l.map valR).getD i (undef, undef) = valR (at_, p) := by
    rw [← he, List.getD_eq_getElem?_getD, List.getD_eq_getElem?_getD, List.getElem?_map, List.getElem?_eq_getElem hi]; rfl
  rw [e] at c0 c1
  exact ⟨g, rfl, Lib.hid hg, c0, c1⟩
end Go.Proofs.YtlaomaefhanacaaDoor
