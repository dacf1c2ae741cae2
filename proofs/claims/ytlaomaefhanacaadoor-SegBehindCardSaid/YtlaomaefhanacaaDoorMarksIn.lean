/-
  A slice of marks that came in, as the walks take it: what it holds, from its reading.
-/
import Derived.Test.YtlaomaefhanacaaDoorStructsIn
import Derived.Test.YtlaomaefhanacaaDoorMarks
namespace Go.Proofs.YtlaomaefhanacaaDoor
open Go.ChangeShapes Go.WideShapes Go.ChangeAt Go.RowKit Go.Deep
theorem marks_in {H : Type} {enc : TypeId × Value → H} {w : World} {base : Nat} {spare : Nat → Bool} {held : Bool} {fuel : Nat} {cs : List Value} {x : DataW H × List MemPlace}
    (h : DataW.trod enc Tryd.prog w base spare held fuel 45 cs = some x) : ∃ (A : Option Addr) (ms : List Mk) (cap : Nat), cs = [.slice A ms.length cap] ∧ ms.length ≤ cap ∧ cap ≤ 9223372036854775807 ∧ Marks w w.heap.size A ms := by
  obtain ⟨A, len, cap, hcs, hl, hm, hc⟩ := structs_in Tryd.underlying45 Tryd.underlying49 (by decide) (by kernel_rfl) (fun j f hj => by
    match j, hj with
    | 0, hj => simp at hj; subst hj; exact ⟨rfl, by kernel_rfl⟩
    | 1, hj => simp at hj; subst hj; exact ⟨rfl, by kernel_rfl⟩
    | 2, hj => simp at hj; subst hj; exact ⟨rfl, by kernel_rfl⟩
    | j + 3, hj => simp at hj) h
  rcases Nat.eq_zero_or_pos len with h0 | h0
  · subst h0; exact ⟨A, [], cap, hcs, by simp, hm, Marks.nil_⟩
  · obtain ⟨b, off, rfl, he⟩ := hc h0
    obtain ⟨ms, hml, hms⟩ := list_of ((0, 0, []) : Mk) (fun i m => ∃ Ai ci, w.cell? ⟨b, off + i * 3, none⟩ = some (.int .i64 m.1) ∧ w.cell? ⟨b, off + i * 3 + 1, none⟩ = some (.int .i64 m.2.1) ∧
      w.cell? ⟨b, off + i * 3 + 2, none⟩ = some (.slice Ai m.2.2.length ci) ∧ Bytes w w.heap.size Ai m.2.2 ∧ m.2.2.length ≤ ci ∧ ci ≤ 9223372036854775807) len (fun i hi => by
        obtain ⟨v0, y0, n0, c0, t0⟩ := he i hi 0 _ rfl
        obtain ⟨v1, y1, n1, c1, t1⟩ := he i hi 1 _ rfl
        obtain ⟨v2, y2, n2, c2, t2⟩ := he i hi 2 _ rfl
        obtain ⟨a, rfl, _, _⟩ := i64_of Tryd.underlying2 t0
        obtain ⟨o, rfl, _, _⟩ := i64_of Tryd.underlying2 t1
        obtain ⟨Ai, zs, ci, rfl, hb, hz, hci⟩ := bytes_of_in Tryd.underlying32 Tryd.underlying5 (by kernel_rfl) t2
        exact ⟨(a, o, zs), Ai, ci, c0, by rw [Nat.add_assoc]; exact c1, by rw [Nat.add_assoc]; exact c2, hb, hz, hci⟩)
    refine ⟨some ⟨b, off, none⟩, ms, cap, by rw [hml]; exact hcs, by omega, hm, fun _ => ⟨b, off, rfl, ?_, fun i hi => hms i (by omega)⟩⟩
    obtain ⟨Ai, ci, h1, _⟩ := hms 0 h0
    exact block_lt h1
end Go.Proofs.YtlaomaefhanacaaDoor
