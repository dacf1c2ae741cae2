/-
  A graph that came in, as the walks take it: what it holds, from its reading.
-/
import Derived.Test.YtgeefkfolejbnaaEdges
import Derived.Test.YtgeefkfolejbnaaFieldsIn
import Derived.Lib.SmallJoins
namespace Go.Proofs.Ytgeefkfolejbnaa
open Go.ChangeShapes Go.WideShapes Go.ChangeAt Go.RowKit Go.Deep
theorem trod_array2 {H : Type} {enc : TypeId × Value → H} {P : Program} {w : World} {base : Nat} {spare : Nat → Bool} {held : Bool} {t e : TypeId} {fuel : Nat} {c0 c1 : Value} {x : DataW H × List MemPlace} (ht : P.underlying t = some (.array 2 e)) (hce : P.cellsOf e = 1)
    (h : DataW.trod enc P w base spare held fuel t [c0, c1] = some x) : ∃ y0 y1 n, DataW.trod enc P w base spare held n e [c0] = some y0 ∧ DataW.trod enc P w base spare held n e [c1] = some y1 := by
  cases fuel with
  | zero => simp [DataW.trod] at h
  | succ n =>
    unfold DataW.trod at h
    rw [ht] at h
    have r2 : List.range 2 = [0, 1] := rfl
    simp [r2, hce] at h
    obtain ⟨_, h⟩ := h
    cases h0 : DataW.trod enc P w base spare held n e [c0] with
    | none => simp [h0] at h
    | some y0 =>
      cases h1 : DataW.trod enc P w base spare held n e [c1] with
      | none => simp [h0, h1] at h
      | some y1 => exact ⟨y0, y1, n, h0, h1⟩
theorem edges_in {H : Type} {enc : TypeId × Value → H} {w : World} {base : Nat} {spare : Nat → Bool} {held : Bool} {fuel : Nat} {v : Value} {x : DataW H × List MemPlace}
    (h : DataW.trod enc Try.prog w base spare held fuel 25 [v] = some x) :
    ∃ (A : Option Addr) (es : List (Int × Int)) (cap : Nat), v = .slice A es.length cap ∧ es.length ≤ 9223372036854775807 ∧ es.length ≤ cap ∧ Edg w w.heap.size A es := by
  rcases open_slice Try.underlying25 h with ⟨h0, _⟩ | ⟨a, len, cap, m, n, D, Pl, hcs, hb, hl, hm, hmm, _, hi⟩
  · simp at h0
    exact ⟨none, [], 0, by rw [h0]; rfl, by decide, by decide, Edg.nil_⟩
  · have hlm : len ≤ m := by rw [hmm]; split <;> omega
    unfold maxLen at hm
    simp at hcs
    have hC : Try.prog.cellsOf 24 = 2 := by kernel_rfl
    have key : ∀ i, i < len → ∃ e : Int × Int, w.cell? (a.add (i * 2)) = some (.int .i64 e.1) ∧ w.cell? (a.add (i * 2 + 1)) = some (.int .i64 e.2) ∧ inE e := fun i hil => by
      obtain ⟨cs', h1, h2⟩ := hi i (by omega)
      obtain ⟨_, hlen, hat⟩ := World.cells?_some h1
      rw [hC] at hlen hat
      match cs', hlen, hat, h2 with
      | [c0, c1], _, hat, h2 =>
        obtain ⟨y0, y1, k, t0, t1⟩ := trod_array2 Try.underlying24 (by kernel_rfl) h2
        obtain ⟨p, rfl, p0, p1⟩ := i64_of Try.underlying3 t0
        obtain ⟨q, rfl, q0, q1⟩ := i64_of Try.underlying3 t1
        have a0 := hat 0 (by decide)
        have a1 := hat 1 (by decide)
        rw [Go.Deep.add_add] at a0 a1
        exact ⟨(p, q), by simpa using a0, by simpa using a1, ⟨p0, p1⟩, ⟨q0, q1⟩⟩
    obtain ⟨es, he, hes⟩ := list_of ((0, 0) : Int × Int) (fun i e => w.cell? (a.add (i * 2)) = some (.int .i64 e.1) ∧ w.cell? (a.add (i * 2 + 1)) = some (.int .i64 e.2) ∧ inE e) len key
    refine ⟨some a, es, cap, by rw [hcs, he], by omega, by omega, fun i hi => (hes i (by omega)).2.2, fun hn => ?_⟩
    obtain ⟨b, off, spot⟩ := a
    have h0 := (hes 0 (by omega)).1
    have hs : spot = none := by simpa [Addr.add] using World.cell?_spot h0
    subst hs
    rw [add_off] at h0
    refine ⟨b, off, rfl, block_lt h0, fun i hi => ?_⟩
    obtain ⟨h1, h2, _⟩ := hes i (by omega)
    rw [add_off] at h1 h2
    rw [← Nat.add_assoc] at h2
    exact ⟨h1, h2⟩
theorem graph_in {H : Type} {enc : TypeId × Value → H} {w : World} {base b0 : Nat} {spare : Nat → Bool} {held : Bool} {r : Reach} {v : Value} {d : DataW H} {p : List MemPlace}
    (hv : Value.okWide Try.prog w r b0 27 v) (h : DataW.Trod enc Try.prog w base spare held 27 v d p) :
    ∃ (A : Option Addr) (es : List (Int × Int)) (cap : Nat) (e : Int), v = .agg #[.int .i64 e, .slice A es.length cap] ∧ es.length ≤ 9223372036854775807 ∧ es.length ≤ cap ∧ Edg w w.heap.size A es := by
  obtain ⟨va, vb, ya, yb, n, rfl, -, -, ta, tb⟩ := Joins.open_agg2 Try.underlying27 (by kernel_rfl) (by kernel_rfl) hv h
  obtain ⟨e, rfl, _, _⟩ := i64_of Try.underlying3 ta
  obtain ⟨A, es, cap, rfl, h1, h2, h3⟩ := edges_in tb
  exact ⟨A, es, cap, e, rfl, h1, h2, h3⟩
end Go.Proofs.Ytgeefkfolejbnaa
