/-
  The cells of a row of ints of the call's own.
-/
import Derived.Test.YtgeefkfolejbnaaZRows
namespace Go.Proofs.Ytgeefkfolejbnaa
open Go.RowKit
theorem OwnZ.thaw {w : World} {base g cap : Nat} {zs : List Int} (h : OwnZ w base (some ⟨g, 0, none⟩) cap zs) (i : Nat) : w.frozen? ⟨g, i, none⟩ = false := by
  rcases h.1.2 with ⟨e, _⟩ | ⟨g', c', cur, e, hb, hg, r⟩
  · cases e
  · injection e with e1 e2 e3
    injection e1 with e1
    injection e1 with e1
    subst e1
    simp [World.frozen?, hg]
theorem OwnZ.val {w : World} {base g cap : Nat} {zs : List Int} (h : OwnZ w base (some ⟨g, 0, none⟩) cap zs) {i : Nat} (hi : i < zs.length) : w.cell? ⟨g, i, none⟩ = some (.int .i64 (zs.getD i 0)) := by
  obtain ⟨bb, off, z, he, _, hc, hz, _, _⟩ := h.zs.at_ hi
  injection he with he
  injection he with he1 he2
  subst he1 he2
  rw [hz.out, Nat.zero_add] at *
  exact hc
end Go.Proofs.Ytgeefkfolejbnaa
