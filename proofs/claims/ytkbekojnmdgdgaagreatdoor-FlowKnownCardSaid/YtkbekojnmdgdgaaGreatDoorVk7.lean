/-
  Part 7 of the texts behind the law: VEvBox, VEvsR.
-/
import Derived.Test.YtkbekojnmdgdgaaGreatDoorVk1
import Derived.Deep.QuietTactic
import Derived.BigQuiet
import Derived.Deep.Cut
/- EvBox -/
namespace Go.Proofs.YtkbekojnmdgdgaaGreatDoor
open Go.RowKit
def evc (e : Ev.E) : Array Value := #[.int .i64 e.kind, .int .i64 e.run, .int .i64 e.task, .int .i64 e.try_, .int .i64 e.n, .string e.name, .string e.key, .string e.data]
structure EvIn (e : Ev.E) : Prop where
  kind : is64 e.kind
  run : is64 e.run
  task : is64 e.task
  try_ : is64 e.try_
  n : is64 e.n
  name : e.name.size ≤ 9223372036854775807
  key : e.key.size ≤ 9223372036854775807
  data : e.data.size ≤ 9223372036854775807
end Go.Proofs.YtkbekojnmdgdgaaGreatDoor
/- EvsR -/
namespace Go.Proofs.YtkbekojnmdgdgaaGreatDoor
open Go.RowKit
structure EvsR (w : World) (B : Nat) (A : Option Addr) (l : List Ev.E) : Prop where
  all : ∀ e ∈ l, EvIn e
  at_ : 0 < l.length → ∃ b off, A = some ⟨b, off, none⟩ ∧ b < B ∧ ∀ i, i < l.length → w.cell? ⟨b, off + i * 8, none⟩ = some (.int .i64 (l.getD i Ev.zero).kind) ∧ w.cell? ⟨b, off + i * 8 + 1, none⟩ = some (.int .i64 (l.getD i Ev.zero).run) ∧
    w.cell? ⟨b, off + i * 8 + 2, none⟩ = some (.int .i64 (l.getD i Ev.zero).task) ∧ w.cell? ⟨b, off + i * 8 + 3, none⟩ = some (.int .i64 (l.getD i Ev.zero).try_) ∧ w.cell? ⟨b, off + i * 8 + 4, none⟩ = some (.int .i64 (l.getD i Ev.zero).n) ∧
    w.cell? ⟨b, off + i * 8 + 5, none⟩ = some (.string (l.getD i Ev.zero).name) ∧ w.cell? ⟨b, off + i * 8 + 6, none⟩ = some (.string (l.getD i Ev.zero).key) ∧ w.cell? ⟨b, off + i * 8 + 7, none⟩ = some (.string (l.getD i Ev.zero).data)
theorem EvsR.below {w w' : World} {B : Nat} {A : Option Addr} {l : List Ev.E} (h : EvsR w B A l) (hb : Below B w w') : EvsR w' B A l :=
  ⟨h.all, fun h0 => by
    obtain ⟨b, off, hA, hlt, hc⟩ := h.at_ h0
    refine ⟨b, off, hA, hlt, fun i hi => ?_⟩
    have hk : ∀ o, w'.cell? ⟨b, o, none⟩ = w.cell? ⟨b, o, none⟩ := fun o => hb.cell (p := ⟨b, o, none⟩) hlt
    simp only [hk]
    exact hc i hi⟩
theorem EvsR.more {w : World} {B B' : Nat} {A : Option Addr} {l : List Ev.E} (h : EvsR w B A l) (hB : B ≤ B') : EvsR w B' A l :=
  ⟨h.all, fun h0 => by
    obtain ⟨b, off, hA, hlt, hc⟩ := h.at_ h0
    exact ⟨b, off, hA, Nat.lt_of_lt_of_le hlt hB, hc⟩⟩
theorem EvsR.ev {w : World} {B : Nat} {A : Option Addr} {l : List Ev.E} (h : EvsR w B A l) {i : Nat} (hi : i < l.length) : ∃ (b off : Nat) (k r t y n : Int) (na ke da : ByteArray), A = some ⟨b, off, none⟩ ∧ Hid (b < B) ∧ Hid (l[i]? = some ⟨k, r, t, y, n, na, ke, da⟩) ∧ Hid (EvIn ⟨k, r, t, y, n, na, ke, da⟩) ∧
    (w.cell? ⟨b, off + i * 8, none⟩ = some (.int .i64 k) ∧ w.cell? ⟨b, off + i * 8 + 1, none⟩ = some (.int .i64 r) ∧ w.cell? ⟨b, off + i * 8 + 2, none⟩ = some (.int .i64 t) ∧ w.cell? ⟨b, off + i * 8 + 3, none⟩ = some (.int .i64 y) ∧ w.cell? ⟨b, off + i * 8 + 4, none⟩ = some (.int .i64 n) ∧ w.cell? ⟨b, off + i * 8 + 5, none⟩ = some (.string na) ∧ w.cell? ⟨b, off + i * 8 + 6, none⟩ = some (.string ke) ∧ w.cell? ⟨b, off + i * 8 + 7, none⟩ = some (.string da)) := by
  obtain ⟨b, off, hA, hlt, hc⟩ := h.at_ (by omega)
  have hc := hc i hi
  have e : l.getD i Ev.zero = l[i] := by rw [List.getD_eq_getElem?_getD, List.getElem?_eq_getElem hi]; rfl
  rw [e] at hc
  have hin := h.all _ (List.getElem_mem hi)
  have hg : l[i]? = some l[i] := List.getElem?_eq_getElem hi
  generalize l[i] = x at *
  obtain ⟨k, r, t, y, n, na, ke, da⟩ := x
  exact ⟨b, off, k, r, t, y, n, na, ke, da, hA, Lib.hid hlt, Lib.hid hg, Lib.hid hin, hc⟩
end Go.Proofs.YtkbekojnmdgdgaaGreatDoor
