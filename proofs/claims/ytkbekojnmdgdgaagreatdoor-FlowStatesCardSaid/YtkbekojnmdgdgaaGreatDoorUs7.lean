/-
  Part 7 of the texts behind the law: UEvBox, UEvsR, UEvsIn.
-/
import Derived.Test.YtkbekojnmdgdgaaGreatDoorUs1
import Derived.Deep.QuietTactic
import Derived.BigQuiet
import Derived.Deep.Cut
import Derived.Test.YtkbekojnmdgdgaaGreatDoorUs2
/- EvBox -/
namespace Go.Proofs.YtkbekojnmdgdgaaGreatDoor
open Go.RowKit
def evc (e : Ev.E) : Array Value := #[.int .i64 e.kind, .int .i64 e.run, .int .i64 e.task, .int .i64 e.try_, .int .i64 e.n, .string e.name, .string e.key, .string e.data]
structure EvIn (e : Ev.E) : Prop where
 kind : is64 e.kind
 run : is64 e.run
 task : is64 e.task
 try_ : is64 e.try_
 n : is64 e.n
 name : e.name.size ≤ 9223372036854775807
 key : e.key.size ≤ 9223372036854775807
 data : e.data.size ≤ 9223372036854775807
end Go.Proofs.YtkbekojnmdgdgaaGreatDoor
/- EvsR -/
namespace Go.Proofs.YtkbekojnmdgdgaaGreatDoor
open Go.RowKit
structure EvsR (w : World) (B : Nat) (A : Option Addr) (l : List Ev.E) : Prop where
 all : ∀ e ∈ l, EvIn e
 at_ : 0 < l.length → ∃ b off, A = some ⟨b, off, none⟩ ∧ b < B ∧ ∀ i, i < l.length → w.cell? ⟨b, off + i * 8, none⟩ = some (.int .i64 (l.getD i Ev.zero).kind) ∧ w.cell? ⟨b, off + i * 8 + 1, none⟩ = some (.int .i64 (l.getD i Ev.zero).run) ∧
  w.cell? ⟨b, off + i * 8 + 2, none⟩ = some (.int .i64 (l.getD i Ev.zero).task) ∧ w.cell? ⟨b, off + i * 8 + 3, none⟩ = some (.int .i64 (l.getD i Ev.zero).try_) ∧ w.cell? ⟨b, off + i * 8 + 4, none⟩ = some (.int .i64 (l.getD i Ev.zero).n) ∧
  w.cell? ⟨b, off + i * 8 + 5, none⟩ = some (.string (l.getD i Ev.zero).name) ∧ w.cell? ⟨b, off + i * 8 + 6, none⟩ = some (.string (l.getD i Ev.zero).key) ∧ w.cell? ⟨b, off + i * 8 + 7, none⟩ = some (.string (l.getD i Ev.zero).data)
theorem EvsR.nil_ {w : World} {B : Nat} {A : Option Addr} : EvsR w B A [] := ⟨fun a h => by simp at h, fun h => by simp at h⟩
theorem EvsR.below {w w' : World} {B : Nat} {A : Option Addr} {l : List Ev.E} (h : EvsR w B A l) (hb : Below B w w') : EvsR w' B A l :=
 ⟨h.all, fun h0 => by
  obtain ⟨b, off, hA, hlt, hc⟩ := h.at_ h0
  refine ⟨b, off, hA, hlt, fun i hi => ?_⟩
  have hk : ∀ o, w'.cell? ⟨b, o, none⟩ = w.cell? ⟨b, o, none⟩ := fun o => hb.cell (p := ⟨b, o, none⟩) hlt
  simp only [hk]
  exact hc i hi⟩
theorem EvsR.more {w : World} {B B' : Nat} {A : Option Addr} {l : List Ev.E} (h : EvsR w B A l) (hB : B ≤ B') : EvsR w B' A l :=
 ⟨h.all, fun h0 => by
  obtain ⟨b, off, hA, hlt, hc⟩ := h.at_ h0
  exact ⟨b, off, hA, Nat.lt_of_lt_of_le hlt hB, hc⟩⟩
theorem EvsR.ev {w : World} {B : Nat} {A : Option Addr} {l : List Ev.E} (h : EvsR w B A l) {i : Nat} (hi : i < l.length) : ∃ (b off : Nat) (k r t y n : Int) (na ke da : ByteArray), A = some ⟨b, off, none⟩ ∧ Hid (b < B) ∧ Hid (l[i]? = some ⟨k, r, t, y, n, na, ke, da⟩) ∧ Hid (EvIn ⟨k, r, t, y, n, na, ke, da⟩) ∧
  (w.cell? ⟨b, off + i * 8, none⟩ = some (.int .i64 k) ∧ w.cell? ⟨b, off + i * 8 + 1, none⟩ = some (.int .i64 r) ∧ w.cell? ⟨b, off + i * 8 + 2, none⟩ = some (.int .i64 t) ∧ w.cell? ⟨b, off + i * 8 + 3, none⟩ = some (.int .i64 y) ∧ w.cell? ⟨b, off + i * 8 + 4, none⟩ = some (.int .i64 n) ∧ w.cell? ⟨b, off + i * 8 + 5, none⟩ = some (.string na) ∧ w.cell? ⟨b, off + i * 8 + 6, none⟩ = some (.string ke) ∧ w.cell? ⟨b, off + i * 8 + 7, none⟩ = some (.string da)) := by
 obtain ⟨b, off, hA, hlt, hc⟩ := h.at_ (by omega)
 have hc := hc i hi
 have e : l.getD i Ev.zero = l[i] := by rw [List.getD_eq_getElem?_getD, List.getElem?_eq_getElem hi]; rfl
 rw [e] at hc
 have hin := h.all _ (List.getElem_mem hi)
 have hg : l[i]? = some l[i] := List.getElem?_eq_getElem hi
 generalize l[i] = x at *
 obtain ⟨k, r, t, y, n, na, ke, da⟩ := x
 exact ⟨b, off, k, r, t, y, n, na, ke, da, hA, Lib.hid hlt, Lib.hid hg, Lib.hid hin, hc⟩
end Go.Proofs.YtkbekojnmdgdgaaGreatDoor
/- EvsIn -/
namespace Go.Proofs.YtkbekojnmdgdgaaGreatDoor
open Go.ChangeShapes Go.WideShapes Go.ChangeAt Go.RowKit Go.Deep
set_option maxRecDepth 20000 in
theorem events_in {H : Type} {enc : TypeId × Value → H} {w : World} {base : Nat} {spare : Nat → Bool} {held : Bool} {fuel : Nat} {cs : List Value} {x : DataW H × List MemPlace}
  (h : DataW.trod enc Tryz.prog w base spare held fuel 45 cs = some x) : ∃ (A : Option Addr) (ms : List Ev.E) (cap : Nat), cs = [.slice A ms.length cap] ∧ ms.length ≤ cap ∧ cap ≤ 9223372036854775807 ∧ EvsR w w.heap.size A ms := by
 obtain ⟨A, len, cap, hcs, hl, hm, hc⟩ := rows_in (k := 8) Tryz.underlying45 Tryz.underlying28 (by kernel_rfl) (by decide) h
 rcases Nat.eq_zero_or_pos len with h0 | h0
 ·subst h0; exact ⟨A, [], cap, hcs, by simp, hm, EvsR.nil_⟩
 ·obtain ⟨b, off, rfl, he⟩ := hc h0
  have hb : b < w.heap.size := by
   obtain ⟨zs, _, _, hz, _, hv⟩ := he 0 h0
   exact block_lt (hv 0 (by omega))
  obtain ⟨ms, hml, hms⟩ := list_of Ev.zero (fun i m => EvIn m ∧ w.cell? ⟨b, off + i * 8, none⟩ = some (.int .i64 m.kind) ∧ w.cell? ⟨b, off + i * 8 + 1, none⟩ = some (.int .i64 m.run) ∧ w.cell? ⟨b, off + i * 8 + 2, none⟩ = some (.int .i64 m.task) ∧ w.cell? ⟨b, off + i * 8 + 3, none⟩ = some (.int .i64 m.try_) ∧
    w.cell? ⟨b, off + i * 8 + 4, none⟩ = some (.int .i64 m.n) ∧ w.cell? ⟨b, off + i * 8 + 5, none⟩ = some (.string m.name) ∧ w.cell? ⟨b, off + i * 8 + 6, none⟩ = some (.string m.key) ∧ w.cell? ⟨b, off + i * 8 + 7, none⟩ = some (.string m.data)) len (fun i hi => by
    obtain ⟨zs, n, y, hz, ht, hv⟩ := he i hi
    obtain ⟨z0, z1, z2, z3, z4, z5, z6, z7, rfl⟩ : ∃ z0 z1 z2 z3 z4 z5 z6 z7, zs = [z0, z1, z2, z3, z4, z5, z6, z7] := by
     match zs, hz with
     | [a, b, c, d, e, f, g, h], _ => exact ⟨a, b, c, d, e, f, g, h, rfl⟩
    obtain ⟨m0, y0, t0⟩ := field_in Tryz.underlying28 ht 0 _ rfl rfl (by kernel_rfl : _ = 1)
    obtain ⟨m1, y1, t1⟩ := field_in Tryz.underlying28 ht 1 _ rfl rfl (by kernel_rfl : _ = 1)
    obtain ⟨m2, y2, t2⟩ := field_in Tryz.underlying28 ht 2 _ rfl rfl (by kernel_rfl : _ = 1)
    obtain ⟨m3, y3, t3⟩ := field_in Tryz.underlying28 ht 3 _ rfl rfl (by kernel_rfl : _ = 1)
    obtain ⟨m4, y4, t4⟩ := field_in Tryz.underlying28 ht 4 _ rfl rfl (by kernel_rfl : _ = 1)
    obtain ⟨m5, y5, t5⟩ := field_in Tryz.underlying28 ht 5 _ rfl rfl (by kernel_rfl : _ = 1)
    obtain ⟨m6, y6, t6⟩ := field_in Tryz.underlying28 ht 6 _ rfl rfl (by kernel_rfl : _ = 1)
    obtain ⟨m7, y7, t7⟩ := field_in Tryz.underlying28 ht 7 _ rfl rfl (by kernel_rfl : _ = 1)
    obtain ⟨k, rfl, k0, k1⟩ := i64_of Tryz.underlying3 t0
    obtain ⟨r, rfl, r0, r1⟩ := i64_of Tryz.underlying3 t1
    obtain ⟨t, rfl, tt0, tt1⟩ := i64_of Tryz.underlying3 t2
    obtain ⟨y, rfl, yy0, yy1⟩ := i64_of Tryz.underlying3 t3
    obtain ⟨nn, rfl, n0, n1⟩ := i64_of Tryz.underlying2 t4
    obtain ⟨na, rfl, hna⟩ := str_of Tryz.underlying9 t5
    obtain ⟨ke, rfl, hke⟩ := str_of Tryz.underlying9 t6
    obtain ⟨da, rfl, hda⟩ := str_of Tryz.underlying9 t7
    exact ⟨⟨k, r, t, y, nn, na, ke, da⟩, ⟨⟨k0, k1⟩, ⟨r0, r1⟩, ⟨tt0, tt1⟩, ⟨yy0, yy1⟩, ⟨n0, n1⟩, hna, hke, hda⟩, hv 0 (by simp), hv 1 (by simp), hv 2 (by simp), hv 3 (by simp), hv 4 (by simp), hv 5 (by simp), hv 6 (by simp), hv 7 (by simp)⟩)
  refine ⟨some ⟨b, off, none⟩, ms, cap, by rw [hml]; exact hcs, by omega, hm, fun a ha => ?_, fun _ => ⟨b, off, rfl, hb, fun i hi => ?_⟩⟩
  ·obtain ⟨i, hi, rfl⟩ := List.getElem_of_mem ha
   have := (hms i (by omega)).1
   rwa [List.getD_eq_getElem?_getD, List.getElem?_eq_getElem hi] at this
  ·exact (hms i (by omega)).2
end Go.Proofs.YtkbekojnmdgdgaaGreatDoor
