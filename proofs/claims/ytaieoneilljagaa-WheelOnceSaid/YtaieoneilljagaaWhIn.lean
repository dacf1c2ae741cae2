/-
  What the wheel's laws are handed: acts, timers, steps, out of the reading of what came in.
-/
import Derived.Test.YtaieoneilljagaaRowsIn
import Derived.Test.YtaieoneilljagaaWhPlays
import Derived.Test.YtaieoneilljagaaWhOnce
import Derived.Test.YtaieoneilljagaaWhKnown
import Derived.SliceStrings
namespace Go.Proofs.Ytaieoneilljagaa
open Go.ChangeShapes Go.WideShapes Go.ChangeAt Go.RowKit Go.Deep
theorem key_in {H : Type} {enc : TypeId × Value → H} {w : World} {base : Nat} {spare : Nat → Bool} {held : Bool} {n : Nat} {v0 v1 : Value} {y : DataW H × List MemPlace}
    (h : DataW.trod enc Try.prog w base spare held n 28 [v0, v1] = some y) : ∃ a b, v0 = .int .i64 a ∧ v1 = .int .i64 b ∧ is64 a ∧ is64 b := by
  obtain ⟨m0, y0, t0⟩ := field_in Try.underlying28 h 0 _ rfl rfl (by kernel_rfl : _ = 1)
  obtain ⟨m1, y1, t1⟩ := field_in Try.underlying28 h 1 _ rfl rfl (by kernel_rfl : _ = 1)
  obtain ⟨a, rfl, a0, a1⟩ := i64_of Try.underlying3 t0
  obtain ⟨b, rfl, b0, b1⟩ := i64_of Try.underlying3 t1
  exact ⟨a, b, rfl, rfl, ⟨a0, a1⟩, b0, b1⟩
def WActs (w : World) (B : Nat) (A : Option Addr) (l : List Wh.Ac) : Prop := 0 < l.length → ∃ b off, A = some ⟨b, off, none⟩ ∧ b < B ∧ ∀ i, i < l.length → Wh.AcAt w b (off + i * 4) (l.getD i Wh.ac0)
theorem WActs.nil_ {w : World} {B : Nat} {A : Option Addr} : WActs w B A [] := fun h => by simp at h
theorem wacts_in {H : Type} {enc : TypeId × Value → H} {w : World} {base : Nat} {spare : Nat → Bool} {held : Bool} {fuel : Nat} {cs : List Value} {x : DataW H × List MemPlace}
    (h : DataW.trod enc Try.prog w base spare held fuel 41 cs = some x) : ∃ (A : Option Addr) (ms : List Wh.Ac) (cap : Nat), cs = [.slice A ms.length cap] ∧ ms.length ≤ cap ∧ cap ≤ 9223372036854775807 ∧ WActs w w.heap.size A ms := by
  obtain ⟨A, len, cap, hcs, hl, hm, hc⟩ := rows_in (k := 4) Try.underlying41 Try.underlying46 (by kernel_rfl) (by decide) h
  rcases Nat.eq_zero_or_pos len with h0 | h0
  · subst h0; exact ⟨A, [], cap, hcs, by simp, hm, WActs.nil_⟩
  · obtain ⟨b, off, rfl, he⟩ := hc h0
    have hb : b < w.heap.size := by
      obtain ⟨zs, _, _, hz, _, hv⟩ := he 0 h0
      exact block_lt (hv 0 (by omega))
    obtain ⟨ms, hml, hms⟩ := list_of Wh.ac0 (fun i m => Wh.AcAt w b (off + i * 4) m) len (fun i hi => by
        obtain ⟨zs, n, y, hz, ht, hv⟩ := he i hi
        obtain ⟨z0, z1, z2, z3, rfl⟩ : ∃ z0 z1 z2 z3, zs = [z0, z1, z2, z3] := by
          match zs, hz with
          | [a, b, c, d], _ => exact ⟨a, b, c, d, rfl⟩
        obtain ⟨m0, y0, t0⟩ := field_in Try.underlying46 ht 0 _ rfl rfl (by kernel_rfl : _ = 1)
        obtain ⟨m1, y1, t1⟩ := field_in Try.underlying46 ht 1 _ rfl rfl (by kernel_rfl : _ = 2)
        obtain ⟨m2, y2, t2⟩ := field_in Try.underlying46 ht 2 _ rfl rfl (by kernel_rfl : _ = 1)
        obtain ⟨op, rfl, _, _⟩ := i64_of Try.underlying3 t0
        obtain ⟨run, task, rfl, rfl, hr, hk⟩ := key_in t1
        obtain ⟨at_, rfl, a0, a1⟩ := i64_of Try.underlying2 t2
        exact ⟨⟨op, run, task, at_⟩, ⟨hv 0 (by simp), hv 1 (by simp), hv 2 (by simp), hv 3 (by simp)⟩, hr, hk, a0, a1⟩)
    exact ⟨some ⟨b, off, none⟩, ms, cap, by rw [hml]; exact hcs, by omega, hm, fun _ => ⟨b, off, rfl, hb, fun i hi => hms i (by omega)⟩⟩
def WDues (w : World) (B : Nat) (A : Option Addr) (l : List Wh.T) : Prop :=
  (∀ a ∈ l, a.ok) ∧ (0 < l.length → ∃ b off, A = some ⟨b, off, none⟩ ∧ b < B ∧ ∀ i (hi : i < l.length), w.cell? ⟨b, off + i * 3, none⟩ = some (.int .i64 l[i].run) ∧ w.cell? ⟨b, off + i * 3 + 1, none⟩ = some (.int .i64 l[i].task) ∧ w.cell? ⟨b, off + i * 3 + 2, none⟩ = some (.int .i64 l[i].at_))
theorem WDues.nil_ {w : World} {B : Nat} {A : Option Addr} : WDues w B A [] := ⟨fun a h => by simp at h, fun h => by simp at h⟩
theorem wdues_in {H : Type} {enc : TypeId × Value → H} {w : World} {base : Nat} {spare : Nat → Bool} {held : Bool} {fuel : Nat} {cs : List Value} {x : DataW H × List MemPlace}
    (h : DataW.trod enc Try.prog w base spare held fuel 33 cs = some x) : ∃ (A : Option Addr) (ms : List Wh.T) (cap : Nat), cs = [.slice A ms.length cap] ∧ ms.length ≤ cap ∧ cap ≤ 9223372036854775807 ∧ WDues w w.heap.size A ms := by
  obtain ⟨A, len, cap, hcs, hl, hm, hc⟩ := rows_in (k := 3) Try.underlying33 Try.underlying56 (by kernel_rfl) (by decide) h
  rcases Nat.eq_zero_or_pos len with h0 | h0
  · subst h0; exact ⟨A, [], cap, hcs, by simp, hm, WDues.nil_⟩
  · obtain ⟨b, off, rfl, he⟩ := hc h0
    have hb : b < w.heap.size := by
      obtain ⟨zs, _, _, hz, _, hv⟩ := he 0 h0
      exact block_lt (hv 0 (by omega))
    obtain ⟨ms, hml, hms⟩ := list_of (⟨0, 0, 0⟩ : Wh.T) (fun i m => m.ok ∧ w.cell? ⟨b, off + i * 3, none⟩ = some (.int .i64 m.run) ∧ w.cell? ⟨b, off + i * 3 + 1, none⟩ = some (.int .i64 m.task) ∧ w.cell? ⟨b, off + i * 3 + 2, none⟩ = some (.int .i64 m.at_)) len (fun i hi => by
        obtain ⟨zs, n, y, hz, ht, hv⟩ := he i hi
        obtain ⟨z0, z1, z2, rfl⟩ : ∃ z0 z1 z2, zs = [z0, z1, z2] := by
          match zs, hz with
          | [a, b, c], _ => exact ⟨a, b, c, rfl⟩
        obtain ⟨m1, y1, t1⟩ := field_in Try.underlying56 ht 0 _ rfl rfl (by kernel_rfl : _ = 2)
        obtain ⟨m2, y2, t2⟩ := field_in Try.underlying56 ht 1 _ rfl rfl (by kernel_rfl : _ = 1)
        obtain ⟨run, task, rfl, rfl, hr, hk⟩ := key_in t1
        obtain ⟨at_, rfl, a0, a1⟩ := i64_of Try.underlying2 t2
        exact ⟨⟨run, task, at_⟩, ⟨hr, hk, a0, a1⟩, hv 0 (by simp), hv 1 (by simp), hv 2 (by simp)⟩)
    refine ⟨some ⟨b, off, none⟩, ms, cap, by rw [hml]; exact hcs, by omega, hm, fun a ha => ?_, fun _ => ⟨b, off, rfl, hb, fun i hi => ?_⟩⟩
    · obtain ⟨i, hi, rfl⟩ := List.getElem_of_mem ha
      have := (hms i (by omega)).1
      rwa [List.getD_eq_getElem?_getD, List.getElem?_eq_getElem hi] at this
    · have := (hms i (by omega)).2
      rwa [List.getD_eq_getElem?_getD, List.getElem?_eq_getElem hi] at this
/-- A row of signed numbers that came in. -/
def Nums (w : World) (B : Nat) (A : Option Addr) (zs : List Int) : Prop :=
  0 < zs.length → ∃ b off, A = some ⟨b, off, none⟩ ∧ b < B ∧ ∀ i, i < zs.length → w.cell? ⟨b, off + i, none⟩ = some (.int .i64 (zs.getD i 0))
theorem Nums.nil_ {w : World} {B : Nat} {A : Option Addr} : Nums w B A [] := fun h => by simp at h
theorem nums_of {W : World} {x : Addr} {len : Nat} {zs : List Int} (hl : len ≤ zs.length) (hc : ∀ i, i < zs.length → W.cell? (x.add i) = some (.int .i64 (zs.getD i 0))) (_hw : ∀ n ∈ zs, (Lit.int .i64 n).wf = true) :
    Nums W W.heap.size (some x) (zs.take len) := fun hn => by
  have hlen : (zs.take len).length = len := by simp; omega
  rw [hlen] at hn
  obtain ⟨b, off, spot⟩ := x
  have h0 := hc 0 (by omega)
  have hspot : spot = none := by simpa [Addr.add] using World.cell?_spot h0
  subst hspot
  refine ⟨b, off, rfl, ?_, fun i hi => ?_⟩
  · rw [add_off] at h0
    exact block_lt h0
  · rw [hlen] at hi
    rw [List.getD_eq_getElem?_getD, List.getElem?_take_of_lt hi, ← List.getD_eq_getElem?_getD, ← add_off]
    exact hc i (by omega)
theorem BoolP.plain {w w' : World} {b : Bool} {e : Ending} (h : BoolP w b e w') : e = .returned (.bool b) ∧ Below w.heap.size w w' := ⟨h.1, h.2.out⟩
theorem known_end (w : World) : Calls Try.prog 3 #[] w fun e w' => e = .returned (.bool true) ∧ Below w.heap.size w w' := (known_walk w).mono fun _ _ h => h.plain
theorem plays_end (A : Option Addr) (l : List Wh.Ac) (cap : Nat) (hm : l.length ≤ 9223372036854775807) (w : World) (h : WActs w w.heap.size A l) :
    Calls Try.prog 4 #[.slice A l.length cap] w fun e w' => e = .returned (.bool true) ∧ Below w.heap.size w w' :=
  (plays_walk A l l.length cap w rfl hm h).mono fun _ _ h => h.plain
theorem once_end (A : Option Addr) (l : List Wh.T) (cap : Nat) (hm : l.length ≤ 9223372036854775807) (Az : Option Addr) (zs : List Int) (capz : Nat) (hmz : zs.length ≤ 9223372036854775807) (w : World) (h : WDues w w.heap.size A l) (hz : Nums w w.heap.size Az zs) :
    Calls Try.prog 5 #[.slice A l.length cap, .slice Az zs.length capz] w fun e w' => e = .returned (.bool true) ∧ Below w.heap.size w w' :=
  (once_walk A Az l zs l.length cap zs.length capz w rfl rfl hm hmz ⟨h.1, fun hn => by obtain ⟨b, off, e, hb, hc⟩ := h.2 hn; exact ⟨b, off, e, trivial, hb, hc⟩⟩ hz).mono fun _ _ h => h.plain
end Go.Proofs.Ytaieoneilljagaa
