/-
  What the laws of keys are handed: acts and keys, out of the reading of what came in.
-/
import Derived.Test.YteppokokabgniaaRowsIn
import Derived.Test.YteppokokabgniaaKyPlays
import Derived.Test.YteppokokabgniaaKyOrder
import Derived.Test.YteppokokabgniaaKyApart
import Derived.Test.YteppokokabgniaaKyKnown
namespace Go.Proofs.Yteppokokabgniaa
open Go.ChangeShapes Go.WideShapes Go.ChangeAt Go.RowKit Go.Deep
theorem kcells_in {H : Type} {enc : TypeId × Value → H} {w : World} {base : Nat} {spare : Nat → Bool} {held : Bool} {n : Nat} {v0 v1 : Value} {y : DataW H × List MemPlace}
    (h : DataW.trod enc Try.prog w base spare held n 28 [v0, v1] = some y) : ∃ a b, v0 = .string a ∧ v1 = .string b ∧ Ky.okk a b := by
  obtain ⟨m0, y0, t0⟩ := field_in Try.underlying28 h 0 _ rfl rfl (by kernel_rfl : _ = 1)
  obtain ⟨m1, y1, t1⟩ := field_in Try.underlying28 h 1 _ rfl rfl (by kernel_rfl : _ = 1)
  obtain ⟨a, rfl, ha⟩ := str_of Try.underlying9 t0
  obtain ⟨b, rfl, hb⟩ := str_of Try.underlying9 t1
  exact ⟨a, b, rfl, rfl, ha, hb⟩
theorem kkey_in {H : Type} {enc : TypeId × Value → H} {w : World} {base b0 : Nat} {spare : Nat → Bool} {held : Bool} {r : Reach} {v : Value} {d : DataW H} {p : List MemPlace}
    (hv : Value.okWide Try.prog w r b0 28 v) (h : DataW.Trod enc Try.prog w base spare held 28 v d p) :
    ∃ (a b : ByteArray), v = .agg #[.string a, .string b] ∧ Ky.okp ⟨a, b⟩ := by
  obtain ⟨cs, rfl, hsz⟩ := okWide_struct Try.underlying28 hv
  have hc : Try.prog.cellsOf 28 = 2 := by kernel_rfl
  rw [hc] at hsz
  obtain ⟨fuel, hf⟩ := h
  obtain ⟨v0, v1, rfl⟩ : ∃ v0 v1, cs = #[v0, v1] := by
    obtain ⟨l⟩ := cs
    match l, hsz with
    | [a, b], _ => exact ⟨a, b, rfl⟩
  have hf' : DataW.trod enc Try.prog w base spare held fuel 28 [v0, v1] = some (d, p) := by simpa [Value.cells] using hf
  obtain ⟨a, b, rfl, rfl, hk⟩ := kcells_in hf'
  exact ⟨a, b, rfl, hk⟩
def KActs (w : World) (B : Nat) (A : Option Addr) (l : List Ky.Ac) : Prop := 0 < l.length → ∃ b off, A = some ⟨b, off, none⟩ ∧ b < B ∧ ∀ i, i < l.length → Ky.AcAt w b (off + i * 4) (l.getD i Ky.ac0)
theorem KActs.nil_ {w : World} {B : Nat} {A : Option Addr} : KActs w B A [] := fun h => by simp at h
theorem kacts_in {H : Type} {enc : TypeId × Value → H} {w : World} {base : Nat} {spare : Nat → Bool} {held : Bool} {fuel : Nat} {cs : List Value} {x : DataW H × List MemPlace}
    (h : DataW.trod enc Try.prog w base spare held fuel 36 cs = some x) : ∃ (A : Option Addr) (ms : List Ky.Ac) (cap : Nat), cs = [.slice A ms.length cap] ∧ ms.length ≤ cap ∧ cap ≤ 9223372036854775807 ∧ KActs w w.heap.size A ms := by
  obtain ⟨A, len, cap, hcs, hl, hm, hc⟩ := rows_in (k := 4) Try.underlying36 Try.underlying40 (by kernel_rfl) (by decide) h
  rcases Nat.eq_zero_or_pos len with h0 | h0
  · subst h0; exact ⟨A, [], cap, hcs, by simp, hm, KActs.nil_⟩
  · obtain ⟨b, off, rfl, he⟩ := hc h0
    have hb : b < w.heap.size := by
      obtain ⟨zs, _, _, hz, _, hv⟩ := he 0 h0
      exact block_lt (hv 0 (by omega))
    obtain ⟨ms, hml, hms⟩ := list_of Ky.ac0 (fun i m => Ky.AcAt w b (off + i * 4) m) len (fun i hi => by
        obtain ⟨zs, n, y, hz, ht, hv⟩ := he i hi
        obtain ⟨z0, z1, z2, z3, rfl⟩ : ∃ z0 z1 z2 z3, zs = [z0, z1, z2, z3] := by
          match zs, hz with
          | [a, b, c, d], _ => exact ⟨a, b, c, d, rfl⟩
        obtain ⟨m0, y0, t0⟩ := field_in Try.underlying40 ht 0 _ rfl rfl (by kernel_rfl : _ = 1)
        obtain ⟨m1, y1, t1⟩ := field_in Try.underlying40 ht 1 _ rfl rfl (by kernel_rfl : _ = 1)
        obtain ⟨m2, y2, t2⟩ := field_in Try.underlying40 ht 2 _ rfl rfl (by kernel_rfl : _ = 2)
        obtain ⟨op, rfl, _, _⟩ := i64_of Try.underlying3 t0
        obtain ⟨id, rfl, i0, i1⟩ := i64_of Try.underlying3 t1
        obtain ⟨nm, ky, rfl, rfl, hk⟩ := kcells_in t2
        exact ⟨⟨op, id, nm, ky⟩, ⟨hk, i0, i1⟩, hv 0 (by simp), hv 1 (by simp), hv 2 (by simp), hv 3 (by simp)⟩)
    exact ⟨some ⟨b, off, none⟩, ms, cap, by rw [hml]; exact hcs, by omega, hm, fun _ => ⟨b, off, rfl, hb, fun i hi => hms i (by omega)⟩⟩
theorem known_end (w : World) : Calls Try.prog 3 #[] w fun e w' => e = .returned (.bool true) ∧ Below w.heap.size w w' := (known_walk w).mono fun _ _ h => h.plain
theorem plays_end (m : Int) (_m0 : -9223372036854775808 ≤ m) (_m1 : m ≤ 9223372036854775807) (A : Option Addr) (l : List Ky.Ac) (cap : Nat) (hm : l.length ≤ 9223372036854775807) (w : World) (h : KActs w w.heap.size A l) :
    Calls Try.prog 4 #[.int .i64 m, .slice A l.length cap] w fun e w' => e = .returned (.bool true) ∧ Below w.heap.size w w' :=
  (plays_walk m A l l.length cap w rfl hm h).mono fun _ _ h => h.plain
theorem order_end (m : Int) (_m0 : -9223372036854775808 ≤ m) (_m1 : m ≤ 9223372036854775807) (n : Int) (_n0 : -9223372036854775808 ≤ n) (_n1 : n ≤ 9223372036854775807) (w : World) :
    Calls Try.prog 5 #[.int .i64 m, .int .i64 n] w fun e w' => e = .returned (.bool true) ∧ Below w.heap.size w w' :=
  (order_walk m n w).mono fun _ _ h => h.plain
theorem apart_end (a b : ByteArray) (h1 : Ky.okp ⟨a, b⟩) (c d : ByteArray) (h2 : Ky.okp ⟨c, d⟩) (x : Int) (x0 : -9223372036854775808 ≤ x) (x1 : x ≤ 9223372036854775807) (y : Int) (y0 : -9223372036854775808 ≤ y) (y1 : y ≤ 9223372036854775807) (w : World) :
    Calls Try.prog 6 #[.agg #[.string a, .string b], .agg #[.string c, .string d], .int .i64 x, .int .i64 y] w fun e w' => e = .returned (.bool true) ∧ Below w.heap.size w w' :=
  (apart_walk a b c d x y ⟨h1, x0, x1⟩ ⟨h2, y0, y1⟩ w).mono fun _ _ h => h.plain
end Go.Proofs.Yteppokokabgniaa
