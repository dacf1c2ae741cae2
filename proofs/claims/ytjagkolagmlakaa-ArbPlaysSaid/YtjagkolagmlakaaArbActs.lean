/-
  A slice of acts that came in (ArbPlays): each act's four numbers.
-/
import Derived.Test.YtjagkolagmlakaaFieldsIn
namespace Go.Proofs.Ytjagkolagmlakaa
open Go.ChangeShapes Go.WideShapes Go.ChangeAt Go.RowKit Go.Deep
/-- An act: its kind, the node, how many turns ago, the floor. -/
structure Ta where
  op : Int
  who : Int
  n : Int
  fl : Int
def ta0 : Ta := ⟨0, 0, 0, 0⟩
def TaAt (w : World) (b off : Nat) (m : Ta) : Prop :=
  w.cell? ⟨b, off, none⟩ = some (.int .i64 m.op) ∧ w.cell? ⟨b, off + 1, none⟩ = some (.int .i64 m.who) ∧ w.cell? ⟨b, off + 2, none⟩ = some (.int .i64 m.n) ∧ w.cell? ⟨b, off + 3, none⟩ = some (.int .i64 m.fl)
def TActs (w : World) (B : Nat) (A : Option Addr) (ms : List Ta) : Prop :=
  0 < ms.length → ∃ b off, A = some ⟨b, off, none⟩ ∧ b < B ∧ ∀ i, i < ms.length → TaAt w b (off + i * 4) (ms.getD i ta0)
theorem TActs.nil_ {w : World} {B : Nat} {A : Option Addr} : TActs w B A [] := fun h => by simp at h
theorem TActs.below {w w' : World} {B : Nat} {A : Option Addr} {ms : List Ta} (h : TActs w B A ms) (hb : Below B w w') : TActs w' B A ms := fun hn => by
  obtain ⟨b, off, e, hl, hc⟩ := h hn
  refine ⟨b, off, e, hl, fun i hi => ?_⟩
  obtain ⟨h0, h1, h2, h3⟩ := hc i hi
  exact ⟨(hb.cell (p := ⟨b, off + i * 4, none⟩) hl).trans h0, (hb.cell (p := ⟨b, off + i * 4 + 1, none⟩) hl).trans h1, (hb.cell (p := ⟨b, off + i * 4 + 2, none⟩) hl).trans h2, (hb.cell (p := ⟨b, off + i * 4 + 3, none⟩) hl).trans h3⟩
theorem tacts_in {H : Type} {enc : TypeId × Value → H} {w : World} {base : Nat} {spare : Nat → Bool} {held : Bool} {fuel : Nat} {cs : List Value} {x : DataW H × List MemPlace}
    (h : DataW.trod enc Try.prog w base spare held fuel 40 cs = some x) : ∃ (A : Option Addr) (ms : List Ta) (cap : Nat), cs = [.slice A ms.length cap] ∧ ms.length ≤ cap ∧ cap ≤ 9223372036854775807 ∧ TActs w w.heap.size A ms := by
  obtain ⟨A, len, cap, hcs, hl, hm, hc⟩ := structs_in Try.underlying40 Try.underlying42 (by decide) (by kernel_rfl) (fun j f hj => by
    match j, hj with
    | 0, hj => simp at hj; subst hj; exact ⟨rfl, by kernel_rfl⟩
    | 1, hj => simp at hj; subst hj; exact ⟨rfl, by kernel_rfl⟩
    | 2, hj => simp at hj; subst hj; exact ⟨rfl, by kernel_rfl⟩
    | 3, hj => simp at hj; subst hj; exact ⟨rfl, by kernel_rfl⟩
    | j + 4, hj => simp at hj) h
  rcases Nat.eq_zero_or_pos len with h0 | h0
  · subst h0; exact ⟨A, [], cap, hcs, by simp, hm, TActs.nil_⟩
  · obtain ⟨b, off, rfl, he⟩ := hc h0
    have hb : b < w.heap.size := by
      obtain ⟨v0, y0, n0, c0, t0⟩ := he 0 h0 0 _ rfl
      exact block_lt c0
    obtain ⟨ms, hml, hms⟩ := list_of ta0 (fun i m => TaAt w b (off + i * 4) m) len (fun i hi => by
        obtain ⟨v0, y0, n0, c0, t0⟩ := he i hi 0 _ rfl
        obtain ⟨v1, y1, n1, c1, t1⟩ := he i hi 1 _ rfl
        obtain ⟨v2, y2, n2, c2, t2⟩ := he i hi 2 _ rfl
        obtain ⟨v3, y3, n3, c3, t3⟩ := he i hi 3 _ rfl
        obtain ⟨op, rfl, _, _⟩ := i64_of Try.underlying3 t0
        obtain ⟨who, rfl, _, _⟩ := i64_of Try.underlying3 t1
        obtain ⟨n, rfl, _, _⟩ := i64_of Try.underlying3 t2
        obtain ⟨fl, rfl, _, _⟩ := i64_of Try.underlying2 t3
        refine ⟨⟨op, who, n, fl⟩, c0, ?_, ?_, ?_⟩
        · rw [Nat.add_assoc]; exact c1
        · rw [Nat.add_assoc]; exact c2
        · rw [Nat.add_assoc]; exact c3)
    exact ⟨some ⟨b, off, none⟩, ms, cap, by rw [hml]; exact hcs, by omega, hm, fun _ => ⟨b, off, rfl, hb, fun i hi => hms i (by omega)⟩⟩
end Go.Proofs.Ytjagkolagmlakaa
