/-
  The register in plain words: its states, what Lead, Alone and Both make of one, and in which order they may follow.
-/
import Derived.Test.YtjagkolagmlakaaBaseKit
namespace Go.Proofs.Ytjagkolagmlakaa.Ar
open Go Go.Proofs
structure S where
  ep : Int
  ho : Int
  so : Bool
  fl : Int
  deriving DecidableEq
def zero : S := ⟨0, 0, false, 0⟩
def first : S := ⟨0, -1, false, 0⟩
def S.cells (s : S) : List Value := [.int .i64 s.ep, .int .i64 s.ho, .bool s.so, .int .i64 s.fl]
def S.val (s : S) : Value := .agg #[.int .i64 s.ep, .int .i64 s.ho, .bool s.so, .int .i64 s.fl]
/-- Every number of a state is one of 64 bits. -/
structure S.Fit (s : S) : Prop where
  e0 : -9223372036854775808 ≤ s.ep
  e1 : s.ep ≤ 9223372036854775807
  f0 : -9223372036854775808 ≤ s.fl
  f1 : s.fl ≤ 9223372036854775807
def node (who : Int) : Bool := who == 0 || who == 1
def okL (s : S) (who : Int) : Bool := node who && !(s.so && !(who == s.ho)) && decide (0 ≤ s.ep) && decide (s.ep < 1048575)
def leadV (s : S) (who : Int) : S := if okL s who = true then ⟨s.ep + 1, who, s.so, s.fl⟩ else zero
def okT (s : S) (so : Bool) (who epoch floor : Int) : Bool := node who && (who == s.ho) && (epoch == s.ep) && (!(s.so == so)) && decide (s.fl ≤ floor)
def turnV (s : S) (so : Bool) (who epoch floor : Int) : S := if okT s so who epoch floor = true then ⟨s.ep, s.ho, so, floor⟩ else zero
def eqS (s t : S) : Bool := (s.ep == t.ep) && (s.ho == t.ho) && (s.so == t.so) && (s.fl == t.fl)
/-- One state may follow another: neither epoch nor floor falls, and an epoch keeps its holder. -/
structure Next (s t : S) : Prop where
  ep : s.ep ≤ t.ep
  fl : s.fl ≤ t.fl
  ho : t.ep = s.ep → t.ho = s.ho
theorem Next.refl (s : S) : Next s s := ⟨Int.le_refl _, Int.le_refl _, fun _ => rfl⟩
theorem next_lead {s : S} {who : Int} (h : okL s who = true) : Next s (leadV s who) := by
  unfold leadV
  rw [if_pos h]
  exact ⟨by show s.ep ≤ s.ep + 1; omega, Int.le_refl _, fun e => by have : s.ep + 1 = s.ep := e; omega⟩
theorem next_turn {s : S} {so : Bool} {who epoch floor : Int} (h : okT s so who epoch floor = true) : Next s (turnV s so who epoch floor) := by
  unfold turnV
  rw [if_pos h]
  unfold okT at h
  simp only [Bool.and_eq_true, decide_eq_true_eq] at h
  exact ⟨Int.le_refl _, h.2, fun _ => rfl⟩
/-- The states of a register, from the first one on. -/
def Chain (L : List S) : Prop := ∀ i, i + 1 < L.length → Next (L.getD i zero) (L.getD (i + 1) zero)
theorem chain_one (s : S) : Chain [s] := fun i h => by simp at h
theorem chain_snoc {L : List S} {t : S} (h : Chain L) (hn : ∀ s, L.getLast? = some s → Next s t) : Chain (L ++ [t]) := fun i hi => by
  rw [List.length_append, List.length_singleton] at hi
  rw [List.getD_eq_getElem?_getD, List.getD_eq_getElem?_getD]
  by_cases h2 : i + 1 < L.length
  · rw [List.getElem?_append_left (by omega), List.getElem?_append_left h2, ← List.getD_eq_getElem?_getD, ← List.getD_eq_getElem?_getD]
    exact h i h2
  · have e : i + 1 = L.length := by omega
    rw [List.getElem?_append_left (by omega), List.getElem?_append_right (by omega), e, Nat.sub_self]
    have h3 : L.getLast? = some (L[i]?.getD zero) := by
      rw [List.getLast?_eq_getElem?, show L.length - 1 = i by omega, List.getElem?_eq_getElem (by omega)]
      rfl
    exact hn _ h3
end Go.Proofs.Ytjagkolagmlakaa.Ar
