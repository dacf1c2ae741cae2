/-
  Remembered keys in plain words: a list of entries in the order in which they were stored, one for each key, at most so many.
-/
import Derived.Test.YteppokokabgniaaBaseKit
namespace Go.Proofs.Yteppokokabgniaa.Ky
theorem bsne {a b : ByteArray} (h : ¬ a = b) : (a.toList == b.toList) = false := by
  cases a with | mk x => cases b with | mk y =>
  rw [ByteArray.toList_eq, ByteArray.toList_eq]
  refine beq_eq_false_iff_ne.2 fun e => h ?_
  have e' : x = y := Array.toList_inj.1 e
  rw [e']
structure T where
  name : ByteArray
  key : ByteArray
  id : Int
deriving DecidableEq
def same (a : T) (n k : ByteArray) : Bool := decide (a.name = n) && decide (a.key = k)
theorem same_iff {a : T} {n k : ByteArray} : same a n k = true ↔ a.name = n ∧ a.key = k := by unfold same; simp
structure S where
  most : Int
  l : List T
def clamp (m : Int) : Int := if m < 1 then 1 else if 128 < m then 128 else m
def newS (m : Int) : S := ⟨clamp m, []⟩
def findV (s : S) (n k : ByteArray) : Option T := s.l.find? fun a => same a n k
def getV (s : S) (n k : ByteArray) : Int := ((findV s n k).map (·.id)).getD 0
def getB (s : S) (n k : ByteArray) : Bool := (findV s n k).isSome
def pushL (s : S) (x : T) : List T := (if (s.l.length : Int) = s.most then s.l.drop 1 else s.l) ++ [x]
def putS (s : S) (n k : ByteArray) (id : Int) : S := match findV s n k with
  | some _ => s
  | none => ⟨s.most, pushL s ⟨n, k, id⟩⟩
def putV (s : S) (n k : ByteArray) (id : Int) : Int := match findV s n k with
  | some a => a.id
  | none => id
def putB (s : S) (n k : ByteArray) : Bool := (findV s n k).isNone
structure Inv (s : S) : Prop where
  most0 : 1 ≤ s.most
  most1 : s.most ≤ 128
  few : (s.l.length : Int) ≤ s.most
  once : s.l.Pairwise fun a b => same b a.name a.key = false
theorem clamp_in (m : Int) : 1 ≤ clamp m ∧ clamp m ≤ 128 := by
  unfold clamp
  split
  · omega
  · split <;> omega
theorem Inv.new (m : Int) : Inv (newS m) := ⟨(clamp_in m).1, (clamp_in m).2, by have := (clamp_in m).1; show ((0 : Nat) : Int) ≤ clamp m; omega, List.Pairwise.nil⟩
theorem push_len {s : S} (h : Inv s) (x : T) : ((pushL s x).length : Int) ≤ s.most := by
  have h0 := h.most0
  have h1 := h.few
  unfold pushL
  split
  · rw [List.length_append, List.length_drop]; simp; omega
  · rw [List.length_append]; simp; omega
theorem find_none {s : S} {n k : ByteArray} : findV s n k = none ↔ ∀ a ∈ s.l, same a n k = false := by
  unfold findV
  rw [List.find?_eq_none]
  exact ⟨fun h a ha => by have := h a ha; simpa using this, fun h a ha => by rw [h a ha]; simp⟩
theorem Inv.put {s : S} (h : Inv s) (n k : ByteArray) (id : Int) : Inv (putS s n k id) := by
  unfold putS
  cases hf : findV s n k with
  | some a => exact h
  | none =>
    have hn := find_none.1 hf
    refine ⟨h.most0, h.most1, push_len h _, ?_⟩
    have hsub : ∀ a ∈ (if (s.l.length : Int) = s.most then s.l.drop 1 else s.l), a ∈ s.l := fun a ha => by
      split at ha
      · exact List.mem_of_mem_drop ha
      · exact ha
    refine List.pairwise_append.2 ⟨?_, List.pairwise_singleton _ _, fun a ha b hb => ?_⟩
    · split
      · exact h.once.sublist (List.drop_sublist _ _)
      · exact h.once
    · obtain rfl : b = ⟨n, k, id⟩ := by simpa using hb
      cases hc : same ⟨n, k, id⟩ a.name a.key with
      | false => rfl
      | true =>
        obtain ⟨e1, e2⟩ := same_iff.1 hc
        have h2 := hn a (hsub a ha)
        rw [same_iff.2 ⟨e1.symm, e2.symm⟩] at h2
        cases h2
end Go.Proofs.Yteppokokabgniaa.Ky
