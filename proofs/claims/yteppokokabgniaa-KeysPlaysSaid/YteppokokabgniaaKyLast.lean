/-
  Keys put one after another, all unlike: the last ones remain, in their order.
-/
import Derived.Test.YteppokokabgniaaKyPlain
namespace Go.Proofs.Yteppokokabgniaa.Ky
/-- The first i entries have been put, of which at most m remain. -/
def last (E : Nat → T) (m i : Nat) : S := ⟨m, ((List.range i).map E).drop (i - m)⟩
theorem last_len (E : Nat → T) (m i : Nat) : (last E m i).l.length = min i m := by
  unfold last
  rw [List.length_drop, List.length_map, List.length_range]
  omega
theorem last_new (E : Nat → T) (m : Nat) (h1 : 1 ≤ m) (h2 : m ≤ 128) : newS (m : Int) = last E m 0 := by
  unfold newS last clamp
  rw [if_neg (by omega), if_neg (by omega)]
  simp
theorem last_at (E : Nat → T) (m i k : Nat) (h : k < min i m) : (last E m i).l[k]? = some (E (i - min i m + k)) := by
  unfold last
  rw [List.getElem?_drop, List.getElem?_map, List.getElem?_range (by omega)]
  simp
  congr 1
  omega
theorem last_none (E : Nat → T) (m i : Nat) (n k : ByteArray) (h : ∀ j, j < i → same (E j) n k = false) : findV (last E m i) n k = none := by
  refine find_none.2 fun a ha => ?_
  have h1 := List.mem_of_mem_drop (show a ∈ ((List.range i).map E).drop (i - m) from ha)
  obtain ⟨j, hj, rfl⟩ := List.mem_map.1 h1
  exact h j (List.mem_range.1 hj)
theorem last_put (E : Nat → T) (m i : Nat) (h1 : 1 ≤ m) (h : ∀ j, j < i → same (E j) (E i).name (E i).key = false) :
    putV (last E m i) (E i).name (E i).key (E i).id = (E i).id ∧ putB (last E m i) (E i).name (E i).key = true ∧ putS (last E m i) (E i).name (E i).key (E i).id = last E m (i + 1) := by
  have e := last_none E m i _ _ h
  unfold putV putB putS
  rw [e]
  refine ⟨rfl, rfl, ?_⟩
  have hl := last_len E m i
  show (⟨(last E m i).most, pushL (last E m i) (E i)⟩ : S) = _
  have ep : pushL (last E m i) (E i) = ((List.range (i + 1)).map E).drop (i + 1 - m) := by
    rw [List.range_succ, List.map_append, List.map_singleton]
    unfold pushL
    rw [hl]
    by_cases hm : m ≤ i
    · rw [if_pos (by show ((min i m : Nat) : Int) = (m : Int); omega), List.drop_append_of_le_length (by rw [List.length_map, List.length_range]; omega)]
      congr 1
      show (((List.range i).map E).drop (i - m)).drop 1 = _
      rw [List.drop_drop]
      congr 1
      omega
    · rw [if_neg (by show ¬ ((min i m : Nat) : Int) = (m : Int); omega)]
      show ((List.range i).map E).drop (i - m) ++ [E i] = _
      rw [show i - m = 0 by omega, show i + 1 - m = 0 by omega, List.drop_zero, List.drop_zero]
  rw [ep]
  rfl
end Go.Proofs.Yteppokokabgniaa.Ky
