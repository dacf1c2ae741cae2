/-
  Plain facts: what is read from a first part of an encoding is bad. No program is named here.
-/
import Derived.Test.YthenjipljkphiaaEncPlain
namespace Go.Proofs.Ythenjipljkphiaa.En
theorem bad_U (zs : List Int) : okU zs true = false := rfl
theorem short_U (v : Int) (h : 0 ≤ v) (rest : List Int) (c : Nat) (hc : c < (leb v).length) : okU ((leb v ++ rest).take c) false = false := by
  rw [List.take_append_of_le_length (by omega)]
  unfold okU
  rw [decU_short v h c hc]; rfl
theorem long_U (v : Int) (h0 : 0 ≤ v) (h1 : v < 18446744073709551616) (rest : List Int) (c : Nat) (hc : (leb v).length ≤ c) :
    okU ((leb v ++ rest).take c) false = true ∧ valU ((leb v ++ rest).take c) false = v ∧ restU ((leb v ++ rest).take c) false = rest.take (c - (leb v).length) := by
  have e : (leb v ++ rest).take c = leb v ++ rest.take (c - (leb v).length) := by
    rw [List.take_append, List.take_of_length_le hc]
  rw [e]
  exact readU v _ h0 h1
theorem okS_of (zs : List Int) (b : Bool) (most : Int) (h : okU zs b = false) : okS zs b most = false := by unfold okS; rw [h]; rfl
theorem short_S (s : ByteArray) (most : Int) (hs : s.size < 18446744073709551616) (c : Nat) (hc : c < (putS s).length) : okS ((putS s).take c) false most = false := by
  by_cases h : c < (leb s.size).length
  · exact okS_of _ _ _ (short_U s.size (by omega) _ c h)
  · have e : putS s = leb s.size ++ strB s := rfl
    obtain ⟨h1, h2, h3⟩ := long_U s.size (by omega) (by omega) (strB s) c (by omega)
    rw [← e] at h1 h2 h3
    have hl : (putS s).length = (leb s.size).length + s.size := by rw [e, List.length_append, strB_len]
    unfold okS
    rw [h1, h2, h3]
    have hn : ¬ ((s.size : Int) ≤ (((strB s).take (c - (leb (s.size : Int)).length)).length : Nat)) := by
      rw [List.length_take, strB_len]; omega
    rw [decide_eq_false hn, Bool.and_false]
/-- The three reads of what was cut: bad at the end. -/
def cutBad (t : List Int) (most : Int) : Bool := okS (restU (restU t false) (!okU t false)) (!okU (restU t false) (!okU t false)) most
theorem cut_bad (u f : Int) (s : ByteArray) (most : Int) (u0 : 0 ≤ u) (u1 : u < 18446744073709551616) (f0 : 0 ≤ f) (f1 : f < 18446744073709551616) (hs : s.size < 18446744073709551616)
    (c : Nat) (hc : c < (leb u ++ (leb f ++ putS s)).length) : cutBad ((leb u ++ (leb f ++ putS s)).take c) most = false := by
  unfold cutBad
  rw [List.length_append, List.length_append] at hc
  by_cases h : c < (leb u).length
  · rw [short_U u u0 _ c h]
    exact okS_of _ _ _ rfl
  · obtain ⟨h1, h2, h3⟩ := long_U u u0 u1 (leb f ++ putS s) c (by omega)
    rw [h1, h3]
    by_cases h4 : c - (leb u).length < (leb f).length
    · have h5 := short_U f f0 (putS s) _ h4
      show okS _ (!okU ((leb f ++ putS s).take (c - (leb u).length)) false) most = false
      rw [h5]
      exact okS_of _ _ _ rfl
    · obtain ⟨h5, h6, h7⟩ := long_U f f0 f1 (putS s) (c - (leb u).length) (by omega)
      show okS (restU ((leb f ++ putS s).take (c - (leb u).length)) false) (!okU ((leb f ++ putS s).take (c - (leb u).length)) false) most = false
      rw [h5, h7]
      exact short_S s most hs _ (by omega)
end Go.Proofs.Ythenjipljkphiaa.En
