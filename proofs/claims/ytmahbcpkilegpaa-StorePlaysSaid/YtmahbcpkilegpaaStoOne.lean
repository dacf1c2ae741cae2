/-
  A store with one file: what each call makes of it.
-/
import Derived.Test.YtmahbcpkilegpaaStoRun
namespace Go.Proofs.Ytmahbcpkilegpaa
open Go.RowKit St

theorem str_app (xs ys : List Int) : strOfNums (xs ++ ys) = strOfNums xs ++ strOfNums ys := by
  apply WideShapes.bytes_inj
  rw [strOfNums_data]
  have e : (strOfNums xs ++ strOfNums ys).data = (strOfNums xs).data ++ (strOfNums ys).data := by simp
  rw [e, Array.toList_append, strOfNums_data, strOfNums_data, List.map_append]
/-- One file, f, of the bytes zs, the first 'sure' of them durable. -/
def one (room : Nat) (zs : List Int) (sure : Nat) (off : Bool) : S := ⟨room, [⟨[102], zs, sure⟩], off, 0, []⟩
section
variable (room : Nat) (zs : List Int) (sure : Nat)
theorem app0_E (h : zs.length ≤ room) : actE (s0 room) (appE (s0 room) [102] zs.length) = 0 := by
  have e : appE (s0 room) [102] zs.length = 0 := by
    unfold appE
    rw [if_neg (show ¬ chk (s0 room) [[102]] ≠ 0 from fun h => h rfl), if_neg]
    rintro (h1 | h1)
    · have h1 : room - 0 < zs.length := h1
      omega
    · exact absurd h1.2 (by show ¬ 64 ≤ 0; omega)
  rw [e]; rfl
theorem app0_S (h : zs.length ≤ room) : actS (s0 room) (appE (s0 room) [102] zs.length) (appL (s0 room) [102] zs) = one room zs 0 false := by
  have e := app0_E room zs h
  unfold actE at e
  split at e
  · next h1 => exact absurd e h1
  · next h1 =>
    unfold actS
    rw [if_neg h1]
    rfl
theorem one_total (off : Bool) : total (one room zs sure off).fs = zs.length := rfl
theorem one_app_e (b : List Int) : appE (one room zs sure false) [102] b.length = if room - zs.length < b.length then 6 else 0 := by
  unfold appE
  rw [if_neg (show ¬ chk (one room zs sure false) [[102]] ≠ 0 from fun h => h rfl)]
  have e2 : (find [102] (one room zs sure false).fs).isSome = true := rfl
  by_cases h : room - zs.length < b.length
  · rw [if_pos (.inl h), if_pos h]
  · rw [if_neg h, if_neg]
    rintro (h1 | h1)
    · exact h h1
    · rw [e2] at h1; exact absurd h1.1 (by simp)
theorem one_app_E (b : List Int) (h : zs.length + b.length ≤ room) : actE (one room zs sure false) (appE (one room zs sure false) [102] b.length) = 0 := by
  rw [one_app_e, if_neg (by omega)]; rfl
theorem one_app_S (b : List Int) (h : zs.length + b.length ≤ room) : actS (one room zs sure false) (appE (one room zs sure false) [102] b.length) (appL (one room zs sure false) [102] b) = one room (zs ++ b) sure false := by
  rw [one_app_e, if_neg (by omega)]; rfl
theorem one_full_E (b : List Int) (h : room - zs.length < b.length) : actE (one room zs sure false) (appE (one room zs sure false) [102] b.length) = 6 := by
  rw [one_app_e, if_pos h]; rfl
theorem one_full_S (b : List Int) (h : room - zs.length < b.length) : actS (one room zs sure false) (appE (one room zs sure false) [102] b.length) (appL (one room zs sure false) [102] b) = one room zs sure false := by
  rw [one_app_e, if_pos h]; rfl
theorem one_sync_E : actE (one room zs sure false) (fnd (one room zs sure false) [102] [[102], [102]]) = 0 := rfl
theorem one_sync_S : actS (one room zs sure false) (fnd (one room zs sure false) [102] [[102], [102]]) (swapL (one room zs sure false) [102] [102]) = one room zs zs.length false := rfl
theorem one_cut_e (n : Int) (h0 : 0 ≤ n) (h1 : n ≤ (zs.length : Int)) : cutE (one room zs sure false) [102] n = 0 := by
  unfold cutE
  rw [if_neg (show ¬ fnd (one room zs sure false) [102] [[102]] ≠ 0 from fun h => h rfl), if_neg]
  rintro (h | h)
  · omega
  · have h : (zs.length : Int) < n := h
    omega
theorem one_cut_E (n : Int) (h0 : 0 ≤ n) (h1 : n ≤ (zs.length : Int)) : actE (one room zs sure false) (cutE (one room zs sure false) [102] n) = 0 := by rw [one_cut_e room zs sure n h0 h1]; rfl
theorem one_cut_S (n : Int) (h0 : 0 ≤ n) (h1 : n ≤ (zs.length : Int)) : actS (one room zs sure false) (cutE (one room zs sure false) [102] n) (cutL (one room zs sure false) [102] n.toNat) = one room (zs.take n.toNat) (min sure n.toNat) false := by
  rw [one_cut_e room zs sure n h0 h1]; rfl
theorem one_crash (ks : List Int) (h : sure ≠ zs.length) : crash (one room zs sure false) ks = one room (zs.take (sure + min (ks.headD 0).toNat (zs.length - sure))) (sure + min (ks.headD 0).toNat (zs.length - sure)) true := by
  unfold crash
  rw [if_neg (show ¬ (one room zs sure false).off = true by show ¬ false = true; simp)]
  show S.mk room (crashL [⟨[102], zs, sure⟩] ks) true 0 [] = _
  rw [crashL, if_neg h]
  rfl
theorem one_crash_same (ks : List Int) (h : sure = zs.length) : crash (one room zs sure false) ks = one room zs sure true := by
  unfold crash
  rw [if_neg (show ¬ (one room zs sure false).off = true by show ¬ false = true; simp)]
  show S.mk room (crashL [⟨[102], zs, sure⟩] ks) true 0 [] = _
  rw [crashL, if_pos h]
  rfl
theorem one_on : ({ (one room zs sure true) with off := false } : S) = one room zs sure false := rfl
theorem one_read_E : readE (one room zs sure false) [102] = 0 := rfl
theorem one_read_L : readL (one room zs sure false) [102] = zs := rfl
theorem one_sure (off : Bool) : ((file (one room zs sure off) [102]).sure : Int) = (sure : Int) := rfl
end
end Go.Proofs.Ytmahbcpkilegpaa
