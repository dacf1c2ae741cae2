/-
  Part 3 of the texts behind the law: TStampTextPlain.
-/
import Derived.Laws.BitsAllLaws
import Derived.Laws.Shifts
import Derived.RowKit
import Derived.Laws.BitsLemmas
import Derived.Lib.ItoaNum
import Derived.Lib.ItoaMem
import Derived.Lib.ParseIntB
import Derived.Lib.ParseIntBCases
import Derived.Lib.IndexLaws
/- StampTextPlain -/
namespace Go.Proofs.YtkbekojnmdgdgaaGreatDoor.Pl
open Go.Lib
def isDig (c : UInt8) : Bool := decide (48 ≤ c.toNat ∧ c.toNat ≤ 57)
def valFrom (acc : Nat) : List UInt8 → Nat
 | [] => acc
 | c :: r => valFrom (10 * acc + (c.toNat - 48)) r
theorem valFrom_ge : ∀ (l : List UInt8) (acc : Nat), acc ≤ valFrom acc l
 | [], acc => Nat.le_refl _
 | c :: r, acc => by have := valFrom_ge r (10 * acc + (c.toNat - 48)); unfold valFrom; omega
theorem valFrom_snoc : ∀ (l : List UInt8) (acc : Nat) (c : UInt8), valFrom acc (l ++ [c]) = 10 * valFrom acc l + (c.toNat - 48)
 | [], acc, c => rfl
 | d :: r, acc, c => by show valFrom (10 * acc + (d.toNat - 48)) (r ++ [c]) = _; rw [valFrom_snoc r]; rfl
theorem dig_nat {d : Nat} (h : d < 10) : (UInt8.ofNat (48 + d)).toNat = 48 + d := by
 rw [UInt8.toNat_ofNat']; omega
theorem dec_small {n : Nat} (h : n < 10) : decDigits n = [UInt8.ofNat (48 + n)] := by rw [decDigits, dif_pos h]
theorem dec_big {n : Nat} (h : ¬ n < 10) : decDigits n = decDigits (n / 10) ++ [UInt8.ofNat (48 + n % 10)] := by rw [decDigits, dif_neg h]
theorem head_app (a b : List UInt8) (h : a ≠ []) : (a ++ b).head? = a.head? := by
 cases a with
 | nil => exact absurd rfl h
 | cons => rfl
theorem dec_ne (n : Nat) : decDigits n ≠ [] := by
 by_cases h : n < 10
 ·rw [dec_small h]; simp
 ·rw [dec_big h]; simp
theorem dec_all (n : Nat) : (decDigits n).all isDig = true := by
 induction n using Nat.strongRecOn with
 | ind n ih =>
  by_cases h : n < 10
  ·rw [dec_small h]; simp [isDig]; omega
  ·rw [dec_big h, List.all_append, ih (n / 10) (by omega)]
   simp [isDig]; omega
theorem dec_val (n : Nat) : valFrom 0 (decDigits n) = n := by
 induction n using Nat.strongRecOn with
 | ind n ih =>
  by_cases h : n < 10
  ·rw [dec_small h]; show valFrom (10 * 0 + ((UInt8.ofNat (48 + n)).toNat - 48)) [] = n; rw [dig_nat h]; show 10 * 0 + (48 + n - 48) = n; omega
  ·rw [dec_big h, valFrom_snoc, ih (n / 10) (by omega), dig_nat (by omega)]; omega
theorem dec_head (n : Nat) (h : 1 ≤ n) : (decDigits n).head? ≠ some 48 := by
 induction n using Nat.strongRecOn with
 | ind n ih =>
  by_cases h10 : n < 10
  ·rw [dec_small h10]
   intro e
   have e2 : UInt8.ofNat (48 + n) = 48 := by simpa using e
   have e3 := congrArg UInt8.toNat e2
   rw [dig_nat h10] at e3
   have : (48 : UInt8).toNat = 48 := rfl
   omega
  ·rw [dec_big h10, head_app _ _ (dec_ne _)]
   exact ih (n / 10) (by omega) (by omega)
theorem dec_len : ∀ (k n : Nat), 1 ≤ k → n < 10 ^ k → (decDigits n).length ≤ k
 | 0, _, h, _ => absurd h (by decide)
 | 1, n, _, h => by rw [dec_small (by simpa using h)]; simp
 | k + 2, n, _, h => by
  by_cases h10 : n < 10
  ·rw [dec_small h10]; simp
  ·rw [dec_big h10, List.length_append]
   have := dec_len (k + 1) (n / 10) (by omega) (by rw [Nat.pow_succ] at h; omega)
   simp; omega
theorem dec_len1 (n : Nat) (h : 1 < (decDigits n).length) : 1 ≤ n := by
 by_cases h10 : n < 10
 ·rw [dec_small h10] at h; simp at h
 ·omega
theorem dec_of (m : Nat) : ∀ (l : List UInt8), l.length = m → l ≠ [] → l.all isDig = true → (1 < l.length → l.head? ≠ some 48) → decDigits (valFrom 0 l) = l := by
 induction m with
 | zero => intro l h h2; exact absurd (List.length_eq_zero_iff.1 h) h2
 | succ m ih =>
  intro l hl hne hall hhead
  obtain ⟨l', c, rfl⟩ : ∃ l' c, l = l' ++ [c] := ⟨l.dropLast, l.getLast hne, (List.dropLast_concat_getLast hne).symm⟩
  rw [List.all_append, Bool.and_eq_true] at hall
  obtain ⟨ha, hc⟩ := hall
  have hc' : 48 ≤ c.toNat ∧ c.toNat ≤ 57 := by simpa [isDig] using hc
  have ec : UInt8.ofNat (48 + (c.toNat - 48)) = c := by
   have : 48 + (c.toNat - 48) = c.toNat := by omega
   rw [this]; simp
  rw [valFrom_snoc]
  by_cases h0 : l' = []
  ·subst h0
   show decDigits (10 * 0 + (c.toNat - 48)) = [c]
   rw [dec_small (by omega)]
   have : 48 + (10 * 0 + (c.toNat - 48)) = 48 + (c.toNat - 48) := by omega
   rw [this, ec]
  ·have hlen : l'.length = m := by simpa using hl
   have hpos : 0 < l'.length := List.length_pos_iff.2 h0
   have hh : l'.head? ≠ some 48 := by
    have := hhead (by simp; omega)
    rwa [head_app _ _ h0] at this
   have hv := ih l' hlen h0 ha (fun _ => hh)
   have hv1 : 1 ≤ valFrom 0 l' := by
    match l', h0, hh, ha with
    | d :: r, _, hh, ha =>
     have hd : 48 ≤ d.toNat ∧ d.toNat ≤ 57 := by
      have : isDig d = true := by simp at ha; exact ha.1
      simpa [isDig] using this
     have hd2 : d ≠ 48 := fun e => hh (by rw [e]; rfl)
     have hd3 : d.toNat ≠ 48 := fun e => hd2 (by apply UInt8.toNat_inj.1; rw [e]; rfl)
     have := valFrom_ge r (10 * 0 + (d.toNat - 48))
     show 1 ≤ valFrom (10 * 0 + (d.toNat - 48)) r
     omega
   rw [dec_big (by omega)]
   have e1 : (10 * valFrom 0 l' + (c.toNat - 48)) / 10 = valFrom 0 l' := by omega
   have e2 : (10 * valFrom 0 l' + (c.toNat - 48)) % 10 = c.toNat - 48 := by omega
   rw [e1, e2, hv, ec]
theorem val_lt : ∀ (l : List UInt8) (acc : Nat), l.all isDig = true → valFrom acc l < (acc + 1) * 10 ^ l.length
 | [], acc, _ => by show acc < (acc + 1) * 10 ^ 0; omega
 | c :: r, acc, h => by
  have hc : (48 ≤ c.toNat ∧ c.toNat ≤ 57) ∧ r.all isDig = true := by
   simp only [List.all_cons, Bool.and_eq_true] at h
   exact ⟨by simpa [isDig] using h.1, h.2⟩
  have := val_lt r (10 * acc + (c.toNat - 48)) hc.2
  show valFrom (10 * acc + (c.toNat - 48)) r < (acc + 1) * 10 ^ (r.length + 1)
  have e : (acc + 1) * 10 ^ (r.length + 1) = (10 * (acc + 1)) * 10 ^ r.length := by rw [Nat.pow_succ, Nat.mul_comm (10 ^ r.length) 10, ← Nat.mul_assoc, Nat.mul_comm (acc + 1) 10]
  have e2 : (10 * acc + (c.toNat - 48) + 1) * 10 ^ r.length ≤ (10 * (acc + 1)) * 10 ^ r.length := Nat.mul_le_mul_right _ (by omega)
  omega
theorem itoa_nat (n : Nat) : itoa (n : Int) = decDigits n := itoa_nonneg n
end Go.Proofs.YtkbekojnmdgdgaaGreatDoor.Pl
