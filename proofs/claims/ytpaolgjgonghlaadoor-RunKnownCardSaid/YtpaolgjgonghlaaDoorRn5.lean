/-
  Part 5 of the texts behind the law: StampTextPlain.
-/
import Derived.Test.YtpaolgjgonghlaaDoorRn4
import Derived.Lib.ItoaNum
import Derived.Lib.ItoaMem
import Derived.Lib.ParseIntB
import Derived.Lib.ParseIntBCases
import Derived.Lib.IndexLaws
/-
  Plain facts on texts: how a stamp is told and read. What package stamp's Parse answers at a list of bytes is what the reference answers: the two ways of reading it agree at every list. No program is named here.
-/
namespace Go.Proofs.YtpaolgjgonghlaaDoor.Pl
open Go.Lib

def isDig (c : UInt8) : Bool := decide (48 ≤ c.toNat ∧ c.toNat ≤ 57)
def valFrom (acc : Nat) : List UInt8 → Nat
  | [] => acc
  | c :: r => valFrom (10 * acc + (c.toNat - 48)) r
def numOk (l : List UInt8) : Bool := !l.isEmpty && decide (l.length ≤ 15) && !(decide (1 < l.length) && l.head? == some 48) && l.all isDig
def refNum (l : List UInt8) : Option Nat := if numOk l = true then some (valFrom 0 l) else none
def splitDot : List UInt8 → Option (List UInt8 × List UInt8)
  | [] => none
  | c :: r => if c = 46 then some ([], r) else (splitDot r).map fun x => (c :: x.1, x.2)
def refParse (l : List UInt8) : Option Int :=
  match splitDot l with
  | none => none
  | some (a, b) =>
    match refNum a, refNum b with
    | some x, some y => if packOk x y = true then some (packV x y) else none
    | _, _ => none
def textOf (s : Int) : List UInt8 := itoa (epochV s) ++ 46 :: itoa (offV s)
def okInt : NumEnd Int → Option Int
  | .ok v => some v
  | _ => none
def codeParse (l : List UInt8) : Option Int :=
  match splitDot l with
  | none => none
  | some (a, b) =>
    match okInt (parseIntB 64 a), okInt (parseIntB 64 b) with
    | some x, some y => if packOk x y = true ∧ textOf (packV x y) = l then some (packV x y) else none
    | _, _ => none

theorem valFrom_ge : ∀ (l : List UInt8) (acc : Nat), acc ≤ valFrom acc l
  | [], acc => Nat.le_refl _
  | c :: r, acc => by have := valFrom_ge r (10 * acc + (c.toNat - 48)); unfold valFrom; omega
theorem valFrom_snoc : ∀ (l : List UInt8) (acc : Nat) (c : UInt8), valFrom acc (l ++ [c]) = 10 * valFrom acc l + (c.toNat - 48)
  | [], acc, c => rfl
  | d :: r, acc, c => by show valFrom (10 * acc + (d.toNat - 48)) (r ++ [c]) = _; rw [valFrom_snoc r]; rfl
theorem dig_nat {d : Nat} (h : d < 10) : (UInt8.ofNat (48 + d)).toNat = 48 + d := by
  rw [UInt8.toNat_ofNat']; omega
theorem dec_small {n : Nat} (h : n < 10) : decDigits n = [UInt8.ofNat (48 + n)] := by rw [decDigits, dif_pos h]
theorem dec_big {n : Nat} (h : ¬ n < 10) : decDigits n = decDigits (n / 10) ++ [UInt8.ofNat (48 + n % 10)] := by rw [decDigits, dif_neg h]
theorem head_app (a b : List UInt8) (h : a ≠ []) : (a ++ b).head? = a.head? := by
  cases a with
  | nil => exact absurd rfl h
  | cons => rfl
theorem dec_ne (n : Nat) : decDigits n ≠ [] := by
  by_cases h : n < 10
  · rw [dec_small h]; simp
  · rw [dec_big h]; simp
theorem dec_all (n : Nat) : (decDigits n).all isDig = true := by
  induction n using Nat.strongRecOn with
  | ind n ih =>
    by_cases h : n < 10
    · rw [dec_small h]; simp [isDig]; omega
    · rw [dec_big h, List.all_append, ih (n / 10) (by omega)]
      simp [isDig]; omega
theorem dec_val (n : Nat) : valFrom 0 (decDigits n) = n := by
  induction n using Nat.strongRecOn with
  | ind n ih =>
    by_cases h : n < 10
    · rw [dec_small h]; show valFrom (10 * 0 + ((UInt8.ofNat (48 + n)).toNat - 48)) [] = n; rw [dig_nat h]; show 10 * 0 + (48 + n - 48) = n; omega
    · rw [dec_big h, valFrom_snoc, ih (n / 10) (by omega), dig_nat (by omega)]; omega
theorem dec_head (n : Nat) (h : 1 ≤ n) : (decDigits n).head? ≠ some 48 := by
  induction n using Nat.strongRecOn with
  | ind n ih =>
    by_cases h10 : n < 10
    · rw [dec_small h10]
      intro e
      have e2 : UInt8.ofNat (48 + n) = 48 := by simpa using e
      have e3 := congrArg UInt8.toNat e2
      rw [dig_nat h10] at e3
      have : (48 : UInt8).toNat = 48 := rfl
      omega
    · rw [dec_big h10, head_app _ _ (dec_ne _)]
      exact ih (n / 10) (by omega) (by omega)
theorem dec_len : ∀ (k n : Nat), 1 ≤ k → n < 10 ^ k → (decDigits n).length ≤ k
  | 0, _, h, _ => absurd h (by decide)
  | 1, n, _, h => by rw [dec_small (by simpa using h)]; simp
  | k + 2, n, _, h => by
    by_cases h10 : n < 10
    · rw [dec_small h10]; simp
    · rw [dec_big h10, List.length_append]
      have := dec_len (k + 1) (n / 10) (by omega) (by rw [Nat.pow_succ] at h; omega)
      simp; omega
theorem dec_len1 (n : Nat) (h : 1 < (decDigits n).length) : 1 ≤ n := by
  by_cases h10 : n < 10
  · rw [dec_small h10] at h; simp at h
  · omega
theorem num_dec (n : Nat) (h : n < 10 ^ 15) : refNum (decDigits n) = some n := by
  have h1 : numOk (decDigits n) = true := by
    have a1 := dec_ne n
    have a2 := dec_len 15 n (by decide) h
    have a3 := dec_all n
    unfold numOk
    rw [a3]
    by_cases hl : 1 < (decDigits n).length
    · have a4 := dec_head n (dec_len1 n hl)
      simp [a1, a2, a4]
    · simp [a1, a2, hl]
  unfold refNum
  rw [if_pos h1, dec_val]
/-- What is all digits, not empty, and has no nought ahead, is its number's numeral. -/
theorem dec_of (m : Nat) : ∀ (l : List UInt8), l.length = m → l ≠ [] → l.all isDig = true → (1 < l.length → l.head? ≠ some 48) → decDigits (valFrom 0 l) = l := by
  induction m with
  | zero => intro l h h2; exact absurd (List.length_eq_zero_iff.1 h) h2
  | succ m ih =>
    intro l hl hne hall hhead
    obtain ⟨l', c, rfl⟩ : ∃ l' c, l = l' ++ [c] := ⟨l.dropLast, l.getLast hne, (List.dropLast_concat_getLast hne).symm⟩
    rw [List.all_append, Bool.and_eq_true] at hall
    obtain ⟨ha, hc⟩ := hall
    have hc' : 48 ≤ c.toNat ∧ c.toNat ≤ 57 := by simpa [isDig] using hc
    have ec : UInt8.ofNat (48 + (c.toNat - 48)) = c := by
      have : 48 + (c.toNat - 48) = c.toNat := by omega
      rw [this]; simp
    rw [valFrom_snoc]
    by_cases h0 : l' = []
    · subst h0
      show decDigits (10 * 0 + (c.toNat - 48)) = [c]
      rw [dec_small (by omega)]
      have : 48 + (10 * 0 + (c.toNat - 48)) = 48 + (c.toNat - 48) := by omega
      rw [this, ec]
    · have hlen : l'.length = m := by simpa using hl
      have hpos : 0 < l'.length := List.length_pos_iff.2 h0
      have hh : l'.head? ≠ some 48 := by
        have := hhead (by simp; omega)
        rwa [head_app _ _ h0] at this
      have hv := ih l' hlen h0 ha (fun _ => hh)
      have hv1 : 1 ≤ valFrom 0 l' := by
        match l', h0, hh, ha with
        | d :: r, _, hh, ha =>
          have hd : 48 ≤ d.toNat ∧ d.toNat ≤ 57 := by
            have : isDig d = true := by simp at ha; exact ha.1
            simpa [isDig] using this
          have hd2 : d ≠ 48 := fun e => hh (by rw [e]; rfl)
          have hd3 : d.toNat ≠ 48 := fun e => hd2 (by apply UInt8.toNat_inj.1; rw [e]; rfl)
          have := valFrom_ge r (10 * 0 + (d.toNat - 48))
          show 1 ≤ valFrom (10 * 0 + (d.toNat - 48)) r
          omega
      rw [dec_big (by omega)]
      have e1 : (10 * valFrom 0 l' + (c.toNat - 48)) / 10 = valFrom 0 l' := by omega
      have e2 : (10 * valFrom 0 l' + (c.toNat - 48)) % 10 = c.toNat - 48 := by omega
      rw [e1, e2, hv, ec]
theorem val_lt : ∀ (l : List UInt8) (acc : Nat), l.all isDig = true → valFrom acc l < (acc + 1) * 10 ^ l.length
  | [], acc, _ => by show acc < (acc + 1) * 10 ^ 0; omega
  | c :: r, acc, h => by
    have hc : (48 ≤ c.toNat ∧ c.toNat ≤ 57) ∧ r.all isDig = true := by
      simp only [List.all_cons, Bool.and_eq_true] at h
      exact ⟨by simpa [isDig] using h.1, h.2⟩
    have := val_lt r (10 * acc + (c.toNat - 48)) hc.2
    show valFrom (10 * acc + (c.toNat - 48)) r < (acc + 1) * 10 ^ (r.length + 1)
    have e : (acc + 1) * 10 ^ (r.length + 1) = (10 * (acc + 1)) * 10 ^ r.length := by rw [Nat.pow_succ, Nat.mul_comm (10 ^ r.length) 10, ← Nat.mul_assoc, Nat.mul_comm (acc + 1) 10]
    have e2 : (10 * acc + (c.toNat - 48) + 1) * 10 ^ r.length ≤ (10 * (acc + 1)) * 10 ^ r.length := Nat.mul_le_mul_right _ (by omega)
    omega
theorem num_some {l : List UInt8} {n : Nat} (h : refNum l = some n) : l = decDigits n ∧ n < 10 ^ 15 := by
  unfold refNum at h
  split at h
  · rename_i hok
    have hn : valFrom 0 l = n := Option.some.inj h
    unfold numOk at hok
    simp only [Bool.and_eq_true, Bool.not_eq_true', Bool.and_eq_false_iff, decide_eq_true_eq, decide_eq_false_iff_not, List.isEmpty_eq_false_iff] at hok
    obtain ⟨⟨⟨h1, h2⟩, h3⟩, h4⟩ := hok
    have hd := dec_of l.length l rfl h1 h4 (fun hl => by
      rcases h3 with h3 | h3
      · exact absurd hl h3
      · intro e; rw [e] at h3; simp at h3)
    have hv := val_lt l 0 h4
    have hp : 10 ^ l.length ≤ 10 ^ 15 := Nat.pow_le_pow_right (by decide) h2
    rw [hn] at hd hv
    exact ⟨hd.symm, by omega⟩
  · cases h
theorem uintM_ok : ∀ (l : List UInt8) (acc : Nat), l.all isDig = true → valFrom acc l < 9223372036854775808 → parseUintM 18446744073709551615 acc l = .ok (valFrom acc l)
  | [], acc, _, _ => rfl
  | c :: r, acc, h, hv => by
    have hc : (48 ≤ c.toNat ∧ c.toNat ≤ 57) ∧ r.all isDig = true := by
      simp only [List.all_cons, Bool.and_eq_true] at h
      exact ⟨by simpa [isDig] using h.1, h.2⟩
    have hv' : valFrom (10 * acc + (c.toNat - 48)) r < 9223372036854775808 := hv
    have hg := valFrom_ge r (10 * acc + (c.toNat - 48))
    have e : acc * 10 + (c.toNat - 48) = 10 * acc + (c.toNat - 48) := by omega
    unfold parseUintM
    rw [if_pos hc.1, if_neg (by omega), if_neg (by omega), e, uintM_ok r _ hc.2 hv']
    rfl
theorem int_dec (n : Nat) (h : n < 9223372036854775808) : okInt (parseIntB 64 (decDigits n)) = some (n : Int) := by
  have ha := dec_all n
  have hv := dec_val n
  match hd : decDigits n, dec_ne n with
  | c :: r, _ =>
    rw [hd] at ha hv
    have hc : 48 ≤ c.toNat ∧ c.toNat ≤ 57 := by
      have : isDig c = true := by simp at ha; exact ha.1
      simpa [isDig] using this
    have hu : parseUintB 64 (c :: r) = .ok n := by
      unfold parseUintB
      rw [if_neg (by simp)]
      have e : 2 ^ 64 - 1 = 18446744073709551615 := by decide
      rw [e, uintM_ok (c :: r) 0 ha (by rw [hv]; exact h), hv]
    unfold parseIntB
    simp only
    rw [if_neg (by omega), hu]
    simp only
    have e2 : 2 ^ (64 - 1) = 9223372036854775808 := by decide
    rw [e2, if_neg (by omega), if_neg (by omega), if_neg (by omega)]
    rfl
theorem itoa_nat (n : Nat) : itoa (n : Int) = decDigits n := itoa_nonneg n
theorem split_dig : ∀ (a r : List UInt8), a.all isDig = true → splitDot (a ++ 46 :: r) = some (a, r)
  | [], r, _ => by simp [splitDot]
  | c :: a, r, h => by
    have hc : (48 ≤ c.toNat ∧ c.toNat ≤ 57) ∧ a.all isDig = true := by
      simp only [List.all_cons, Bool.and_eq_true] at h
      exact ⟨by simpa [isDig] using h.1, h.2⟩
    have hne : c ≠ 46 := fun e => by
      have := congrArg UInt8.toNat e
      have e46 : (46 : UInt8).toNat = 46 := rfl
      omega
    show (if c = 46 then some ([], a ++ 46 :: r) else (splitDot (a ++ 46 :: r)).map fun x => (c :: x.1, x.2)) = _
    rw [if_neg hne, split_dig a r hc.2]; rfl
theorem split_eq : ∀ (l a b : List UInt8), splitDot l = some (a, b) → l = a ++ 46 :: b
  | [], a, b, h => by cases h
  | c :: r, a, b, h => by
    have h' : (if c = 46 then some ([], r) else (splitDot r).map fun x => (c :: x.1, x.2)) = some (a, b) := h
    by_cases hc : c = 46
    · rw [if_pos hc] at h'
      cases h'
      rw [hc]; rfl
    · rw [if_neg hc] at h'
      cases hs : splitDot r with
      | none => rw [hs] at h'; cases h'
      | some x =>
        obtain ⟨x1, x2⟩ := x
        rw [hs] at h'
        simp only [Option.map_some, Option.some.injEq, Prod.mk.injEq] at h'
        obtain ⟨rfl, rfl⟩ := h'
        rw [split_eq r x1 x2 hs]; rfl
theorem pack_parts {x y : Int} (h : packOk x y = true) : epochV (packV x y) = x ∧ offV (packV x y) = y := by
  have h2 : 0 ≤ x ∧ x ≤ 1048575 ∧ 0 ≤ y ∧ y ≤ 17592186044415 := by simpa [packOk] using h
  unfold packV; rw [if_pos h]; unfold epochV offV; omega
theorem ref_code {l : List UInt8} {v : Int} (h : refParse l = some v) : codeParse l = some v := by
  unfold refParse at h
  unfold codeParse
  cases hs : splitDot l with
  | none => rw [hs] at h; cases h
  | some x =>
    obtain ⟨a, b⟩ := x
    rw [hs] at h
    simp only at h ⊢
    cases ha : refNum a with
    | none => rw [ha] at h; cases h
    | some n =>
      cases hb : refNum b with
      | none => rw [ha, hb] at h; cases h
      | some m =>
        rw [ha, hb] at h
        simp only at h
        obtain ⟨ea, na⟩ := num_some ha
        obtain ⟨eb, nb⟩ := num_some hb
        have p15 : 10 ^ 15 = 1000000000000000 := by decide
        rw [p15] at na nb
        have i1 := int_dec n (by omega)
        have i2 := int_dec m (by omega)
        rw [← ea] at i1
        rw [← eb] at i2
        rw [i1, i2]
        by_cases hp : packOk n m = true
        · rw [if_pos hp] at h
          obtain ⟨q1, q2⟩ := pack_parts hp
          have ht : textOf (packV n m) = l := by
            unfold textOf
            rw [q1, q2, itoa_nat, itoa_nat, ← ea, ← eb]
            exact (split_eq l a b hs).symm
          simp only
          rw [if_pos ⟨hp, ht⟩]; exact h
        · rw [if_neg hp] at h; cases h
theorem code_ref {l : List UInt8} {v : Int} (h : codeParse l = some v) : refParse l = some v := by
  unfold codeParse at h
  unfold refParse
  cases hs : splitDot l with
  | none => rw [hs] at h; cases h
  | some x =>
    obtain ⟨a, b⟩ := x
    rw [hs] at h
    simp only at h ⊢
    cases ha : okInt (parseIntB 64 a) with
    | none => rw [ha] at h; cases h
    | some x =>
      cases hb : okInt (parseIntB 64 b) with
      | none => rw [ha, hb] at h; cases h
      | some y =>
        rw [ha, hb] at h
        simp only at h
        by_cases hp : packOk x y = true ∧ textOf (packV x y) = l
        · rw [if_pos hp] at h
          obtain ⟨hp, ht⟩ := hp
          obtain ⟨q1, q2⟩ := pack_parts hp
          have h2 : 0 ≤ x ∧ x ≤ 1048575 ∧ 0 ≤ y ∧ y ≤ 17592186044415 := by simpa [packOk] using hp
          obtain ⟨n, rfl⟩ := Int.eq_ofNat_of_zero_le h2.1
          obtain ⟨m, rfl⟩ := Int.eq_ofNat_of_zero_le h2.2.2.1
          unfold textOf at ht
          rw [q1, q2, itoa_nat, itoa_nat] at ht
          have hs2 := split_dig (decDigits n) (decDigits m) (dec_all n)
          rw [ht, hs] at hs2
          have e1 : a = decDigits n := by injection hs2 with e; injection e
          have e2 : b = decDigits m := by injection hs2 with e; injection e
          have p15 : 10 ^ 15 = 1000000000000000 := by decide
          rw [e1, e2, num_dec n (by rw [p15]; omega), num_dec m (by rw [p15]; omega)]
          simp only
          rw [if_pos hp]; exact h
        · rw [if_neg hp] at h; cases h
theorem parse_agree (l : List UInt8) : codeParse l = refParse l := by
  cases h : refParse l with
  | some v => exact ref_code h
  | none =>
    cases h2 : codeParse l with
    | none => rfl
    | some v => rw [code_ref h2] at h; cases h
/-- What String tells, Parse reads. -/
theorem parse_text (s : Int) (h0 : 0 ≤ s) (h1 : s < 18446744073709551616) : codeParse (textOf s) = some s := by
  apply ref_code
  have he : 0 ≤ epochV s ∧ epochV s ≤ 1048575 := by unfold epochV; omega
  have ho : 0 ≤ offV s ∧ offV s ≤ 17592186044415 := by unfold offV; omega
  have hs : epochV s * 17592186044416 + offV s = s := by unfold epochV offV; omega
  unfold textOf refParse
  generalize epochV s = e at *
  generalize offV s = o at *
  obtain ⟨n, rfl⟩ := Int.eq_ofNat_of_zero_le he.1
  obtain ⟨m, rfl⟩ := Int.eq_ofNat_of_zero_le ho.1
  have p15 : 10 ^ 15 = 1000000000000000 := by decide
  rw [itoa_nat, itoa_nat, split_dig _ _ (dec_all n)]
  simp only
  rw [num_dec n (by rw [p15]; omega), num_dec m (by rw [p15]; omega)]
  simp only
  have hp : packOk n m = true := by simp [packOk]; omega
  rw [if_pos hp]
  unfold packV
  rw [if_pos hp, hs]
end Go.Proofs.YtpaolgjgonghlaaDoor.Pl
