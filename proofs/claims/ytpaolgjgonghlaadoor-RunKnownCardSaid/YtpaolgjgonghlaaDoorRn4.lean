/-
  Part 4 of the texts behind the law: StampPlain.
-/
import Derived.Laws.BitsAllLaws
import Derived.Laws.Shifts
import Derived.RowKit
import Derived.Laws.BitsLemmas
/-
  Plain facts on numbers: what package stamp's shifts, masks and conversions come to, as division, remainder and sums of whole numbers. No program is named here.
-/
namespace Go.Proofs.YtpaolgjgonghlaaDoor.Pl
open Go.RowKit

def packOk (e o : Int) : Bool := decide (0 ≤ e ∧ e ≤ 1048575 ∧ 0 ≤ o ∧ o ≤ 17592186044415)
def packV (e o : Int) : Int := if packOk e o = true then e * 17592186044416 + o else 0
def epochV (s : Int) : Int := s / 17592186044416
def offV (s : Int) : Int := s % 17592186044416
def foldV (v : Int) : Int := if 0 ≤ v then 2 * v else -(2 * v) - 1
def unfoldV (u : Int) : Int := if u % 2 = 0 then u / 2 else -(u / 2) - 1
def isW (b : Int) : Bool := decide (1 ≤ b ∧ b ≤ 64)
def narrowOk (u b : Int) : Bool := isW b && decide (u < 2 ^ b.toNat)
def narrowV (u b : Int) : Int := if narrowOk u b = true then u else 0
def signed (m : Int) (b : Nat) : Int := if m < 2 ^ (b - 1) then m else m - 2 ^ b
def wideV (u b : Int) : Int := if isW b = true then signed (u % 2 ^ b.toNat) b.toNat else 0

theorem and_mask (s : Int) (h0 : 0 ≤ s) (h1 : s < 18446744073709551616) : bits .and .u64 s 17592186044415 = s % 17592186044416 := by
  have h := u64_and s 17592186044415 h0 (by omega) (by omega) (by omega)
  rw [h]
  obtain ⟨n, rfl⟩ := Int.eq_ofNat_of_zero_le h0
  have e : n &&& 17592186044415 = n % 17592186044416 := Nat.and_two_pow_sub_one_eq_mod n 44
  show ((n &&& 17592186044415 : Nat) : Int) = _
  rw [e]; omega
theorem and_one (s : Int) (h0 : 0 ≤ s) (h1 : s < 18446744073709551616) : bits .and .u64 s 1 = s % 2 := by
  have h := u64_and s 1 h0 (by omega) (by omega) (by omega)
  rw [h]
  obtain ⟨n, rfl⟩ := Int.eq_ofNat_of_zero_le h0
  have e : n &&& 1 = n % 2 := Nat.and_one_is_mod n
  show ((n &&& 1 : Nat) : Int) = _
  rw [e]; omega
theorem or_pack (e o : Int) (h0 : 0 ≤ e) (h1 : e ≤ 1048575) (h2 : 0 ≤ o) (h3 : o ≤ 17592186044415) : bits .or .u64 (e * 17592186044416) o = e * 17592186044416 + o := by
  have h := u64_or (e * 17592186044416) o (by omega) (by omega) h2 (by omega)
  rw [h]
  obtain ⟨n, rfl⟩ := Int.eq_ofNat_of_zero_le h0
  obtain ⟨m, rfl⟩ := Int.eq_ofNat_of_zero_le h2
  have e1 : ((n : Int) * 17592186044416).toNat = 2 ^ 44 * n := by omega
  have e2 := Nat.two_pow_add_eq_or_of_lt (i := 44) (b := m) (by omega) n
  rw [e1]
  show ((2 ^ 44 * n ||| m : Nat) : Int) = _
  rw [← e2]; omega
theorem xor_zero_u64 (a : Int) (h0 : 0 ≤ a) (h1 : a < 18446744073709551616) : bits .xor .u64 a 0 = a := by
  have h := u64_xor a 0 h0 h1 (by omega) (by omega)
  rw [h]
  show ((a.toNat ^^^ 0 : Nat) : Int) = _
  rw [Nat.xor_zero]; omega
theorem nat_xor_ones (n : Nat) (h : n < 18446744073709551616) : n ^^^ 18446744073709551615 = 18446744073709551615 - n := by
  have e : (BitVec.ofNat 64 n ^^^ BitVec.allOnes 64) = ~~~ BitVec.ofNat 64 n := BitVec.xor_allOnes
  have e2 := congrArg BitVec.toNat e
  rw [BitVec.toNat_xor, BitVec.toNat_not, BitVec.toNat_ofNat, BitVec.toNat_allOnes, Nat.mod_eq_of_lt (by omega)] at e2
  have e3 : (2 : Nat) ^ 64 - 1 = 18446744073709551615 := by decide
  rw [e3] at e2
  exact e2
theorem xor_ones_u64 (a : Int) (h0 : 0 ≤ a) (h1 : a < 18446744073709551616) : bits .xor .u64 a 18446744073709551615 = 18446744073709551615 - a := by
  have h := u64_xor a 18446744073709551615 h0 h1 (by omega) (by omega)
  rw [h]
  show ((a.toNat ^^^ 18446744073709551615 : Nat) : Int) = _
  rw [nat_xor_ones _ (by omega)]; omega
theorem fold_bits (v : Int) (h0 : -9223372036854775808 ≤ v) (h1 : v ≤ 9223372036854775807) :
    bits .xor .u64 (IntKind.u64.wrap (IntKind.u64.wrap v * 2)) (IntKind.u64.wrap (v / 9223372036854775808)) = foldV v := by
  unfold foldV
  simp only [IntKind.wrap_u64]
  by_cases h : 0 ≤ v
  · rw [if_pos h]
    have e1 : v / 9223372036854775808 % 18446744073709551616 = 0 := by omega
    have e2 : v % 18446744073709551616 * 2 % 18446744073709551616 = 2 * v := by omega
    rw [e1, e2]; exact xor_zero_u64 _ (by omega) (by omega)
  · rw [if_neg h]
    have e1 : v / 9223372036854775808 % 18446744073709551616 = 18446744073709551615 := by omega
    have e2 : v % 18446744073709551616 * 2 % 18446744073709551616 = 2 * v + 18446744073709551616 := by omega
    rw [e1, e2, xor_ones_u64 _ (by omega) (by omega)]; omega
theorem foldV_range (v : Int) (h0 : -9223372036854775808 ≤ v) (h1 : v ≤ 9223372036854775807) : 0 ≤ foldV v ∧ foldV v < 18446744073709551616 := by
  unfold foldV; split <;> omega
theorem i64_xor_zero (a : Int) (h0 : 0 ≤ a) (h1 : a < 9223372036854775808) : bits .xor .i64 a 0 = a := by
  show IntKind.i64.wrap ((BitVec.ofInt 64 a ^^^ BitVec.ofInt 64 0).toNat : Int) = _
  have e : BitVec.ofInt 64 0 = 0#64 := by decide
  rw [e, BitVec.xor_zero, BitVec.toNat_ofInt, IntKind.wrap_i64]
  omega
theorem i64_xor_ones (a : Int) (h0 : 0 ≤ a) (h1 : a < 9223372036854775808) : bits .xor .i64 a (-1) = -a - 1 := by
  show IntKind.i64.wrap ((BitVec.ofInt 64 a ^^^ BitVec.ofInt 64 (-1)).toNat : Int) = _
  have e : BitVec.ofInt 64 (-1) = BitVec.allOnes 64 := by decide
  rw [e, BitVec.xor_allOnes, BitVec.toNat_not, BitVec.toNat_ofInt, IntKind.wrap_i64]
  omega
theorem unfold_bits (u : Int) (h0 : 0 ≤ u) (h1 : u < 18446744073709551616) :
    bits .xor .i64 (u / 2) (wrap64 (-wrap64 (bits .and .u64 u 1))) = unfoldV u := by
  rw [and_one u h0 h1]
  unfold unfoldV
  by_cases h : u % 2 = 0
  · rw [if_pos h, h]
    have e : wrap64 (-wrap64 0) = 0 := by decide
    rw [e]; exact i64_xor_zero _ (by omega) (by omega)
  · rw [if_neg h]
    have h2 : u % 2 = 1 := by omega
    rw [h2]
    have e : wrap64 (-wrap64 1) = -1 := by decide
    rw [e]; exact i64_xor_ones _ (by omega) (by omega)
theorem unfoldV_range (u : Int) (h0 : 0 ≤ u) (h1 : u < 18446744073709551616) : -9223372036854775808 ≤ unfoldV u ∧ unfoldV u ≤ 9223372036854775807 := by
  unfold unfoldV; split <;> omega
theorem unfold_fold (v : Int) : unfoldV (foldV v) = v := by
  unfold unfoldV foldV; split <;> split <;> omega
theorem fold_unfold (u : Int) (h0 : 0 ≤ u) : foldV (unfoldV u) = u := by
  unfold unfoldV foldV; split <;> split <;> omega

/-! Powers of two. -/
theorem pow_pos (n : Nat) : (0 : Int) < 2 ^ n := Int.pow_pos (by decide)
theorem pow_le {m n : Nat} (h : m ≤ n) : (2 : Int) ^ m ≤ 2 ^ n := by
  have := Nat.pow_le_pow_right (n := 2) (by decide) h
  exact_mod_cast this
theorem pow_split (b k : Nat) (h : b + k = 64) : (2 : Int) ^ b * 2 ^ k = 18446744073709551616 := by
  rw [← Int.pow_add, h]; rfl
theorem pow_half (b : Nat) (h : 1 ≤ b) : (2 : Int) ^ b = 2 * 2 ^ (b - 1) := by
  obtain ⟨n, rfl⟩ : ∃ n, b = n + 1 := ⟨b - 1, by omega⟩
  rw [Int.pow_succ]; simp [Int.mul_comm]
theorem signed_range (m : Int) (b : Nat) (hb : 1 ≤ b) (h0 : 0 ≤ m) (h1 : m < 2 ^ b) : -2 ^ (b - 1) ≤ signed m b ∧ signed m b < 2 ^ (b - 1) := by
  have e := pow_half b hb
  unfold signed; split <;> omega

theorem narrow_bits (s b : Int) (h0 : 0 ≤ s) : (s / 2 ^ b.toNat != 0) = !decide (s < 2 ^ b.toNat) := by
  have hp := pow_pos b.toNat
  by_cases h : s < 2 ^ b.toNat
  · have : s / 2 ^ b.toNat = 0 := Int.ediv_eq_zero_of_lt h0 h
    simp [this, h]
  · have h1 : 1 ≤ s / 2 ^ b.toNat := (Int.le_ediv_iff_mul_le hp).2 (by omega)
    have h2 : s / 2 ^ b.toNat ≠ 0 := by omega
    simp [h, h2]

theorem wide_bits (s b : Int) (hb1 : 1 ≤ b) (hb2 : b ≤ 64) :
    wrap64 (IntKind.u64.wrap (s * 2 ^ (64 - b).toNat)) / 2 ^ (64 - b).toNat = wideV s b := by
  have hw : isW b = true := by simp [isW, hb1, hb2]
  unfold wideV signed
  rw [if_pos hw]
  obtain ⟨n, rfl⟩ := Int.eq_ofNat_of_zero_le (a := b) (by omega)
  have ek : (64 - (n : Int)).toNat = 64 - n := by omega
  rw [ek, Int.toNat_natCast, IntKind.wrap_u64]
  have hs := pow_split n (64 - n) (by omega)
  have hp := pow_pos (64 - n)
  have hh := pow_half n (by omega)
  have hp1 := pow_pos (n - 1)
  generalize hK : (2 : Int) ^ (64 - n) = K at *
  rw [← hs, Int.mul_comm s K, Int.mul_comm (2 ^ n) K, Int.mul_emod_mul_of_pos _ _ hp, Int.mul_comm K]
  have hm0 := Int.emod_nonneg s (b := 2 ^ n) (by omega)
  have hm1 := Int.emod_lt_of_pos s (b := 2 ^ n) (by omega)
  generalize s % 2 ^ n = m at *
  generalize hN : (2 : Int) ^ n = N at *
  generalize (2 : Int) ^ (n - 1) = H at *
  subst hh
  have e64 : H * K = 9223372036854775808 := by
    have : 2 * H * K = 2 * (H * K) := Int.mul_assoc 2 H K
    omega
  have hw64 : ∀ x : Int, wrap64 x = (x + 9223372036854775808) % 18446744073709551616 - 9223372036854775808 := fun x => by
    rfl
  rw [hw64]
  by_cases h : m < H
  · rw [if_pos h]
    have h1 : m * K < H * K := Int.mul_lt_mul_of_pos_right h hp
    have h2 : 0 ≤ m * K := Int.mul_nonneg hm0 (by omega)
    have e : (m * K + 9223372036854775808) % 18446744073709551616 - 9223372036854775808 = m * K := by omega
    rw [e]; exact Int.mul_ediv_cancel _ (by omega)
  · rw [if_neg h]
    have h1 : H * K ≤ m * K := Int.mul_le_mul_of_nonneg_right (by omega) (by omega)
    have h2 : m * K < 2 * H * K := Int.mul_lt_mul_of_pos_right hm1 hp
    have e : (m * K + 9223372036854775808) % 18446744073709551616 - 9223372036854775808 = (m - 2 * H) * K := by
      rw [Int.sub_mul]; omega
    rw [e]; exact Int.mul_ediv_cancel _ (by omega)

/-! A number that fits is told again of its lowest bits; a number's fold fits exactly if the number does. -/
theorem pow_dvd (b : Nat) (h : b ≤ 64) : (2 : Int) ^ b ∣ 18446744073709551616 := ⟨2 ^ (64 - b), (pow_split b (64 - b) (by omega)).symm⟩
theorem wide_again (v : Int) (b : Int) (hb1 : 1 ≤ b) (hb2 : b ≤ 64) (h0 : -2 ^ (b.toNat - 1) ≤ v) (h1 : v < 2 ^ (b.toNat - 1)) : wideV (v % 18446744073709551616) b = v := by
  have hw : isW b = true := by simp [isW, hb1, hb2]
  unfold wideV signed
  rw [if_pos hw, Int.emod_emod_of_dvd _ (pow_dvd b.toNat (by omega))]
  have hh := pow_half b.toNat (by omega)
  generalize (2 : Int) ^ (b.toNat - 1) = H at *
  generalize (2 : Int) ^ b.toNat = N at *
  subst hh
  by_cases hv : 0 ≤ v
  · rw [Int.emod_eq_of_lt hv (by omega), if_pos h1]
  · have e : v % (2 * H) = v + 2 * H := by
      rw [← Int.add_emod_right]; exact Int.emod_eq_of_lt (by omega) (by omega)
    rw [e, if_neg (by omega)]; omega
theorem fold_fits (v : Int) (b : Int) (hb1 : 1 ≤ b) (hb2 : b ≤ 64) : narrowOk (foldV v) b = (decide (-2 ^ (b.toNat - 1) ≤ v) && decide (v < 2 ^ (b.toNat - 1))) := by
  have hw : isW b = true := by simp [isW, hb1, hb2]
  have hh := pow_half b.toNat (by omega)
  unfold narrowOk
  rw [hw, Bool.true_and, hh]
  generalize (2 : Int) ^ (b.toNat - 1) = H
  rw [← Bool.decide_and, decide_eq_decide]
  unfold foldV; split <;> omega
theorem half_wrap (b : Int) (hb1 : 1 ≤ b) (hb2 : b ≤ 63) : wrap64 (2 ^ (b.toNat - 1)) = 2 ^ (b.toNat - 1) ∧ (1 : Int) ≤ 2 ^ (b.toNat - 1) ∧ (2 : Int) ^ (b.toNat - 1) ≤ 4611686018427387904 := by
  have h1 := pow_pos (b.toNat - 1)
  have h2 := pow_le (m := b.toNat - 1) (n := 62) (by omega)
  have h3 : (2 : Int) ^ 62 = 4611686018427387904 := by decide
  rw [h3] at h2
  refine ⟨?_, by omega, h2⟩
  generalize (2 : Int) ^ (b.toNat - 1) = H at *
  unfold wrap64; omega
end Go.Proofs.YtpaolgjgonghlaaDoor.Pl
