/-
  Waiting in plain words: how long ahead of a try, in all, and how many tries fit.
-/
import Derived.Test.YtgjkpbibcaodjaaBaseKit
namespace Go.Proofs.Ytgjkpbibcaodjaa.Bk
def M : Nat := 2147483647
/-- How long ahead of try k (from 1 on). -/
def dl (b k : Nat) : Nat := min 64000 (b * 2 ^ (k - 1))
def tot (b : Nat) : Nat → Nat
  | 0 => 0
  | n + 1 => tot b n + dl b (n + 1)
theorem pow_pos2 (k : Nat) : 1 ≤ 2 ^ k := Nat.one_le_two_pow
theorem dl_pos {b : Nat} (hb : 1 ≤ b) (k : Nat) : 1 ≤ dl b k := by
  have h : 1 * 1 ≤ b * 2 ^ (k - 1) := Nat.mul_le_mul hb (pow_pos2 _)
  unfold dl
  omega
theorem dl_le (b k : Nat) : dl b k ≤ 64000 := Nat.min_le_left _ _
theorem dl_top {b k : Nat} (h : 64000 ≤ b * 2 ^ (k - 1)) : dl b k = 64000 := Nat.min_eq_left h
theorem dl_low {b k : Nat} (h : b * 2 ^ (k - 1) ≤ 64000) : dl b k = b * 2 ^ (k - 1) := Nat.min_eq_right h
theorem dl_next (b : Nat) {k : Nat} (hk : 1 ≤ k) : dl b (k + 1) = min 64000 (2 * dl b k) := by
  obtain ⟨j, rfl⟩ : ∃ j, k = j + 1 := ⟨k - 1, by omega⟩
  unfold dl
  rw [Nat.add_sub_cancel, Nat.add_sub_cancel, Nat.pow_succ, ← Nat.mul_assoc]
  generalize b * 2 ^ j = x
  omega
theorem dl_step (b k : Nat) : dl b k ≤ dl b (k + 1) := by
  cases k with
  | zero => exact Nat.le_refl _
  | succ j =>
    rw [dl_next b (k := j + 1) (by omega)]
    have := dl_le b (j + 1)
    omega
theorem dl_mono (b : Nat) {k l : Nat} (h : k ≤ l) : dl b k ≤ dl b l := by
  induction l with
  | zero => rw [Nat.le_zero.1 h]; exact Nat.le_refl _
  | succ l ih =>
    rcases Nat.lt_or_ge l k with h2 | h2
    · rw [show k = l + 1 by omega]; exact Nat.le_refl _
    · exact Nat.le_trans (ih h2) (dl_step b l)
theorem dl_17 {b k : Nat} (hb : 1 ≤ b) (hk : 17 ≤ k) : dl b k = 64000 := by
  refine Nat.le_antisymm (dl_le _ _) (Nat.le_trans ?_ (dl_mono b hk))
  unfold dl
  have : 1 * 2 ^ 16 ≤ b * 2 ^ (17 - 1) := Nat.mul_le_mul_right _ hb
  omega
theorem dl_base {a b : Nat} (h : a ≤ b) (k : Nat) : dl a k ≤ dl b k := by
  unfold dl
  have := Nat.mul_le_mul_right (2 ^ (k - 1)) h
  omega
theorem tot_step {b : Nat} (hb : 1 ≤ b) (n : Nat) : tot b n < tot b (n + 1) := by
  have := dl_pos hb (n + 1)
  show tot b n < tot b n + dl b (n + 1)
  omega
theorem tot_mono (b : Nat) {n m : Nat} (h : n ≤ m) : tot b n ≤ tot b m := by
  induction m with
  | zero => rw [Nat.le_zero.1 h]; exact Nat.le_refl _
  | succ m ih =>
    rcases Nat.lt_or_ge m n with h2 | h2
    · rw [show n = m + 1 by omega]; exact Nat.le_refl _
    · exact Nat.le_trans (ih h2) (Nat.le_add_right _ _)
theorem tot_lt {b : Nat} (hb : 1 ≤ b) {n m : Nat} (h : n < m) : tot b n < tot b m := Nat.lt_of_lt_of_le (tot_step hb n) (tot_mono b h)
theorem tot_le (b : Nat) : ∀ n, tot b n ≤ 64000 * n
  | 0 => Nat.le_refl _
  | n + 1 => by
    have h1 := tot_le b n
    have h2 := dl_le b (n + 1)
    show tot b n + dl b (n + 1) ≤ _
    omega
theorem tot_ge {b : Nat} (hb : 1 ≤ b) : ∀ n, n ≤ tot b n
  | 0 => Nat.le_refl _
  | n + 1 => by
    have h1 := tot_ge hb n
    have h2 := dl_pos hb (n + 1)
    show n + 1 ≤ tot b n + dl b (n + 1)
    omega
theorem tot_tail {b k : Nat} (h : dl b (k + 1) = 64000) : ∀ {n : Nat}, k ≤ n → tot b n = tot b k + 64000 * (n - k)
  | 0, hn => by obtain rfl : k = 0 := by omega
                rfl
  | n + 1, hn => by
    rcases Nat.lt_or_ge n k with h2 | h2
    · obtain rfl : k = n + 1 := by omega
      rw [Nat.sub_self]; rfl
    · have h3 := tot_tail h h2
      have h4 : dl b (n + 1) = 64000 := Nat.le_antisymm (dl_le _ _) (by rw [← h]; exact dl_mono b (by omega))
      show tot b n + dl b (n + 1) = _
      rw [h3, h4]
      omega
theorem tot_base {a b : Nat} (h : a ≤ b) : ∀ n, tot a n ≤ tot b n
  | 0 => Nat.le_refl _
  | n + 1 => Nat.add_le_add (tot_base h n) (dl_base h (n + 1))
/-! ### How many tries fit -/
def tryK (b w : Nat) : Nat → Nat
  | 0 => 0
  | m + 1 => if tot b (m + 1) ≤ w then m + 1 else tryK b w m
def tryV (b w : Nat) : Nat := tryK b w M
structure IsTry (b w n : Nat) : Prop where
  most : n ≤ M
  fits : tot b n ≤ w
  more : n = M ∨ w < tot b (n + 1)
theorem tryK_le (b w : Nat) : ∀ m, tryK b w m ≤ m
  | 0 => Nat.le_refl _
  | m + 1 => by
    unfold tryK
    split
    · exact Nat.le_refl _
    · exact Nat.le_trans (tryK_le b w m) (Nat.le_succ m)
theorem tryK_fits (b w : Nat) : ∀ m, tot b (tryK b w m) ≤ w
  | 0 => Nat.zero_le _
  | m + 1 => by
    unfold tryK
    split
    · next h => exact h
    · exact tryK_fits b w m
theorem tryK_more (b w : Nat) : ∀ m, tryK b w m = m ∨ w < tot b (tryK b w m + 1)
  | 0 => .inl rfl
  | m + 1 => by
    unfold tryK
    split
    · exact .inl rfl
    · next h =>
      rcases tryK_more b w m with h1 | h1
      · right; rw [h1]; omega
      · exact .inr h1
theorem tryV_is (b w : Nat) : IsTry b w (tryV b w) := ⟨tryK_le b w M, tryK_fits b w M, tryK_more b w M⟩
theorem IsTry.eq {b w n m : Nat} (hb : 1 ≤ b) (h : IsTry b w n) (h2 : IsTry b w m) : n = m := by
  have key : ∀ {n m : Nat}, IsTry b w n → IsTry b w m → ¬ n < m := fun {n m} h h2 hlt => by
    rcases h.more with e | e
    · have := h2.most; omega
    · have h3 := tot_mono b (show n + 1 ≤ m by omega)
      have := h2.fits
      omega
  have _ := hb
  have h3 := key h h2
  have h4 := key h2 h
  omega
theorem tryV_eq {b w n : Nat} (hb : 1 ≤ b) (h : IsTry b w n) : tryV b w = n := (tryV_is b w).eq hb h
theorem try_base {a b w : Nat} (h : a ≤ b) : tryV b w ≤ tryV a w := by
  have h1 := tryV_is a w
  have h2 := tryV_is b w
  rcases h1.more with e | e
  · rw [e]; exact h2.most
  · apply Classical.byContradiction
    intro hn
    have h3 := tot_mono a (show tryV a w + 1 ≤ tryV b w by omega)
    have h4 := tot_base h (tryV b w)
    have := h2.fits
    omega
/-! ### Over signed numbers -/
def delayI (b t : Int) : Int := if b < 1 ∨ t < 1 then 0 else (dl b.toNat t.toNat : Int)
def totalI (b n : Int) : Int := if b < 1 ∨ n < 1 then 0 else (tot b.toNat (min n.toNat M) : Int)
def tryI (b w : Int) : Int := if b < 1 ∨ w < 0 then 0 else (tryV b.toNat w.toNat : Int)
theorem delayI_nat {b t : Nat} (hb : 1 ≤ b) (ht : 1 ≤ t) : delayI b t = (dl b t : Int) := by
  unfold delayI
  rw [if_neg (by omega), Int.toNat_natCast, Int.toNat_natCast]
theorem totalI_nat {b n : Nat} (hb : 1 ≤ b) : totalI b n = (tot b (min n M) : Int) := by
  unfold totalI
  by_cases h : n = 0
  · subst h; rw [if_pos (by omega)]; rfl
  · rw [if_neg (by omega), Int.toNat_natCast, Int.toNat_natCast]
theorem tryI_nat {b w : Nat} (hb : 1 ≤ b) : tryI b w = (tryV b w : Int) := by
  unfold tryI
  rw [if_neg (by omega), Int.toNat_natCast, Int.toNat_natCast]
theorem delayI_rng (b t : Int) : 0 ≤ delayI b t ∧ delayI b t ≤ 64000 := by
  unfold delayI
  split
  · omega
  · have := dl_le b.toNat t.toNat; omega
theorem totalI_rng (b n : Int) : 0 ≤ totalI b n ∧ totalI b n ≤ 137438953408000 := by
  unfold totalI
  split
  · omega
  · have h1 := tot_le b.toNat (min n.toNat M)
    have h2 : min n.toNat M ≤ 2147483647 := Nat.min_le_right _ _
    omega
theorem tryI_rng (b w : Int) : 0 ≤ tryI b w ∧ tryI b w ≤ 2147483647 := by
  unfold tryI
  split
  · omega
  · have := (tryV_is b.toNat w.toNat).most
    unfold M at this
    omega
end Go.Proofs.Ytgjkpbibcaodjaa.Bk
