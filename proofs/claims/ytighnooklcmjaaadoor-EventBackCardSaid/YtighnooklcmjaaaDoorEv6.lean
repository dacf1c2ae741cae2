/-
  Part 6 of the texts behind the law: EncPlain, EncCanon.
-/
import Derived.RowKit
import Derived.Laws.BytesArg
import Derived.Laws.Bits64b
/-
  Plain facts on the encoding of numbers in groups of seven bits: the bytes of a number, what is read from the front of bytes, and that the one reverses the other; what the four reading methods tell of bytes. No program is named here.
-/
namespace Go.Proofs.YtighnooklcmjaaaDoor.En

/-- The bytes of a number, the lowest seven bits first. -/
def lebN (v : Nat) : List Int := if v < 128 then [(v : Int)] else ((v % 128 + 128 : Nat) : Int) :: lebN (v / 128)
termination_by v
decreasing_by omega
def leb (v : Int) : List Int := lebN v.toNat

theorem leb_small (v : Int) (h0 : 0 ≤ v) (h1 : v < 128) : leb v = [v] := by
  unfold leb; rw [lebN, if_pos (by omega)]
  congr 1; omega
theorem leb_big (v : Int) (h1 : 128 ≤ v) : leb v = (v % 128 + 128) :: leb (v / 128) := by
  unfold leb; rw [lebN, if_neg (by omega)]
  have e1 : v.toNat / 128 = (v / 128).toNat := by omega
  rw [e1]
  congr 1; omega
theorem leb_ind {P : Int → Prop} (hs : ∀ v, 0 ≤ v → v < 128 → P v) (hb : ∀ v, 128 ≤ v → P (v / 128) → P v) : ∀ v, 0 ≤ v → P v := by
  have h : ∀ n : Nat, ∀ v : Int, 0 ≤ v → v.toNat ≤ n → P v := by
    intro n
    induction n with
    | zero => intro v h0 h1; exact hs v h0 (by omega)
    | succ n ih =>
      intro v h0 h1
      by_cases h : v < 128
      · exact hs v h0 h
      · exact hb v (by omega) (ih _ (by omega) (by omega))
  intro v h0; exact h v.toNat v h0 (Nat.le_refl _)
theorem leb_pos (v : Int) (h : 0 ≤ v) : 0 < (leb v).length := by
  by_cases h1 : v < 128
  · rw [leb_small v h h1]; simp
  · rw [leb_big v (by omega)]; simp
theorem leb_bytes (v : Int) (h : 0 ≤ v) : ∀ z ∈ leb v, 0 ≤ z ∧ z ≤ 255 := by
  revert h
  refine leb_ind (P := fun v => ∀ z ∈ leb v, 0 ≤ z ∧ z ≤ 255) ?_ ?_ v
  · intro v h0 h1 z hz
    rw [leb_small v h0 h1] at hz
    simp at hz; omega
  · intro v h1 ih z hz
    rw [leb_big v h1] at hz
    rcases List.mem_cons.1 hz with e | e
    · omega
    · exact ih z e
theorem leb_mono_aux : ∀ n : Nat, ∀ a b : Int, 0 ≤ a → a ≤ b → a.toNat ≤ n → (leb a).length ≤ (leb b).length := by
  intro n
  induction n with
  | zero =>
    intro a b h0 h1 h2
    rw [leb_small a h0 (by omega)]
    exact leb_pos b (by omega)
  | succ n ih =>
    intro a b h0 h1 h2
    by_cases h : a < 128
    · rw [leb_small a h0 h]
      exact leb_pos b (by omega)
    · rw [leb_big a (by omega), leb_big b (by omega)]
      have := ih (a / 128) (b / 128) (by omega) (by omega) (by omega)
      simp only [List.length_cons]; omega
theorem leb_mono (a b : Int) (h0 : 0 ≤ a) (h1 : a ≤ b) : (leb a).length ≤ (leb b).length := leb_mono_aux a.toNat a b h0 h1 (Nat.le_refl _)
theorem leb_len_aux : ∀ n : Nat, ∀ a : Int, 0 ≤ a → a < 128 ^ n → 0 < n → (leb a).length ≤ n := by
  intro n
  induction n with
  | zero => intro a h0 h1 h2; omega
  | succ n ih =>
    intro a h0 h1 _
    by_cases h : a < 128
    · rw [leb_small a h0 h]; simp
    · rw [leb_big a (by omega)]
      have hn : 0 < n := by
        rcases Nat.eq_zero_or_pos n with e | e
        · subst e; simp at h1; omega
        · exact e
      have := ih (a / 128) (by omega) (by rw [Int.pow_succ] at h1; omega) hn
      simp only [List.length_cons]; omega
theorem leb_len (a : Int) (h0 : 0 ≤ a) (h1 : a < 18446744073709551616) : (leb a).length ≤ 10 := leb_len_aux 10 a h0 (by omega) (by decide)

/-! Reading a number: the value and how many bytes it takes; 0 bytes if there is none. -/
def decA (k : Nat) (acc : Int) : List Int → Int × Nat
  | [] => (0, 0)
  | c :: cs => if (k = 9 ∧ 1 < c) ∨ (0 < k ∧ c = 0) then (0, 0) else if c < 128 then (acc + c * 128 ^ k, k + 1) else decA (k + 1) (acc + c % 128 * 128 ^ k) cs
def decU (zs : List Int) : Int × Nat := decA 0 0 zs

theorem p128 : ∀ k : Nat, k ≤ 9 → (1 : Int) ≤ 128 ^ k ∧ (128 : Int) ^ k ≤ 9223372036854775808 := by
  intro k hk
  have h : ∀ k : Fin 10, (1 : Int) ≤ 128 ^ k.val ∧ (128 : Int) ^ k.val ≤ 9223372036854775808 := by decide
  exact h ⟨k, by omega⟩
theorem p128_8 : ∀ k : Nat, k ≤ 8 → (128 : Int) ^ k ≤ 72057594037927936 := by
  intro k hk
  have h : ∀ k : Fin 9, (128 : Int) ^ k.val ≤ 72057594037927936 := by decide
  exact h ⟨k, by omega⟩
theorem p128_9 : (128 : Int) ^ 9 = 9223372036854775808 := by decide
/-- One group more fits: the value so far stays below the next power. -/
theorem group_bd (k : Nat) (acc c : Int) (hk : k ≤ 9) (h0 : 0 ≤ acc) (h1 : acc < 128 ^ k) (c0 : 0 ≤ c) (c1 : c < 128) (h9 : k = 9 → c ≤ 1) :
    0 ≤ c * 128 ^ k ∧ acc + c * 128 ^ k < 18446744073709551616 ∧ (k ≤ 8 → acc + c * 128 ^ k < 128 ^ (k + 1)) := by
  have hp := p128 k hk
  refine ⟨Int.mul_nonneg c0 (by omega), ?_, ?_⟩
  · by_cases h : k = 9
    · have h2 := h9 h
      subst h
      rw [p128_9] at *
      omega
    · have h8 := p128_8 k (by omega)
      have hm : c * 128 ^ k ≤ 127 * 128 ^ k := Int.mul_le_mul_of_nonneg_right (by omega) (by omega)
      omega
  · intro h8
    have hm : c * 128 ^ k ≤ 127 * 128 ^ k := Int.mul_le_mul_of_nonneg_right (by omega) (by omega)
    rw [Int.pow_succ]
    omega
theorem decA_range (zs : List Int) (hz : ∀ z ∈ zs, 0 ≤ z ∧ z ≤ 255) : ∀ (k : Nat) (acc : Int), k ≤ 9 → 0 ≤ acc → acc < 128 ^ k →
    (0 ≤ (decA k acc zs).1 ∧ (decA k acc zs).1 < 18446744073709551616) ∧ (decA k acc zs).2 ≤ k + zs.length := by
  induction zs with
  | nil => intro k acc _ _ _; simp [decA]
  | cons c cs ih =>
    intro k acc hk h0 h1
    have hc := hz c (List.mem_cons_self ..)
    unfold decA
    by_cases hb : (k = 9 ∧ 1 < c) ∨ (0 < k ∧ c = 0)
    · rw [if_pos hb]; simp
    · rw [if_neg hb]
      by_cases hs : c < 128
      · rw [if_pos hs]
        have hg := group_bd k acc c hk h0 h1 hc.1 hs (by omega)
        simp only [List.length_cons]
        refine ⟨⟨by omega, hg.2.1⟩, by omega⟩
      · rw [if_neg hs]
        have hg := group_bd k acc (c % 128) hk h0 h1 (by omega) (by omega) (by omega)
        have := ih (fun z h => hz z (List.mem_cons_of_mem _ h)) (k + 1) (acc + c % 128 * 128 ^ k) (by omega) (by omega) (hg.2.2 (by omega))
        simp only [List.length_cons]
        refine ⟨this.1, by omega⟩
theorem decU_range (zs : List Int) (hz : ∀ z ∈ zs, 0 ≤ z ∧ z ≤ 255) : (0 ≤ (decU zs).1 ∧ (decU zs).1 < 18446744073709551616) ∧ (decU zs).2 ≤ zs.length := by
  have := decA_range zs hz 0 0 (by decide) (by decide) (by decide)
  unfold decU
  refine ⟨this.1, by omega⟩
theorem decA_leb (rest : List Int) (v : Int) (h : 0 ≤ v) : ∀ (k : Nat) (acc : Int), k ≤ 9 → (0 < k → 0 < v) → v * 128 ^ k < 18446744073709551616 →
    decA k acc (leb v ++ rest) = (acc + v * 128 ^ k, k + (leb v).length) := by
  revert h
  refine leb_ind (P := fun v => ∀ (k : Nat) (acc : Int), k ≤ 9 → (0 < k → 0 < v) → v * 128 ^ k < 18446744073709551616 →
    decA k acc (leb v ++ rest) = (acc + v * 128 ^ k, k + (leb v).length)) ?_ ?_ v
  · intro v h0 h1 k acc hk hp hv
    rw [leb_small v h0 h1]
    have hb : ¬ ((k = 9 ∧ 1 < v) ∨ (0 < k ∧ v = 0)) := by
      rintro (⟨e, h2⟩ | ⟨e, h2⟩)
      · subst e; rw [p128_9] at hv; omega
      · have := hp e; omega
    rw [List.singleton_append, decA, if_neg hb, if_pos h1]
    simp
  · intro v h1 ih k acc hk hp hv
    rw [leb_big v h1]
    have hk9 : k ≠ 9 := by
      intro e; subst e; rw [p128_9] at hv; omega
    have hb : ¬ ((k = 9 ∧ 1 < v % 128 + 128) ∨ (0 < k ∧ v % 128 + 128 = 0)) := by omega
    have e1 : (v % 128 + 128) % 128 = v % 128 := by omega
    have e2 : v = v % 128 + v / 128 * 128 := by omega
    have hpk := p128 k hk
    have e3 : v / 128 * 128 ^ (k + 1) = v / 128 * 128 * 128 ^ k := by rw [Int.pow_succ, Int.mul_assoc, Int.mul_comm (128 ^ k) 128]
    have e4 : v * 128 ^ k = v % 128 * 128 ^ k + v / 128 * 128 * 128 ^ k := by rw [← Int.add_mul, ← e2]
    have h5 : 0 ≤ v % 128 * 128 ^ k := Int.mul_nonneg (by omega) (by omega)
    rw [List.cons_append, decA, if_neg hb, if_neg (by omega), e1, ih (k + 1) _ (by omega) (by omega) (by rw [e3]; omega), e3, e4]
    simp only [List.length_cons]
    refine Prod.ext ?_ ?_
    · show acc + v % 128 * 128 ^ k + v / 128 * 128 * 128 ^ k = acc + (v % 128 * 128 ^ k + v / 128 * 128 * 128 ^ k); omega
    · show k + 1 + (leb (v / 128)).length = k + ((leb (v / 128)).length + 1); omega
theorem decU_leb (rest : List Int) (v : Int) (h0 : 0 ≤ v) (h1 : v < 18446744073709551616) : decU (leb v ++ rest) = (v, (leb v).length) := by
  unfold decU
  rw [decA_leb rest v h0 0 0 (by decide) (by omega) (by simpa using h1)]
  simp
theorem decA_short (v : Int) (h : 0 ≤ v) : ∀ (n k : Nat) (acc : Int), n < (leb v).length → decA k acc ((leb v).take n) = (0, 0) := by
  revert h
  refine leb_ind (P := fun v => ∀ (n k : Nat) (acc : Int), n < (leb v).length → decA k acc ((leb v).take n) = (0, 0)) ?_ ?_ v
  · intro v h0 h1 n k acc hn
    rw [leb_small v h0 h1] at hn ⊢
    obtain rfl : n = 0 := by simpa using hn
    rfl
  · intro v h1 ih n k acc hn
    rw [leb_big v h1] at hn ⊢
    cases n with
    | zero => rfl
    | succ n =>
      rw [List.take_succ_cons, decA]
      by_cases hb : (k = 9 ∧ 1 < v % 128 + 128) ∨ (0 < k ∧ v % 128 + 128 = 0)
      · rw [if_pos hb]
      · rw [if_neg hb, if_neg (by omega)]
        exact ih n (k + 1) _ (by simpa using hn)
theorem decU_short (v : Int) (h : 0 ≤ v) (n : Nat) (hn : n < (leb v).length) : decU ((leb v).take n) = (0, 0) := decA_short v h n 0 0 hn
theorem leb_inj (a b : Int) (a0 : 0 ≤ a) (a1 : a < 18446744073709551616) (b0 : 0 ≤ b) (b1 : b < 18446744073709551616) (h : leb a = leb b) : a = b := by
  have ha := decU_leb [] a a0 a1
  have hb := decU_leb [] b b0 b1
  rw [h, hb] at ha
  exact (congrArg Prod.fst ha).symm

/-! The bits of one byte, and of a group laid above the value so far. -/
open Go.RowKit in
theorem or_more : ∀ v : Int, 0 ≤ v → bits .or .u8 (IntKind.u8.wrap v) 128 = v % 128 + 128 := by
  intro v h0
  have h : ∀ n : Fin 256, bits .or .u8 (n.val : Int) 128 = (n.val : Int) % 128 + 128 := by decide +kernel
  have e : IntKind.u8.wrap v = (((v % 256).toNat : Nat) : Int) := by
    have e2 : IntKind.u8.wrap v = v % 256 := by simp [IntKind.wrap, IntKind.signed, IntKind.bits]
    omega
  have := h ⟨(v % 256).toNat, by omega⟩
  rw [e, this]
  show (((v % 256).toNat : Nat) : Int) % 128 + 128 = _
  omega
open Go.RowKit in
theorem or_more' (v : Int) (h0 : 0 ≤ v) : bits .or .u8 (v % 256) 128 = v % 128 + 128 := by
  have e : IntKind.u8.wrap v = v % 256 := by simp [IntKind.wrap, IntKind.signed, IntKind.bits]
  rw [← e]; exact or_more v h0
open Go.RowKit in
theorem and_not_more : ∀ c : Int, 0 ≤ c → c ≤ 255 → bits .andNot .u8 c 128 = c % 128 := by
  intro c h0 h1
  have h : ∀ n : Fin 256, bits .andNot .u8 (n.val : Int) 128 = (n.val : Int) % 128 := by decide +kernel
  have e : c = ((c.toNat : Nat) : Int) := by omega
  have := h ⟨c.toNat, by omega⟩
  rw [e]
  exact this
theorem pow_two_128 (k : Nat) : (2 : Int) ^ (7 * k) = 128 ^ k := by
  rw [Int.pow_mul]; rfl
open Go.RowKit in
theorem or_group (k : Nat) (acc c : Int) (hk : k ≤ 9) (h0 : 0 ≤ acc) (h1 : acc < 128 ^ k) (c0 : 0 ≤ c) (c1 : c < 128) (h9 : k = 9 → c ≤ 1) :
    bits .or .u64 acc (c * 128 ^ k) = acc + c * 128 ^ k := by
  have hg := group_bd k acc c hk h0 h1 c0 c1 h9
  obtain ⟨a, rfl⟩ := Int.eq_ofNat_of_zero_le h0
  obtain ⟨b, rfl⟩ := Int.eq_ofNat_of_zero_le c0
  have e : (b : Int) * 128 ^ k = ((2 ^ (7 * k) * b : Nat) : Int) := by
    rw [Int.natCast_mul, Int.natCast_pow, ← pow_two_128, Int.mul_comm]; rfl
  have ha : a < 2 ^ (7 * k) := by
    have h2 : (a : Int) < ((2 ^ (7 * k) : Nat) : Int) := by rw [Int.natCast_pow]; rw [← pow_two_128] at h1; exact h1
    omega
  rw [e] at hg ⊢
  rw [Go.bits_or_u64_nat a (2 ^ (7 * k) * b) (by omega) (by omega)]
  rw [Nat.or_comm, ← Nat.two_pow_add_eq_or_of_lt ha]
  omega

open Go.RowKit in
theorem or_step (k : Nat) (acc z : Int) (hk : k ≤ 9) (h0 : 0 ≤ acc) (h1 : acc < 128 ^ k) (z0 : 0 ≤ z) (z1 : z ≤ 255) (h9 : k = 9 → z % 128 ≤ 1) :
    bits .or .u64 acc (IntKind.u64.wrap (IntKind.u64.wrap (bits .andNot .u8 z 128) * 2 ^ (7 * k))) = acc + z % 128 * 128 ^ k := by
  have hg := group_bd k acc (z % 128) hk h0 h1 (by omega) (by omega) h9
  have e1 : IntKind.u64.wrap (z % 128) = z % 128 := by rw [IntKind.wrap_u64]; omega
  have e2 : IntKind.u64.wrap (z % 128 * 128 ^ k) = z % 128 * 128 ^ k := by rw [IntKind.wrap_u64]; omega
  rw [and_not_more z z0 z1, e1, pow_two_128, e2]
  exact or_group k acc (z % 128) hk h0 h1 (by omega) (by omega) h9

/-! ### What the methods tell -/
def okU (zs : List Int) (b : Bool) : Bool := !b && decide (0 < (decU zs).2)
def valU (zs : List Int) (b : Bool) : Int := if okU zs b = true then (decU zs).1 else 0
def restU (zs : List Int) (b : Bool) : List Int := if okU zs b = true then zs.drop (decU zs).2 else []
def okS (zs : List Int) (b : Bool) (most : Int) : Bool := okU zs b && decide (0 ≤ most) && decide (valU zs b ≤ most) && decide (valU zs b ≤ (restU zs b).length)
def valS (zs : List Int) (b : Bool) (most : Int) : ByteArray := if okS zs b most = true then strOfNums ((restU zs b).take (valU zs b).toNat) else ByteArray.empty
def restS (zs : List Int) (b : Bool) (most : Int) : List Int := if okS zs b most = true then (restU zs b).drop (valU zs b).toNat else []
def okM (zs : List Int) (b : Bool) (most : Int) : Bool := okU zs b && decide (valU zs b ≤ most) && decide (valU zs b ≤ 2147483647)
def valM (zs : List Int) (b : Bool) (most : Int) : Int := if okM zs b most = true then valU zs b else 0
def restM (zs : List Int) (b : Bool) (most : Int) : List Int := if okM zs b most = true then restU zs b else []
def isEnd (zs : List Int) (b : Bool) : Bool := !b && decide (zs.length = 0)

def Byte (zs : List Int) : Prop := ∀ z ∈ zs, 0 ≤ z ∧ z ≤ 255
theorem Byte.drop {zs : List Int} (h : Byte zs) (n : Nat) : Byte (zs.drop n) := fun z hz => h z (List.mem_of_mem_drop hz)
theorem Byte.take {zs : List Int} (h : Byte zs) (n : Nat) : Byte (zs.take n) := fun z hz => h z (List.mem_of_mem_take hz)
theorem Byte.app {xs zs : List Int} (h : Byte xs) (k : Byte zs) : Byte (xs ++ zs) := fun z hz => (List.mem_append.1 hz).elim (h z) (k z)
theorem Byte.nil : Byte [] := fun z hz => by simp at hz
theorem valU_range (zs : List Int) (b : Bool) (hz : Byte zs) : 0 ≤ valU zs b ∧ valU zs b < 18446744073709551616 := by
  unfold valU; split
  · exact (decU_range zs hz).1
  · omega
theorem restU_byte (zs : List Int) (b : Bool) (hz : Byte zs) : Byte (restU zs b) := by
  unfold restU; split
  · exact hz.drop _
  · exact Byte.nil

/-! Reading what was written. -/
def strB (s : ByteArray) : List Int := s.data.toList.map fun c => (c.toNat : Int)
def putS (s : ByteArray) : List Int := leb s.size ++ strB s
theorem strB_len (s : ByteArray) : (strB s).length = s.size := by
  unfold strB; rw [List.length_map, Array.length_toList]; rfl
theorem strB_byte (s : ByteArray) : Byte (strB s) := by
  intro z hz
  simp only [strB, List.mem_map] at hz
  obtain ⟨c, _, rfl⟩ := hz
  have := c.toNat_lt
  omega
theorem str_back (s : ByteArray) : strOfNums (strB s) = s := by
  have h : (strOfNums (strB s)).data.toList = s.data.toList := by
    rw [strOfNums_data]
    unfold strB
    rw [List.map_map]
    have e : ((fun n : Int => UInt8.ofNat n.toNat) ∘ fun c : UInt8 => (c.toNat : Int)) = id := by
      funext c; simp
    rw [e, List.map_id]
  have h2 : (strOfNums (strB s)).data = s.data := by
    exact Array.toList_inj.1 h
  cases hx : strOfNums (strB s)
  cases s
  rw [hx] at h2
  simp at h2
  rw [h2]
theorem readU (v : Int) (rest : List Int) (h0 : 0 ≤ v) (h1 : v < 18446744073709551616) :
    okU (leb v ++ rest) false = true ∧ valU (leb v ++ rest) false = v ∧ restU (leb v ++ rest) false = rest := by
  have h := decU_leb rest v h0 h1
  have hp := leb_pos v h0
  have ho : okU (leb v ++ rest) false = true := by unfold okU; rw [h, decide_eq_true hp]; rfl
  refine ⟨ho, ?_, ?_⟩
  · unfold valU; rw [if_pos ho, h]
  · unfold restU; rw [if_pos ho, h]; exact List.drop_left
theorem readS (s : ByteArray) (rest : List Int) (most : Int) (hm : (s.size : Int) ≤ most) (hs : s.size < 18446744073709551616) :
    okS (putS s ++ rest) false most = true ∧ valS (putS s ++ rest) false most = s ∧ restS (putS s ++ rest) false most = rest := by
  have e : putS s ++ rest = leb s.size ++ (strB s ++ rest) := by unfold putS; rw [List.append_assoc]
  obtain ⟨h1, h2, h3⟩ := readU s.size (strB s ++ rest) (by omega) (by omega)
  have ho : okS (putS s ++ rest) false most = true := by
    unfold okS
    rw [e, h1, h2, h3, List.length_append, strB_len]
    have c1 : (0 : Int) ≤ most := by omega
    have c2 : (s.size : Int) ≤ ((s.size + rest.length : Nat) : Int) := by omega
    rw [decide_eq_true c1, decide_eq_true hm, decide_eq_true c2]; rfl
  refine ⟨ho, ?_, ?_⟩
  · unfold valS; rw [if_pos ho, e, h2, h3]
    have : ((s.size : Int)).toNat = (strB s).length := by rw [strB_len]; omega
    rw [this, List.take_left, str_back]
  · unfold restS; rw [if_pos ho, e, h2, h3]
    have : ((s.size : Int)).toNat = (strB s).length := by rw [strB_len]; omega
    rw [this, List.drop_left]
end Go.Proofs.YtighnooklcmjaaaDoor.En
/-
  Plain facts: whatever is read well from the front of bytes is what the writing of it lays there (no number and no string has two encodings).
-/
namespace Go.Proofs.YtighnooklcmjaaaDoor.En
theorem decA_canon : ∀ (zs : List Int), Byte zs → ∀ (k : Nat) (acc v : Int) (n : Nat), decA k acc zs = (v, n) → 0 < n →
    ∃ u, 0 ≤ u ∧ (0 < k → 0 < u) ∧ v = acc + u * 128 ^ k ∧ n = k + (leb u).length ∧ ∃ r, zs = leb u ++ r
  | [], _, k, acc, v, n, h, hn => by
    simp only [decA, Prod.mk.injEq] at h
    omega
  | c :: cs, hb, k, acc, v, n, h, hn => by
    have hc := hb c (List.mem_cons_self ..)
    rw [decA] at h
    by_cases hbad : (k = 9 ∧ 1 < c) ∨ (0 < k ∧ c = 0)
    · rw [if_pos hbad] at h
      simp only [Prod.mk.injEq] at h
      omega
    · rw [if_neg hbad] at h
      by_cases hs : c < 128
      · rw [if_pos hs] at h
        simp only [Prod.mk.injEq] at h
        refine ⟨c, hc.1, fun hk => ?_, h.1.symm, ?_, cs, ?_⟩
        · omega
        · rw [leb_small c hc.1 hs, ← h.2]; rfl
        · rw [leb_small c hc.1 hs]; rfl
      · rw [if_neg hs] at h
        obtain ⟨u, u0, up, hv, hn2, r, hr⟩ := decA_canon cs (fun z hz => hb z (List.mem_cons_of_mem _ hz)) (k + 1) _ v n h hn
        have hu := up (by omega)
        have e1 : (c % 128 + u * 128) % 128 = c % 128 := by omega
        have e2 : (c % 128 + u * 128) / 128 = u := by omega
        have el : leb (c % 128 + u * 128) = c :: leb u := by
          rw [leb_big _ (by omega), e1, e2]
          congr 1
          omega
        refine ⟨c % 128 + u * 128, by omega, fun _ => by omega, ?_, ?_, r, ?_⟩
        · rw [hv, Int.add_mul, Int.pow_succ, Int.mul_assoc u 128, Int.mul_comm 128 (128 ^ k), Int.add_assoc]
        · rw [el, List.length_cons, hn2]; omega
        · rw [el, hr]; rfl
theorem canonU {zs : List Int} (hb : Byte zs) (h : okU zs false = true) : zs = leb (valU zs false) ++ restU zs false ∧ 0 ≤ valU zs false := by
  have hn : 0 < (decU zs).2 := by simpa [okU] using h
  obtain ⟨u, u0, _, hv, hl, r, hr⟩ := decA_canon zs hb 0 0 (decU zs).1 (decU zs).2 rfl hn
  have e : valU zs false = u := by
    unfold valU
    rw [if_pos h, hv]
    simp
  have e2 : restU zs false = zs.drop (leb u).length := by
    unfold restU
    rw [if_pos h, hl, Nat.zero_add]
  rw [e, e2]
  refine ⟨?_, u0⟩
  rw [hr, List.drop_left]
theorem strB_back {zs : List Int} (h : Byte zs) : strB (strOfNums zs) = zs := by
  unfold strB
  rw [strOfNums_data, List.map_map]
  have e : ∀ z ∈ zs, ((fun c : UInt8 => (c.toNat : Int)) ∘ fun n : Int => UInt8.ofNat n.toNat) z = z := fun z hz => by
    have := h z hz
    show ((UInt8.ofNat z.toNat).toNat : Int) = z
    rw [UInt8.toNat_ofNat', Nat.mod_eq_of_lt (by omega)]
    omega
  rw [List.map_congr_left e, List.map_id']
theorem canonS {zs : List Int} {most : Int} (hb : Byte zs) (h : okS zs false most = true) : zs = putS (valS zs false most) ++ restS zs false most ∧ ((valS zs false most).size : Int) ≤ most := by
  have h' := h
  unfold okS at h'
  simp only [Bool.and_eq_true, decide_eq_true_eq] at h'
  obtain ⟨⟨⟨h1, h2⟩, h3⟩, h4⟩ := h'
  obtain ⟨c1, c2⟩ := canonU hb h1
  have hbr := restU_byte zs false hb
  have ev : valS zs false most = strOfNums ((restU zs false).take (valU zs false).toNat) := by unfold valS; rw [if_pos h]
  have er : restS zs false most = (restU zs false).drop (valU zs false).toNat := by unfold restS; rw [if_pos h]
  have es : (valS zs false most).size = (valU zs false).toNat := by
    rw [← strB_len, ev, strB_back (hbr.take _), List.length_take]
    omega
  have es2 : ((valS zs false most).size : Int) = valU zs false := by omega
  refine ⟨?_, by omega⟩
  unfold putS
  rw [es2, ev, strB_back (hbr.take _), er, List.append_assoc, List.take_append_drop]
  exact c1
theorem canonM {zs : List Int} {most : Int} (hb : Byte zs) (h : okM zs false most = true) : zs = leb (valM zs false most) ++ restM zs false most ∧ 0 ≤ valM zs false most ∧ valM zs false most ≤ most := by
  have h' := h
  unfold okM at h'
  simp only [Bool.and_eq_true, decide_eq_true_eq] at h'
  obtain ⟨⟨h1, h2⟩, h3⟩ := h'
  obtain ⟨c1, c2⟩ := canonU hb h1
  unfold valM restM
  rw [if_pos h, if_pos h]
  exact ⟨c1, c2, h2⟩
theorem restM_byte (zs : List Int) (b : Bool) (most : Int) (hz : Byte zs) : Byte (restM zs b most) := by
  unfold restM; split
  · exact restU_byte zs b hz
  · exact Byte.nil
theorem restS_byte (zs : List Int) (b : Bool) (most : Int) (hz : Byte zs) : Byte (restS zs b most) := by
  unfold restS; split
  · exact (restU_byte zs b hz).drop _
  · exact Byte.nil
theorem bad_M (zs : List Int) (most : Int) : okM zs true most = false := rfl
theorem bad_S (zs : List Int) (most : Int) : okS zs true most = false := rfl
theorem readM (v : Int) (rest : List Int) (most : Int) (h0 : 0 ≤ v) (h1 : v ≤ most) (h2 : v ≤ 2147483647) :
    okM (leb v ++ rest) false most = true ∧ valM (leb v ++ rest) false most = v ∧ restM (leb v ++ rest) false most = rest := by
  obtain ⟨a1, a2, a3⟩ := readU v rest h0 (by omega)
  have ho : okM (leb v ++ rest) false most = true := by
    unfold okM
    rw [a1, a2, decide_eq_true h1, decide_eq_true h2]; rfl
  unfold valM restM
  rw [if_pos ho, if_pos ho]
  exact ⟨ho, a2, a3⟩
end Go.Proofs.YtighnooklcmjaaaDoor.En
