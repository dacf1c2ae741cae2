/-
  Part 1 of the texts behind the law: SumPlain.
-/
/-
  Plain facts on Adler-32 checksums: the two numbers as sums modulo 65521, of a whole string, of two parts, and of a string with one byte changed. No program is named here.
-/
namespace Go.Proofs.YtdbhicifjljjnaaGreatDoor.Su

/-- One byte: it is added to the first number, and the first number to the second. -/
def stp (s : Int × Int) (v : Int) : Int × Int := ((s.1 + v) % 65521, (s.2 + (s.1 + v) % 65521) % 65521)
def run (a c : Int) (zs : List Int) : Int × Int := zs.foldl stp (a, c)
def word (p : Int × Int) : Int := p.2 * 65536 + p.1
def ext (s : Int) (zs : List Int) : Int := word (run (s % 65536) (s / 65536) zs)
def okS (s : Int) : Bool := decide (s / 65536 < 65521 ∧ s % 65536 < 65521)
def ofV (zs : List Int) : Int := ext 1 zs
def onV (s : Int) (zs : List Int) : Int := if okS s = true then ext s zs else 0
def joinOk (s t n : Int) : Bool := okS s && okS t && decide (0 ≤ n)
def joinV (s t n : Int) : Int :=
  if joinOk s t n = true then word ((s % 65536 + t % 65536 - 1) % 65521, (s / 65536 + t / 65536 + n % 65521 * (s % 65536 - 1)) % 65521) else 0
def turnOk (s n i : Int) : Bool := okS s && decide (1 ≤ n) && decide (0 ≤ i) && decide (i < n)
def turnV (s n i x y : Int) : Int :=
  if turnOk s n i = true then word ((s % 65536 + (y - x)) % 65521, (s / 65536 + (n - i) % 65521 * (y - x)) % 65521) else 0

/-! Sums: of the bytes, and of the bytes weighed by how many there are from them on. -/
def sumA : List Int → Int
  | [] => 0
  | x :: xs => x + sumA xs
def sumW : List Int → Int
  | [] => 0
  | x :: xs => ((xs.length : Int) + 1) * x + sumW xs

theorem cong {x y : Int} (k : Int) (h : x = y + 65521 * k) : x % 65521 = y % 65521 := by
  rw [h]; exact Int.add_mul_emod_self_left _ _ _
theorem rem (x : Int) : ∃ k, x % 65521 = x - 65521 * k := ⟨x / 65521, by omega⟩

theorem run_closed (zs : List Int) : ∀ a c : Int, 0 ≤ a → a < 65521 → 0 ≤ c → c < 65521 →
    run a c zs = ((a + sumA zs) % 65521, (c + zs.length * a + sumW zs) % 65521) := by
  induction zs with
  | nil =>
    intro a c h0 h1 h2 h3
    show (a, c) = _
    simp only [sumA, sumW, List.length_nil]
    refine Prod.ext ?_ ?_
    · show a = (a + 0) % 65521; omega
    · show c = (c + ((0 : Nat) : Int) * a + 0) % 65521
      rw [Int.natCast_zero, Int.zero_mul]; omega
  | cons x xs ih =>
    intro a c h0 h1 h2 h3
    have e : run a c (x :: xs) = run ((a + x) % 65521) ((c + (a + x) % 65521) % 65521) xs := rfl
    rw [e, ih _ _ (by omega) (by omega) (by omega) (by omega)]
    obtain ⟨q, hq⟩ := rem (a + x)
    obtain ⟨r, hr⟩ := rem (c + (a + x) % 65521)
    rw [hr, hq]
    simp only [sumA, sumW, List.length_cons]
    refine Prod.ext ?_ ?_
    · exact cong (-q) (by omega)
    · refine cong (-(q + r + xs.length * q)) ?_
      have e1 : ((xs.length + 1 : Nat) : Int) = (xs.length : Int) + 1 := by omega
      rw [e1]
      generalize (xs.length : Int) = n
      generalize sumW xs = w
      rw [Int.mul_sub, Int.mul_add, Int.add_mul, Int.add_mul, Int.one_mul, Int.one_mul, Int.mul_neg, Int.mul_add, Int.mul_add]
      have e2 : n * (65521 * q) = 65521 * (n * q) := by rw [Int.mul_left_comm]
      rw [e2]
      generalize n * q = nq
      generalize n * a = na
      generalize n * x = nx
      omega

theorem run_app (a c : Int) (xs ys : List Int) : run a c (xs ++ ys) = run (run a c xs).1 (run a c xs).2 ys := by
  unfold run; rw [List.foldl_append]
theorem run_range (a c : Int) (zs : List Int) (h0 : 0 ≤ a) (h1 : a < 65521) (h2 : 0 ≤ c) (h3 : c < 65521) :
    (0 ≤ (run a c zs).1 ∧ (run a c zs).1 < 65521) ∧ 0 ≤ (run a c zs).2 ∧ (run a c zs).2 < 65521 := by
  rw [run_closed zs a c h0 h1 h2 h3]
  refine ⟨⟨?_, ?_⟩, ?_, ?_⟩ <;> simp only [] <;> omega

/-! A word and its two halves. -/
theorem word_lo {a c : Int} (h0 : 0 ≤ a) (h1 : a < 65521) : word (a, c) % 65536 = a := by unfold word; simp only []; omega
theorem word_hi {a c : Int} (h0 : 0 ≤ a) (h1 : a < 65521) : word (a, c) / 65536 = c := by unfold word; simp only []; omega
theorem word_range {a c : Int} (h0 : 0 ≤ a) (h1 : a < 65521) (h2 : 0 ≤ c) (h3 : c < 65521) : 0 ≤ word (a, c) ∧ word (a, c) < 4294967296 := by
  unfold word; simp only []; omega
theorem word_ok {a c : Int} (h0 : 0 ≤ a) (h1 : a < 65521) (_h2 : 0 ≤ c) (h3 : c < 65521) : okS (word (a, c)) = true := by
  unfold okS; rw [word_hi h0 h1, word_lo h0 h1]; simp [h1, h3]
theorem word_inj {a c a' c' : Int} (h0 : 0 ≤ a) (h1 : a < 65521) (h2 : 0 ≤ a') (h3 : a' < 65521) (h : word (a, c) = word (a', c')) : a = a' ∧ c = c' := by
  unfold word at h; simp only [] at h; omega
theorem okS_iff (s : Int) : okS s = true ↔ s / 65536 < 65521 ∧ s % 65536 < 65521 := by unfold okS; simp

/-! The checksum of a string. -/
theorem ofV_eq (zs : List Int) : ofV zs = word ((1 + sumA zs) % 65521, ((zs.length : Int) + sumW zs) % 65521) := by
  unfold ofV ext
  have e : run (1 % 65536) (1 / 65536) zs = run 1 0 zs := rfl
  rw [e, run_closed zs 1 0 (by decide) (by decide) (by decide) (by decide)]
  congr 2
  omega
theorem ofV_ok (zs : List Int) : okS (ofV zs) = true := by
  rw [ofV_eq]; exact word_ok (by omega) (by omega) (by omega) (by omega)
theorem ofV_range (zs : List Int) : 0 ≤ ofV zs ∧ ofV zs < 4294967296 := by
  rw [ofV_eq]; exact word_range (by omega) (by omega) (by omega) (by omega)
theorem ofV_lo (zs : List Int) : ofV zs % 65536 = (1 + sumA zs) % 65521 := by
  rw [ofV_eq]; exact word_lo (by omega) (by omega)
theorem ofV_hi (zs : List Int) : ofV zs / 65536 = ((zs.length : Int) + sumW zs) % 65521 := by
  rw [ofV_eq]; exact word_hi (by omega) (by omega)

/-! Two parts. -/
theorem sumA_app (xs ys : List Int) : sumA (xs ++ ys) = sumA xs + sumA ys := by
  induction xs with
  | nil => simp [sumA]
  | cons x xs ih => rw [List.cons_append, sumA, ih, sumA]; omega
theorem sumW_app (xs ys : List Int) : sumW (xs ++ ys) = sumW xs + ys.length * sumA xs + sumW ys := by
  induction xs with
  | nil => simp [sumA, sumW]
  | cons x xs ih =>
    rw [List.cons_append, sumW, ih, sumW, sumA, List.length_append]
    have e1 : ((xs.length + ys.length : Nat) : Int) = (xs.length : Int) + ys.length := by omega
    rw [e1]
    generalize (xs.length : Int) = m
    generalize (ys.length : Int) = n
    generalize sumA xs = a
    generalize sumW xs = w
    rw [Int.add_mul, Int.add_mul, Int.add_mul, Int.mul_add]
    omega
theorem on_of (xs ys : List Int) : onV (ofV xs) ys = ofV (xs ++ ys) := by
  unfold onV
  rw [if_pos (ofV_ok xs)]
  unfold ext
  rw [ofV_lo, ofV_hi, run_closed ys _ _ (by omega) (by omega) (by omega) (by omega), ofV_eq (xs ++ ys), sumA_app, sumW_app, List.length_append]
  obtain ⟨q, hq⟩ := rem (1 + sumA xs)
  obtain ⟨r, hr⟩ := rem ((xs.length : Int) + sumW xs)
  rw [hq, hr]
  have e1 : ((xs.length + ys.length : Nat) : Int) = (xs.length : Int) + ys.length := by omega
  rw [e1]
  generalize (xs.length : Int) = m
  generalize (ys.length : Int) = n
  generalize sumA xs = a
  generalize sumW xs = w
  congr 1
  refine Prod.ext ?_ ?_
  · exact cong (-q) (by omega)
  · refine cong (-(r + n * q)) ?_
    rw [Int.mul_sub, Int.mul_add, Int.mul_one, Int.mul_neg, Int.mul_add]
    have e2 : n * (65521 * q) = 65521 * (n * q) := by rw [Int.mul_left_comm]
    rw [e2]
    omega
theorem join_of (xs ys : List Int) (n : Int) (hn : n = ys.length) : joinOk (ofV xs) (ofV ys) n = true ∧ joinV (ofV xs) (ofV ys) n = ofV (xs ++ ys) := by
  subst hn
  have ho : joinOk (ofV xs) (ofV ys) (ys.length : Int) = true := by unfold joinOk; rw [ofV_ok, ofV_ok]; simp
  refine ⟨ho, ?_⟩
  unfold joinV
  rw [if_pos ho, ofV_lo, ofV_lo, ofV_hi, ofV_hi, ofV_eq (xs ++ ys), sumA_app, sumW_app, List.length_append]
  obtain ⟨q, hq⟩ := rem (1 + sumA xs)
  obtain ⟨r, hr⟩ := rem ((xs.length : Int) + sumW xs)
  obtain ⟨q', hq'⟩ := rem (1 + sumA ys)
  obtain ⟨r', hr'⟩ := rem ((ys.length : Int) + sumW ys)
  obtain ⟨k, hk⟩ := rem (ys.length : Int)
  rw [hq, hr, hq', hr', hk]
  have e1 : ((xs.length + ys.length : Nat) : Int) = (xs.length : Int) + ys.length := by omega
  rw [e1]
  generalize (xs.length : Int) = m
  generalize (ys.length : Int) = n
  generalize sumA xs = a
  generalize sumW xs = w
  generalize sumA ys = a'
  generalize sumW ys = w'
  congr 1
  refine Prod.ext ?_ ?_
  · exact cong (-(q + q')) (by omega)
  · refine cong (-(r + r' + n * q + k * a - 65521 * (k * q))) ?_
    have e3 : 1 + a - 65521 * q - 1 = a - 65521 * q := by omega
    show m + w - 65521 * r + (n + w' - 65521 * r') + (n - 65521 * k) * (1 + a - 65521 * q - 1) = m + n + (w + n * a + w') + 65521 * -(r + r' + n * q + k * a - 65521 * (k * q))
    rw [e3, Int.sub_mul, Int.mul_sub, Int.mul_sub, Int.mul_assoc, Int.mul_assoc]
    have e2 : n * (65521 * q) = 65521 * (n * q) := by rw [Int.mul_left_comm]
    have e4 : k * (65521 * q) = 65521 * (k * q) := by rw [Int.mul_left_comm]
    rw [e2, e4]
    generalize n * q = nq
    generalize k * q = kq
    generalize k * a = ka
    generalize n * a = na
    omega

/-! One byte changed. -/
theorem sumA_set (zs : List Int) : ∀ (i : Nat) (v : Int), i < zs.length → sumA (zs.set i v) = sumA zs + (v - zs.getD i 0) := by
  induction zs with
  | nil => intro i v h; simp at h
  | cons x xs ih =>
    intro i v h
    cases i with
    | zero => simp [sumA]; omega
    | succ i =>
      have := ih i v (by simpa using h)
      simp only [List.set_cons_succ, sumA, List.getD_cons_succ]
      omega
theorem sumW_set (zs : List Int) : ∀ (i : Nat) (v : Int), i < zs.length → sumW (zs.set i v) = sumW zs + ((zs.length : Int) - i) * (v - zs.getD i 0) := by
  induction zs with
  | nil => intro i v h; simp at h
  | cons x xs ih =>
    intro i v h
    cases i with
    | zero =>
      simp only [List.set_cons_zero, sumW, List.getD_cons_zero, List.length_cons]
      have e1 : ((xs.length + 1 : Nat) : Int) - ((0 : Nat) : Int) = (xs.length : Int) + 1 := by omega
      rw [e1]
      generalize (xs.length : Int) + 1 = n
      rw [Int.mul_sub]; omega
    | succ i =>
      have := ih i v (by simpa using h)
      simp only [List.set_cons_succ, sumW, List.getD_cons_succ, List.length_set, List.length_cons]
      have e1 : ((xs.length + 1 : Nat) : Int) - ((i + 1 : Nat) : Int) = (xs.length : Int) - i := by omega
      rw [e1]
      omega
theorem turn_of (zs : List Int) (i : Nat) (v n : Int) (hi : i < zs.length) (hn : n = zs.length) :
    turnOk (ofV zs) n i = true ∧ turnV (ofV zs) n i (zs.getD i 0) v = ofV (zs.set i v) := by
  subst hn
  have ho : turnOk (ofV zs) (zs.length : Int) (i : Int) = true := by
    unfold turnOk; rw [ofV_ok]; simp; omega
  refine ⟨ho, ?_⟩
  unfold turnV
  rw [if_pos ho, ofV_lo, ofV_hi, ofV_eq (zs.set i v), sumA_set zs i v hi, sumW_set zs i v hi, List.length_set]
  obtain ⟨q, hq⟩ := rem (1 + sumA zs)
  obtain ⟨r, hr⟩ := rem ((zs.length : Int) + sumW zs)
  obtain ⟨k, hk⟩ := rem ((zs.length : Int) - i)
  rw [hq, hr, hk]
  generalize (zs.length : Int) - i = d
  generalize (zs.length : Int) = m
  generalize sumA zs = a
  generalize sumW zs = w
  generalize v - zs.getD i 0 = x
  congr 1
  refine Prod.ext ?_ ?_
  · exact cong (-q) (by omega)
  · refine cong (-(r + k * x)) ?_
    show m + w - 65521 * r + (d - 65521 * k) * x = m + (w + d * x) + 65521 * -(r + k * x)
    rw [Int.sub_mul, Int.mul_assoc]
    generalize d * x = dx
    generalize k * x = kx
    omega

/-- The checksum with one byte changed is the old one exactly if the byte is. -/
theorem set_same (zs : List Int) (i : Nat) (v : Int) (hi : i < zs.length) (h0 : 0 ≤ v) (h1 : v ≤ 255) (h2 : 0 ≤ zs.getD i 0) (h3 : zs.getD i 0 ≤ 255) :
    ofV (zs.set i v) = ofV zs ↔ zs.getD i 0 = v := by
  constructor
  · intro h
    rw [ofV_eq, ofV_eq] at h
    have := (word_inj (by omega) (by omega) (by omega) (by omega) h).1
    rw [sumA_set zs i v hi] at this
    omega
  · intro h
    have e : zs.set i v = zs := by
      rw [← h, List.getD_eq_getElem?_getD, List.getElem?_eq_getElem hi]
      exact List.set_getElem_self hi
    rw [e]

/-! Two bytes that change places. -/
theorem gcd_small : ∀ e : Fin 256, e.val ≠ 0 → Nat.gcd 65521 e.val = 1 := by decide +kernel
theorem prod_zero (d e : Nat) (hd : d < 65521) (he : e < 256) (h : 65521 ∣ d * e) : d = 0 ∨ e = 0 := by
  by_cases h0 : e = 0
  · exact .inr h0
  · left
    have hg : Nat.Coprime 65521 e := gcd_small ⟨e, he⟩ h0
    have h1 : 65521 ∣ d := hg.dvd_of_dvd_mul_right h
    rcases Nat.eq_zero_or_pos d with h2 | h2
    · exact h2
    · have := Nat.le_of_dvd h2 h1; omega
theorem swap_same (zs : List Int) (i k : Nat) (hik : i < k) (hk : k < zs.length) (hl : zs.length ≤ 3000)
    (h0 : 0 ≤ zs.getD i 0) (h1 : zs.getD i 0 ≤ 255) (h2 : 0 ≤ zs.getD k 0) (h3 : zs.getD k 0 ≤ 255) :
    ofV ((zs.set i (zs.getD k 0)).set k (zs.getD i 0)) = ofV zs ↔ zs.getD i 0 = zs.getD k 0 := by
  have hg : (zs.set i (zs.getD k 0)).getD k 0 = zs.getD k 0 := by
    rw [List.getD_eq_getElem?_getD, List.getElem?_set_ne (by omega), ← List.getD_eq_getElem?_getD]
  have hW : sumW ((zs.set i (zs.getD k 0)).set k (zs.getD i 0)) = sumW zs + ((k : Int) - i) * (zs.getD k 0 - zs.getD i 0) := by
    rw [sumW_set _ k _ (by simpa using hk), sumW_set zs i _ (by omega), hg, List.length_set]
    generalize zs.getD k 0 = y
    generalize zs.getD i 0 = x
    generalize (zs.length : Int) = n
    have e1 : x - y = -(y - x) := by omega
    rw [e1]
    generalize y - x = d
    rw [Int.mul_neg, Int.sub_mul, Int.sub_mul, Int.sub_mul]
    omega
  constructor
  · intro h
    rw [ofV_eq, ofV_eq] at h
    have h5 := (word_inj (by omega) (by omega) (by omega) (by omega) h).2
    rw [hW, List.length_set, List.length_set] at h5
    generalize zs.getD k 0 = y at *
    generalize zs.getD i 0 = x at *
    have h6 : (65521 : Int) ∣ ((k : Int) - i) * (y - x) := by
      generalize ((k : Int) - i) * (y - x) = m at *
      omega
    have h7 : 65521 ∣ (((k : Int) - i) * (y - x)).natAbs := by
      have := Int.natAbs_dvd_natAbs.2 h6
      exact this
    rw [Int.natAbs_mul] at h7
    rcases prod_zero _ _ (by omega) (by omega) h7 with h8 | h8
    · omega
    · omega
  · intro h
    have e : (zs.set i (zs.getD k 0)).set k (zs.getD i 0) = zs := by
      rw [← h]
      have e1 : zs.set i (zs.getD i 0) = zs := by
        rw [List.getD_eq_getElem?_getD, List.getElem?_eq_getElem (by omega)]
        exact List.set_getElem_self (by omega)
      rw [e1, h, List.getD_eq_getElem?_getD, List.getElem?_eq_getElem hk]
      exact List.set_getElem_self hk
    rw [e]
theorem swap_back (zs : List Int) (i : Nat) (v : Int) (hi : i < zs.length) : (zs.set i v).set i (zs.getD i 0) = zs := by
  rw [List.set_set, List.getD_eq_getElem?_getD, List.getElem?_eq_getElem hi]
  exact List.set_getElem_self hi
end Go.Proofs.YtdbhicifjljjnaaGreatDoor.Su
