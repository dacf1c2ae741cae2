/-
  Part 6 of the texts behind the law: SegPlain.
-/
import Derived.Test.YtdbhicifjljjnaaGreatDoorMf2
import Derived.Test.YtdbhicifjljjnaaGreatDoorMf3
import Derived.Lib.Repeat
import Derived.Lib.Strings
/-
  Plain facts on chapter 6: twelve hexadecimal digits, a segment's name, which texts are names and of which offsets; the records whose offsets go on. No program is named here.
-/
namespace Go.Proofs.YtdbhicifjljjnaaGreatDoor.Sg

/-! ### Digits -/
def hexC (d : Nat) : UInt8 := UInt8.ofNat (if d < 10 then 48 + d else 87 + d)
def digV (c : UInt8) : Nat := if c.toNat < 97 then c.toNat - 48 else c.toNat - 87
def isHex (c : UInt8) : Prop := (48 ≤ c.toNat ∧ c.toNat ≤ 57) ∨ (97 ≤ c.toNat ∧ c.toNat ≤ 102)
theorem digV_hexC (d : Nat) (h : d < 16) : digV (hexC d) = d := by
  have : ∀ d : Fin 16, digV (hexC d.1) = d.1 := by decide
  exact this ⟨d, h⟩
theorem hexC_is (d : Nat) (h : d < 16) : isHex (hexC d) := by
  have : ∀ d : Fin 16, (48 ≤ (hexC d.1).toNat ∧ (hexC d.1).toNat ≤ 57) ∨ (97 ≤ (hexC d.1).toNat ∧ (hexC d.1).toNat ≤ 102) := by decide
  exact this ⟨d, h⟩
theorem hexC_lt (a b : Nat) (ha : a < 16) (hb : b < 16) (h : a < b) : hexC a < hexC b := by
  have : ∀ a b : Fin 16, a.1 < b.1 → hexC a.1 < hexC b.1 := by decide
  exact this ⟨a, ha⟩ ⟨b, hb⟩ h
theorem digV_lt (c : UInt8) (h : isHex c) : digV c < 16 := by
  unfold digV; rcases h with h | h <;> split <;> omega
/-- The last n hexadecimal digits of a number. -/
def pad : Nat → Nat → List UInt8
  | 0, _ => []
  | n + 1, f => pad n (f / 16) ++ [hexC (f % 16)]
theorem pad_len (n f : Nat) : (pad n f).length = n := by
  induction n generalizing f with
  | zero => rfl
  | succ n ih => rw [pad, List.length_append, ih]; rfl
theorem pad_hex (n f : Nat) : ∀ c ∈ pad n f, isHex c := by
  induction n generalizing f with
  | zero => intro c hc; simp [pad] at hc
  | succ n ih =>
    intro c hc
    rw [pad] at hc
    rcases List.mem_append.1 hc with h | h
    · exact ih _ c h
    · rw [List.mem_singleton] at h
      rw [h]; exact hexC_is _ (Nat.mod_lt _ (by decide))
/-- The value of digits. -/
def valH (a : Nat) (l : List UInt8) : Nat := l.foldl (fun a c => a * 16 + digV c) a
theorem valH_snoc (a : Nat) (l : List UInt8) (c : UInt8) : valH a (l ++ [c]) = valH a l * 16 + digV c := by
  unfold valH; rw [List.foldl_append]; rfl
theorem valH_lt (l : List UInt8) (h : ∀ c ∈ l, isHex c) : valH 0 l < 16 ^ l.length := by
  have key : ∀ (n : Nat) (l : List UInt8), l.length = n → (∀ c ∈ l, isHex c) → valH 0 l < 16 ^ n := by
    intro n
    induction n with
    | zero => intro l hl _; rw [List.eq_nil_of_length_eq_zero hl]; decide
    | succ n ih =>
      intro l hl hh
      have hne : l ≠ [] := fun e => by rw [e] at hl; cases hl
      rw [← List.dropLast_concat_getLast hne] at hh ⊢
      rw [valH_snoc, Nat.pow_succ]
      have h1 := ih l.dropLast (by rw [List.length_dropLast]; omega) (fun c hc => hh c (List.mem_append_left _ hc))
      have h2 := digV_lt _ (hh (l.getLast hne) (List.mem_append_right _ (List.mem_singleton_self _)))
      omega
  exact key _ l rfl h
theorem val_pad (n f : Nat) (h : f < 16 ^ n) : valH 0 (pad n f) = f := by
  induction n generalizing f with
  | zero => rw [Nat.pow_zero] at h; simp [pad, valH]; omega
  | succ n ih =>
    rw [Nat.pow_succ] at h
    rw [pad, valH_snoc, ih _ (by omega), digV_hexC _ (Nat.mod_lt _ (by decide))]
    omega
theorem pad_more (k n f : Nat) (h : f < 16 ^ n) : pad (k + n) f = List.replicate k 48 ++ pad n f := by
  induction n generalizing f with
  | zero =>
    have h0 : f = 0 := by rw [Nat.pow_zero] at h; omega
    subst h0
    simp only [pad, Nat.add_zero, List.append_nil]
    induction k with
    | zero => rfl
    | succ k ih => rw [pad, Nat.zero_div, ih, List.replicate_succ']; rfl
  | succ n ih =>
    rw [Nat.pow_succ] at h
    show pad (k + n) (f / 16) ++ [hexC (f % 16)] = _
    rw [ih _ (by omega), pad, List.append_assoc]
theorem pad_lt (n a b : Nat) (ha : a < 16 ^ n) (hb : b < 16 ^ n) : a < b ↔ Op.bytesLess (pad n a) (pad n b) = true := by
  have app : ∀ (x y : List UInt8) (u v : UInt8), x.length = y.length → (Op.bytesLess (x ++ [u]) (y ++ [v]) = true ↔ Op.bytesLess x y = true ∨ (x = y ∧ u < v)) := by
    intro x
    induction x with
    | nil =>
      intro y u v h
      have : y = [] := List.eq_nil_of_length_eq_zero h.symm
      subst this
      simp [Op.bytesLess]
    | cons p x ih =>
      intro y u v h
      cases y with
      | nil => simp at h
      | cons q y =>
        have := ih y u v (by simpa using h)
        simp only [List.cons_append, Op.bytesLess]
        by_cases hpq : p < q
        · simp [hpq]
        · by_cases hqp : q < p
          · have hne : p ≠ q := fun e => by subst e; exact hpq hqp
            simp [hpq, hne]
          · have he : p = q := UInt8.le_antisymm (UInt8.not_lt.1 hqp) (UInt8.not_lt.1 hpq)
            subst he
            simp [hpq, this]
  induction n generalizing a b with
  | zero => rw [Nat.pow_zero] at ha hb; simp [pad, Op.bytesLess]; omega
  | succ n ih =>
    rw [Nat.pow_succ] at ha hb
    have hi := ih (a / 16) (b / 16) (by omega) (by omega)
    rw [pad, pad, app _ _ _ _ (by rw [pad_len, pad_len])]
    constructor
    · intro h
      by_cases hd : a / 16 < b / 16
      · exact .inl (hi.1 hd)
      · have hd2 : a / 16 = b / 16 := by omega
        exact .inr ⟨by rw [hd2], hexC_lt _ _ (Nat.mod_lt _ (by decide)) (Nat.mod_lt _ (by decide)) (by omega)⟩
    · rintro (h | ⟨h, h2⟩)
      · have := hi.2 h
        omega
      · have h3 : a / 16 = b / 16 := by
          have e := congrArg (valH 0) h
          rw [val_pad n _ (by omega), val_pad n _ (by omega)] at e
          exact e
        have h4 : ¬ b % 16 ≤ a % 16 := fun h5 => by
          rcases Nat.eq_or_lt_of_le h5 with h6 | h6
          · rw [h6] at h2; exact UInt8.lt_irrefl _ h2
          · exact UInt8.lt_irrefl _ (UInt8.lt_trans h2 (hexC_lt _ _ (Nat.mod_lt _ (by decide)) (Nat.mod_lt _ (by decide)) h6))
        omega

/-! ### Names -/
def inO (f : Int) : Bool := decide (0 ≤ f) && decide (f ≤ 17592186044415)
theorem inO_iff (f : Int) : inO f = true ↔ 0 ≤ f ∧ f ≤ 17592186044415 := by unfold inO; simp
def nameL (f : Nat) : List UInt8 := 119 :: 45 :: pad 12 f
def nameB (f : Int) : ByteArray := ⟨(nameL f.toNat).toArray⟩
theorem nameL_len (f : Nat) : (nameL f).length = 14 := by unfold nameL; simp [pad_len]
theorem nameB_size (f : Int) : (nameB f).size = 14 := by
  show (nameL f.toNat).toArray.size = 14
  rw [List.size_toArray, nameL_len]
theorem nameB_data (f : Int) : (nameB f).data.toList = nameL f.toNat := rfl
/-- The offset whose name a text is. -/
def segP (s : ByteArray) : Option Int :=
  if (valH 0 (s.data.toList.drop 2) : Int) ≤ 17592186044415 ∧ nameB (valH 0 (s.data.toList.drop 2)) = s then some (valH 0 (s.data.toList.drop 2)) else none
theorem val_name (f : Int) (h : inO f = true) : (valH 0 ((nameB f).data.toList.drop 2) : Int) = f := by
  obtain ⟨h0, h1⟩ := (inO_iff f).1 h
  rw [nameB_data]
  show (valH 0 (pad 12 f.toNat) : Int) = f
  rw [val_pad 12 _ (by have : (16 : Nat) ^ 12 = 281474976710656 := by decide
                       omega)]
  omega
theorem segP_name (f : Int) (h : inO f = true) : segP (nameB f) = some f := by
  have e := val_name f h
  have h1 := ((inO_iff f).1 h).2
  unfold segP
  rw [e, if_pos ⟨h1, rfl⟩]
theorem segP_some {s : ByteArray} {f : Int} (h : segP s = some f) : inO f = true ∧ nameB f = s := by
  unfold segP at h
  split at h
  · next hh =>
    injection h with h
    subst h
    exact ⟨(inO_iff _).2 ⟨by omega, hh.1⟩, hh.2⟩
  · cases h
theorem nameB_inj {f g : Int} (hf : inO f = true) (hg : inO g = true) (h : nameB f = nameB g) : f = g := by
  have e := segP_name f hf
  rw [h, segP_name g hg] at e
  injection e with e
  exact e.symm
theorem name_lt {f g : Int} (hf : inO f = true) (hg : inO g = true) : Op.bytesLess (nameB f).toList (nameB g).toList = decide (f < g) := by
  obtain ⟨f0, f1⟩ := (inO_iff f).1 hf
  obtain ⟨g0, g1⟩ := (inO_iff g).1 hg
  have p : (16 : Nat) ^ 12 = 281474976710656 := by decide
  have e1 : (nameB f).toList = nameL f.toNat := by rw [Lib.toList_data, nameB_data]
  have e2 : (nameB g).toList = nameL g.toNat := by rw [Lib.toList_data, nameB_data]
  rw [e1, e2]
  have h := pad_lt 12 f.toNat g.toNat (by omega) (by omega)
  have e : Op.bytesLess (nameL f.toNat) (nameL g.toNat) = Op.bytesLess (pad 12 f.toNat) (pad 12 g.toNat) := by
    simp [nameL, Op.bytesLess]
  rw [e]
  by_cases hl : f < g
  · rw [h.1 (by omega)]; simp [hl]
  · have hn : ¬ Op.bytesLess (pad 12 f.toNat) (pad 12 g.toNat) = true := fun hh => by have := h.2 hh; omega
    simp [hl]; simpa using hn

/-! ### Records whose offsets go on -/
open Fr (errG atG payG sizeG Byte Rc putV)
/-- Does the first record of b go on at an offset, with an epoch of at least this? -/
def okS (b : List Int) (first ep : Int) : Prop := errG b = 0 ∧ Pl.offV (atG b) = first ∧ ep ≤ Pl.epochV (atG b)
instance (b : List Int) (first ep : Int) : Decidable (okS b first ep) := by unfold okS; exact inferInstance
def scF : Nat → List Int → Int → Int → List Rc × Nat
  | 0, _, _, _ => ([], 0)
  | f + 1, b, first, ep => if okS b first ep then
      ((atG b, payG b) :: (scF f (b.drop (sizeG b)) (first + 1) (Pl.epochV (atG b))).1, sizeG b + (scF f (b.drop (sizeG b)) (first + 1) (Pl.epochV (atG b))).2)
    else ([], 0)
def scV (b : List Int) (first ep : Int) : List Rc × Nat := scF b.length b first ep
theorem scF_succ (f : Nat) (b : List Int) (first ep : Int) : scF (f + 1) b first ep = if okS b first ep then
      ((atG b, payG b) :: (scF f (b.drop (sizeG b)) (first + 1) (Pl.epochV (atG b))).1, sizeG b + (scF f (b.drop (sizeG b)) (first + 1) (Pl.epochV (atG b))).2)
    else ([], 0) := rfl
theorem okS_len {b : List Int} {first ep : Int} (h : okS b first ep) : 4 ≤ b.length := by
  have h1 := h.1
  unfold errG at h1
  split at h1
  · cases h1
  · omega
theorem scF_more : ∀ (n : Nat) (c : List Int) (first ep : Int), c.length ≤ n → scF (n + 1) c first ep = scF n c first ep := by
  intro n
  induction n with
  | zero => intro c first ep hc; rw [scF_succ, if_neg (fun h => by have := okS_len h; omega)]; rfl
  | succ n ih =>
    intro c first ep hc
    have hp := Fr.sizeG_pos c
    rw [scF_succ (n + 1) c, scF_succ n c]
    by_cases h0 : okS c first ep
    · rw [if_pos h0, if_pos h0, ih (c.drop (sizeG c)) _ _ (by rw [List.length_drop]; omega)]
    · rw [if_neg h0, if_neg h0]
theorem scF_fuel (f : Nat) (b : List Int) (first ep : Int) (h : b.length ≤ f) : scF f b first ep = scV b first ep := by
  obtain ⟨d, rfl⟩ := Nat.exists_eq_add_of_le h
  clear h
  unfold scV
  induction d with
  | zero => rfl
  | succ d ih => rw [← ih, ← Nat.add_assoc, scF_more _ b _ _ (by omega)]
theorem scV_bad {b : List Int} {first ep : Int} (h : ¬ okS b first ep) : scV b first ep = ([], 0) := by
  unfold scV
  cases hb : b.length with
  | zero => rfl
  | succ m => rw [scF_succ, if_neg h]
theorem scV_step {b : List Int} {first ep : Int} (h : okS b first ep) :
    scV b first ep = ((atG b, payG b) :: (scV (b.drop (sizeG b)) (first + 1) (Pl.epochV (atG b))).1, sizeG b + (scV (b.drop (sizeG b)) (first + 1) (Pl.epochV (atG b))).2) := by
  have hp := Fr.sizeG_pos b
  have hl := okS_len h
  have e : scV b first ep = scF b.length b first ep := rfl
  rw [e]
  cases hb : b.length with
  | zero => omega
  | succ m => rw [scF_succ, if_pos h, scF_fuel m _ _ _ (by rw [List.length_drop]; omega)]
/-- Where the loop stands in front of byte n with the records l, when the next offset is f and the least epoch e. -/
def ScanAt (zs : List Int) (first ep : Int) (n : Nat) (l : List Rc) (f e : Int) : Prop :=
  n ≤ zs.length ∧ 16 * l.length ≤ n ∧ (scV zs first ep).1 = l ++ (scV (zs.drop n) f e).1 ∧ (scV zs first ep).2 = n + (scV (zs.drop n) f e).2
theorem ScanAt.start (zs : List Int) (first ep : Int) : ScanAt zs first ep 0 [] first ep := ⟨Nat.zero_le _, by simp, by simp, by simp⟩
theorem ScanAt.next {zs : List Int} {first ep : Int} {n : Nat} {l : List Rc} {f e : Int} (h : ScanAt zs first ep n l f e) (hb : Byte zs) (ho : okS (zs.drop n) f e) :
    ScanAt zs first ep (n + sizeG (zs.drop n)) (l ++ [(atG (zs.drop n), payG (zs.drop n))]) (f + 1) (Pl.epochV (atG (zs.drop n))) := by
  obtain ⟨h1, h2, h3, h4⟩ := h
  have hk := Fr.errG_ok (hb.drop n) ho.1
  rw [List.length_drop] at hk
  rw [scV_step ho, List.drop_drop] at h3 h4
  refine ⟨by omega, by rw [List.length_append]; simp only [List.length_singleton]; unfold sizeG; omega, ?_, ?_⟩
  · rw [h3, List.append_assoc]; rfl
  · rw [h4]; simp only [Nat.add_assoc]
theorem ScanAt.stop {zs : List Int} {first ep : Int} {n : Nat} {l : List Rc} {f e : Int} (h : ScanAt zs first ep n l f e) (ho : ¬ okS (zs.drop n) f e) : (scV zs first ep).1 = l ∧ (scV zs first ep).2 = n := by
  obtain ⟨h1, h2, h3, h4⟩ := h
  rw [scV_bad ho] at h3 h4
  exact ⟨by simpa using h3, by simpa using h4⟩
/-- What is told of the records scanned. -/
theorem scV_tells (m : Nat) : ∀ (zs : List Int) (first ep : Int), zs.length ≤ m → Byte zs →
    16 * (scV zs first ep).1.length ≤ (scV zs first ep).2 ∧ (scV zs first ep).2 ≤ zs.length ∧
    (∀ i, i < (scV zs first ep).1.length → Pl.offV ((scV zs first ep).1.getD i (0, [])).1 = first + i ∧ ep ≤ Pl.epochV ((scV zs first ep).1.getD i (0, [])).1 ∧ 0 ≤ ((scV zs first ep).1.getD i (0, [])).1 ∧ ((scV zs first ep).1.getD i (0, [])).1 < 18446744073709551616) ∧
    (∀ i, i + 1 < (scV zs first ep).1.length → Pl.epochV ((scV zs first ep).1.getD i (0, [])).1 ≤ Pl.epochV ((scV zs first ep).1.getD (i + 1) (0, [])).1) := by
  induction m with
  | zero =>
    intro zs first ep h _
    rw [scV_bad (fun h => by have := okS_len h; omega)]
    exact ⟨by simp, by simp, fun i hi => by simp at hi, fun i hi => by simp at hi⟩
  | succ m ih =>
    intro zs first ep h hb
    by_cases ho : okS zs first ep
    · have hk := Fr.errG_ok hb ho.1
      obtain ⟨i1, i2, i3, i4⟩ := ih (zs.drop (sizeG zs)) (first + 1) (Pl.epochV (atG zs)) (by rw [List.length_drop]; have := Fr.sizeG_pos zs; omega) (hb.drop _)
      rw [List.length_drop] at i2
      rw [scV_step ho]
      generalize scV (zs.drop (sizeG zs)) (first + 1) (Pl.epochV (atG zs)) = q at *
      have a0 : 0 ≤ atG zs := Fr.valB_nonneg ((hb.drop 4).take 8)
      have a1 : atG zs < 18446744073709551616 := by
        have := Fr.valB_lt ((hb.drop 4).take 8)
        rw [List.length_take, List.length_drop, Nat.min_eq_left (by omega)] at this
        exact this
      refine ⟨?_, ?_, fun i hi => ?_, fun i hi => ?_⟩
      · simp only [List.length_cons]; have : 16 ≤ sizeG zs := by unfold sizeG; omega
        omega
      · simp only []; omega
      · simp only [] at hi ⊢
        cases i with
        | zero => simp only [List.getD_cons_zero]; exact ⟨by rw [ho.2.1]; simp, ho.2.2, a0, a1⟩
        | succ i =>
          rw [List.length_cons] at hi
          obtain ⟨j1, j2, j3, j4⟩ := i3 i (by omega)
          rw [List.getD_cons_succ]
          exact ⟨by rw [j1]; push_cast; omega, Int.le_trans ho.2.2 j2, j3, j4⟩
      · simp only [] at hi ⊢
        rw [List.length_cons] at hi
        cases i with
        | zero => rw [List.getD_cons_zero, List.getD_cons_succ]; exact (i3 0 (by omega)).2.1
        | succ i => rw [List.getD_cons_succ, List.getD_cons_succ]; exact i4 i (by omega)
    · rw [scV_bad ho]
      exact ⟨by simp, by simp, fun i hi => by simp at hi, fun i hi => by simp at hi⟩
/-- One encoded record ahead of the rest. -/
theorem scV_put (a : Int) (p rest : List Int) (first ep : Int) (a0 : 0 ≤ a) (a1 : a < 18446744073709551616) (hp : p.length ≤ 1024) :
    scV (putV a p ++ rest) first ep = if Pl.offV a = first ∧ ep ≤ Pl.epochV a then ((a, p) :: (scV rest (first + 1) (Pl.epochV a)).1, 16 + p.length + (scV rest (first + 1) (Pl.epochV a)).2) else ([], 0) := by
  obtain ⟨g1, g2, g3, g4, g5⟩ := Fr.get_put a p rest a0 a1 hp
  by_cases h : Pl.offV a = first ∧ ep ≤ Pl.epochV a
  · have ho : okS (putV a p ++ rest) first ep := ⟨g1, by rw [g3]; exact h.1, by rw [g3]; exact h.2⟩
    have hd : (putV a p ++ rest).drop (16 + p.length) = rest := by
      rw [List.drop_append, List.drop_of_length_le (by rw [Fr.putV_len]; omega), Fr.putV_len]; simp
    rw [scV_step ho, g3, g4, g5, hd, if_pos h]
  · rw [scV_bad (fun ho => h ⟨by rw [← g3]; exact ho.2.1, by rw [← g3]; exact ho.2.2⟩), if_neg h]
end Go.Proofs.YtdbhicifjljjnaaGreatDoor.Sg
