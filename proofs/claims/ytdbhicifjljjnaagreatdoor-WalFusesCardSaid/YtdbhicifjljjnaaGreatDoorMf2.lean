/-
  Part 2 of the texts behind the law: FrPlain.
-/
import Derived.Test.YtdbhicifjljjnaaGreatDoorMf1
import Derived.RowKit
import Derived.Laws.BytesArg
import Derived.Laws.Bits64b
/-
  Plain facts on chapter 4: numbers as bytes, the lowest first; a record's encoding, what is read from the front of bytes, and that the one reverses the other; rows of records. No program is named here.
-/
namespace Go.Proofs.YtdbhicifjljjnaaGreatDoor.Fr

def Byte (zs : List Int) : Prop := ∀ z ∈ zs, 0 ≤ z ∧ z ≤ 255
theorem Byte.drop {zs : List Int} (h : Byte zs) (n : Nat) : Byte (zs.drop n) := fun z hz => h z (List.mem_of_mem_drop hz)
theorem Byte.take {zs : List Int} (h : Byte zs) (n : Nat) : Byte (zs.take n) := fun z hz => h z (List.mem_of_mem_take hz)
theorem Byte.app {xs ys : List Int} (h : Byte xs) (k : Byte ys) : Byte (xs ++ ys) := fun z hz => by
  rcases List.mem_append.1 hz with e | e
  · exact h z e
  · exact k z e
theorem Byte.getD {zs : List Int} (h : Byte zs) (i : Nat) : 0 ≤ zs.getD i 0 ∧ zs.getD i 0 ≤ 255 := by
  rw [List.getD_eq_getElem?_getD]
  by_cases hi : i < zs.length
  · rw [List.getElem?_eq_getElem hi]; exact h _ (List.getElem_mem hi)
  · rw [List.getElem?_eq_none (by omega)]; decide
theorem Byte.nil : Byte [] := fun z hz => by simp at hz

/-! ### A number's bytes -/
def lowB (v : Int) : Nat → List Int
  | 0 => []
  | n + 1 => v % 256 :: lowB (v / 256) n
def valB : List Int → Int
  | [] => 0
  | z :: r => z + 256 * valB r
theorem lowB_len (v : Int) (n : Nat) : (lowB v n).length = n := by
  induction n generalizing v with
  | zero => rfl
  | succ n ih => rw [lowB, List.length_cons, ih]
theorem lowB_byte (v : Int) (n : Nat) : Byte (lowB v n) := by
  induction n generalizing v with
  | zero => exact Byte.nil
  | succ n ih =>
    intro z hz
    rcases List.mem_cons.1 hz with e | e
    · omega
    · exact ih _ z e
theorem val_low4 (v : Int) (h0 : 0 ≤ v) (h1 : v < 4294967296) : valB (lowB v 4) = v := by simp only [lowB, valB]; omega
theorem val_low8 (v : Int) (h0 : 0 ≤ v) (h1 : v < 18446744073709551616) : valB (lowB v 8) = v := by simp only [lowB, valB]; omega
theorem valB_nonneg {zs : List Int} (h : Byte zs) : 0 ≤ valB zs := by
  induction zs with
  | nil => decide
  | cons z r ih =>
    have h1 := h z (List.mem_cons_self ..)
    have h2 := ih fun x hx => h x (List.mem_cons_of_mem _ hx)
    rw [valB]; omega
theorem valB_lt {zs : List Int} (h : Byte zs) : valB zs < 256 ^ zs.length := by
  induction zs with
  | nil => decide
  | cons z r ih =>
    have h1 := h z (List.mem_cons_self ..)
    have h2 := ih fun x hx => h x (List.mem_cons_of_mem _ hx)
    rw [valB, List.length_cons, Int.pow_succ]; omega
theorem valB_snoc (xs : List Int) (z : Int) : valB (xs ++ [z]) = valB xs + z * 256 ^ xs.length := by
  induction xs with
  | nil => simp [valB]
  | cons x r ih =>
    rw [List.cons_append, valB, ih, valB, List.length_cons, Int.pow_succ]
    generalize (256 : Int) ^ r.length = p
    have e : z * (p * 256) = 256 * (z * p) := by rw [← Int.mul_assoc, Int.mul_comm (z * p)]
    rw [e]; omega
theorem valB_inj : ∀ {xs ys : List Int}, Byte xs → Byte ys → xs.length = ys.length → valB xs = valB ys → xs = ys
  | [], [], _, _, _, _ => rfl
  | [], _ :: _, _, _, h, _ => by simp at h
  | _ :: _, [], _, _, h, _ => by simp at h
  | x :: xs, y :: ys, hx, hy, hl, hv => by
    have h1 := hx x (List.mem_cons_self ..)
    have h2 := hy y (List.mem_cons_self ..)
    rw [valB, valB] at hv
    have e : x = y ∧ valB xs = valB ys := by omega
    rw [e.1, valB_inj (fun z hz => hx z (List.mem_cons_of_mem _ hz)) (fun z hz => hy z (List.mem_cons_of_mem _ hz)) (by simpa using hl) e.2]

/-! The bits of a byte laid above the value so far. -/
theorem pow_two_256 (k : Nat) : (2 : Int) ^ (8 * k) = 256 ^ k := by rw [Int.pow_mul]; rfl
theorem byte_bd (k : Nat) (acc c : Int) (hk : k ≤ 7) (h0 : 0 ≤ acc) (h1 : acc < 256 ^ k) (c0 : 0 ≤ c) (c1 : c ≤ 255) :
    0 ≤ c * 256 ^ k ∧ c * 256 ^ k < 18446744073709551616 ∧ acc + c * 256 ^ k < 18446744073709551616 := by
  have hk' : k = 0 ∨ k = 1 ∨ k = 2 ∨ k = 3 ∨ k = 4 ∨ k = 5 ∨ k = 6 ∨ k = 7 := by omega
  rcases hk' with rfl | rfl | rfl | rfl | rfl | rfl | rfl | rfl <;> simp at h1 ⊢ <;> omega
open Go.RowKit in
theorem or_byte (k : Nat) (acc c : Int) (hk : k ≤ 7) (h0 : 0 ≤ acc) (h1 : acc < 256 ^ k) (c0 : 0 ≤ c) (c1 : c ≤ 255) :
    bits .or .u64 acc (IntKind.u64.wrap (c * 2 ^ (8 * k))) = acc + c * 256 ^ k := by
  have hg := byte_bd k acc c hk h0 h1 c0 c1
  rw [pow_two_256]
  have e0 : IntKind.u64.wrap (c * 256 ^ k) = c * 256 ^ k := by rw [IntKind.wrap_u64]; omega
  rw [e0]
  obtain ⟨a, rfl⟩ := Int.eq_ofNat_of_zero_le h0
  obtain ⟨b, rfl⟩ := Int.eq_ofNat_of_zero_le c0
  have e : (b : Int) * 256 ^ k = ((2 ^ (8 * k) * b : Nat) : Int) := by
    rw [Int.natCast_mul, Int.natCast_pow, ← pow_two_256, Int.mul_comm]; rfl
  have ha : a < 2 ^ (8 * k) := by
    have h2 : (a : Int) < ((2 ^ (8 * k) : Nat) : Int) := by rw [Int.natCast_pow]; rw [← pow_two_256] at h1; exact h1
    omega
  rw [e] at hg ⊢
  rw [Go.bits_or_u64_nat a (2 ^ (8 * k) * b) (by omega) (by omega)]
  rw [Nat.or_comm, ← Nat.two_pow_add_eq_or_of_lt ha]
  omega

/-! ### A record -/
def headV (at_ : Int) (p : List Int) : List Int := lowB p.length 4 ++ lowB at_ 8
def ckV (front p : List Int) : Int := Su.ofV (front ++ p)
def putV (at_ : Int) (p : List Int) : List Int := lowB p.length 4 ++ (lowB at_ 8 ++ (lowB (ckV (headV at_ p) p) 4 ++ p))
theorem putV_len (at_ : Int) (p : List Int) : (putV at_ p).length = 16 + p.length := by
  unfold putV; simp only [List.length_append, lowB_len]; omega
theorem putV_byte (at_ : Int) {p : List Int} (h : Byte p) : Byte (putV at_ p) :=
  (lowB_byte _ _).app ((lowB_byte _ _).app ((lowB_byte _ _).app h))
theorem ckV_range (f p : List Int) : 0 ≤ ckV f p ∧ ckV f p < 4294967296 := Su.ofV_range _

def lenG (b : List Int) : Int := valB (b.take 4)
def atG (b : List Int) : Int := valB ((b.drop 4).take 8)
def payG (b : List Int) : List Int := (b.drop 16).take (lenG b).toNat
def sumG (b : List Int) : Int := valB ((b.drop 12).take 4)
def sizeG (b : List Int) : Nat := 16 + (lenG b).toNat
def errG (b : List Int) : Int :=
  if b.length < 4 then 3 else if 1024 < lenG b then 14 else if (b.length : Int) < 16 + lenG b then 3 else if ckV (b.take 12) (payG b) = sumG b then 0 else 2
theorem lenG_range {b : List Int} (h : Byte b) (h4 : 4 ≤ b.length) : 0 ≤ lenG b ∧ lenG b < 4294967296 := by
  refine ⟨valB_nonneg (h.take 4), ?_⟩
  have := valB_lt (h.take 4)
  rw [List.length_take, Nat.min_eq_left h4] at this
  exact this
def getA (b : List Int) : Int := if errG b = 0 then atG b else 0
def getP (b : List Int) : List Int := if errG b = 0 then payG b else []
def getN (b : List Int) : Nat := if errG b = 0 then sizeG b else 0
theorem getA_ok {b : List Int} (h : errG b = 0) : getA b = atG b := if_pos h
theorem getP_ok {b : List Int} (h : errG b = 0) : getP b = payG b := if_pos h
theorem getN_ok {b : List Int} (h : errG b = 0) : getN b = sizeG b := if_pos h
theorem getA_bad {b : List Int} (h : errG b ≠ 0) : getA b = 0 := if_neg h
theorem getP_bad {b : List Int} (h : errG b ≠ 0) : getP b = [] := if_neg h
theorem getN_bad {b : List Int} (h : errG b ≠ 0) : getN b = 0 := if_neg h
theorem errG_kind (b : List Int) : errG b = 0 ∨ errG b = 2 ∨ errG b = 3 ∨ errG b = 14 := by
  unfold errG; split; · simp
  split; · simp
  split; · simp
  split <;> simp
/-- What an answer without an error tells. -/
theorem errG_ok {b : List Int} (hb : Byte b) (h : errG b = 0) : 16 ≤ b.length ∧ 0 ≤ lenG b ∧ lenG b ≤ 1024 ∧ sizeG b ≤ b.length ∧ (payG b).length + 16 = sizeG b := by
  unfold errG at h
  split at h
  · cases h
  split at h
  · cases h
  split at h
  · cases h
  have h1 := lenG_range hb (by omega)
  refine ⟨by omega, h1.1, by omega, by unfold sizeG; omega, ?_⟩
  unfold payG sizeG
  rw [List.length_take, List.length_drop]; omega
theorem parts (L A C R : List Int) (hL : L.length = 4) (hA : A.length = 8) (hC : C.length = 4) :
    (L ++ (A ++ (C ++ R))).take 4 = L ∧ ((L ++ (A ++ (C ++ R))).drop 4).take 8 = A ∧ (L ++ (A ++ (C ++ R))).take 12 = L ++ A ∧ ((L ++ (A ++ (C ++ R))).drop 12).take 4 = C ∧ (L ++ (A ++ (C ++ R))).drop 16 = R := by
  have d4 : (L ++ (A ++ (C ++ R))).drop 4 = A ++ (C ++ R) := by rw [List.drop_append, List.drop_of_length_le (by omega), hL]; simp
  have d12 : (L ++ (A ++ (C ++ R))).drop 12 = C ++ R := by
    have e : (L ++ (A ++ (C ++ R))).drop 12 = (A ++ (C ++ R)).drop 8 := (List.drop_drop (i := 8) (j := 4) (l := L ++ (A ++ (C ++ R)))).symm.trans (by rw [d4])
    rw [e, List.drop_append, List.drop_of_length_le (by omega), hA]; simp
  have d16 : (L ++ (A ++ (C ++ R))).drop 16 = R := by
    have e : (L ++ (A ++ (C ++ R))).drop 16 = (C ++ R).drop 4 := (List.drop_drop (i := 4) (j := 12) (l := L ++ (A ++ (C ++ R)))).symm.trans (by rw [d12])
    rw [e, List.drop_append, List.drop_of_length_le (by omega), hC]; simp
  refine ⟨?_, ?_, ?_, ?_, d16⟩
  · rw [List.take_append, List.take_of_length_le (by omega), hL]; simp
  · rw [d4, List.take_append, List.take_of_length_le (by omega), hA]; simp
  · have e : L ++ (A ++ (C ++ R)) = (L ++ A) ++ (C ++ R) := by simp
    rw [e, List.take_append, List.take_of_length_le (by rw [List.length_append]; omega), List.length_append, hL, hA]; simp
  · rw [d12, List.take_append, List.take_of_length_le (by omega), hC]; simp
theorem errG_parts (L A C R : List Int) (n : Nat) (hL : L.length = 4) (hA : A.length = 8) (hC : C.length = 4) (hn : valB L = n) (h1 : n ≤ 1024) (h2 : n ≤ R.length) :
    errG (L ++ (A ++ (C ++ R))) = (if Su.ofV (L ++ A ++ R.take n) = valB C then 0 else 2) ∧ lenG (L ++ (A ++ (C ++ R))) = n ∧ atG (L ++ (A ++ (C ++ R))) = valB A ∧ payG (L ++ (A ++ (C ++ R))) = R.take n := by
  obtain ⟨e1, e2, e3, e4, e5⟩ := parts L A C R hL hA hC
  have el : lenG (L ++ (A ++ (C ++ R))) = n := by unfold lenG; rw [e1, hn]
  have ep : payG (L ++ (A ++ (C ++ R))) = R.take n := by unfold payG; rw [e5, el]; rfl
  refine ⟨?_, el, by unfold atG; rw [e2], ep⟩
  unfold errG
  rw [if_neg (by simp only [List.length_append]; omega), el, if_neg (by omega), if_neg (by simp only [List.length_append]; omega), e3, ep]
  unfold sumG ckV
  rw [e4]
theorem get_put (at_ : Int) (p rest : List Int) (a0 : 0 ≤ at_) (a1 : at_ < 18446744073709551616) (hp : p.length ≤ 1024) :
    errG (putV at_ p ++ rest) = 0 ∧ lenG (putV at_ p ++ rest) = p.length ∧ atG (putV at_ p ++ rest) = at_ ∧ payG (putV at_ p ++ rest) = p ∧ sizeG (putV at_ p ++ rest) = 16 + p.length := by
  have e : putV at_ p ++ rest = lowB p.length 4 ++ (lowB at_ 8 ++ (lowB (ckV (headV at_ p) p) 4 ++ (p ++ rest))) := by
    unfold putV; simp only [List.append_assoc]
  obtain ⟨h1, h2, h3, h4⟩ := errG_parts (lowB p.length 4) (lowB at_ 8) (lowB (ckV (headV at_ p) p) 4) (p ++ rest) p.length (lowB_len _ _) (lowB_len _ _) (lowB_len _ _) (val_low4 _ (by omega) (by omega)) hp (by rw [List.length_append]; omega)
  rw [← e] at h1 h2 h3 h4
  have et : (p ++ rest).take p.length = p := by rw [List.take_append, List.take_of_length_le (by omega)]; simp
  have hr := ckV_range (headV at_ p) p
  rw [et, val_low4 _ hr.1 hr.2] at h1
  refine ⟨?_, h2, ?_, by rw [h4, et], ?_⟩
  · rw [h1]; exact if_pos rfl
  · rw [h3, val_low8 _ a0 a1]
  · unfold sizeG; rw [h2]; rfl
/-- A first part of a record that lacks something. -/
theorem get_cut (at_ : Int) (p : List Int) (c : Nat) (hp : p.length ≤ 1024) (hc : c < 16 + p.length) : errG ((putV at_ p).take c) = 3 := by
  have hl : ((putV at_ p).take c).length = c := by rw [List.length_take, putV_len]; omega
  unfold errG
  rw [hl]
  by_cases h4 : c < 4
  · rw [if_pos h4]
  · have el : lenG ((putV at_ p).take c) = p.length := by
      unfold lenG
      rw [List.take_take, Nat.min_eq_left (by omega)]
      have e : putV at_ p = lowB p.length 4 ++ (lowB at_ 8 ++ (lowB (ckV (headV at_ p) p) 4 ++ p)) := rfl
      rw [e, (parts _ _ _ _ (lowB_len _ _) (lowB_len _ _) (lowB_len _ _)).1, val_low4 _ (by omega) (by omega)]
    rw [if_neg h4, el, if_neg (by omega), if_pos (by omega)]
/-- A record of which one byte behind its length is another is none. -/
theorem get_turned (at_ : Int) (p : List Int) (k : Nat) (v : Int) (hb : Byte p) (hp : p.length ≤ 1024) (h4 : 4 ≤ k) (hk : k < 16 + p.length) (v0 : 0 ≤ v) (v1 : v ≤ 255) (hv : (putV at_ p).getD k 0 ≠ v) :
    errG ((putV at_ p).set k v) = 2 := by
  have lL := lowB_len p.length 4
  have lA := lowB_len at_ 8
  have lC := lowB_len (ckV (headV at_ p) p) 4
  have vL := val_low4 p.length (by omega) (by omega)
  have hr := ckV_range (headV at_ p) p
  have vC := val_low4 _ hr.1 hr.2
  have bC := lowB_byte (ckV (headV at_ p) p) 4
  have bH : Byte (lowB p.length 4 ++ lowB at_ 8 ++ p) := ((lowB_byte _ _).app (lowB_byte _ _)).app hb
  have hck : ckV (headV at_ p) p = Su.ofV (lowB p.length 4 ++ lowB at_ 8 ++ p) := rfl
  have e : putV at_ p = lowB p.length 4 ++ (lowB at_ 8 ++ (lowB (ckV (headV at_ p) p) 4 ++ p)) := rfl
  rw [e] at hv ⊢
  rw [hck] at vC bC lC hv ⊢
  generalize lowB p.length 4 = L at *
  generalize lowB at_ 8 = A at *
  generalize hcc : Su.ofV (L ++ A ++ p) = cc at *
  generalize lowB cc 4 = C at *
  rw [List.set_append_right _ _ (by omega), lL]
  rw [List.getD_eq_getElem?_getD, List.getElem?_append_right (by omega), lL] at hv
  have et : p.take p.length = p := List.take_length
  by_cases hA : k < 12
  · rw [List.set_append_left _ _ (by omega)]
    rw [List.getElem?_append_left (by omega)] at hv
    have hq := (errG_parts L (A.set (k - 4) v) C p p.length lL (by rw [List.length_set, lA]) lC vL hp (Nat.le_refl _)).1
    rw [hq, et, vC, if_neg]
    intro h
    have es : L ++ A.set (k - 4) v ++ p = (L ++ A ++ p).set k v := by
      rw [List.append_assoc, List.append_assoc, List.set_append_right _ _ (by omega), lL, List.set_append_left _ _ (by omega)]
    have hg : (L ++ A ++ p).getD k 0 = (A[k - 4]?).getD 0 := by
      rw [List.append_assoc, List.getD_eq_getElem?_getD, List.getElem?_append_right (by omega), lL, List.getElem?_append_left (by omega)]
    rw [es, ← hcc] at h
    have hh := bH.getD k
    exact hv (by rw [← hg]; exact (Su.set_same _ k v (by simp only [List.length_append]; omega) v0 v1 hh.1 hh.2).1 h)
  · rw [List.set_append_right _ _ (by omega), lA]
    rw [List.getElem?_append_right (by omega), lA] at hv
    by_cases hC : k < 16
    · rw [List.set_append_left _ _ (by omega)]
      rw [List.getElem?_append_left (by omega)] at hv
      have hq := (errG_parts L A (C.set (k - 4 - 8) v) p p.length lL lA (by rw [List.length_set, lC]) vL hp (Nat.le_refl _)).1
      rw [hq, et, hcc, if_neg]
      intro h
      have hbs : Byte (C.set (k - 4 - 8) v) := fun z hz => by
        rcases List.mem_or_eq_of_mem_set hz with e | e
        · exact bC z e
        · subst e; exact ⟨v0, v1⟩
      have hi := valB_inj bC hbs (by rw [List.length_set]) (by rw [vC, ← h])
      rw [hi, List.getElem?_set_self (by omega)] at hv
      exact hv rfl
    · rw [List.set_append_right _ _ (by omega), lC]
      rw [List.getElem?_append_right (by omega), lC] at hv
      have hq := (errG_parts L A C (p.set (k - 4 - 8 - 4) v) p.length lL lA lC vL hp (by rw [List.length_set]; exact Nat.le_refl _)).1
      have et2 : (p.set (k - 4 - 8 - 4) v).take p.length = p.set (k - 4 - 8 - 4) v := List.take_of_length_le (by rw [List.length_set]; exact Nat.le_refl _)
      rw [hq, et2, vC, if_neg]
      intro h
      have es : L ++ A ++ p.set (k - 4 - 8 - 4) v = (L ++ A ++ p).set (k - 4) v := by
        rw [List.set_append_right (s := L ++ A) _ _ (by rw [List.length_append]; omega), List.length_append, lL, lA]
        congr 2
      have hg : (L ++ A ++ p).getD (k - 4) 0 = (p[k - 4 - 8 - 4]?).getD 0 := by
        rw [List.getD_eq_getElem?_getD, List.getElem?_append_right (by rw [List.length_append]; omega), List.length_append, lL, lA]
        congr 2
      rw [es, ← hcc] at h
      have hh := bH.getD (k - 4)
      exact hv (by rw [← hg]; exact (Su.set_same _ (k - 4) v (by simp only [List.length_append]; omega) v0 v1 hh.1 hh.2).1 h)

/-! ### All the records from the front -/
abbrev Rc := Int × List Int
def allF : Nat → List Int → List Rc × Nat × Int
  | 0, _ => ([], 0, 0)
  | f + 1, b => if b.length = 0 then ([], 0, 0) else if errG b = 0 then
      ((atG b, payG b) :: (allF f (b.drop (sizeG b))).1, sizeG b + (allF f (b.drop (sizeG b))).2.1, (allF f (b.drop (sizeG b))).2.2)
    else ([], 0, errG b)
def allV (b : List Int) : List Rc × Nat × Int := allF b.length b
theorem sizeG_pos (b : List Int) : 0 < sizeG b := by unfold sizeG; omega
theorem allF_succ (f : Nat) (b : List Int) : allF (f + 1) b = if b.length = 0 then ([], 0, 0) else if errG b = 0 then
      ((atG b, payG b) :: (allF f (b.drop (sizeG b))).1, sizeG b + (allF f (b.drop (sizeG b))).2.1, (allF f (b.drop (sizeG b))).2.2)
    else ([], 0, errG b) := rfl
theorem allF_more : ∀ (n : Nat) (c : List Int), c.length ≤ n → allF (n + 1) c = allF n c := by
  intro n
  induction n with
  | zero => intro c hc; rw [allF_succ, if_pos (by omega)]; rfl
  | succ n ih =>
    intro c hc
    have hp := sizeG_pos c
    rw [allF_succ (n + 1) c, allF_succ n c]
    by_cases h0 : c.length = 0
    · rw [if_pos h0, if_pos h0]
    · rw [if_neg h0, if_neg h0, ih (c.drop (sizeG c)) (by rw [List.length_drop]; omega)]
theorem allF_fuel (f : Nat) (b : List Int) (h : b.length ≤ f) : allF f b = allF b.length b := by
  obtain ⟨d, rfl⟩ := Nat.exists_eq_add_of_le h
  clear h
  induction d with
  | zero => rfl
  | succ d ih => rw [← ih, ← Nat.add_assoc, allF_more _ b (by omega)]
theorem allV_nil {b : List Int} (h : b.length = 0) : allV b = ([], 0, 0) := by
  unfold allV; rw [h]; rfl
theorem allV_bad {b : List Int} (h0 : 0 < b.length) (h : errG b ≠ 0) : allV b = ([], 0, errG b) := by
  unfold allV
  cases hb : b.length with
  | zero => omega
  | succ m => rw [allF_succ, if_neg (by omega), if_neg h]
theorem allV_step {b : List Int} (h0 : 0 < b.length) (h : errG b = 0) :
    allV b = ((atG b, payG b) :: (allV (b.drop (sizeG b))).1, sizeG b + (allV (b.drop (sizeG b))).2.1, (allV (b.drop (sizeG b))).2.2) := by
  have hp := sizeG_pos b
  unfold allV
  cases hb : b.length with
  | zero => omega
  | succ m => rw [allF_succ, if_neg (by omega), if_pos h, allF_fuel m _ (by rw [List.length_drop]; omega)]
/-- Where the loop stands in front of byte n with the records l. -/
def AllAt (zs : List Int) (n : Nat) (l : List Rc) : Prop :=
  n ≤ zs.length ∧ 16 * l.length ≤ n ∧ allV zs = (l ++ (allV (zs.drop n)).1, n + (allV (zs.drop n)).2.1, (allV (zs.drop n)).2.2)
theorem AllAt.start (zs : List Int) : AllAt zs 0 [] := ⟨Nat.zero_le _, by simp, by simp⟩
theorem AllAt.next {zs : List Int} {n : Nat} {l : List Rc} (h : AllAt zs n l) (hb : Byte zs) (hn : n < zs.length) (he : errG (zs.drop n) = 0) :
    AllAt zs (n + sizeG (zs.drop n)) (l ++ [(atG (zs.drop n), payG (zs.drop n))]) := by
  have ho := errG_ok (hb.drop n) he
  rw [List.length_drop] at ho
  refine ⟨by omega, by rw [List.length_append]; simp only [List.length_singleton]; have := h.2.1; unfold sizeG; omega, ?_⟩
  have e := h.2.2
  rw [allV_step (b := zs.drop n) (by rw [List.length_drop]; omega) he, List.drop_drop] at e
  rw [e, List.append_assoc]
  simp only [List.singleton_append, Nat.add_assoc]
theorem AllAt.done {zs : List Int} {n : Nat} {l : List Rc} (h : AllAt zs n l) (hn : ¬ n < zs.length) : allV zs = (l, n, 0) := by
  rw [h.2.2, allV_nil (b := zs.drop n) (by rw [List.length_drop]; omega)]; simp
theorem AllAt.bad {zs : List Int} {n : Nat} {l : List Rc} (h : AllAt zs n l) (hn : n < zs.length) (he : errG (zs.drop n) ≠ 0) : allV zs = (l, n, errG (zs.drop n)) := by
  rw [h.2.2, allV_bad (b := zs.drop n) (by rw [List.length_drop]; omega) he]; simp
theorem allV_len (zs : List Int) (hb : Byte zs) : 16 * (allV zs).1.length ≤ (allV zs).2.1 ∧ (allV zs).2.1 ≤ zs.length ∧ ((allV zs).2.2 = 0 → (allV zs).2.1 = zs.length) ∧ (allV zs).2.2 ≠ 6 ∧ 0 ≤ (allV zs).2.2 ∧ (allV zs).2.2 ≤ 14 := by
  have key : ∀ (m : Nat) (zs : List Int), zs.length ≤ m → Byte zs → 16 * (allV zs).1.length ≤ (allV zs).2.1 ∧ (allV zs).2.1 ≤ zs.length ∧ ((allV zs).2.2 = 0 → (allV zs).2.1 = zs.length) ∧ (allV zs).2.2 ≠ 6 ∧ 0 ≤ (allV zs).2.2 ∧ (allV zs).2.2 ≤ 14 := by
    intro m
    induction m with
    | zero => intro zs h _; rw [allV_nil (by omega)]; simp; omega
    | succ m ih =>
      intro zs h hb
      by_cases h0 : zs.length = 0
      · rw [allV_nil h0]; simp [h0]
      · by_cases he : errG zs = 0
        · have ho := errG_ok hb he
          obtain ⟨i1, i2, i3, i4, i5, i6⟩ := ih (zs.drop (sizeG zs)) (by rw [List.length_drop]; have := sizeG_pos zs; omega) (hb.drop _)
          rw [List.length_drop] at i2 i3
          rw [allV_step (by omega) he]
          refine ⟨?_, ?_, ?_, i4, i5, i6⟩
          · simp only [List.length_cons]; have : 16 ≤ sizeG zs := by unfold sizeG; omega
            omega
          · simp only []; omega
          · intro h; simp only [] at h ⊢; have := i3 h; omega
        · rw [allV_bad (by omega) he]
          have := errG_kind zs
          simp only [List.length_nil]
          refine ⟨by omega, by omega, fun h => absurd h he, by omega, by omega, by omega⟩
  exact key _ zs (Nat.le_refl _) hb
theorem ext_ok {a b : List Int} (hb : Byte a) (h : errG a = 0) : errG (a ++ b) = 0 ∧ atG (a ++ b) = atG a ∧ payG (a ++ b) = payG a ∧ sizeG (a ++ b) = sizeG a ∧ (a ++ b).drop (sizeG a) = a.drop (sizeG a) ++ b := by
  have ho := errG_ok hb h
  have tk : ∀ n, n ≤ a.length → (a ++ b).take n = a.take n := fun n hn => by rw [List.take_append, show n - a.length = 0 by omega]; simp
  have dr : ∀ n, n ≤ a.length → (a ++ b).drop n = a.drop n ++ b := fun n hn => by rw [List.drop_append, show n - a.length = 0 by omega]; simp
  have td : ∀ n m, n + m ≤ a.length → ((a ++ b).drop n).take m = (a.drop n).take m := fun n m hn => by
    rw [dr n (by omega), List.take_append, show m - (a.drop n).length = 0 by rw [List.length_drop]; omega]; simp
  have el : lenG (a ++ b) = lenG a := by unfold lenG; rw [tk 4 (by omega)]
  have es : sizeG (a ++ b) = sizeG a := by unfold sizeG; rw [el]
  have ep : payG (a ++ b) = payG a := by
    unfold payG; rw [el, td 16 _ (by have := ho.2.2.2.1; unfold sizeG at this; omega)]
  refine ⟨?_, by unfold atG; rw [td 4 8 (by omega)], ep, es, dr _ (by omega)⟩
  unfold errG at h ⊢
  unfold sumG at h ⊢
  rw [el, ep, tk 12 (by omega), td 12 4 (by omega), if_neg (by rw [List.length_append]; omega), if_neg (by omega), if_neg (by rw [List.length_append]; unfold sizeG at ho; omega)]
  rw [if_neg (by omega), if_neg (by omega), if_neg (by unfold sizeG at ho; omega)] at h
  exact h
/-- More bytes behind do not change what is told of the first part. -/
theorem allV_more (b : List Int) : ∀ (m : Nat) (a : List Int), a.length ≤ m → Byte a → (∃ l, (allV (a ++ b)).1 = (allV a).1 ++ l) ∧ (allV a).2.1 ≤ (allV (a ++ b)).2.1 := by
  intro m
  induction m with
  | zero => intro a h _; rw [allV_nil (b := a) (by omega)]; exact ⟨⟨_, (List.nil_append _).symm⟩, Nat.zero_le _⟩
  | succ m ih =>
    intro a h hb
    by_cases h0 : a.length = 0
    · rw [allV_nil h0]; exact ⟨⟨_, (List.nil_append _).symm⟩, Nat.zero_le _⟩
    · by_cases he : errG a = 0
      · obtain ⟨e1, e2, e3, e4, e5⟩ := ext_ok (b := b) hb he
        obtain ⟨⟨l, hl⟩, hn⟩ := ih (a.drop (sizeG a)) (by rw [List.length_drop]; have := sizeG_pos a; omega) (hb.drop _)
        rw [allV_step (b := a) (by omega) he, allV_step (b := a ++ b) (by rw [List.length_append]; omega) e1, e2, e3, e4, e5]
        refine ⟨⟨l, ?_⟩, ?_⟩
        · simp only []; rw [hl, List.cons_append]
        · simp only []; omega
      · rw [allV_bad (by omega) he]; exact ⟨⟨_, (List.nil_append _).symm⟩, Nat.zero_le _⟩

/-! ### Records one behind the other -/
def putsV : Int → List (List Int) → List Int
  | _, [] => []
  | i, p :: r => putV i p ++ putsV (i + 1) r
def recsV : Int → List (List Int) → List Rc
  | _, [] => []
  | i, p :: r => (i, p) :: recsV (i + 1) r
/-- The length of the first k encodings. -/
def sizesV : List (List Int) → Nat → Nat
  | [], _ => 0
  | _ :: _, 0 => 0
  | p :: r, k + 1 => 16 + p.length + sizesV r k
theorem putsV_len (i : Int) (ps : List (List Int)) : (putsV i ps).length = sizesV ps ps.length := by
  induction ps generalizing i with
  | nil => rfl
  | cons p r ih => rw [putsV, List.length_append, putV_len, ih, List.length_cons, sizesV]
theorem sizesV_zero (ps : List (List Int)) : sizesV ps 0 = 0 := by cases ps <;> rfl
theorem recsV_len (i : Int) (ps : List (List Int)) : (recsV i ps).length = ps.length := by
  induction ps generalizing i with
  | nil => rfl
  | cons p r ih => rw [recsV, List.length_cons, ih, List.length_cons]
theorem recsV_get (i : Int) (ps : List (List Int)) (j : Nat) (h : j < ps.length) : (recsV i ps).getD j (0, []) = (i + j, ps.getD j []) := by
  induction ps generalizing i j with
  | nil => simp at h
  | cons p r ih =>
    cases j with
    | zero => simp [recsV]
    | succ j =>
      rw [recsV, List.getD_cons_succ, List.getD_cons_succ, ih (i + 1) j (by simpa using h)]
      congr 1; omega
theorem putsV_snoc (i : Int) (ps : List (List Int)) (p : List Int) : putsV i (ps ++ [p]) = putsV i ps ++ putV (i + ps.length) p := by
  induction ps generalizing i with
  | nil => simp [putsV]
  | cons q r ih =>
    rw [List.cons_append, putsV, putsV, ih, List.append_assoc, List.length_cons]
    congr 3; omega
theorem sizesV_take (ps : List (List Int)) (k j : Nat) (h : k ≤ j) : sizesV (ps.take j) k = sizesV ps k := by
  induction ps generalizing k j with
  | nil => simp
  | cons p r ih =>
    cases k with
    | zero => rw [sizesV_zero, sizesV_zero]
    | succ k =>
      cases j with
      | zero => omega
      | succ j => rw [List.take_succ_cons, sizesV, sizesV, ih k j (by omega)]
theorem all_cut (ps : List (List Int)) : ∀ (i : Int) (k cut : Nat), 0 ≤ i → i + ps.length < 18446744073709551616 → (∀ p ∈ ps, p.length ≤ 1024) → k ≤ ps.length → sizesV ps k ≤ cut → cut ≤ (putsV i ps).length →
    (k = ps.length ∨ cut < sizesV ps (k + 1)) → allV ((putsV i ps).take cut) = ((recsV i ps).take k, sizesV ps k, if sizesV ps k = cut then 0 else 3) := by
  induction ps with
  | nil =>
    intro i k cut _ _ _ hk hs hc _
    have h0 : cut = 0 := by simpa [putsV] using hc
    subst h0
    rw [allV_nil (by simp)]
    simp [recsV, sizesV]
  | cons p r ih =>
    intro i k cut hi hi2 hp hk hs hc hx
    have hp1 := hp p (List.mem_cons_self ..)
    cases k with
    | zero =>
      rw [sizesV_zero]
      have hx' : cut < 16 + p.length := by
        rcases hx with h | h
        · simp at h
        · rw [sizesV, sizesV_zero] at h; omega
      by_cases h0 : cut = 0
      · subst h0; rw [allV_nil (by simp)]; simp
      · have e : (putsV i (p :: r)).take cut = (putV i p).take cut := by
          rw [putsV, List.take_append, putV_len, show cut - (16 + p.length) = 0 by omega]; simp
        have hl : 0 < ((putV i p).take cut).length := by rw [List.length_take, putV_len]; omega
        rw [e, allV_bad hl (by rw [get_cut i p cut hp1 hx']; decide), get_cut i p cut hp1 hx', if_neg (by omega)]
        simp
    | succ k =>
      rw [sizesV] at hs ⊢
      have e : (putsV i (p :: r)).take cut = putV i p ++ (putsV (i + 1) r).take (cut - (16 + p.length)) := by
        rw [putsV, List.take_append, putV_len, List.take_of_length_le (by rw [putV_len]; omega)]
      obtain ⟨g1, g2, g3, g4, g5⟩ := get_put i p ((putsV (i + 1) r).take (cut - (16 + p.length))) hi (by rw [List.length_cons] at hi2; omega) hp1
      rw [putsV, List.length_append, putV_len] at hc
      rw [List.length_cons] at hk hi2
      have := ih (i + 1) k (cut - (16 + p.length)) (by omega) (by omega) (fun q hq => hp q (List.mem_cons_of_mem _ hq)) (by omega) (by omega) (by omega) (by
        rcases hx with h | h
        · left; simpa using h
        · right; rw [sizesV] at h; omega)
      have hd : (putV i p ++ (putsV (i + 1) r).take (cut - (16 + p.length))).drop (16 + p.length) = (putsV (i + 1) r).take (cut - (16 + p.length)) := by
        rw [List.drop_append, List.drop_of_length_le (by rw [putV_len]; omega), putV_len]; simp
      rw [e, allV_step (by rw [List.length_append, putV_len]; omega) g1, g3, g4, g5, hd, this, recsV, List.take_succ_cons]
      refine Prod.ext rfl (Prod.ext rfl ?_)
      show (if sizesV r k = cut - (16 + p.length) then (0 : Int) else 3) = if 16 + p.length + sizesV r k = cut then 0 else 3
      by_cases h : sizesV r k = cut - (16 + p.length)
      · rw [if_pos h, if_pos (by omega)]
      · rw [if_neg h, if_neg (by omega)]
end Go.Proofs.YtdbhicifjljjnaaGreatDoor.Fr
