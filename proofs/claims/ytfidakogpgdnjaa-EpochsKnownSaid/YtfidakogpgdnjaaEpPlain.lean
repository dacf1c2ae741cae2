/-
  Epoch tables, in plain words: what a valid table is, made of a log's stamps, asked, cut, met. No program is named here.
-/
import Derived.Test.YtfidakogpgdnjaaStampPlain
namespace Go.Proofs.Ytfidakogpgdnjaa.Ep

def later (s b : Int) : Bool := decide (Pl.epochV b < Pl.epochV s) && decide (Pl.offV b < Pl.offV s)
def okAt (l : List Int) (e : Int) (i : Nat) : Bool := decide (Pl.offV (l.getD i 0) < e) && (decide (i = 0) || later (l.getD i 0) (l.getD (i - 1) 0))
def goodR (l : List Int) (e : Int) (k : Nat) : Bool := (List.range k).all (okAt l e)
def good (l : List Int) (e : Int) : Bool := decide (0 ≤ e) && decide (e ≤ 17592186044416) && goodR l e l.length
def startV (l : List Int) (e : Int) (i : Nat) : Int := if i < l.length then Pl.offV (l.getD i 0) else e
def lastE (l : List Int) : Int := if l.length = 0 then -1 else Pl.epochV (l.getD (l.length - 1) 0)
def follow (s : Int) (l : List Int) (e : Int) : Bool := decide (Pl.offV s = e) && decide (lastE l ≤ Pl.epochV s)
def extL (l : List Int) (s : Int) : List Int := if lastE l < Pl.epochV s then l ++ [s] else l
def ofGo : List Int → List Int × Int → Option (List Int × Int)
  | [], t => some t
  | s :: r, t => if follow s t.1 t.2 = true then ofGo r (extL t.1 s, t.2 + 1) else none
def ofV (l : List Int) : Option (List Int × Int) := if l.length = 0 then some ([], 0) else ofGo l ([], Pl.offV (l.getD 0 0))
def below (l : List Int) (o : Int) : Nat := l.countP (fun s => decide (Pl.offV s < o))
def inAt (l : List Int) (e off : Int) : Bool := good l e && (decide (startV l e 0 ≤ off) && decide (off < e))
def atV (l : List Int) (e off : Int) : Int := if inAt l e off = true then Pl.epochV (l.getD (below l (off + 1) - 1) 0) else 0
def inCut (l : List Int) (e off : Int) : Bool := good l e && (decide (startV l e 0 ≤ off) && decide (off ≤ e))
def cutL (l : List Int) (e off : Int) : List Int := if inCut l e off = true then l.take (below l off) else []
def cutE (l : List Int) (e off : Int) : Int := if inCut l e off = true then off else 0
def inAdd (l : List Int) (e s : Int) : Bool := good l e && follow s l e
def addL (l : List Int) (e s : Int) : List Int := if inAdd l e s = true then extL l s else []
def addE (l : List Int) (e s : Int) : Int := if inAdd l e s = true then e + 1 else 0
def shared (a b : List Int) : Nat → Nat → Nat × Nat
  | 0, j => (0, j)
  | i + 1, 0 => (i + 1, 0)
  | i + 1, j + 1 => if a.getD i 0 = b.getD j 0 then (i + 1, j + 1) else if b.getD j 0 < a.getD i 0 then shared a b i (j + 1) else shared a b (i + 1) j
def meetIn (a : List Int) (ea : Int) (b : List Int) (eb : Int) (p : Nat × Nat) : Int :=
  if 0 < p.1 ∧ 0 < p.2 then min (startV a ea p.1) (startV b eb p.2) else if startV a ea 0 = startV b eb 0 then startV a ea 0 else 0
def meetV (a : List Int) (ea : Int) (b : List Int) (eb : Int) : Int :=
  if good a ea = true ∧ good b eb = true then meetIn a ea b eb (shared a b a.length b.length) else 0

theorem off_range (s : Int) : 0 ≤ Pl.offV s ∧ Pl.offV s < 17592186044416 := by unfold Pl.offV; omega

/-! ### Valid tables -/
def Lt (a b : Int) : Prop := Pl.epochV a < Pl.epochV b ∧ Pl.offV a < Pl.offV b
structure G (l : List Int) (e : Int) : Prop where
  lo : 0 ≤ e
  hi : e ≤ 17592186044416
  off : ∀ s ∈ l, Pl.offV s < e
  asc : l.Pairwise Lt
theorem getD_eq {l : List Int} {i : Nat} (h : i < l.length) : l.getD i 0 = l[i] := by
  rw [List.getD_eq_getElem?_getD, List.getElem?_eq_getElem h]; rfl
theorem okAt_iff (l : List Int) (e : Int) (i : Nat) : okAt l e i = true ↔ Pl.offV (l.getD i 0) < e ∧ (i = 0 ∨ Lt (l.getD (i - 1) 0) (l.getD i 0)) := by
  unfold okAt later Lt; simp
theorem asc_of {l : List Int} (h : ∀ i, i + 1 < l.length → Lt (l.getD i 0) (l.getD (i + 1) 0)) : l.Pairwise Lt := by
  rw [List.pairwise_iff_getElem]
  intro i j hi hj hij
  obtain ⟨d, rfl⟩ : ∃ d, j = i + 1 + d := ⟨j - (i + 1), by omega⟩
  clear hij
  induction d with
  | zero =>
    have := h i (by omega)
    rw [getD_eq hi, getD_eq (by omega)] at this
    exact this
  | succ d ih =>
    have h1 := ih (by omega)
    have h2 := h (i + 1 + d) (by omega)
    rw [getD_eq (by omega), getD_eq (by omega)] at h2
    exact ⟨Int.lt_trans h1.1 h2.1, Int.lt_trans h1.2 h2.2⟩
theorem good_iff (l : List Int) (e : Int) : good l e = true ↔ G l e := by
  constructor
  · intro h
    unfold good goodR at h
    simp only [Bool.and_eq_true, decide_eq_true_eq, List.all_eq_true, List.mem_range] at h
    obtain ⟨⟨h1, h2⟩, h3⟩ := h
    refine ⟨h1, h2, fun s hs => ?_, asc_of fun i hi => ?_⟩
    · obtain ⟨i, hi, rfl⟩ := List.getElem_of_mem hs
      have := ((okAt_iff l e i).1 (h3 i hi)).1
      rw [getD_eq hi] at this
      exact this
    · have := ((okAt_iff l e (i + 1)).1 (h3 (i + 1) hi)).2
      rcases this with h | h
      · omega
      · exact h
  · intro h
    unfold good goodR
    simp only [Bool.and_eq_true, decide_eq_true_eq, List.all_eq_true, List.mem_range]
    refine ⟨⟨h.lo, h.hi⟩, fun i hi => (okAt_iff l e i).2 ⟨?_, ?_⟩⟩
    · rw [getD_eq hi]; exact h.off _ (List.getElem_mem hi)
    · rcases Nat.eq_zero_or_pos i with h0 | h0
      · exact .inl h0
      · refine .inr ?_
        rw [getD_eq hi, getD_eq (by omega)]
        exact (List.pairwise_iff_getElem.1 h.asc) (i - 1) i (by omega) hi (by omega)
theorem start_range {l : List Int} {e : Int} (h : G l e) (i : Nat) : 0 ≤ startV l e i ∧ startV l e i ≤ e := by
  unfold startV
  split
  · next hi =>
    rw [getD_eq hi]
    have h1 := off_range l[i]
    have h2 := h.off _ (List.getElem_mem hi)
    omega
  · exact ⟨h.lo, Int.le_refl _⟩
theorem start_end (l : List Int) (e : Int) : startV l e l.length = e := by unfold startV; rw [if_neg (by omega)]

/-! ### Meet -/
theorem shared_swap (a b : List Int) : ∀ n i j, i + j ≤ n → shared b a j i = ((shared a b i j).2, (shared a b i j).1) := by
  intro n
  induction n with
  | zero => intro i j h; obtain rfl : i = 0 := by omega
            obtain rfl : j = 0 := by omega
            simp [shared]
  | succ n ih =>
    intro i j h
    match i, j with
    | 0, 0 => simp [shared]
    | 0, j + 1 => simp [shared]
    | i + 1, 0 => simp [shared]
    | i + 1, j + 1 =>
      rw [shared, shared]
      by_cases h1 : a.getD i 0 = b.getD j 0
      · rw [if_pos h1, if_pos h1.symm]
      · rw [if_neg h1, if_neg (fun k => h1 k.symm)]
        by_cases h2 : b.getD j 0 < a.getD i 0
        · rw [if_pos h2, if_neg (by omega)]; exact ih i (j + 1) (by omega)
        · rw [if_neg h2, if_pos (by omega)]; exact ih (i + 1) j (by omega)
theorem shared_le (a b : List Int) : ∀ i j, (shared a b i j).1 ≤ i ∧ (shared a b i j).2 ≤ j := by
  intro i j
  induction i, j using shared.induct a b with
  | case1 j => simp [shared]
  | case2 i => simp [shared]
  | case3 i j h => rw [shared, if_pos h]; exact ⟨Nat.le_refl _, Nat.le_refl _⟩
  | case4 i j h h2 ih => rw [shared, if_neg h, if_pos h2]; exact ⟨by omega, ih.2⟩
  | case5 i j h h2 ih => rw [shared, if_neg h, if_neg h2]; exact ⟨ih.1, by omega⟩
theorem meetIn_swap (a : List Int) (ea : Int) (b : List Int) (eb : Int) (p : Nat × Nat) : meetIn b eb a ea (p.2, p.1) = meetIn a ea b eb p := by
  unfold meetIn
  by_cases h : 0 < p.1 ∧ 0 < p.2
  · rw [if_pos h, if_pos ⟨h.2, h.1⟩]; exact Int.min_comm ..
  · rw [if_neg h, if_neg (fun k => h ⟨k.2, k.1⟩)]
    by_cases h2 : startV a ea 0 = startV b eb 0
    · rw [if_pos h2, if_pos h2.symm, h2]
    · rw [if_neg h2, if_neg (fun k => h2 k.symm)]
theorem meet_swap (a : List Int) (ea : Int) (b : List Int) (eb : Int) : meetV b eb a ea = meetV a ea b eb := by
  unfold meetV
  by_cases h : good a ea = true ∧ good b eb = true
  · rw [if_pos h, if_pos ⟨h.2, h.1⟩, shared_swap a b (a.length + b.length) a.length b.length (Nat.le_refl _)]
    exact meetIn_swap a ea b eb _
  · rw [if_neg h, if_neg (fun k => h ⟨k.2, k.1⟩)]
theorem shared_same (a : List Int) (n : Nat) : shared a a n n = (n, n) := by
  cases n with
  | zero => simp [shared]
  | succ n => rw [shared, if_pos rfl]
theorem meet_self {a : List Int} {ea : Int} (h : good a ea = true) : meetV a ea a ea = ea := by
  unfold meetV
  rw [if_pos ⟨h, h⟩, shared_same]
  unfold meetIn
  rcases Nat.eq_zero_or_pos a.length with h0 | h0
  · rw [if_neg (by simp [h0]), if_pos rfl]
    have := start_end a ea
    rw [h0] at this
    exact this
  · rw [if_pos ⟨h0, h0⟩, start_end]; exact Int.min_self _
theorem meet_range {a : List Int} {ea : Int} {b : List Int} {eb : Int} (ha : good a ea = true) (hb : good b eb = true) : 0 ≤ meetV a ea b eb ∧ meetV a ea b eb ≤ ea ∧ meetV a ea b eb ≤ eb := by
  have Ga := (good_iff _ _).1 ha
  have Gb := (good_iff _ _).1 hb
  unfold meetV
  rw [if_pos ⟨ha, hb⟩]
  generalize shared a b a.length b.length = p
  unfold meetIn
  have h1 := start_range Ga p.1
  have h2 := start_range Gb p.2
  have h3 := start_range Ga 0
  have h4 := start_range Gb 0
  have h5 := Ga.lo
  have h6 := Gb.lo
  split
  · omega
  · split <;> omega
theorem meet_bad {a : List Int} {ea : Int} {b : List Int} {eb : Int} (h : ¬ (good a ea = true ∧ good b eb = true)) : meetV a ea b eb = 0 := by
  unfold meetV; rw [if_neg h]

/-! ### How many stamps lie below an offset -/
theorem below_app {A B : List Int} {o : Int} (hA : ∀ s ∈ A, Pl.offV s < o) (hB : ∀ s ∈ B, o ≤ Pl.offV s) : below (A ++ B) o = A.length := by
  unfold below
  rw [List.countP_append, List.countP_eq_length.2 (fun s hs => decide_eq_true (hA s hs)), List.countP_eq_zero.2 (fun s hs => by have := hB s hs; simp; omega)]
  rfl
theorem below_split {l : List Int} (h : l.Pairwise Lt) (o : Int) : (∀ s ∈ l.take (below l o), Pl.offV s < o) ∧ (∀ s ∈ l.drop (below l o), o ≤ Pl.offV s) := by
  induction l with
  | nil => simp [below]
  | cons a t ih =>
    obtain ⟨h1, h2⟩ := List.pairwise_cons.1 h
    obtain ⟨i1, i2⟩ := ih h2
    by_cases ha : Pl.offV a < o
    · have e : below (a :: t) o = below t o + 1 := by unfold below; rw [List.countP_cons_of_pos (by simpa using ha)]
      rw [e, List.take_succ_cons, List.drop_succ_cons]
      refine ⟨fun s hs => ?_, i2⟩
      rcases List.mem_cons.1 hs with rfl | hs
      · exact ha
      · exact i1 s hs
    · have e : below (a :: t) o = 0 := by
        unfold below
        refine List.countP_eq_zero.2 fun s hs => ?_
        rcases List.mem_cons.1 hs with rfl | hs
        · simpa using ha
        · have := (h1 s hs).2
          simp; omega
      rw [e]
      refine ⟨fun s hs => by simp at hs, fun s hs => ?_⟩
      rw [List.drop_zero] at hs
      rcases List.mem_cons.1 hs with rfl | hs
      · omega
      · have := (h1 s hs).2
        omega
theorem below_le (l : List Int) (o : Int) : below l o ≤ l.length := List.countP_le_length
/-- There is a stamp at or below any offset from the first one on. -/
theorem below_pos {l : List Int} {e off : Int} (h : inAt l e off = true) : 1 ≤ below l (off + 1) ∧ below l (off + 1) ≤ l.length := by
  unfold inAt at h
  simp only [Bool.and_eq_true, decide_eq_true_eq] at h
  obtain ⟨_, h2, h3⟩ := h
  refine ⟨?_, below_le _ _⟩
  match l, h2 with
  | [], h2 => unfold startV at h2; simp at h2; omega
  | a :: t, h2 =>
    unfold startV at h2
    simp at h2
    unfold below
    rw [List.countP_cons_of_pos (by simp; omega)]
    omega

/-! ### Of -/
theorem ofGo_snoc (l : List Int) (s : Int) : ∀ (t : List Int × Int) (L : List Int) (e : Int), ofGo l t = some (L, e) → follow s L e = true → ofGo (l ++ [s]) t = some (extL L s, e + 1) := by
  induction l with
  | nil => intro t L e h hf; rw [ofGo] at h; injection h with h; subst h; rw [List.nil_append, ofGo, if_pos hf, ofGo]
  | cons a r ih =>
    intro t L e h hf
    rw [ofGo] at h
    rw [List.cons_append, ofGo]
    by_cases hc : follow a t.1 t.2 = true
    · rw [if_pos hc] at h ⊢; exact ih _ L e h hf
    · rw [if_neg hc] at h; cases h
theorem ofV_nil : ofV [] = some ([], 0) := rfl
theorem ofV_snoc {l L : List Int} {e s : Int} (h : ofV l = some (L, e)) (hs : Pl.offV s = e) (hl : lastE L ≤ Pl.epochV s) : ofV (l ++ [s]) = some (extL L s, e + 1) := by
  have hf : follow s L e = true := by unfold follow; simp [hs, hl]
  match l, h with
  | [], h =>
    unfold ofV at h ⊢
    simp at h
    obtain ⟨rfl, rfl⟩ := h
    rw [List.nil_append, if_neg (by simp), List.getD_cons_zero, hs, ofGo, if_pos hf, ofGo]
  | a :: r, h =>
    unfold ofV at h ⊢
    rw [if_neg (by simp)] at h
    rw [if_neg (by simp)]
    exact ofGo_snoc (a :: r) s _ L e h hf
theorem last_of {L : List Int} {s : Int} (h : s ∈ L) (hp : L.Pairwise Lt) : Pl.epochV s ≤ lastE L := by
  obtain ⟨i, hi, rfl⟩ := List.getElem_of_mem h
  unfold lastE
  rw [if_neg (by omega), getD_eq (by omega)]
  rcases Nat.lt_or_ge i (L.length - 1) with h1 | h1
  · exact Int.le_of_lt (List.pairwise_iff_getElem.1 hp i (L.length - 1) hi (by omega) h1).1
  · obtain rfl : i = L.length - 1 := by omega
    exact Int.le_refl _
theorem lastE_snoc (L : List Int) (s : Int) : lastE (L ++ [s]) = Pl.epochV s := by
  unfold lastE
  rw [if_neg (by simp)]
  congr 1
  rw [getD_eq (by simp)]
  simp
theorem G.ext {L : List Int} {e s : Int} (h : G L e) (he : e < 17592186044416) (hs : Pl.offV s = e) : G (extL L s) (e + 1) := by
  unfold extL
  split
  · next hl =>
    refine ⟨by have := h.lo; omega, by omega, fun x hx => ?_, ?_⟩
    · rcases List.mem_append.1 hx with hx | hx
      · have := h.off x hx; omega
      · obtain rfl := List.mem_singleton.1 hx; omega
    · refine List.pairwise_append.2 ⟨h.asc, List.pairwise_singleton .., fun a ha b hb => ?_⟩
      obtain rfl := List.mem_singleton.1 hb
      have h1 := last_of ha h.asc
      have h2 := h.off a ha
      exact ⟨by omega, by omega⟩
  · exact ⟨by have := h.lo; omega, by omega, fun x hx => by have := h.off x hx; omega, h.asc⟩

/-! ### A log that begins at 0 -/
structure Log (es L : List Int) : Prop where
  g : G L es.length
  st : startV L es.length 0 = 0
  last : lastE L = if es.length = 0 then -1 else es.getD (es.length - 1) 0
  at_ : ∀ i, i < es.length → ∃ A s B, L = A ++ s :: B ∧ Pl.offV s ≤ i ∧ (∀ b ∈ B, (i : Int) < Pl.offV b) ∧ Pl.epochV s = es.getD i 0
theorem Log.nil : Log [] [] := ⟨⟨by decide, by decide, by simp, List.Pairwise.nil⟩, rfl, rfl, fun i hi => by simp at hi⟩
theorem getD_snoc (es : List Int) (e : Int) (i : Nat) (hi : i < es.length) : (es ++ [e]).getD i 0 = es.getD i 0 := by
  rw [List.getD_eq_getElem?_getD, List.getD_eq_getElem?_getD, List.getElem?_append_left hi]
theorem getD_last (es : List Int) (e : Int) : (es ++ [e]).getD es.length 0 = e := by
  rw [List.getD_eq_getElem?_getD, List.getElem?_append_right (Nat.le_refl _)]; simp
theorem Log.snoc {es L : List Int} (h : Log es L) (s : Int) (hs : Pl.offV s = es.length) (hl : lastE L ≤ Pl.epochV s) (hn : (es.length : Int) < 17592186044416) (hp : 0 ≤ Pl.epochV s) : Log (es ++ [Pl.epochV s]) (extL L s) := by
  have hlen : ((es ++ [Pl.epochV s]).length : Int) = es.length + 1 := by simp
  refine ⟨by rw [hlen]; exact h.g.ext hn hs, ?_, ?_, fun i hi => ?_⟩
  · rw [hlen]
    unfold extL
    split
    · unfold startV
      rw [if_pos (by simp)]
      match L, h.st with
      | [], hst => simp [startV] at hst; simpa [hst] using hs
      | a :: t, hst => simp [startV] at hst; simpa using hst
    · next hne =>
      have : L.length ≠ 0 := fun h0 => hne (by unfold lastE; rw [if_pos h0]; omega)
      have hst := h.st
      unfold startV at hst ⊢
      rw [if_pos (by omega)] at hst
      rw [if_pos (by omega)]
      exact hst
  · rw [if_neg (by simp), show (es ++ [Pl.epochV s]).length - 1 = es.length by simp, getD_last]
    unfold extL
    split
    · exact lastE_snoc ..
    · omega
  · rw [List.length_append, List.length_singleton] at hi
    rcases Nat.lt_or_ge i es.length with hlt | hge
    · obtain ⟨A, x, B, rfl, h1, h2, h3⟩ := h.at_ i hlt
      rw [getD_snoc es _ i hlt]
      unfold extL
      split
      · refine ⟨A, x, B ++ [s], by simp, h1, fun b hb => ?_, h3⟩
        rcases List.mem_append.1 hb with hb | hb
        · exact h2 b hb
        · obtain rfl := List.mem_singleton.1 hb; omega
      · exact ⟨A, x, B, rfl, h1, h2, h3⟩
    · obtain rfl : i = es.length := by omega
      rw [getD_last]
      unfold extL
      split
      · exact ⟨L, s, [], rfl, by omega, fun b hb => by simp at hb, rfl⟩
      · next hne =>
        have h0 : L.length ≠ 0 := fun h0 => hne (by unfold lastE; rw [if_pos h0]; omega)
        refine ⟨L.take (L.length - 1), L.getD (L.length - 1) 0, [], ?_, ?_, fun b hb => by simp at hb, ?_⟩
        · rw [getD_eq (by omega)]
          have := List.take_append_drop (L.length - 1) L
          rw [List.drop_eq_getElem_cons (by omega), List.drop_of_length_le (by omega)] at this
          exact this.symm
        · rw [getD_eq (by omega)]
          have := h.g.off _ (List.getElem_mem (show L.length - 1 < L.length by omega))
          omega
        · have e : lastE L = Pl.epochV s := by omega
          unfold lastE at e
          rw [if_neg h0] at e
          exact e
theorem at_split {A B : List Int} {s : Int} {e : Int} {i : Int} (h : G (A ++ s :: B) e) (hi : i < e) (h0 : startV (A ++ s :: B) e 0 ≤ i) (h1 : Pl.offV s ≤ i) (h2 : ∀ b ∈ B, i < Pl.offV b) :
    inAt (A ++ s :: B) e i = true ∧ atV (A ++ s :: B) e i = Pl.epochV s := by
  have hin : inAt (A ++ s :: B) e i = true := by unfold inAt; simp [(good_iff _ _).2 h, h0, hi]
  refine ⟨hin, ?_⟩
  unfold atV
  rw [if_pos hin]
  have hb : below (A ++ s :: B) (i + 1) = A.length + 1 := by
    have e : A ++ s :: B = (A ++ [s]) ++ B := by simp
    rw [e, below_app (fun x hx => ?_) (fun x hx => by have := h2 x hx; omega)]
    · simp
    · rcases List.mem_append.1 hx with hx | hx
      · have := (List.pairwise_append.1 h.asc).2.2 x hx s (List.mem_cons_self ..)
        have := this.2
        omega
      · obtain rfl := List.mem_singleton.1 hx; omega
  rw [hb, Nat.add_sub_cancel, getD_eq (by simp)]
  simp
theorem Log.tells {es L : List Int} (h : Log es L) (i : Nat) (hi : i < es.length) : inAt L es.length i = true ∧ atV L es.length i = es.getD i 0 := by
  obtain ⟨A, s, B, rfl, h1, h2, h3⟩ := h.at_ i hi
  rw [← h3]
  exact at_split h.g (by omega) (by rw [h.st]; omega) h1 h2
theorem Log.cut {es L : List Int} (h : Log es L) (c : Int) : inCut L es.length c = decide (0 ≤ c ∧ c ≤ es.length) := by
  unfold inCut
  rw [(good_iff _ _).2 h.g, h.st]
  simp
theorem Log.cut_tells {es L : List Int} (h : Log es L) (c : Int) (h0 : 0 ≤ c) (h1 : c ≤ es.length) (i : Nat) (hi : i < es.length) :
    inAt (cutL L es.length c) (cutE L es.length c) i = decide ((i : Int) < c) ∧ ((i : Int) < c → atV (cutL L es.length c) (cutE L es.length c) i = es.getD i 0) := by
  have hin : inCut L es.length c = true := by rw [h.cut]; simp [h0, h1]
  unfold cutL cutE
  rw [if_pos hin, if_pos hin]
  by_cases hlt : (i : Int) < c
  · obtain ⟨A, s, B, rfl, h2, h3, h4⟩ := h.at_ i hi
    have hs := below_split h.g.asc c
    have hk : A.length < below (A ++ s :: B) c := by
      rcases Nat.lt_or_ge A.length (below (A ++ s :: B) c) with hk | hk
      · exact hk
      · have hm : s ∈ (A ++ s :: B).drop (below (A ++ s :: B) c) := by
          rw [List.drop_append_of_le_length hk]
          exact List.mem_append_right _ (List.mem_cons_self ..)
        have := hs.2 s hm
        omega
    have ht : (A ++ s :: B).take (below (A ++ s :: B) c) = A ++ s :: B.take (below (A ++ s :: B) c - A.length - 1) := by
      obtain ⟨d, hd⟩ : ∃ d, below (A ++ s :: B) c = A.length + (d + 1) := ⟨below (A ++ s :: B) c - A.length - 1, by omega⟩
      rw [hd, List.take_length_add_append, List.take_succ_cons]
      congr 3
      omega
    have hG : G ((A ++ s :: B).take (below (A ++ s :: B) c)) c := ⟨h0, by have := h.g.hi; omega, hs.1, h.g.asc.sublist (List.take_sublist _ _)⟩
    rw [ht] at hG ⊢
    have hst : startV (A ++ s :: B.take (below (A ++ s :: B) c - A.length - 1)) c 0 = 0 := by
      have := h.st
      unfold startV at this ⊢
      rw [if_pos (by rw [List.length_append, List.length_cons]; omega)] at this
      rw [if_pos (by rw [List.length_append, List.length_cons]; omega), ← this]
      cases A <;> simp
    have hh := at_split hG hlt (by rw [hst]; omega) h2 (fun b hb => h3 b (List.mem_of_mem_take hb))
    refine ⟨by rw [hh.1]; simp [hlt], fun _ => by rw [hh.2, h4]⟩
  · refine ⟨?_, fun k => absurd k hlt⟩
    unfold inAt
    simp [hlt]

/-! ### Two logs that part -/
structure Fork (C : List Int) (n : Int) (r : Int) (X : List Int) (e : Int) : Prop where
  g : G (C ++ X) e
  st : startV (C ++ X) e C.length = n
  le : n ≤ e
  up : ∀ c ∈ C, ∀ x ∈ X, Pl.epochV c < Pl.epochV x
  odd : ∀ x ∈ X, Pl.epochV x % 2 = r
theorem Fork.start {C : List Int} {n r : Int} (h : G C n) : Fork C n r [] n := by
  refine ⟨by rw [List.append_nil]; exact h, by rw [List.append_nil]; exact start_end C n, Int.le_refl _, fun _ _ x hx => by simp at hx, fun x hx => by simp at hx⟩
theorem Fork.ext {C X : List Int} {n r e s : Int} (h : Fork C n r X e) (he : e < 17592186044416) (hs : Pl.offV s = e) (hc : ∀ c ∈ C, Pl.epochV c < Pl.epochV s) (hr : Pl.epochV s % 2 = r) (hl : lastE (C ++ X) ≤ Pl.epochV s) (hp : 0 ≤ Pl.epochV s) :
    ∃ X', extL (C ++ X) s = C ++ X' ∧ Fork C n r X' (e + 1) := by
  have hG := h.g.ext he hs
  unfold extL at hG ⊢
  split at hG
  · next hlt =>
    rw [if_pos hlt]
    rw [List.append_assoc] at hG
    refine ⟨X ++ [s], by rw [List.append_assoc], hG, ?_, by have := h.le; omega, fun c hc' x hx => ?_, fun x hx => ?_⟩
    · have hst := h.st
      unfold startV at hst ⊢
      rw [if_pos (by simp)]
      by_cases hx : X = []
      · subst hx
        rw [if_neg (by simp)] at hst
        rw [← List.append_assoc, List.append_nil, getD_last, hs, hst]
      · have hlen : 0 < X.length := List.length_pos_iff.2 hx
        rw [if_pos (by simp; omega)] at hst
        rw [← List.append_assoc, getD_snoc _ _ _ (by simp; omega), hst]
    · rcases List.mem_append.1 hx with hx | hx
      · exact h.up c hc' x hx
      · obtain rfl := List.mem_singleton.1 hx; exact hc c hc'
    · rcases List.mem_append.1 hx with hx | hx
      · exact h.odd x hx
      · obtain rfl := List.mem_singleton.1 hx; exact hr
  · next hlt =>
    rw [if_neg hlt]
    refine ⟨X, rfl, hG, ?_, by have := h.le; omega, h.up, h.odd⟩
    have h0 : X ≠ [] := by
      rintro rfl
      rw [List.append_nil] at hlt
      by_cases hC : C.length = 0
      · exact hlt (by unfold lastE; rw [if_pos hC]; omega)
      · refine hlt ?_
        unfold lastE
        rw [if_neg hC, getD_eq (by omega)]
        exact hc _ (List.getElem_mem _)
    have hlen : 0 < X.length := List.length_pos_iff.2 h0
    have hst := h.st
    unfold startV at hst ⊢
    rw [if_pos (by simp; omega)] at hst ⊢
    exact hst
theorem getD_C {C X : List Int} {i : Nat} (h : i < C.length) : (C ++ X).getD i 0 = C.getD i 0 := by
  rw [List.getD_eq_getElem?_getD, List.getD_eq_getElem?_getD, List.getElem?_append_left h]
theorem getD_X {C X : List Int} (q : Nat) : (C ++ X).getD (C.length + q) 0 = X.getD q 0 := by
  rw [List.getD_eq_getElem?_getD, List.getD_eq_getElem?_getD, List.getElem?_append_right (by omega), Nat.add_sub_cancel_left]
theorem shared_fork {C X Y : List Int} (hX : ∀ c ∈ C, ∀ x ∈ X, c < x) (hY : ∀ c ∈ C, ∀ y ∈ Y, c < y) (hXY : ∀ x ∈ X, ∀ y ∈ Y, x ≠ y) (hC : 0 < C.length) :
    ∀ n p q, p + q ≤ n → p ≤ X.length → q ≤ Y.length → shared (C ++ X) (C ++ Y) (C.length + p) (C.length + q) = (C.length, C.length) := by
  obtain ⟨m, hm⟩ : ∃ m, C.length = m + 1 := ⟨C.length - 1, by omega⟩
  have hCm : C.getD m 0 ∈ C := by rw [getD_eq (by omega)]; exact List.getElem_mem _
  intro n
  induction n with
  | zero =>
    intro p q h _ _
    obtain rfl : p = 0 := by omega
    obtain rfl : q = 0 := by omega
    rw [Nat.add_zero, hm, shared, if_pos (by rw [getD_C (by omega), getD_C (by omega)])]
  | succ n ih =>
    intro p q h hp hq
    match p, q with
    | 0, 0 => rw [Nat.add_zero, hm, shared, if_pos (by rw [getD_C (by omega), getD_C (by omega)])]
    | p + 1, 0 =>
      have hx : X.getD p 0 ∈ X := by rw [getD_eq (by omega)]; exact List.getElem_mem _
      have h1 := hX _ hCm _ hx
      have := ih p 0 (by omega) (by omega) (by omega)
      rw [Nat.add_zero] at this ⊢
      rw [show C.length + (p + 1) = (C.length + p) + 1 by omega]
      conv => lhs; arg 4; rw [hm]
      rw [shared, getD_X, getD_C (by omega), if_neg (by omega), if_pos h1, ← hm]
      exact this
    | 0, q + 1 =>
      have hy : Y.getD q 0 ∈ Y := by rw [getD_eq (by omega)]; exact List.getElem_mem _
      have h1 := hY _ hCm _ hy
      have := ih 0 q (by omega) (by omega) (by omega)
      rw [Nat.add_zero] at this ⊢
      rw [show C.length + (q + 1) = (C.length + q) + 1 by omega]
      conv => lhs; arg 3; rw [hm]
      rw [shared, getD_X, getD_C (by omega), if_neg (by omega), if_neg (by omega), ← hm]
      exact this
    | p + 1, q + 1 =>
      have hx : X.getD p 0 ∈ X := by rw [getD_eq (by omega)]; exact List.getElem_mem _
      have hy : Y.getD q 0 ∈ Y := by rw [getD_eq (by omega)]; exact List.getElem_mem _
      have h1 := hXY _ hx _ hy
      rw [show C.length + (p + 1) = (C.length + p) + 1 by omega, show C.length + (q + 1) = (C.length + q) + 1 by omega, shared, getD_X, getD_X, if_neg h1]
      split
      · exact ih p (q + 1) (by omega) (by omega) (by omega)
      · exact ih (p + 1) q (by omega) (by omega) (by omega)
theorem shared_none {X Y : List Int} (hXY : ∀ x ∈ X, ∀ y ∈ Y, x ≠ y) : ∀ n p q, p + q ≤ n → p ≤ X.length → q ≤ Y.length → ¬ (0 < (shared X Y p q).1 ∧ 0 < (shared X Y p q).2) := by
  intro n
  induction n with
  | zero =>
    intro p q h _ _
    obtain rfl : p = 0 := by omega
    rw [shared]; simp
  | succ n ih =>
    intro p q h hp hq
    match p, q with
    | 0, q => rw [shared]; simp
    | p + 1, 0 => rw [shared]; simp
    | p + 1, q + 1 =>
      have hx : X.getD p 0 ∈ X := by rw [getD_eq (by omega)]; exact List.getElem_mem _
      have hy : Y.getD q 0 ∈ Y := by rw [getD_eq (by omega)]; exact List.getElem_mem _
      rw [shared, if_neg (hXY _ hx _ hy)]
      split
      · exact ih p (q + 1) (by omega) (by omega) (by omega)
      · exact ih (p + 1) q (by omega) (by omega) (by omega)
theorem lt_of_epoch {a b : Int} (h : Pl.epochV a < Pl.epochV b) : a < b := by unfold Pl.epochV at h; omega
theorem fork_meet {C X Y : List Int} {n ea eb : Int} (hx : Fork C n 1 X ea) (hy : Fork C n 0 Y eb) (h0 : C.length = 0 → n = 0) : meetV (C ++ X) ea (C ++ Y) eb = n := by
  have hXY : ∀ x ∈ X, ∀ y ∈ Y, x ≠ y := fun x h1 y h2 e => by
    have a := hx.odd x h1
    have b := hy.odd y h2
    rw [e] at a
    omega
  unfold meetV
  rw [if_pos ⟨(good_iff _ _).2 hx.g, (good_iff _ _).2 hy.g⟩]
  rcases Nat.eq_zero_or_pos C.length with hc | hc
  · have hn := h0 hc
    obtain rfl := List.eq_nil_of_length_eq_zero hc
    simp only [List.nil_append]
    unfold meetIn
    rw [if_neg (shared_none hXY _ _ _ (Nat.le_refl _) (Nat.le_refl _) (Nat.le_refl _))]
    have h1 := hx.st
    have h2 := hy.st
    simp only [List.nil_append, List.length_nil] at h1 h2
    rw [h1, h2, if_pos rfl]
  · rw [List.length_append, List.length_append, shared_fork (fun c h1 x h2 => lt_of_epoch (hx.up c h1 x h2)) (fun c h1 y h2 => lt_of_epoch (hy.up c h1 y h2)) hXY hc _ _ _ (Nat.le_refl _) (Nat.le_refl _) (Nat.le_refl _)]
    unfold meetIn
    rw [if_pos ⟨hc, hc⟩, hx.st, hy.st]
    exact Int.min_self _
end Go.Proofs.Ytfidakogpgdnjaa.Ep
