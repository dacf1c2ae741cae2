/-
  Part 7 of the texts behind the law: DfPlain, DfBack, DfMem, DfKnownP.
-/
import Derived.Test.YtkfopjhgkbbkiaaDoorDf2
import Derived.Test.YtkfopjhgkbbkiaaDoorDf6
import Derived.Test.YtkfopjhgkbbkiaaDoorDf3
/-
  Definitions of workflows in plain words: their text, read and shown; which may be; their graph. A definition that is read may be, and its text is read as it.
-/
namespace Go.Proofs.YtkfopjhgkbbkiaaDoor.Df
open Tx Go.Lib
/-! ### Numbers -/
def num (l : T) : Option Nat := if !l.isEmpty && decide (l.length ≤ 4) && !(decide (1 < l.length) && l.head? == some 48) && l.all Pl.isDig then some (Pl.valFrom 0 l) else none
theorem num_some {l : T} {v : Nat} (h : num l = some v) : l = decDigits v ∧ v ≤ 9999 := by
  unfold num at h
  split at h
  · next hc =>
    simp only [Bool.and_eq_true, Bool.not_eq_true', decide_eq_true_eq, List.isEmpty_eq_false_iff] at hc
    injection h with h
    obtain ⟨⟨⟨h1, h2⟩, h3⟩, h4⟩ := hc
    have h5 := Pl.dec_of l.length l rfl h1 h4 (fun hl => by
      rw [decide_eq_true hl, Bool.true_and] at h3
      simpa using h3)
    refine ⟨by rw [← h, h5], ?_⟩
    have h6 := Pl.val_lt l 0 h4
    have h7 : 10 ^ l.length ≤ 10 ^ 4 := Nat.pow_le_pow_right (by decide) h2
    omega
  · cases h
theorem num_dec {v : Nat} (h : v ≤ 9999) : num (decDigits v) = some v := by
  unfold num
  have h1 := Pl.dec_ne v
  have h2 := Pl.dec_len 4 v (by decide) (by omega)
  have h3 : (decide (1 < (decDigits v).length) && (decDigits v).head? == some 48) = false := by
    by_cases hl : 1 < (decDigits v).length
    · rw [decide_eq_true hl, Bool.true_and]
      have := Pl.dec_head v (Pl.dec_len1 v hl)
      simpa using this
    · rw [decide_eq_false hl, Bool.false_and]
  rw [if_pos, Pl.dec_val]
  simp only [Bool.and_eq_true, Bool.not_eq_true', decide_eq_true_eq, List.isEmpty_eq_false_iff]
  exact ⟨⟨⟨h1, h2⟩, h3⟩, Pl.dec_all v⟩
/-! ### The words of a task -/
def kA : T := [97, 102, 116, 101, 114, 61]
def kR : T := [114, 101, 116, 114, 121, 61]
def kW : T := [119, 97, 105, 116, 61]
def kB : T := [98, 97, 115, 101, 61]
def kO : T := [111, 110, 61]
def opt (key : T) : List T → Option T × List T
  | [] => (none, [])
  | w :: r => if key.isPrefixOf w then (some (w.drop key.length), r) else (none, w :: r)
def optW (key : T) : Option T → List T
  | none => []
  | some v => [key ++ v]
theorem opt_cons (key w : T) (r : List T) : opt key (w :: r) = if key.isPrefixOf w then (some (w.drop key.length), r) else (none, w :: r) := rfl
theorem opt_back {key : T} {ws : List T} : optW key (opt key ws).1 ++ (opt key ws).2 = ws := by
  cases ws with
  | nil => rfl
  | cons w r =>
    rw [opt_cons]
    by_cases h : key.isPrefixOf w = true
    · rw [if_pos h]
      obtain ⟨s, hs⟩ := List.isPrefixOf_iff_prefix.1 h
      show (key ++ w.drop key.length) :: r = _
      rw [← hs]
      simp
    · rw [if_neg h]; rfl
theorem opt_take {key : T} (v : T) (r : List T) : opt key (optW key (some v) ++ r) = (some v, r) := by
  show opt key ((key ++ v) :: r) = _
  rw [opt_cons]
  rw [if_pos (List.isPrefixOf_iff_prefix.2 (List.prefix_append key v))]
  simp
/-- No word begins with the key's first letter. -/
def other (c : UInt8) (ws : List T) : Prop := ∀ w ∈ ws, w.head? ≠ some c
theorem opt_none {c : UInt8} {k : T} {ws : List T} (h : other c ws) : opt (c :: k) ws = (none, ws) := by
  cases ws with
  | nil => rfl
  | cons w r =>
    rw [opt_cons, if_neg]
    intro hp
    obtain ⟨s, hs⟩ := List.isPrefixOf_iff_prefix.1 hp
    exact h w (by simp) (by rw [← hs]; rfl)
theorem opt_words {c : UInt8} {k : T} (o : Option T) {ws : List T} (h : other c ws) : opt (c :: k) (optW (c :: k) o ++ ws) = (o, ws) := by
  cases o with
  | none => exact opt_none h
  | some v => exact opt_take v ws
theorem other_nil (c : UInt8) : other c [] := fun w h => by simp at h
theorem other_app {c d : UInt8} {k : T} {o : Option T} {ws : List T} (hd : d ≠ c) (h : other c ws) : other c (optW (d :: k) o ++ ws) := fun w hw => by
  rcases List.mem_append.1 hw with hw | hw
  · cases o with
    | none => simp [optW] at hw
    | some v =>
      simp only [optW, List.mem_singleton] at hw
      subst hw
      simpa using hd
  · exact h w hw
structure Raw where
  name : T
  after : Option T
  retry : Option T
  wait : Option T
  base : Option T
  on : Option T
def words (r : Raw) : List T := r.name :: (optW kA r.after ++ (optW kR r.retry ++ (optW kW r.wait ++ (optW kB r.base ++ (optW kO r.on ++ [])))))
def read : List T → Option Raw
  | [] => none
  | n :: ws =>
    let a := opt kA ws
    let r := opt kR a.2
    let w := opt kW r.2
    let b := opt kB w.2
    let o := opt kO b.2
    if o.2.isEmpty then some ⟨n, a.1, r.1, w.1, b.1, o.1⟩ else none
theorem opt_kA (o : Option T) {ws : List T} (h : other 97 ws) : opt kA (optW kA o ++ ws) = (o, ws) := opt_words o h
theorem opt_kR (o : Option T) {ws : List T} (h : other 114 ws) : opt kR (optW kR o ++ ws) = (o, ws) := opt_words o h
theorem opt_kW (o : Option T) {ws : List T} (h : other 119 ws) : opt kW (optW kW o ++ ws) = (o, ws) := opt_words o h
theorem opt_kB (o : Option T) {ws : List T} (h : other 98 ws) : opt kB (optW kB o ++ ws) = (o, ws) := opt_words o h
theorem opt_kO (o : Option T) {ws : List T} (h : other 111 ws) : opt kO (optW kO o ++ ws) = (o, ws) := opt_words o h
theorem oth_R {c : UInt8} {o : Option T} {ws : List T} (hd : 114 ≠ c) (h : other c ws) : other c (optW kR o ++ ws) := other_app hd h
theorem oth_W {c : UInt8} {o : Option T} {ws : List T} (hd : 119 ≠ c) (h : other c ws) : other c (optW kW o ++ ws) := other_app hd h
theorem oth_B {c : UInt8} {o : Option T} {ws : List T} (hd : 98 ≠ c) (h : other c ws) : other c (optW kB o ++ ws) := other_app hd h
theorem oth_O {c : UInt8} {o : Option T} {ws : List T} (hd : 111 ≠ c) (h : other c ws) : other c (optW kO o ++ ws) := other_app hd h
theorem read_words (r : Raw) : read (words r) = some r := by
  unfold words read
  simp only
  rw [opt_kA r.after (oth_R (by decide) (oth_W (by decide) (oth_B (by decide) (oth_O (by decide) (other_nil 97)))))]
  simp only
  rw [opt_kR r.retry (oth_W (by decide) (oth_B (by decide) (oth_O (by decide) (other_nil 114))))]
  simp only
  rw [opt_kW r.wait (oth_B (by decide) (oth_O (by decide) (other_nil 119)))]
  simp only
  rw [opt_kB r.base (oth_O (by decide) (other_nil 98))]
  simp only
  rw [opt_kO r.on (other_nil 111)]
  rfl
theorem words_read {ws : List T} {r : Raw} (h : read ws = some r) : words r = ws := by
  cases ws with
  | nil => cases h
  | cons n ws =>
    unfold read at h
    simp only at h
    split at h
    · next he =>
      injection h with h
      subst h
      unfold words
      have he' : (opt kO (opt kB (opt kW (opt kR (opt kA ws).2).2).2).2).2 = [] := List.isEmpty_iff.1 he
      simp only
      rw [← he', opt_back, opt_back, opt_back, opt_back, opt_back]
    · cases h
/-! ### Tasks -/
structure Task where
  name : T
  after : List Int
  retry : Int
  wait : Int
  base : Int
  on : T
deriving DecidableEq
abbrev D := List Task
def place (names : List T) (x : T) : Option Int := if x ∈ names then some ((names.idxOf x : Nat) : Int) else none
def numO (d : Nat) : Option T → Option Nat
  | none => some d
  | some l => num l
def afterO (names : List T) : Option T → Option (List Int)
  | none => some []
  | some l => mapO (place names) (split 44 l)
def onO : Option T → Option T
  | none => some []
  | some [] => none
  | some (x :: l) => some (x :: l)
def toTask (names : List T) (r : Raw) : Option Task :=
  match afterO names r.after, numO 0 r.retry, numO 10 r.wait, numO 1 r.base, onO r.on with
  | some a, some n, some w, some b, some o => some ⟨r.name, a, n, w, b, o⟩
  | _, _, _, _, _ => none
theorem toTask_some {names : List T} {r : Raw} {t : Task} (h : toTask names r = some t) :
    t.name = r.name ∧ afterO names r.after = some t.after ∧ (∃ n : Nat, t.retry = (n : Int) ∧ numO 0 r.retry = some n) ∧ (∃ n : Nat, t.wait = (n : Int) ∧ numO 10 r.wait = some n) ∧ (∃ n : Nat, t.base = (n : Int) ∧ numO 1 r.base = some n) ∧ onO r.on = some t.on := by
  unfold toTask at h
  split at h
  · next a n w b o h1 h2 h3 h4 h5 =>
    injection h with h
    subst h
    exact ⟨rfl, h1, ⟨n, rfl, h2⟩, ⟨w, rfl, h3⟩, ⟨b, rfl, h4⟩, h5⟩
  · cases h
def rawOf (names : List T) (t : Task) : Raw :=
  ⟨t.name, if t.after.isEmpty then none else some (join 44 (t.after.map fun a => names.getD a.toNat [])),
   if t.retry = 0 then none else some (decDigits t.retry.toNat), if t.wait = 10 then none else some (decDigits t.wait.toNat), if t.base = 1 then none else some (decDigits t.base.toNat),
   if t.on.isEmpty then none else some t.on⟩
def taskText (names : List T) (t : Task) : T := join 32 (words (rawOf names t))
/-! ### Which may be -/
def isChar (c : UInt8) : Bool := decide (97 ≤ c.toNat ∧ c.toNat ≤ 122) || decide (48 ≤ c.toNat ∧ c.toNat ≤ 57)
def isName (s : T) : Bool := decide (1 ≤ s.length ∧ s.length ≤ 16) && s.all isChar
def names (d : D) : List T := d.map (·.name)
def nameOk (t : Task) : Bool := isName t.name && (t.on.isEmpty || isName t.on)
def numOk (t : Task) : Bool := decide (0 ≤ t.retry ∧ t.retry ≤ 8 ∧ 1 ≤ t.wait ∧ t.wait ≤ 1000 ∧ 1 ≤ t.base ∧ t.base ≤ 1000)
def afterOk (n i : Nat) (l : List Int) : Bool := decide l.Nodup && l.all fun a => decide (0 ≤ a ∧ a < (n : Int) ∧ a ≠ (i : Int))
def aftersOk (n : Nat) : Nat → D → Bool
  | _, [] => true
  | i, t :: r => afterOk n i t.after && aftersOk n (i + 1) r
/-! ### The graph -/
def addEdge (n i : Nat) (es : Gr.EI) (a : Int) : Gr.EI := if 0 ≤ a ∧ a < (n : Int) ∧ a ≠ (i : Int) ∧ (a, (i : Int)) ∉ es then es ++ [(a, (i : Int))] else es
def addEdges (n i : Nat) (l : List Int) (es : Gr.EI) : Gr.EI := l.foldl (addEdge n i) es
def graphK (n : Nat) : Nat → D → Gr.EI → Gr.EI
  | _, [], es => es
  | i, t :: r, es => graphK n (i + 1) r (addEdges n i t.after es)
def graphI (d : D) : Gr.EI := graphK d.length 0 d []
def good (d : D) : Int :=
  if d.length = 0 ∨ 16 < d.length then 1
  else if d.all nameOk = false then 2
  else if ¬ (names d).Nodup then 5
  else if d.all numOk = false then 1
  else if aftersOk d.length 0 d = false then 1
  else if To.okI d.length (graphI d) = false then 7
  else 0
structure Ok (d : D) : Prop where
  n1 : 1 ≤ d.length
  n16 : d.length ≤ 16
  name : ∀ t ∈ d, nameOk t = true
  once : (names d).Nodup
  nums : ∀ t ∈ d, numOk t = true
  afters : aftersOk d.length 0 d = true
  tree : To.okI d.length (graphI d) = true
theorem good_iff {d : D} : good d = 0 ↔ Ok d := by
  unfold good
  constructor
  · intro h
    split at h
    · cases h
    split at h
    · cases h
    split at h
    · cases h
    split at h
    · cases h
    split at h
    · cases h
    split at h
    · cases h
    next h1 h2 h3 h4 h5 h6 =>
    simp only [Bool.not_eq_false, List.all_eq_true] at h2 h4 h5 h6
    exact ⟨by omega, by omega, h2, by simpa using h3, h4, h5, h6⟩
  · intro h
    have h1 := h.n1
    have h2 := h.n16
    rw [if_neg (by omega), if_neg (by rw [List.all_eq_true.2 h.name]; simp), if_neg (by simpa using h.once), if_neg (by rw [List.all_eq_true.2 h.nums]; simp), if_neg (by rw [h.afters]; simp), if_neg (by rw [h.tree]; simp)]
/-! ### Read and shown -/
def parseD (t : T) : Option D :=
  match mapO (fun s => read (split 32 s)) (split 59 t) with
  | none => none
  | some rs => mapO (toTask (rs.map (·.name))) rs
def parse (t : T) : D × Int :=
  if 1024 < t.length then ([], 14) else match parseD t with
  | none => ([], 2)
  | some d => if good d = 0 then (d, 0) else ([], good d)
def text (d : D) : T := join 59 (d.map (taskText (names d)))
def showT (d : D) : T := if good d = 0 then text d else []
theorem parse_some {t : T} {d : D} (h : parse t = (d, 0)) : t.length ≤ 1024 ∧ parseD t = some d ∧ good d = 0 := by
  unfold parse at h
  split at h
  · cases h
  · next hl =>
    cases hp : parseD t with
    | none => rw [hp] at h; cases h
    | some d2 =>
      rw [hp] at h
      simp only at h
      split at h
      · next hg =>
        injection h with h1 h2
        subst h1
        exact ⟨by omega, rfl, hg⟩
      · next hg =>
        injection h with h1 h2
        exact absurd h2 hg
theorem parse_bad {t : T} {d : D} {e : Int} (h : parse t = (d, e)) (he : e ≠ 0) : d = [] := by
  unfold parse at h
  split at h
  · injection h with h1 h2; exact h1.symm
  · split at h
    · injection h with h1 h2; exact h1.symm
    · split at h
      · injection h with h1 h2; exact absurd h2.symm he
      · injection h with h1 h2; exact h1.symm
theorem parse_of {t : T} {d : D} (hl : t.length ≤ 1024) (hp : parseD t = some d) (hg : good d = 0) : parse t = (d, 0) := by
  unfold parse
  rw [if_neg (by omega), hp]
  simp only
  rw [if_pos hg]
/-- Each task's text is no longer than what it was read from. -/
theorem task_len {nm : List T} {s : T} {r : Raw} {t : Task} (h1 : read (split 32 s) = some r) (h2 : toTask nm r = some t) : (taskText nm t).length ≤ s.length := by
  have hs : join 32 (words r) = s := by rw [words_read h1, join_split]
  rw [← hs]
  obtain ⟨e1, e2, ⟨n, e3, e4⟩, ⟨w, e5, e6⟩, ⟨b, e7, e8⟩, e9⟩ := toTask_some h2
  have sub : ∀ (k : T) (a b : Option T), (a = none ∨ a = b) → (optW k a).Sublist (optW k b) := fun k a b h => by
    rcases h with rfl | rfl
    · exact List.nil_sublist _
    · exact List.Sublist.refl _
  have nums : ∀ (d : Nat) (o : Option T) (v : Nat) (z : Int), z = (v : Int) → numO d o = some v → ((if z = (d : Int) then none else some (decDigits z.toNat)) = none ∨ (if z = (d : Int) then none else some (decDigits z.toNat)) = o) := fun d o v z hz ho => by
    subst hz
    by_cases hd : (v : Int) = (d : Int)
    · rw [if_pos hd]; exact .inl rfl
    · rw [if_neg hd]
      cases o with
      | none => simp only [numO, Option.some.injEq] at ho; omega
      | some l =>
        right
        rw [(num_some ho).1, Int.toNat_natCast]
  unfold taskText
  apply join_sub
  unfold words rawOf
  simp only
  rw [e1]
  refine List.Sublist.cons_cons _ ((sub _ _ _ ?_).append ((sub _ _ _ ?_).append ((sub _ _ _ ?_).append ((sub _ _ _ ?_).append ((sub _ _ _ ?_).append (List.Sublist.refl _))))))
  · cases ha : r.after with
    | none =>
      rw [ha] at e2
      simp only [afterO, Option.some.injEq] at e2
      rw [← e2]
      exact .inl rfl
    | some l =>
      rw [ha] at e2
      simp only [afterO] at e2
      right
      have hne : t.after.isEmpty = false := by
        rw [List.isEmpty_eq_false_iff]
        intro h
        have := mapO_len e2
        rw [h] at this
        exact split_ne 44 l (List.length_eq_zero_iff.1 this.symm)
      rw [hne]
      simp only [Bool.false_eq_true, if_false]
      congr 1
      rw [← join_split 44 l]
      congr 1
      have hm := mapO_iff.1 e2
      have hlen := mapO_len e2
      apply List.ext_getElem (by simpa using hlen)
      intro i h3 h4
      have hi : i < t.after.length := by simpa using h3
      have h5 := mapO_get e2 h4 hi
      rw [List.getElem_map]
      unfold place at h5
      split at h5
      · next hmem =>
        injection h5 with h5
        rw [← h5, Int.toNat_natCast, List.getD_eq_getElem?_getD, List.getElem?_eq_getElem (List.idxOf_lt_length_iff.2 hmem)]
        exact List.getElem_idxOf _
      · cases h5
  · have := nums 0 r.retry n t.retry e3 e4
    simpa using this
  · have := nums 10 r.wait w t.wait e5 e6
    simpa using this
  · have := nums 1 r.base b t.base e7 e8
    simpa using this
  · cases ho : r.on with
    | none =>
      rw [ho] at e9
      simp only [onO, Option.some.injEq] at e9
      rw [← e9]
      exact .inl rfl
    | some l =>
      rw [ho] at e9
      cases l with
      | nil => cases e9
      | cons x l =>
        simp only [onO, Option.some.injEq] at e9
        rw [← e9]
        exact .inr rfl
end Go.Proofs.YtkfopjhgkbbkiaaDoor.Df
/-
  A definition that may be is read from its own text as itself; its graph.
-/
namespace Go.Proofs.YtkfopjhgkbbkiaaDoor.Df
open Tx Go.Lib
theorem name_char {s : T} (h : isName s = true) : ∀ c ∈ s, isChar c = true := by
  unfold isName at h
  rw [Bool.and_eq_true, List.all_eq_true] at h
  exact h.2
theorem name_free {s : T} {c : UInt8} (h : isName s = true) (hc : isChar c = false) : c ∉ s := fun hm => by
  have := name_char h c hm
  rw [hc] at this; cases this
theorem dec_free {n : Nat} {c : UInt8} (hc : Pl.isDig c = false) : c ∉ decDigits n := fun hm => by
  have := List.all_eq_true.1 (Pl.dec_all n) c hm
  rw [hc] at this; cases this
theorem optW_free {c : UInt8} {k : T} {o : Option T} (hk : c ∉ k) (ho : ∀ v, o = some v → c ∉ v) : ∀ w ∈ optW k o, c ∉ w := fun w hw => by
  cases o with
  | none => simp [optW] at hw
  | some v =>
    simp only [optW, List.mem_singleton] at hw
    subst hw
    rw [List.mem_append]
    exact fun h => h.elim hk (ho v rfl)
structure Free (c : UInt8) (r : Raw) : Prop where
  name : c ∉ r.name
  after : ∀ v, r.after = some v → c ∉ v
  retry : ∀ v, r.retry = some v → c ∉ v
  wait : ∀ v, r.wait = some v → c ∉ v
  base : ∀ v, r.base = some v → c ∉ v
  on : ∀ v, r.on = some v → c ∉ v
theorem words_free {c : UInt8} {r : Raw} (hA : c ∉ kA) (hR : c ∉ kR) (hW : c ∉ kW) (hB : c ∉ kB) (hO : c ∉ kO) (h : Free c r) : ∀ w ∈ words r, c ∉ w := fun w hw => by
  unfold words at hw
  rcases List.mem_cons.1 hw with rfl | hw
  · exact h.name
  rcases List.mem_append.1 hw with hw | hw
  · exact optW_free hA h.after w hw
  rcases List.mem_append.1 hw with hw | hw
  · exact optW_free hR h.retry w hw
  rcases List.mem_append.1 hw with hw | hw
  · exact optW_free hW h.wait w hw
  rcases List.mem_append.1 hw with hw | hw
  · exact optW_free hB h.base w hw
  rcases List.mem_append.1 hw with hw | hw
  · exact optW_free hO h.on w hw
  · simp at hw
theorem raw_free {c : UInt8} {nm : List T} {t : Task} (hc : isChar c = false) (hd : Pl.isDig c = false) (h44 : c ≠ 44) (ht : nameOk t = true) (hn : ∀ s ∈ nm, isName s = true) : Free c (rawOf nm t) := by
  unfold nameOk at ht
  rw [Bool.and_eq_true] at ht
  have num : ∀ (z d : Int) v, (if z = d then none else some (decDigits z.toNat)) = some v → c ∉ v := fun z d v h => by
    split at h
    · cases h
    · injection h with h
      rw [← h]; exact dec_free hd
  refine ⟨name_free ht.1 hc, fun v hv => ?_, num _ _, num _ _, num _ _, fun v hv => ?_⟩
  · unfold rawOf at hv
    simp only at hv
    split at hv
    · cases hv
    · injection hv with hv
      rw [← hv]
      refine join_free h44 fun p hp => ?_
      obtain ⟨a, _, rfl⟩ := List.mem_map.1 hp
      rw [List.getD_eq_getElem?_getD]
      rcases Nat.lt_or_ge a.toNat nm.length with h | h
      · rw [List.getElem?_eq_getElem h]
        exact name_free (hn _ (List.getElem_mem h)) hc
      · rw [List.getElem?_eq_none h]; simp
  · unfold rawOf at hv
    simp only at hv
    split at hv
    · cases hv
    · next he =>
      injection hv with hv
      rw [← hv]
      have h2 := ht.2
      rw [Bool.or_eq_true] at h2
      exact name_free (h2.resolve_left he) hc
theorem aftersOk_iff {n : Nat} : ∀ {d : D} {k : Nat}, aftersOk n k d = true ↔ ∀ i (hi : i < d.length), afterOk n (k + i) d[i].after = true
  | [], k => by simp [aftersOk]
  | t :: r, k => by
    unfold aftersOk
    rw [Bool.and_eq_true, aftersOk_iff]
    constructor
    · rintro ⟨h1, h2⟩ i hi
      cases i with
      | zero => exact h1
      | succ i =>
        have := h2 i (by simpa using hi)
        rw [show k + (i + 1) = k + 1 + i by omega]
        exact this
    · intro h
      refine ⟨h 0 (by simp), fun i hi => ?_⟩
      have := h (i + 1) (by simpa using hi)
      rw [show k + (i + 1) = k + 1 + i by omega] at this
      exact this
theorem afterOk_iff {n i : Nat} {l : List Int} : afterOk n i l = true ↔ l.Nodup ∧ ∀ a ∈ l, 0 ≤ a ∧ a < (n : Int) ∧ a ≠ (i : Int) := by
  unfold afterOk
  rw [Bool.and_eq_true, decide_eq_true_eq, List.all_eq_true]
  simp only [decide_eq_true_eq]
theorem Ok.after {d : D} (h : Ok d) {i : Nat} (hi : i < d.length) : d[i].after.Nodup ∧ ∀ a ∈ d[i].after, 0 ≤ a ∧ a < (d.length : Int) ∧ a ≠ (i : Int) := by
  have := aftersOk_iff.1 h.afters i hi
  rw [Nat.zero_add] at this
  exact afterOk_iff.1 this
theorem Ok.names {d : D} (h : Ok d) : ∀ s ∈ names d, isName s = true := fun s hs => by
  obtain ⟨t, ht, rfl⟩ := List.mem_map.1 hs
  have := h.name t ht
  unfold nameOk at this
  rw [Bool.and_eq_true] at this
  exact this.1
theorem place_at {nm : List T} (ho : nm.Nodup) {a : Int} (h0 : 0 ≤ a) (h1 : a < (nm.length : Int)) : place nm (nm.getD a.toNat []) = some a := by
  have hl : a.toNat < nm.length := by omega
  rw [List.getD_eq_getElem?_getD, List.getElem?_eq_getElem hl]
  show place nm nm[a.toNat] = some a
  unfold place
  rw [if_pos (List.getElem_mem hl), ho.idxOf_getElem]
  congr 1
  omega
theorem toTask_raw {nm : List T} {t : Task} (ho : nm.Nodup) (ha : ∀ a ∈ t.after, 0 ≤ a ∧ a < (nm.length : Int)) (hn : numOk t = true) (hN : ∀ s ∈ nm, isName s = true) : toTask nm (rawOf nm t) = some t := by
  unfold numOk at hn
  rw [decide_eq_true_eq] at hn
  have num : ∀ (z : Int) (d : Nat), 0 ≤ z → z ≤ 9999 → numO d (if z = (d : Int) then none else some (decDigits z.toNat)) = some z.toNat := fun z d h0 h1 => by
    by_cases h : z = (d : Int)
    · rw [if_pos h, h]; rfl
    · rw [if_neg h]
      exact num_dec (by omega)
  have hA : afterO nm (rawOf nm t).after = some t.after := by
    unfold rawOf
    simp only
    by_cases he : t.after = []
    · rw [he]; rfl
    · rw [if_neg (by simpa using he)]
      show mapO (place nm) (split 44 (join 44 _)) = _
      rw [split_join (by simpa using he) (fun p hp => by
        obtain ⟨a, hm, rfl⟩ := List.mem_map.1 hp
        have hl : a.toNat < nm.length := by have := ha a hm; omega
        rw [List.getD_eq_getElem?_getD, List.getElem?_eq_getElem hl]
        exact name_free (hN _ (List.getElem_mem hl)) (by decide)), mapO_iff, List.map_map]
      apply List.map_congr_left
      intro a hm
      exact place_at ho (ha a hm).1 (ha a hm).2
  have hO : onO (rawOf nm t).on = some t.on := by
    unfold rawOf
    simp only
    cases ho : t.on with
    | nil => rfl
    | cons x l => rfl
  have h1 := num t.retry 0 hn.1 (by omega)
  have h2 := num t.wait 10 (by omega) (by omega)
  have h3 := num t.base 1 (by omega) (by omega)
  have e1 : numO 0 (rawOf nm t).retry = some t.retry.toNat := h1
  have e2 : numO 10 (rawOf nm t).wait = some t.wait.toNat := h2
  have e3 : numO 1 (rawOf nm t).base = some t.base.toNat := h3
  unfold toTask
  rw [hA, e1, e2, e3, hO]
  simp only
  rw [Int.toNat_of_nonneg hn.1, Int.toNat_of_nonneg (by omega), Int.toNat_of_nonneg (by omega)]
  rfl
theorem names_len (d : D) : (names d).length = d.length := List.length_map _
theorem text_read {d : D} (h : Ok d) : parseD (text d) = some d := by
  have hne : d ≠ [] := fun e => by have := h.n1; rw [e] at this; simp at this
  have hw : ∀ t ∈ d, ∀ c : UInt8, isChar c = false → Pl.isDig c = false → c ≠ 44 → Free c (rawOf (names d) t) := fun t ht c h1 h2 h3 => raw_free h1 h2 h3 (h.name t ht) h.names
  have hs : split 59 (text d) = d.map (taskText (names d)) := by
    unfold text
    refine split_join (by simpa using hne) fun p hp => ?_
    obtain ⟨t, ht, rfl⟩ := List.mem_map.1 hp
    exact join_free (by decide) (words_free (by decide) (by decide) (by decide) (by decide) (by decide) (hw t ht 59 (by decide) (by decide) (by decide)))
  have hr : mapO (fun s => read (split 32 s)) (split 59 (text d)) = some (d.map (rawOf (names d))) := by
    rw [hs, mapO_iff, List.map_map, List.map_map]
    apply List.map_congr_left
    intro t ht
    show read (split 32 (join 32 (words _))) = some _
    rw [split_join (by unfold words; simp) (words_free (by decide) (by decide) (by decide) (by decide) (by decide) (hw t ht 32 (by decide) (by decide) (by decide))), read_words]
  have hn : (d.map (rawOf (names d))).map (·.name) = names d := by
    rw [List.map_map]; rfl
  unfold parseD
  rw [hr]
  simp only
  rw [hn, mapO_iff, List.map_map]
  apply List.map_congr_left
  intro t ht
  obtain ⟨i, hi, rfl⟩ := List.getElem_of_mem ht
  exact toTask_raw h.once (fun a ha => by
    have := (h.after hi).2 a ha
    rw [names_len]; exact ⟨this.1, this.2.1⟩) (h.nums _ ht) h.names
theorem jl_le : ∀ {a b : List T}, a.length = b.length → (∀ i (h1 : i < a.length) (h2 : i < b.length), a[i].length ≤ b[i].length) → jl a ≤ jl b
  | [], [], _, _ => Nat.le_refl _
  | [], _ :: _, h, _ => by simp at h
  | _ :: _, [], h, _ => by simp at h
  | x :: a, y :: b, h, hl => by
    have h0 := hl 0 (by simp) (by simp)
    have h1 := jl_le (a := a) (b := b) (by simpa using h) fun i h1 h2 => by
      have := hl (i + 1) (by simpa using h1) (by simpa using h2)
      simpa using this
    simp only [jl]
    simp only [List.getElem_cons_zero] at h0
    omega
theorem text_len {t : T} {d : D} (h : parseD t = some d) : (text d).length ≤ t.length := by
  unfold parseD at h
  cases hr : mapO (fun s => read (split 32 s)) (split 59 t) with
  | none => rw [hr] at h; cases h
  | some rs =>
    rw [hr] at h
    simp only at h
    have l1 := mapO_len hr
    have l2 := mapO_len h
    have hn : names d = rs.map (·.name) := by
      unfold names
      apply List.ext_getElem (by simpa using l2)
      intro i h1 h2
      rw [List.getElem_map, List.getElem_map]
      exact (toTask_some (mapO_get h (by simpa using h2) (by simpa using h1))).1
    rw [← join_split 59 t]
    unfold text
    rw [join_len, join_len]
    have := jl_le (a := d.map (taskText (names d))) (b := split 59 t) (by rw [List.length_map]; omega) fun i h1 h2 => by
      rw [List.getElem_map]
      have hi : i < d.length := by simpa using h1
      have q := task_len (mapO_get hr h2 (by omega)) (mapO_get h (by omega) hi)
      rw [← hn] at q
      exact q
    omega
/-- What the law asks: read, shown, read again. -/
theorem parse_back {t : T} {d : D} (h : parse t = (d, 0)) : Ok d ∧ showT d = text d ∧ (text d).length ≤ t.length ∧ parse (text d) = (d, 0) := by
  obtain ⟨h1, h2, h3⟩ := parse_some h
  have hk := good_iff.1 h3
  have hl := text_len h2
  exact ⟨hk, by unfold showT; rw [if_pos h3], hl, parse_of (by omega) (text_read hk) h3⟩
/-! ### The graph -/
theorem mem_addEdge {n i : Nat} {es : Gr.EI} {a : Int} {e : Int × Int} : e ∈ addEdge n i es a ↔ e ∈ es ∨ (e = (a, (i : Int)) ∧ 0 ≤ a ∧ a < (n : Int) ∧ a ≠ (i : Int)) := by
  unfold addEdge
  split
  · next h =>
    rw [List.mem_append, List.mem_singleton]
    exact ⟨fun h2 => h2.elim .inl fun h2 => .inr ⟨h2, h.1, h.2.1, h.2.2.1⟩, fun h2 => h2.elim .inl fun h2 => .inr h2.1⟩
  · next h =>
    refine ⟨.inl, fun h2 => h2.elim id fun h2 => ?_⟩
    apply Classical.byContradiction
    intro hm
    exact h ⟨h2.2.1, h2.2.2.1, h2.2.2.2, by rw [← h2.1]; exact hm⟩
theorem mem_addEdges {n i : Nat} : ∀ {l : List Int} {es : Gr.EI} {e : Int × Int}, e ∈ addEdges n i l es ↔ e ∈ es ∨ (e.2 = (i : Int) ∧ e.1 ∈ l ∧ 0 ≤ e.1 ∧ e.1 < (n : Int) ∧ e.1 ≠ (i : Int))
  | [], es, e => by simp [addEdges]
  | a :: l, es, e => by
    show e ∈ addEdges n i l (addEdge n i es a) ↔ _
    rw [mem_addEdges, mem_addEdge]
    constructor
    · rintro ((h | ⟨rfl, h⟩) | ⟨h1, h2, h3⟩)
      · exact .inl h
      · exact .inr ⟨rfl, by simp, h⟩
      · exact .inr ⟨h1, List.mem_cons_of_mem _ h2, h3⟩
    · rintro (h | ⟨h1, h2, h3⟩)
      · exact .inl (.inl h)
      · rcases List.mem_cons.1 h2 with h6 | h6
        · obtain ⟨x, y⟩ := e
          simp only at h1 h3 h6
          subst h1 h6
          exact .inl (.inr ⟨rfl, h3⟩)
        · exact .inr ⟨h1, h6, h3⟩
theorem addEdge_nodup {n i : Nat} {es : Gr.EI} {a : Int} (h : es.Nodup) : (addEdge n i es a).Nodup := by
  unfold addEdge
  split
  · next hc =>
    refine List.nodup_append.2 ⟨h, by simp, fun x hx y hy hxy => ?_⟩
    simp only [List.mem_singleton] at hy
    rw [hxy, hy] at hx
    exact hc.2.2.2 hx
  · exact h
theorem addEdges_nodup {n i : Nat} : ∀ {l : List Int} {es : Gr.EI}, es.Nodup → (addEdges n i l es).Nodup
  | [], _, h => h
  | _ :: l, _, h => addEdges_nodup (l := l) (addEdge_nodup h)
theorem mem_graphK {n : Nat} : ∀ {d : D} {k : Nat} {es : Gr.EI} {e : Int × Int}, e ∈ graphK n k d es ↔ e ∈ es ∨ ∃ i, ∃ hi : i < d.length, e.2 = ((k + i : Nat) : Int) ∧ e.1 ∈ d[i].after ∧ 0 ≤ e.1 ∧ e.1 < (n : Int) ∧ e.1 ≠ ((k + i : Nat) : Int)
  | [], k, es, e => by simp [graphK]
  | t :: r, k, es, e => by
    show e ∈ graphK n (k + 1) r (addEdges n k t.after es) ↔ _
    rw [mem_graphK, mem_addEdges]
    constructor
    · rintro ((h | h) | ⟨i, hi, h⟩)
      · exact .inl h
      · exact .inr ⟨0, by simp, h⟩
      · refine .inr ⟨i + 1, by simpa using hi, ?_⟩
        rw [show k + (i + 1) = k + 1 + i by omega]
        exact h
    · rintro (h | ⟨i, hi, h⟩)
      · exact .inl (.inl h)
      · cases i with
        | zero => exact .inl (.inr h)
        | succ i =>
          refine .inr ⟨i, by simpa using hi, ?_⟩
          rw [show k + (i + 1) = k + 1 + i by omega] at h
          exact h
theorem mem_graph {d : D} {e : Int × Int} : e ∈ graphI d ↔ ∃ i, ∃ hi : i < d.length, e.2 = (i : Int) ∧ e.1 ∈ d[i].after ∧ 0 ≤ e.1 ∧ e.1 < (d.length : Int) ∧ e.1 ≠ (i : Int) := by
  unfold graphI
  rw [mem_graphK]
  simp
theorem graphK_nodup {n : Nat} : ∀ {d : D} {k : Nat} {es : Gr.EI}, es.Nodup → (graphK n k d es).Nodup
  | [], _, _, h => h
  | _ :: r, _, _, h => graphK_nodup (d := r) (addEdges_nodup h)
theorem graph_good {d : D} (h : d.length ≤ 16) : Gr.Good (d.length : Int) (graphI d) := by
  refine ⟨by omega, by omega, fun e he => ?_, graphK_nodup List.nodup_nil⟩
  obtain ⟨i, hi, h1, h2, h3, h4, h5⟩ := mem_graph.1 he
  rw [h1]
  exact ⟨h3, h4, by omega, by omega, h5⟩
theorem Ok.edge {d : D} (h : Ok d) {i : Nat} (hi : i < d.length) {a : Int} (ha : a ∈ d[i].after) : (a, (i : Int)) ∈ graphI d := by
  have := (h.after hi).2 a ha
  exact mem_graph.2 ⟨i, hi, rfl, ha, this.1, this.2.1, this.2.2⟩
end Go.Proofs.YtkfopjhgkbbkiaaDoor.Df
/-
  Definitions of workflows in memory: a slice of structs of six cells, each with a slice of ints.
-/
namespace Go.Proofs.YtkfopjhgkbbkiaaDoor
open Go.RowKit
def str (t : Tx.T) : ByteArray := ⟨t.toArray⟩
theorem str_list (b : ByteArray) : str b.data.toList = b := by cases b; rfl
theorem str_inj {s t : Tx.T} : str s = str t ↔ s = t := by
  unfold str
  rw [ByteArray.mk.injEq]
  exact ⟨fun h => by have := congrArg Array.toList h; simpa using this, fun h => by rw [h]⟩
def numIn (t : Df.Task) : Prop := inI t.retry ∧ inI t.wait ∧ inI t.base
/-- The struct at offset o of block b is the task t, whose row of ints lies below B. -/
def TaskAt (w : World) (B b o : Nat) (t : Df.Task) : Prop :=
  ∃ A cap, w.cell? ⟨b, o, none⟩ = some (.string (str t.name)) ∧ w.cell? ⟨b, o + 1, none⟩ = some (.slice A t.after.length cap) ∧ w.cell? ⟨b, o + 2, none⟩ = some (.int .i64 t.retry) ∧
    w.cell? ⟨b, o + 3, none⟩ = some (.int .i64 t.wait) ∧ w.cell? ⟨b, o + 4, none⟩ = some (.int .i64 t.base) ∧ w.cell? ⟨b, o + 5, none⟩ = some (.string (str t.on)) ∧ Zs w B A t.after ∧ t.after.length ≤ cap
def DefIn (w : World) (B : Nat) (A : Option Addr) (d : Df.D) : Prop :=
  (∀ t ∈ d, numIn t) ∧ (0 < d.length → ∃ b off, A = some ⟨b, off, none⟩ ∧ b < B ∧ ∀ i (hi : i < d.length), TaskAt w B b (off + i * 6) d[i])
theorem TaskAt.below {w w' : World} {B b o : Nat} {t : Df.Task} (hb : b < B) (h : TaskAt w B b o t) (hB : Below B w w') : TaskAt w' B b o t := by
  obtain ⟨A, cap, h0, h1, h2, h3, h4, h5, h6, h7⟩ := h
  exact ⟨A, cap, (hB.cell (p := ⟨b, _, none⟩) hb).trans h0, (hB.cell (p := ⟨b, _, none⟩) hb).trans h1, (hB.cell (p := ⟨b, _, none⟩) hb).trans h2, (hB.cell (p := ⟨b, _, none⟩) hb).trans h3, (hB.cell (p := ⟨b, _, none⟩) hb).trans h4, (hB.cell (p := ⟨b, _, none⟩) hb).trans h5, h6.below hB, h7⟩
theorem TaskAt.more {w : World} {B B' b o : Nat} {t : Df.Task} (h : TaskAt w B b o t) (hB : B ≤ B') : TaskAt w B' b o t := by
  obtain ⟨A, cap, h0, h1, h2, h3, h4, h5, h6, h7⟩ := h
  exact ⟨A, cap, h0, h1, h2, h3, h4, h5, h6.more hB, h7⟩
theorem DefIn.below {w w' : World} {B : Nat} {A : Option Addr} {d : Df.D} (h : DefIn w B A d) (hb : Below B w w') : DefIn w' B A d :=
  ⟨h.1, fun hn => by
    obtain ⟨b, off, e, hl, hc⟩ := h.2 hn
    exact ⟨b, off, e, hl, fun i hi => (hc i hi).below hl hb⟩⟩
theorem DefIn.more {w : World} {B B' : Nat} {A : Option Addr} {d : Df.D} (h : DefIn w B A d) (hB : B ≤ B') : DefIn w B' A d :=
  ⟨h.1, fun hn => by
    obtain ⟨b, off, e, hl, hc⟩ := h.2 hn
    exact ⟨b, off, e, Nat.lt_of_lt_of_le hl hB, fun i hi => (hc i hi).more hB⟩⟩
theorem DefIn.on {w w' : World} {A : Option Addr} {d : Df.D} (h : DefIn w w.heap.size A d) (hb : Below w.heap.size w w') : DefIn w' w'.heap.size A d := (h.below hb).more hb.size
theorem DefIn.nil_ {w : World} {B : Nat} {A : Option Addr} : DefIn w B A [] := ⟨fun t h => by simp at h, fun h => by simp at h⟩
theorem DefIn.at_ {w : World} {B : Nat} {A : Option Addr} {d : Df.D} {k : Nat} (h : DefIn w B A d) (hk : k < d.length) :
    ∃ b off A2 c2 t, A = some ⟨b, off, none⟩ ∧ Hid (b < B) ∧ Hid (d[k]? = some t) ∧ Hid (Zs w B A2 t.after) ∧ Hid (t.after.length ≤ c2) ∧ Hid (numIn t) ∧
      w.cell? ⟨b, off + k * 6, none⟩ = some (.string (str t.name)) ∧ w.cell? ⟨b, off + k * 6 + 1, none⟩ = some (.slice A2 t.after.length c2) ∧ w.cell? ⟨b, off + k * 6 + 2, none⟩ = some (.int .i64 t.retry) ∧
      w.cell? ⟨b, off + k * 6 + 3, none⟩ = some (.int .i64 t.wait) ∧ w.cell? ⟨b, off + k * 6 + 4, none⟩ = some (.int .i64 t.base) ∧ w.cell? ⟨b, off + k * 6 + 5, none⟩ = some (.string (str t.on)) := by
  obtain ⟨b, off, e, hb, hc⟩ := h.2 (by omega)
  obtain ⟨A2, c2, h0, h1, h2, h3, h4, h5, h6, h7⟩ := hc k hk
  exact ⟨b, off, A2, c2, d[k], e, Lib.hid hb, Lib.hid (List.getElem?_eq_getElem hk), Lib.hid h6, Lib.hid h7, Lib.hid (h.1 _ (List.getElem_mem hk)), h0, h1, h2, h3, h4, h5⟩
/-! ### Rows of the call's own -/
/-- The cells of a task, its row of ints at p. -/
def taskV (t : Df.Task) (p : Option Addr × Nat) : List Value := [.string (str t.name), .slice p.1 t.after.length p.2, .int .i64 t.retry, .int .i64 t.wait, .int .i64 t.base, .string (str t.on)]
theorem taskV_wide {vs : List (Df.Task × (Option Addr × Nat))} : Wide 6 (vs.map fun x => taskV x.1 x.2) := fun v hv => by
  obtain ⟨x, _, rfl⟩ := List.mem_map.1 hv
  exact ⟨rfl, fun u hu => by simp [taskV] at hu; rcases hu with rfl | rfl | rfl | rfl | rfl | rfl <;> rfl⟩
/-- A row of tasks of the call's own: the structs in its own block, the rows of ints below B. -/
structure OwnD (w : World) (base B : Nat) (T : TypeId) (A : Option Addr) (cap : Nat) (vs : List (Df.Task × (Option Addr × Nat))) : Prop where
  row : OwnK w base T 6 A cap (vs.map fun x => taskV x.1 x.2)
  ints : ∀ x ∈ vs, Zs w B x.2.1 x.1.after ∧ x.1.after.length ≤ x.2.2
  nums : ∀ x ∈ vs, numIn x.1
theorem OwnD.none_ (w : World) (base B : Nat) (T : TypeId) : OwnD w base B T none 0 [] := ⟨OwnK.none_ w base T 6, fun x h => by simp at h, fun x h => by simp at h⟩
theorem OwnD.defIn {w : World} {base B : Nat} {T : TypeId} {A : Option Addr} {cap : Nat} {vs : List (Df.Task × (Option Addr × Nat))} (h : OwnD w base B T A cap vs) (hB : B ≤ w.heap.size) : DefIn w w.heap.size A (vs.map (·.1)) := by
  refine ⟨fun t ht => ?_, fun hn => ?_⟩
  · obtain ⟨x, hx, rfl⟩ := List.mem_map.1 ht
    exact h.nums x hx
  · obtain ⟨g, rfl, _, hg⟩ := h.row.shape (by simpa using hn)
    refine ⟨g, 0, rfl, hg, fun i hi => ?_⟩
    have hi2 : i < vs.length := by simpa using hi
    have key : ∀ (j : Nat) (u : Value), j < 6 → (taskV vs[i].1 vs[i].2)[j]? = some u → w.cell? ⟨g, 0 + i * 6 + j, none⟩ = some u := fun j u hj hu => by
      rw [Nat.zero_add]
      refine h.row.cell (by simpa using hi2) hj ?_
      rw [List.getD_eq_getElem?_getD, List.getElem?_map, List.getElem?_eq_getElem hi2]
      exact hu
    obtain ⟨z1, z2⟩ := h.ints vs[i] (List.getElem_mem hi2)
    rw [List.getElem_map]
    exact ⟨_, _, key 0 _ (by decide) rfl, key 1 _ (by decide) rfl, key 2 _ (by decide) rfl, key 3 _ (by decide) rfl, key 4 _ (by decide) rfl, key 5 _ (by decide) rfl, z1.more hB, z2⟩
end Go.Proofs.YtkfopjhgkbbkiaaDoor
/-
  The examples of chapter 12 in plain words.
-/
namespace Go.Proofs.YtkfopjhgkbbkiaaDoor.Df
open Tx Go.Lib
set_option maxRecDepth 20000
theorem bad0 : parse [] = ([], 2) := by decide +kernel
theorem bad1 : parse [59] = ([], 2) := by decide +kernel
theorem bad2 : parse [97, 59] = ([], 2) := by decide +kernel
theorem bad3 : parse [65] = ([], 2) := by decide +kernel
theorem bad4 : parse [97, 32, 32, 114, 101, 116, 114, 121, 61, 49] = ([], 2) := by decide +kernel
theorem bad5 : parse [32, 97] = ([], 2) := by decide +kernel
theorem bad6 : parse [97, 32] = ([], 2) := by decide +kernel
theorem bad7 : parse [97, 32, 114, 101, 116, 114, 121] = ([], 2) := by decide +kernel
theorem bad8 : parse [97, 32, 114, 101, 116, 114, 121, 61] = ([], 2) := by decide +kernel
theorem bad9 : parse [97, 32, 114, 101, 116, 114, 121, 61, 48, 49] = ([], 2) := by decide +kernel
theorem bad10 : parse [97, 32, 114, 101, 116, 114, 121, 61, 49, 50, 51, 52, 53] = ([], 2) := by decide +kernel
theorem bad11 : parse [97, 32, 114, 101, 116, 114, 121, 61, 49, 32, 114, 101, 116, 114, 121, 61, 50] = ([], 2) := by decide +kernel
theorem bad12 : parse [97, 32, 114, 101, 116, 114, 121, 61, 49, 32, 97, 102, 116, 101, 114, 61, 97] = ([], 2) := by decide +kernel
theorem bad13 : parse [97, 32, 97, 102, 116, 101, 114, 61, 120] = ([], 2) := by decide +kernel
theorem bad14 : parse [97, 32, 97, 102, 116, 101, 114, 61] = ([], 2) := by decide +kernel
theorem bad15 : parse [97, 32, 97, 102, 116, 101, 114, 61, 98, 44, 59, 98] = ([], 2) := by decide +kernel
theorem bad16 : parse [97, 32, 111, 110, 61] = ([], 2) := by decide +kernel
theorem bad17 : parse [97, 32, 111, 110, 61, 66] = ([], 2) := by decide +kernel
theorem bad18 : parse [97, 32, 119, 104, 97, 116, 61, 49] = ([], 2) := by decide +kernel
theorem bad19 : parse [97, 98, 99, 100, 101, 102, 103, 104, 105, 106, 107, 108, 109, 110, 111, 112, 113] = ([], 2) := by decide +kernel
theorem oth0 : parse [116, 48, 59, 116, 48, 49, 59, 116, 48, 50, 59, 116, 48, 51, 59, 116, 48, 52, 59, 116, 48, 53, 59, 116, 48, 54, 59, 116, 48, 55, 59, 116, 48, 56, 59, 116, 48, 57, 59, 116, 49, 48, 59, 116, 49, 49, 59, 116, 49, 50, 59, 116, 49, 51, 59, 116, 49, 52, 59, 116, 49, 53, 59, 116, 49, 54] = ([], 1) := by decide +kernel
theorem oth1 : parse [97, 59, 97] = ([], 5) := by decide +kernel
theorem oth2 : parse [97, 32, 114, 101, 116, 114, 121, 61, 57] = ([], 1) := by decide +kernel
theorem oth3 : parse [97, 32, 119, 97, 105, 116, 61, 48] = ([], 1) := by decide +kernel
theorem oth4 : parse [97, 32, 98, 97, 115, 101, 61, 49, 48, 48, 49] = ([], 1) := by decide +kernel
theorem oth5 : parse [97, 32, 97, 102, 116, 101, 114, 61, 97] = ([], 1) := by decide +kernel
theorem oth6 : parse [97, 59, 98, 32, 97, 102, 116, 101, 114, 61, 97, 44, 97] = ([], 1) := by decide +kernel
theorem oth7 : parse [97, 32, 97, 102, 116, 101, 114, 61, 98, 59, 98, 32, 97, 102, 116, 101, 114, 61, 97] = ([], 7) := by decide +kernel
theorem oth8 : parse [97, 32, 119, 97, 105, 116, 61, 48, 59, 97] = ([], 5) := by decide +kernel
def awakeD : D := [⟨[97], [], 0, 10, 1, []⟩, ⟨[98], [0], 2, 10, 1, []⟩]
theorem awake_p : parse [97, 59, 98, 32, 97, 102, 116, 101, 114, 61, 97, 32, 114, 101, 116, 114, 121, 61, 50] = (awakeD, 0) := by decide +kernel
def knD : D := [⟨[120], [], 0, 5, 1, [103, 111]⟩, ⟨[121], [0, 2], 0, 10, 3, []⟩, ⟨[122], [], 0, 10, 1, []⟩]
theorem kn_p : parse [120, 32, 119, 97, 105, 116, 61, 53, 32, 111, 110, 61, 103, 111, 59, 121, 32, 97, 102, 116, 101, 114, 61, 120, 44, 122, 32, 98, 97, 115, 101, 61, 51, 59, 122] = (knD, 0) := by decide +kernel
theorem kn_g : graphI knD = [(0, 1), (2, 1)] := by decide +kernel
def badD : D := [⟨[97], [1, 1, 0, 7], 0, 10, 1, []⟩, ⟨[98], [], 0, 10, 1, []⟩]
theorem badD_good : good badD = 1 := by decide +kernel
theorem badD_graph : graphI badD = [(1, 0)] := by decide +kernel
theorem noD_good : good [] = 1 := by decide +kernel
theorem badD_show : showT badD = [] := by unfold showT; rw [badD_good]; rfl
theorem a1_name : isName [97, 49] = true := by decide +kernel
theorem awake_s : showT awakeD = [97, 59, 98, 32, 97, 102, 116, 101, 114, 61, 97, 32, 114, 101, 116, 114, 121, 61, 50] := by
  have h : good awakeD = 0 := by decide +kernel
  have e : decDigits 2 = [50] := Pl.dec_small (by decide)
  unfold showT
  rw [if_pos h]
  show join 59 [join 32 (words (rawOf (names awakeD) ⟨[97], [], 0, 10, 1, []⟩)), join 32 (words ⟨[98], some [97], some (decDigits 2), none, none, none⟩)] = _
  rw [e]
  rfl
theorem kn_s : showT knD = [120, 32, 119, 97, 105, 116, 61, 53, 32, 111, 110, 61, 103, 111, 59, 121, 32, 97, 102, 116, 101, 114, 61, 120, 44, 122, 32, 98, 97, 115, 101, 61, 51, 59, 122] := by
  have h : good knD = 0 := by decide +kernel
  have e : decDigits 5 = [53] := Pl.dec_small (by decide)
  have e2 : decDigits 3 = [51] := Pl.dec_small (by decide)
  unfold showT
  rw [if_pos h]
  show join 59 [join 32 (words ⟨[120], none, none, some (decDigits 5), none, some [103, 111]⟩), join 32 (words ⟨[121], some [120, 44, 122], none, none, some (decDigits 3), none⟩), join 32 (words ⟨[122], none, none, none, none, none⟩)] = _
  rw [e, e2]
  rfl
end Go.Proofs.YtkfopjhgkbbkiaaDoor.Df
