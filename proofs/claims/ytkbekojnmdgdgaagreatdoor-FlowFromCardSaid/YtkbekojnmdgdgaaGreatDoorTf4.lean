/-
  Part 4 of the texts behind the law: TDfPlain, TDfBack, TRnPlain, TRnInv, TFwPlain, TFwInv, TFwState, TFwFirst, TDfMem, TRnMem.
-/
import Derived.Test.YtkbekojnmdgdgaaGreatDoorTf1
import Derived.Test.YtkbekojnmdgdgaaGreatDoorTf3
/- DfPlain -/
namespace Go.Proofs.YtkbekojnmdgdgaaGreatDoor.Df
open Tx Go.Lib
def num (l : T) : Option Nat := if !l.isEmpty && decide (l.length ≤ 4) && !(decide (1 < l.length) && l.head? == some 48) && l.all Pl.isDig then some (Pl.valFrom 0 l) else none
theorem num_some {l : T} {v : Nat} (h : num l = some v) : l = decDigits v ∧ v ≤ 9999 := by
 unfold num at h
 split at h
 ·next hc =>
  simp only [Bool.and_eq_true, Bool.not_eq_true', decide_eq_true_eq, List.isEmpty_eq_false_iff] at hc
  injection h with h
  obtain ⟨⟨⟨h1, h2⟩, h3⟩, h4⟩ := hc
  have h5 := Pl.dec_of l.length l rfl h1 h4 (fun hl => by
   rw [decide_eq_true hl, Bool.true_and] at h3
   simpa using h3)
  refine ⟨by rw [← h, h5], ?_⟩
  have h6 := Pl.val_lt l 0 h4
  have h7 : 10 ^ l.length ≤ 10 ^ 4 := Nat.pow_le_pow_right (by decide) h2
  omega
 ·cases h
theorem num_dec {v : Nat} (h : v ≤ 9999) : num (decDigits v) = some v := by
 unfold num
 have h1 := Pl.dec_ne v
 have h2 := Pl.dec_len 4 v (by decide) (by omega)
 have h3 : (decide (1 < (decDigits v).length) && (decDigits v).head? == some 48) = false := by
  by_cases hl : 1 < (decDigits v).length
  ·rw [decide_eq_true hl, Bool.true_and]
   have := Pl.dec_head v (Pl.dec_len1 v hl)
   simpa using this
  ·rw [decide_eq_false hl, Bool.false_and]
 rw [if_pos, Pl.dec_val]
 simp only [Bool.and_eq_true, Bool.not_eq_true', decide_eq_true_eq, List.isEmpty_eq_false_iff]
 exact ⟨⟨⟨h1, h2⟩, h3⟩, Pl.dec_all v⟩
def kA : T := [97, 102, 116, 101, 114, 61]
def kR : T := [114, 101, 116, 114, 121, 61]
def kW : T := [119, 97, 105, 116, 61]
def kB : T := [98, 97, 115, 101, 61]
def kO : T := [111, 110, 61]
def opt (key : T) : List T → Option T × List T
 | [] => (none, [])
 | w :: r => if key.isPrefixOf w then (some (w.drop key.length), r) else (none, w :: r)
def optW (key : T) : Option T → List T
 | none => []
 | some v => [key ++ v]
theorem opt_cons (key w : T) (r : List T) : opt key (w :: r) = if key.isPrefixOf w then (some (w.drop key.length), r) else (none, w :: r) := rfl
theorem opt_back {key : T} {ws : List T} : optW key (opt key ws).1 ++ (opt key ws).2 = ws := by
 cases ws with
 | nil => rfl
 | cons w r =>
  rw [opt_cons]
  by_cases h : key.isPrefixOf w = true
  ·rw [if_pos h]
   obtain ⟨s, hs⟩ := List.isPrefixOf_iff_prefix.1 h
   show (key ++ w.drop key.length) :: r = _
   rw [← hs]
   simp
  ·rw [if_neg h]; rfl
theorem opt_take {key : T} (v : T) (r : List T) : opt key (optW key (some v) ++ r) = (some v, r) := by
 show opt key ((key ++ v) :: r) = _
 rw [opt_cons]
 rw [if_pos (List.isPrefixOf_iff_prefix.2 (List.prefix_append key v))]
 simp
def other (c : UInt8) (ws : List T) : Prop := ∀ w ∈ ws, w.head? ≠ some c
theorem opt_none {c : UInt8} {k : T} {ws : List T} (h : other c ws) : opt (c :: k) ws = (none, ws) := by
 cases ws with
 | nil => rfl
 | cons w r =>
  rw [opt_cons, if_neg]
  intro hp
  obtain ⟨s, hs⟩ := List.isPrefixOf_iff_prefix.1 hp
  exact h w (by simp) (by rw [← hs]; rfl)
theorem opt_words {c : UInt8} {k : T} (o : Option T) {ws : List T} (h : other c ws) : opt (c :: k) (optW (c :: k) o ++ ws) = (o, ws) := by
 cases o with
 | none => exact opt_none h
 | some v => exact opt_take v ws
theorem other_nil (c : UInt8) : other c [] := fun w h => by simp at h
theorem other_app {c d : UInt8} {k : T} {o : Option T} {ws : List T} (hd : d ≠ c) (h : other c ws) : other c (optW (d :: k) o ++ ws) := fun w hw => by
 rcases List.mem_append.1 hw with hw | hw
 ·cases o with
  | none => simp [optW] at hw
  | some v =>
   simp only [optW, List.mem_singleton] at hw
   subst hw
   simpa using hd
 ·exact h w hw
structure Raw where
 name : T
 after : Option T
 retry : Option T
 wait : Option T
 base : Option T
 on : Option T
def words (r : Raw) : List T := r.name :: (optW kA r.after ++ (optW kR r.retry ++ (optW kW r.wait ++ (optW kB r.base ++ (optW kO r.on ++ [])))))
def read : List T → Option Raw
 | [] => none
 | n :: ws =>
  let a := opt kA ws
  let r := opt kR a.2
  let w := opt kW r.2
  let b := opt kB w.2
  let o := opt kO b.2
  if o.2.isEmpty then some ⟨n, a.1, r.1, w.1, b.1, o.1⟩ else none
theorem opt_kA (o : Option T) {ws : List T} (h : other 97 ws) : opt kA (optW kA o ++ ws) = (o, ws) := opt_words o h
theorem opt_kR (o : Option T) {ws : List T} (h : other 114 ws) : opt kR (optW kR o ++ ws) = (o, ws) := opt_words o h
theorem opt_kW (o : Option T) {ws : List T} (h : other 119 ws) : opt kW (optW kW o ++ ws) = (o, ws) := opt_words o h
theorem opt_kB (o : Option T) {ws : List T} (h : other 98 ws) : opt kB (optW kB o ++ ws) = (o, ws) := opt_words o h
theorem opt_kO (o : Option T) {ws : List T} (h : other 111 ws) : opt kO (optW kO o ++ ws) = (o, ws) := opt_words o h
theorem oth_R {c : UInt8} {o : Option T} {ws : List T} (hd : 114 ≠ c) (h : other c ws) : other c (optW kR o ++ ws) := other_app hd h
theorem oth_W {c : UInt8} {o : Option T} {ws : List T} (hd : 119 ≠ c) (h : other c ws) : other c (optW kW o ++ ws) := other_app hd h
theorem oth_B {c : UInt8} {o : Option T} {ws : List T} (hd : 98 ≠ c) (h : other c ws) : other c (optW kB o ++ ws) := other_app hd h
theorem oth_O {c : UInt8} {o : Option T} {ws : List T} (hd : 111 ≠ c) (h : other c ws) : other c (optW kO o ++ ws) := other_app hd h
theorem read_words (r : Raw) : read (words r) = some r := by
 unfold words read
 simp only
 rw [opt_kA r.after (oth_R (by decide) (oth_W (by decide) (oth_B (by decide) (oth_O (by decide) (other_nil 97)))))]
 simp only
 rw [opt_kR r.retry (oth_W (by decide) (oth_B (by decide) (oth_O (by decide) (other_nil 114))))]
 simp only
 rw [opt_kW r.wait (oth_B (by decide) (oth_O (by decide) (other_nil 119)))]
 simp only
 rw [opt_kB r.base (oth_O (by decide) (other_nil 98))]
 simp only
 rw [opt_kO r.on (other_nil 111)]
 rfl
theorem words_read {ws : List T} {r : Raw} (h : read ws = some r) : words r = ws := by
 cases ws with
 | nil => cases h
 | cons n ws =>
  unfold read at h
  simp only at h
  split at h
  ·next he =>
   injection h with h
   subst h
   unfold words
   have he' : (opt kO (opt kB (opt kW (opt kR (opt kA ws).2).2).2).2).2 = [] := List.isEmpty_iff.1 he
   simp only
   rw [← he', opt_back, opt_back, opt_back, opt_back, opt_back]
  ·cases h
structure Task where
 name : T
 after : List Int
 retry : Int
 wait : Int
 base : Int
 on : T
deriving DecidableEq
abbrev D := List Task
def place (names : List T) (x : T) : Option Int := if x ∈ names then some ((names.idxOf x : Nat) : Int) else none
def numO (d : Nat) : Option T → Option Nat
 | none => some d
 | some l => num l
def afterO (names : List T) : Option T → Option (List Int)
 | none => some []
 | some l => mapO (place names) (split 44 l)
def onO : Option T → Option T
 | none => some []
 | some [] => none
 | some (x :: l) => some (x :: l)
def toTask (names : List T) (r : Raw) : Option Task :=
 match afterO names r.after, numO 0 r.retry, numO 10 r.wait, numO 1 r.base, onO r.on with
 | some a, some n, some w, some b, some o => some ⟨r.name, a, n, w, b, o⟩
 | _, _, _, _, _ => none
theorem toTask_some {names : List T} {r : Raw} {t : Task} (h : toTask names r = some t) :
  t.name = r.name ∧ afterO names r.after = some t.after ∧ (∃ n : Nat, t.retry = (n : Int) ∧ numO 0 r.retry = some n) ∧ (∃ n : Nat, t.wait = (n : Int) ∧ numO 10 r.wait = some n) ∧ (∃ n : Nat, t.base = (n : Int) ∧ numO 1 r.base = some n) ∧ onO r.on = some t.on := by
 unfold toTask at h
 split at h
 ·next a n w b o h1 h2 h3 h4 h5 =>
  injection h with h
  subst h
  exact ⟨rfl, h1, ⟨n, rfl, h2⟩, ⟨w, rfl, h3⟩, ⟨b, rfl, h4⟩, h5⟩
 ·cases h
def rawOf (names : List T) (t : Task) : Raw :=
 ⟨t.name, if t.after.isEmpty then none else some (join 44 (t.after.map fun a => names.getD a.toNat [])),
  if t.retry = 0 then none else some (decDigits t.retry.toNat), if t.wait = 10 then none else some (decDigits t.wait.toNat), if t.base = 1 then none else some (decDigits t.base.toNat),
  if t.on.isEmpty then none else some t.on⟩
def taskText (names : List T) (t : Task) : T := join 32 (words (rawOf names t))
def isChar (c : UInt8) : Bool := decide (97 ≤ c.toNat ∧ c.toNat ≤ 122) || decide (48 ≤ c.toNat ∧ c.toNat ≤ 57)
def isName (s : T) : Bool := decide (1 ≤ s.length ∧ s.length ≤ 16) && s.all isChar
def names (d : D) : List T := d.map (·.name)
def nameOk (t : Task) : Bool := isName t.name && (t.on.isEmpty || isName t.on)
def numOk (t : Task) : Bool := decide (0 ≤ t.retry ∧ t.retry ≤ 8 ∧ 1 ≤ t.wait ∧ t.wait ≤ 1000 ∧ 1 ≤ t.base ∧ t.base ≤ 1000)
def afterOk (n i : Nat) (l : List Int) : Bool := decide l.Nodup && l.all fun a => decide (0 ≤ a ∧ a < (n : Int) ∧ a ≠ (i : Int))
def aftersOk (n : Nat) : Nat → D → Bool
 | _, [] => true
 | i, t :: r => afterOk n i t.after && aftersOk n (i + 1) r
def addEdge (n i : Nat) (es : Gr.EI) (a : Int) : Gr.EI := if 0 ≤ a ∧ a < (n : Int) ∧ a ≠ (i : Int) ∧ (a, (i : Int)) ∉ es then es ++ [(a, (i : Int))] else es
def addEdges (n i : Nat) (l : List Int) (es : Gr.EI) : Gr.EI := l.foldl (addEdge n i) es
def graphK (n : Nat) : Nat → D → Gr.EI → Gr.EI
 | _, [], es => es
 | i, t :: r, es => graphK n (i + 1) r (addEdges n i t.after es)
def graphI (d : D) : Gr.EI := graphK d.length 0 d []
def good (d : D) : Int :=
 if d.length = 0 ∨ 16 < d.length then 1
 else if d.all nameOk = false then 2
 else if ¬ (names d).Nodup then 5
 else if d.all numOk = false then 1
 else if aftersOk d.length 0 d = false then 1
 else if To.okI d.length (graphI d) = false then 7
 else 0
structure Ok (d : D) : Prop where
 n1 : 1 ≤ d.length
 n16 : d.length ≤ 16
 name : ∀ t ∈ d, nameOk t = true
 once : (names d).Nodup
 nums : ∀ t ∈ d, numOk t = true
 afters : aftersOk d.length 0 d = true
 tree : To.okI d.length (graphI d) = true
theorem good_iff {d : D} : good d = 0 ↔ Ok d := by
 unfold good
 constructor
 ·intro h
  split at h
  ·cases h
  split at h
  ·cases h
  split at h
  ·cases h
  split at h
  ·cases h
  split at h
  ·cases h
  split at h
  ·cases h
  next h1 h2 h3 h4 h5 h6 =>
  simp only [Bool.not_eq_false, List.all_eq_true] at h2 h4 h5 h6
  exact ⟨by omega, by omega, h2, by simpa using h3, h4, h5, h6⟩
 ·intro h
  have h1 := h.n1
  have h2 := h.n16
  rw [if_neg (by omega), if_neg (by rw [List.all_eq_true.2 h.name]; simp), if_neg (by simpa using h.once), if_neg (by rw [List.all_eq_true.2 h.nums]; simp), if_neg (by rw [h.afters]; simp), if_neg (by rw [h.tree]; simp)]
def parseD (t : T) : Option D :=
 match mapO (fun s => read (split 32 s)) (split 59 t) with
 | none => none
 | some rs => mapO (toTask (rs.map (·.name))) rs
def parse (t : T) : D × Int :=
 if 1024 < t.length then ([], 14) else match parseD t with
 | none => ([], 2)
 | some d => if good d = 0 then (d, 0) else ([], good d)
def text (d : D) : T := join 59 (d.map (taskText (names d)))
def showT (d : D) : T := if good d = 0 then text d else []
theorem parse_some {t : T} {d : D} (h : parse t = (d, 0)) : t.length ≤ 1024 ∧ parseD t = some d ∧ good d = 0 := by
 unfold parse at h
 split at h
 ·cases h
 ·next hl =>
  cases hp : parseD t with
  | none => rw [hp] at h; cases h
  | some d2 =>
   rw [hp] at h
   simp only at h
   split at h
   ·next hg =>
    injection h with h1 h2
    subst h1
    exact ⟨by omega, rfl, hg⟩
   ·next hg =>
    injection h with h1 h2
    exact absurd h2 hg
theorem parse_of {t : T} {d : D} (hl : t.length ≤ 1024) (hp : parseD t = some d) (hg : good d = 0) : parse t = (d, 0) := by
 unfold parse
 rw [if_neg (by omega), hp]
 simp only
 rw [if_pos hg]
theorem task_len {nm : List T} {s : T} {r : Raw} {t : Task} (h1 : read (split 32 s) = some r) (h2 : toTask nm r = some t) : (taskText nm t).length ≤ s.length := by
 have hs : join 32 (words r) = s := by rw [words_read h1, join_split]
 rw [← hs]
 obtain ⟨e1, e2, ⟨n, e3, e4⟩, ⟨w, e5, e6⟩, ⟨b, e7, e8⟩, e9⟩ := toTask_some h2
 have sub : ∀ (k : T) (a b : Option T), (a = none ∨ a = b) → (optW k a).Sublist (optW k b) := fun k a b h => by
  rcases h with rfl | rfl
  ·exact List.nil_sublist _
  ·exact List.Sublist.refl _
 have nums : ∀ (d : Nat) (o : Option T) (v : Nat) (z : Int), z = (v : Int) → numO d o = some v → ((if z = (d : Int) then none else some (decDigits z.toNat)) = none ∨ (if z = (d : Int) then none else some (decDigits z.toNat)) = o) := fun d o v z hz ho => by
  subst hz
  by_cases hd : (v : Int) = (d : Int)
  ·rw [if_pos hd]; exact .inl rfl
  ·rw [if_neg hd]
   cases o with
   | none => simp only [numO, Option.some.injEq] at ho; omega
   | some l =>
    right
    rw [(num_some ho).1, Int.toNat_natCast]
 unfold taskText
 apply join_sub
 unfold words rawOf
 simp only
 rw [e1]
 refine List.Sublist.cons_cons _ ((sub _ _ _ ?_).append ((sub _ _ _ ?_).append ((sub _ _ _ ?_).append ((sub _ _ _ ?_).append ((sub _ _ _ ?_).append (List.Sublist.refl _))))))
 ·cases ha : r.after with
  | none =>
   rw [ha] at e2
   simp only [afterO, Option.some.injEq] at e2
   rw [← e2]
   exact .inl rfl
  | some l =>
   rw [ha] at e2
   simp only [afterO] at e2
   right
   have hne : t.after.isEmpty = false := by
    rw [List.isEmpty_eq_false_iff]
    intro h
    have := mapO_len e2
    rw [h] at this
    exact split_ne 44 l (List.length_eq_zero_iff.1 this.symm)
   rw [hne]
   simp only [Bool.false_eq_true, if_false]
   congr 1
   rw [← join_split 44 l]
   congr 1
   have hm := mapO_iff.1 e2
   have hlen := mapO_len e2
   apply List.ext_getElem (by simpa using hlen)
   intro i h3 h4
   have hi : i < t.after.length := by simpa using h3
   have h5 := mapO_get e2 h4 hi
   rw [List.getElem_map]
   unfold place at h5
   split at h5
   ·next hmem =>
    injection h5 with h5
    rw [← h5, Int.toNat_natCast, List.getD_eq_getElem?_getD, List.getElem?_eq_getElem (List.idxOf_lt_length_iff.2 hmem)]
    exact List.getElem_idxOf _
   ·cases h5
 ·have := nums 0 r.retry n t.retry e3 e4
  simpa using this
 ·have := nums 10 r.wait w t.wait e5 e6
  simpa using this
 ·have := nums 1 r.base b t.base e7 e8
  simpa using this
 ·cases ho : r.on with
  | none =>
   rw [ho] at e9
   simp only [onO, Option.some.injEq] at e9
   rw [← e9]
   exact .inl rfl
  | some l =>
   rw [ho] at e9
   cases l with
   | nil => cases e9
   | cons x l =>
    simp only [onO, Option.some.injEq] at e9
    rw [← e9]
    exact .inr rfl
end Go.Proofs.YtkbekojnmdgdgaaGreatDoor.Df
/- DfBack -/
namespace Go.Proofs.YtkbekojnmdgdgaaGreatDoor.Df
open Tx Go.Lib
theorem name_char {s : T} (h : isName s = true) : ∀ c ∈ s, isChar c = true := by
 unfold isName at h
 rw [Bool.and_eq_true, List.all_eq_true] at h
 exact h.2
theorem name_free {s : T} {c : UInt8} (h : isName s = true) (hc : isChar c = false) : c ∉ s := fun hm => by
 have := name_char h c hm
 rw [hc] at this; cases this
theorem dec_free {n : Nat} {c : UInt8} (hc : Pl.isDig c = false) : c ∉ decDigits n := fun hm => by
 have := List.all_eq_true.1 (Pl.dec_all n) c hm
 rw [hc] at this; cases this
theorem optW_free {c : UInt8} {k : T} {o : Option T} (hk : c ∉ k) (ho : ∀ v, o = some v → c ∉ v) : ∀ w ∈ optW k o, c ∉ w := fun w hw => by
 cases o with
 | none => simp [optW] at hw
 | some v =>
  simp only [optW, List.mem_singleton] at hw
  subst hw
  rw [List.mem_append]
  exact fun h => h.elim hk (ho v rfl)
structure Free (c : UInt8) (r : Raw) : Prop where
 name : c ∉ r.name
 after : ∀ v, r.after = some v → c ∉ v
 retry : ∀ v, r.retry = some v → c ∉ v
 wait : ∀ v, r.wait = some v → c ∉ v
 base : ∀ v, r.base = some v → c ∉ v
 on : ∀ v, r.on = some v → c ∉ v
theorem words_free {c : UInt8} {r : Raw} (hA : c ∉ kA) (hR : c ∉ kR) (hW : c ∉ kW) (hB : c ∉ kB) (hO : c ∉ kO) (h : Free c r) : ∀ w ∈ words r, c ∉ w := fun w hw => by
 unfold words at hw
 rcases List.mem_cons.1 hw with rfl | hw
 ·exact h.name
 rcases List.mem_append.1 hw with hw | hw
 ·exact optW_free hA h.after w hw
 rcases List.mem_append.1 hw with hw | hw
 ·exact optW_free hR h.retry w hw
 rcases List.mem_append.1 hw with hw | hw
 ·exact optW_free hW h.wait w hw
 rcases List.mem_append.1 hw with hw | hw
 ·exact optW_free hB h.base w hw
 rcases List.mem_append.1 hw with hw | hw
 ·exact optW_free hO h.on w hw
 ·simp at hw
theorem raw_free {c : UInt8} {nm : List T} {t : Task} (hc : isChar c = false) (hd : Pl.isDig c = false) (h44 : c ≠ 44) (ht : nameOk t = true) (hn : ∀ s ∈ nm, isName s = true) : Free c (rawOf nm t) := by
 unfold nameOk at ht
 rw [Bool.and_eq_true] at ht
 have num : ∀ (z d : Int) v, (if z = d then none else some (decDigits z.toNat)) = some v → c ∉ v := fun z d v h => by
  split at h
  ·cases h
  ·injection h with h
   rw [← h]; exact dec_free hd
 refine ⟨name_free ht.1 hc, fun v hv => ?_, num _ _, num _ _, num _ _, fun v hv => ?_⟩
 ·unfold rawOf at hv
  simp only at hv
  split at hv
  ·cases hv
  ·injection hv with hv
   rw [← hv]
   refine join_free h44 fun p hp => ?_
   obtain ⟨a, _, rfl⟩ := List.mem_map.1 hp
   rw [List.getD_eq_getElem?_getD]
   rcases Nat.lt_or_ge a.toNat nm.length with h | h
   ·rw [List.getElem?_eq_getElem h]
    exact name_free (hn _ (List.getElem_mem h)) hc
   ·rw [List.getElem?_eq_none h]; simp
 ·unfold rawOf at hv
  simp only at hv
  split at hv
  ·cases hv
  ·next he =>
   injection hv with hv
   rw [← hv]
   have h2 := ht.2
   rw [Bool.or_eq_true] at h2
   exact name_free (h2.resolve_left he) hc
theorem aftersOk_iff {n : Nat} : ∀ {d : D} {k : Nat}, aftersOk n k d = true ↔ ∀ i (hi : i < d.length), afterOk n (k + i) d[i].after = true
 | [], k => by simp [aftersOk]
 | t :: r, k => by
  unfold aftersOk
  rw [Bool.and_eq_true, aftersOk_iff]
  constructor
  ·rintro ⟨h1, h2⟩ i hi
   cases i with
   | zero => exact h1
   | succ i =>
    have := h2 i (by simpa using hi)
    rw [show k + (i + 1) = k + 1 + i by omega]
    exact this
  ·intro h
   refine ⟨h 0 (by simp), fun i hi => ?_⟩
   have := h (i + 1) (by simpa using hi)
   rw [show k + (i + 1) = k + 1 + i by omega] at this
   exact this
theorem afterOk_iff {n i : Nat} {l : List Int} : afterOk n i l = true ↔ l.Nodup ∧ ∀ a ∈ l, 0 ≤ a ∧ a < (n : Int) ∧ a ≠ (i : Int) := by
 unfold afterOk
 rw [Bool.and_eq_true, decide_eq_true_eq, List.all_eq_true]
 simp only [decide_eq_true_eq]
theorem Ok.after {d : D} (h : Ok d) {i : Nat} (hi : i < d.length) : d[i].after.Nodup ∧ ∀ a ∈ d[i].after, 0 ≤ a ∧ a < (d.length : Int) ∧ a ≠ (i : Int) := by
 have := aftersOk_iff.1 h.afters i hi
 rw [Nat.zero_add] at this
 exact afterOk_iff.1 this
theorem Ok.names {d : D} (h : Ok d) : ∀ s ∈ names d, isName s = true := fun s hs => by
 obtain ⟨t, ht, rfl⟩ := List.mem_map.1 hs
 have := h.name t ht
 unfold nameOk at this
 rw [Bool.and_eq_true] at this
 exact this.1
theorem place_at {nm : List T} (ho : nm.Nodup) {a : Int} (h0 : 0 ≤ a) (h1 : a < (nm.length : Int)) : place nm (nm.getD a.toNat []) = some a := by
 have hl : a.toNat < nm.length := by omega
 rw [List.getD_eq_getElem?_getD, List.getElem?_eq_getElem hl]
 show place nm nm[a.toNat] = some a
 unfold place
 rw [if_pos (List.getElem_mem hl), ho.idxOf_getElem]
 congr 1
 omega
theorem toTask_raw {nm : List T} {t : Task} (ho : nm.Nodup) (ha : ∀ a ∈ t.after, 0 ≤ a ∧ a < (nm.length : Int)) (hn : numOk t = true) (hN : ∀ s ∈ nm, isName s = true) : toTask nm (rawOf nm t) = some t := by
 unfold numOk at hn
 rw [decide_eq_true_eq] at hn
 have num : ∀ (z : Int) (d : Nat), 0 ≤ z → z ≤ 9999 → numO d (if z = (d : Int) then none else some (decDigits z.toNat)) = some z.toNat := fun z d h0 h1 => by
  by_cases h : z = (d : Int)
  ·rw [if_pos h, h]; rfl
  ·rw [if_neg h]
   exact num_dec (by omega)
 have hA : afterO nm (rawOf nm t).after = some t.after := by
  unfold rawOf
  simp only
  by_cases he : t.after = []
  ·rw [he]; rfl
  ·rw [if_neg (by simpa using he)]
   show mapO (place nm) (split 44 (join 44 _)) = _
   rw [split_join (by simpa using he) (fun p hp => by
    obtain ⟨a, hm, rfl⟩ := List.mem_map.1 hp
    have hl : a.toNat < nm.length := by have := ha a hm; omega
    rw [List.getD_eq_getElem?_getD, List.getElem?_eq_getElem hl]
    exact name_free (hN _ (List.getElem_mem hl)) (by decide)), mapO_iff, List.map_map]
   apply List.map_congr_left
   intro a hm
   exact place_at ho (ha a hm).1 (ha a hm).2
 have hO : onO (rawOf nm t).on = some t.on := by
  unfold rawOf
  simp only
  cases ho : t.on with
  | nil => rfl
  | cons x l => rfl
 have h1 := num t.retry 0 hn.1 (by omega)
 have h2 := num t.wait 10 (by omega) (by omega)
 have h3 := num t.base 1 (by omega) (by omega)
 have e1 : numO 0 (rawOf nm t).retry = some t.retry.toNat := h1
 have e2 : numO 10 (rawOf nm t).wait = some t.wait.toNat := h2
 have e3 : numO 1 (rawOf nm t).base = some t.base.toNat := h3
 unfold toTask
 rw [hA, e1, e2, e3, hO]
 simp only
 rw [Int.toNat_of_nonneg hn.1, Int.toNat_of_nonneg (by omega), Int.toNat_of_nonneg (by omega)]
 rfl
theorem names_len (d : D) : (names d).length = d.length := List.length_map _
theorem text_read {d : D} (h : Ok d) : parseD (text d) = some d := by
 have hne : d ≠ [] := fun e => by have := h.n1; rw [e] at this; simp at this
 have hw : ∀ t ∈ d, ∀ c : UInt8, isChar c = false → Pl.isDig c = false → c ≠ 44 → Free c (rawOf (names d) t) := fun t ht c h1 h2 h3 => raw_free h1 h2 h3 (h.name t ht) h.names
 have hs : split 59 (text d) = d.map (taskText (names d)) := by
  unfold text
  refine split_join (by simpa using hne) fun p hp => ?_
  obtain ⟨t, ht, rfl⟩ := List.mem_map.1 hp
  exact join_free (by decide) (words_free (by decide) (by decide) (by decide) (by decide) (by decide) (hw t ht 59 (by decide) (by decide) (by decide)))
 have hr : mapO (fun s => read (split 32 s)) (split 59 (text d)) = some (d.map (rawOf (names d))) := by
  rw [hs, mapO_iff, List.map_map, List.map_map]
  apply List.map_congr_left
  intro t ht
  show read (split 32 (join 32 (words _))) = some _
  rw [split_join (by unfold words; simp) (words_free (by decide) (by decide) (by decide) (by decide) (by decide) (hw t ht 32 (by decide) (by decide) (by decide))), read_words]
 have hn : (d.map (rawOf (names d))).map (·.name) = names d := by
  rw [List.map_map]; rfl
 unfold parseD
 rw [hr]
 simp only
 rw [hn, mapO_iff, List.map_map]
 apply List.map_congr_left
 intro t ht
 obtain ⟨i, hi, rfl⟩ := List.getElem_of_mem ht
 exact toTask_raw h.once (fun a ha => by
  have := (h.after hi).2 a ha
  rw [names_len]; exact ⟨this.1, this.2.1⟩) (h.nums _ ht) h.names
theorem jl_le : ∀ {a b : List T}, a.length = b.length → (∀ i (h1 : i < a.length) (h2 : i < b.length), a[i].length ≤ b[i].length) → jl a ≤ jl b
 | [], [], _, _ => Nat.le_refl _
 | [], _ :: _, h, _ => by simp at h
 | _ :: _, [], h, _ => by simp at h
 | x :: a, y :: b, h, hl => by
  have h0 := hl 0 (by simp) (by simp)
  have h1 := jl_le (a := a) (b := b) (by simpa using h) fun i h1 h2 => by
   have := hl (i + 1) (by simpa using h1) (by simpa using h2)
   simpa using this
  simp only [jl]
  simp only [List.getElem_cons_zero] at h0
  omega
theorem text_len {t : T} {d : D} (h : parseD t = some d) : (text d).length ≤ t.length := by
 unfold parseD at h
 cases hr : mapO (fun s => read (split 32 s)) (split 59 t) with
 | none => rw [hr] at h; cases h
 | some rs =>
  rw [hr] at h
  simp only at h
  have l1 := mapO_len hr
  have l2 := mapO_len h
  have hn : names d = rs.map (·.name) := by
   unfold names
   apply List.ext_getElem (by simpa using l2)
   intro i h1 h2
   rw [List.getElem_map, List.getElem_map]
   exact (toTask_some (mapO_get h (by simpa using h2) (by simpa using h1))).1
  rw [← join_split 59 t]
  unfold text
  rw [join_len, join_len]
  have := jl_le (a := d.map (taskText (names d))) (b := split 59 t) (by rw [List.length_map]; omega) fun i h1 h2 => by
   rw [List.getElem_map]
   have hi : i < d.length := by simpa using h1
   have q := task_len (mapO_get hr h2 (by omega)) (mapO_get h (by omega) hi)
   rw [← hn] at q
   exact q
  omega
theorem parse_back {t : T} {d : D} (h : parse t = (d, 0)) : Ok d ∧ showT d = text d ∧ (text d).length ≤ t.length ∧ parse (text d) = (d, 0) := by
 obtain ⟨h1, h2, h3⟩ := parse_some h
 have hk := good_iff.1 h3
 have hl := text_len h2
 exact ⟨hk, by unfold showT; rw [if_pos h3], hl, parse_of (by omega) (text_read hk) h3⟩
end Go.Proofs.YtkbekojnmdgdgaaGreatDoor.Df
/- RnPlain -/
namespace Go.Proofs.YtkbekojnmdgdgaaGreatDoor.Rn
structure Tk where
 ph : Int
 tr : Int
 un : Int
 da : Tx.T
deriving DecidableEq
structure R where
 d : Df.D
 st : Int
 ts : List Tk
 sg : List Tx.T
deriving DecidableEq
def r0 : R := ⟨[], 0, [], []⟩
def t0 : Tk := ⟨0, 0, 0, []⟩
def tz : Df.Task := ⟨[], [], 0, 0, 0, []⟩
def phase (ts : List Tk) (a : Int) : Int := (ts.getD a.toNat t0).ph
def tk (r : R) (a : Int) : Tk := r.ts.getD a.toNat t0
def df (r : R) (a : Int) : Df.Task := r.d.getD a.toNat tz
def free (ts : List Tk) (sg : List Tx.T) (t : Df.Task) : Bool := (t.after.all fun a => decide (phase ts a = 3)) && (t.on.isEmpty || decide (t.on ∈ sg))
def upT (ts : List Tk) (sg : List Tx.T) (t : Df.Task) (k : Tk) : Tk := if k.ph = 0 ∧ free ts sg t = true then ⟨1, k.tr, k.un, k.da⟩ else k
def allDone (ts : List Tk) : Bool := ts.all fun k => decide (k.ph = 3)
def upd (r : R) : R := ⟨r.d, if allDone r.ts = true then 1 else r.st, List.zipWith (upT r.ts r.sg) r.d r.ts, r.sg⟩
def setT (r : R) (a : Int) (k : Tk) : R := ⟨r.d, r.st, r.ts.set a.toNat k, r.sg⟩
def newS (d : Df.D) : R := upd ⟨d, 0, List.replicate d.length t0, []⟩
def newV (d : Df.D) : R × Int := if Df.good d = 0 then (newS d, 0) else (r0, Df.good d)
def mayE (r : R) (a : Int) : Int := if a < 0 ∨ (r.ts.length : Int) ≤ a then 1 else if r.st ≠ 0 then 9 else 0
def leaseE (r : R) (a x : Int) : Int := if mayE r a ≠ 0 then mayE r a else if (tk r a).ph ≠ 1 then 4 else if x ≠ (tk r a).tr + 1 then 8 else 0
def leaseS (r : R) (a x now : Int) : R := setT r a ⟨2, x, now + (df r a).wait, []⟩
def leaseV (r : R) (a x now : Int) : R × Int := if leaseE r a x = 0 then (leaseS r a x now, 0) else (r0, leaseE r a x)
def heldE (r : R) (a x : Int) : Int := if mayE r a ≠ 0 then mayE r a else if (tk r a).ph ≠ 2 ∨ (tk r a).tr ≠ x then 8 else 0
def doneS (r : R) (a x : Int) (s : Tx.T) : R := upd (setT r a ⟨3, x, 0, s⟩)
def doneV (r : R) (a x : Int) (s : Tx.T) : R × Int := if heldE r a x = 0 then (doneS r a x s, 0) else (r0, heldE r a x)
def delay (b x : Int) : Int := (Bk.dl b.toNat x.toNat : Nat)
def failsS (r : R) (a now : Int) : R :=
 if (tk r a).tr ≤ (df r a).retry then setT r a ⟨5, (tk r a).tr, now + delay (df r a).base (tk r a).tr, []⟩ else ⟨r.d, 2, r.ts.set a.toNat ⟨4, (tk r a).tr, 0, []⟩, r.sg⟩
def failV (r : R) (a x now : Int) : R × Int := if heldE r a x = 0 then (failsS r a now, 0) else (r0, heldE r a x)
def tick1 (now : Int) (r : R) (i : Nat) : R :=
 if r.st ≠ 0 then r
 else if now < (tk r (i : Int)).un then r
 else if (tk r (i : Int)).ph = 2 then failsS r (i : Int) now
 else if (tk r (i : Int)).ph = 5 then setT r (i : Int) ⟨1, (tk r (i : Int)).tr, 0, []⟩
 else r
def tickK (r : R) (now : Int) (k : Nat) : R := (List.range k).foldl (tick1 now) r
def tickS (r : R) (now : Int) : R := tickK r now r.ts.length
def sigE (r : R) (s : Tx.T) : Int := if r.st ≠ 0 then 9 else if s ∈ r.sg then 5 else if s = [] ∨ ¬ (∃ t ∈ r.d, t.on = s) then 1 else 0
def sigS (r : R) (s : Tx.T) : R := upd ⟨r.d, r.st, r.ts, r.sg ++ [s]⟩
def sigV (r : R) (s : Tx.T) : R × Int := if sigE r s = 0 then (sigS r s, 0) else (r0, sigE r s)
def cancelV (r : R) : R × Int := if r.st = 0 then (⟨r.d, 3, r.ts, r.sg⟩, 0) else (r0, 9)
def timed (k : Tk) : Bool := decide (k.ph = 2 ∨ k.ph = 5)
def least : List Tk → Option Int
 | [] => none
 | k :: l => match least l with
  | none => if timed k = true then some k.un else none
  | some v => if timed k = true then some (min k.un v) else some v
def nextV (r : R) : Option Int := if r.st = 0 then least r.ts else none
def sameV (a b : R) : Bool := decide (a = b)
end Go.Proofs.YtkbekojnmdgdgaaGreatDoor.Rn
/- RnInv -/
namespace Go.Proofs.YtkbekojnmdgdgaaGreatDoor.Rn
def tickMax : Int := 2305843009213693952
structure TkOk (t : Df.Task) (k : Tk) : Prop where
 ph0 : 0 ≤ k.ph
 ph5 : k.ph ≤ 5
 tr0 : 0 ≤ k.tr
 tr1 : k.tr ≤ t.retry + 1
 wait : k.ph = 0 → k.tr = 0
 ready : k.ph = 1 → k.tr ≤ t.retry
 rest : k.ph = 5 → k.tr ≤ t.retry
 on : k.ph = 2 ∨ k.ph = 5 → 1 ≤ k.tr
 da : k.ph ≠ 3 → k.da = []
 un : k.ph ≠ 2 → k.ph ≠ 5 → k.un = 0
 lo : 0 ≤ k.un
 hi : k.un ≤ 2305843009213757952
 big : k.da.length ≤ 140737488355328
structure Pre (r : R) : Prop where
 good : Df.Ok r.d
 len : r.ts.length = r.d.length
 task : ∀ i (hi : i < r.d.length), TkOk r.d[i] (r.ts.getD i t0)
 pre : ∀ i (hi : i < r.d.length), (r.ts.getD i t0).ph ≠ 0 → ∀ a ∈ r.d[i].after, phase r.ts a = 3
 nodup : r.sg.Nodup
 sigs : ∀ s ∈ r.sg, s ≠ [] ∧ ∃ t ∈ r.d, t.on = s
structure Inv (r : R) : Prop extends Pre r where
 st0 : 0 ≤ r.st
 st3 : r.st ≤ 3
 fin : r.st = 1 ↔ allDone r.ts = true
 settled : r.st = 0 → ∀ i (hi : i < r.d.length), (r.ts.getD i t0).ph = 0 → free r.ts r.sg r.d[i] = false
theorem getD_set {l : List Tk} {i j : Nat} {k : Tk} (hi : i < l.length) : (l.set i k).getD j t0 = if j = i then k else l.getD j t0 := by
 rw [List.getD_eq_getElem?_getD, List.getElem?_set, List.getD_eq_getElem?_getD]
 by_cases h : i = j
 ·subst h; simp [hi]
 ·rw [if_neg h, if_neg (fun e => h e.symm)]
theorem getD_up {d : Df.D} {ts : List Tk} (hl : ts.length = d.length) (f : Df.Task → Tk → Tk) {i : Nat} (hi : i < d.length) : (List.zipWith f d ts).getD i t0 = f d[i] (ts.getD i t0) := by
 rw [List.getD_eq_getElem?_getD, List.getElem?_eq_getElem (by rw [List.length_zipWith]; omega), List.getD_eq_getElem?_getD, List.getElem?_eq_getElem (by omega), List.getElem_zipWith]
 rfl
theorem up_ph {ts : List Tk} {sg : List Tx.T} {t : Df.Task} {k : Tk} : (upT ts sg t k).ph = 3 ↔ k.ph = 3 := by
 unfold upT
 split
 ·next h => simp [h.1]
 ·rfl
theorem allDone_iff {ts : List Tk} : allDone ts = true ↔ ∀ i, i < ts.length → (ts.getD i t0).ph = 3 := by
 unfold allDone
 rw [List.all_eq_true]
 constructor
 ·intro h i hi
  rw [List.getD_eq_getElem?_getD, List.getElem?_eq_getElem hi]
  exact of_decide_eq_true (h _ (List.getElem_mem hi))
 ·intro h k hk
  obtain ⟨i, hi, rfl⟩ := List.getElem_of_mem hk
  have := h i hi
  rw [List.getD_eq_getElem?_getD, List.getElem?_eq_getElem hi] at this
  exact decide_eq_true this
theorem free_iff {ts : List Tk} {sg : List Tx.T} {t : Df.Task} : free ts sg t = true ↔ (∀ a ∈ t.after, phase ts a = 3) ∧ (t.on = [] ∨ t.on ∈ sg) := by
 unfold free
 rw [Bool.and_eq_true, List.all_eq_true, Bool.or_eq_true, List.isEmpty_iff, decide_eq_true_eq]
 constructor
 ·rintro ⟨h, k⟩
  exact ⟨fun a ha => of_decide_eq_true (h a ha), k⟩
 ·rintro ⟨h, k⟩
  exact ⟨fun a ha => decide_eq_true (h a ha), k⟩
def Like (ts ts' : List Tk) : Prop := ts'.length = ts.length ∧ ∀ i, (ts'.getD i t0).ph = 3 ↔ (ts.getD i t0).ph = 3
theorem Like.done {ts ts' : List Tk} (h : Like ts ts') : allDone ts' = allDone ts := by
 rw [Bool.eq_iff_iff, allDone_iff, allDone_iff, h.1]
 exact ⟨fun k i hi => (h.2 i).1 (k i hi), fun k i hi => (h.2 i).2 (k i hi)⟩
theorem Like.phase {ts ts' : List Tk} (h : Like ts ts') (a : Int) : phase ts' a = 3 ↔ phase ts a = 3 := h.2 _
theorem Like.free {ts ts' : List Tk} (h : Like ts ts') (sg : List Tx.T) (t : Df.Task) : free ts' sg t = free ts sg t := by
 rw [Bool.eq_iff_iff, free_iff, free_iff]
 exact ⟨fun ⟨k, m⟩ => ⟨fun a ha => (h.phase a).1 (k a ha), m⟩, fun ⟨k, m⟩ => ⟨fun a ha => (h.phase a).2 (k a ha), m⟩⟩
theorem up_like {d : Df.D} {ts : List Tk} {sg : List Tx.T} (hl : ts.length = d.length) : Like ts (List.zipWith (upT ts sg) d ts) := by
 refine ⟨by rw [List.length_zipWith]; omega, fun i => ?_⟩
 rcases Nat.lt_or_ge i d.length with hi | hi
 ·rw [getD_up hl _ hi]; exact up_ph
 ·rw [List.getD_eq_getElem?_getD, List.getD_eq_getElem?_getD, List.getElem?_eq_none (by rw [List.length_zipWith]; omega), List.getElem?_eq_none (by omega)]
theorem Pre.upd {r : R} (h : Pre r) (h0 : r.st = 0) : Inv (upd r) := by
 have hL := up_like (sg := r.sg) h.len
 have hd := hL.done
 refine ⟨⟨h.good, hL.1.trans h.len, fun i hi => ?_, fun i hi hp a ha => ?_, h.nodup, h.sigs⟩, ?_, ?_, ?_, fun hs i hi hp => ?_⟩
 ·show TkOk r.d[i] ((List.zipWith (upT r.ts r.sg) r.d r.ts).getD i t0)
  rw [getD_up h.len _ hi]
  have hk := h.task i hi
  unfold upT
  split
  ·next hc =>
   have h1 := hk.wait hc.1
   have hn := Df.Ok.nums h.good r.d[i] (List.getElem_mem hi)
   unfold Df.numOk at hn
   rw [decide_eq_true_eq] at hn
   exact ⟨by show (0 : Int) ≤ 1; decide, by show (1 : Int) ≤ 5; decide, hk.tr0, hk.tr1, fun e => by simp at e, fun _ => by show (r.ts.getD i t0).tr ≤ _; omega, fun e => by simp at e, fun e => by simp at e, fun _ => hk.da (by rw [hc.1]; decide), fun _ _ => hk.un (by rw [hc.1]; decide) (by rw [hc.1]; decide), hk.lo, hk.hi, hk.big⟩
  ·exact hk
 ·have hp' : ((List.zipWith (upT r.ts r.sg) r.d r.ts).getD i t0).ph ≠ 0 := hp
  rw [getD_up h.len _ hi] at hp'
  refine (hL.phase a).2 ?_
  by_cases hc : (r.ts.getD i t0).ph = 0 ∧ free r.ts r.sg r.d[i] = true
  ·exact (free_iff.1 hc.2).1 a ha
  ·unfold upT at hp'
   rw [if_neg hc] at hp'
   exact h.pre i hi hp' a ha
 ·show 0 ≤ if allDone r.ts = true then (1 : Int) else r.st
  split <;> omega
 ·show (if allDone r.ts = true then (1 : Int) else r.st) ≤ 3
  split <;> omega
 ·show (if allDone r.ts = true then (1 : Int) else r.st) = 1 ↔ allDone (List.zipWith (upT r.ts r.sg) r.d r.ts) = true
  rw [hd]
  by_cases hc : allDone r.ts = true
  ·simp [hc]
  ·rw [if_neg hc]
   exact ⟨fun e => by omega, fun e => absurd e hc⟩
 ·show free (List.zipWith (upT r.ts r.sg) r.d r.ts) r.sg r.d[i] = false
  rw [hL.free]
  have hp' : ((List.zipWith (upT r.ts r.sg) r.d r.ts).getD i t0).ph = 0 := hp
  rw [getD_up h.len _ hi] at hp'
  cases hf : free r.ts r.sg r.d[i] with
  | false => rfl
  | true =>
   unfold upT at hp'
   by_cases hz : (r.ts.getD i t0).ph = 0
   ·rw [if_pos ⟨hz, hf⟩] at hp'; cases hp'
   ·rw [if_neg (fun e => hz e.1)] at hp'; exact absurd hp' hz
theorem getD_rep (n i : Nat) : (List.replicate n t0).getD i t0 = t0 := by
 rw [List.getD_eq_getElem?_getD, List.getElem?_replicate]
 split <;> rfl
theorem new_pre {d : Df.D} (h : Df.Ok d) : Pre ⟨d, 0, List.replicate d.length t0, []⟩ := by
 refine ⟨h, List.length_replicate, fun i hi => ?_, fun i hi hp => ?_, List.nodup_nil, fun s hs => by simp at hs⟩
 ·show TkOk d[i] ((List.replicate d.length t0).getD i t0)
  rw [getD_rep]
  have hn := Df.Ok.nums h d[i] (List.getElem_mem hi)
  unfold Df.numOk at hn
  rw [decide_eq_true_eq] at hn
  exact ⟨by decide, by decide, by decide, by show (0 : Int) ≤ _; omega, fun _ => rfl, fun e => by simp [t0] at e, fun e => by simp [t0] at e, fun e => by simp [t0] at e, fun _ => rfl, fun _ _ => rfl, by decide, by decide, by decide⟩
 ·exact absurd (by show ((List.replicate d.length t0).getD i t0).ph = 0; rw [getD_rep]; rfl) hp
theorem new_inv {d : Df.D} (h : Df.Ok d) : Inv (newS d) := (new_pre h).upd rfl
theorem set_like {ts : List Tk} {i : Nat} {k : Tk} (hi : i < ts.length) (h : (ts.getD i t0).ph ≠ 3) (h' : k.ph ≠ 3) : Like ts (ts.set i k) :=
 ⟨List.length_set, fun j => by
  rw [getD_set hi]
  by_cases hj : j = i
  ·subst hj; rw [if_pos rfl]; exact ⟨fun e => absurd e h', fun e => absurd e h⟩
  ·rw [if_neg hj]⟩
theorem Inv.ix {r : R} (h : Inv r) {a : Int} (h0 : 0 ≤ a) (h1 : a < (r.ts.length : Int)) : a.toNat < r.ts.length ∧ a.toNat < r.d.length ∧ (a.toNat : Int) = a ∧ df r a = r.d.getD a.toNat tz := by
 have := h.len
 exact ⟨by omega, by omega, by omega, rfl⟩
theorem df_at {r : R} {i : Nat} (hi : i < r.d.length) : r.d.getD i tz = r.d[i] := by
 rw [List.getD_eq_getElem?_getD, List.getElem?_eq_getElem hi]; rfl
theorem Inv.set {r : R} (h : Inv r) {i : Nat} (hi : i < r.d.length) (hs : r.st = 0) {k : Tk} (hk : TkOk r.d[i] k) (h0 : (r.ts.getD i t0).ph ≠ 0) (h0' : k.ph ≠ 0) (h3 : (r.ts.getD i t0).ph ≠ 3) (h3' : k.ph ≠ 3) (st : Int) (hst : st = 0 ∨ st = 2) : Inv ⟨r.d, st, r.ts.set i k, r.sg⟩ := by
 have hl : i < r.ts.length := by rw [h.len]; exact hi
 have hL := set_like hl h3 h3'
 have hnd : ¬ allDone r.ts = true := fun e => by have := h.fin.2 e; omega
 refine ⟨⟨h.good, by show (r.ts.set i k).length = _; rw [List.length_set]; exact h.len, fun j hj => ?_, fun j hj hp a ha => ?_, h.nodup, h.sigs⟩, ?_, ?_, ?_, fun hs' j hj hp => ?_⟩
 ·show TkOk r.d[j] ((r.ts.set i k).getD j t0)
  rw [getD_set hl]
  by_cases e : j = i
  ·subst e; rw [if_pos rfl]; exact hk
  ·rw [if_neg e]; exact h.task j hj
 ·refine (hL.phase a).2 (h.pre j hj ?_ a ha)
  have hp' : ((r.ts.set i k).getD j t0).ph ≠ 0 := hp
  rw [getD_set hl] at hp'
  by_cases e : j = i
  ·subst e; exact h0
  ·rw [if_neg e] at hp'; exact hp'
 ·show 0 ≤ st; omega
 ·show st ≤ 3; omega
 ·show st = 1 ↔ allDone (r.ts.set i k) = true
  rw [hL.done]
  exact ⟨fun e => by omega, fun e => absurd e hnd⟩
 ·show free (r.ts.set i k) r.sg r.d[j] = false
  rw [hL.free]
  have hp' : ((r.ts.set i k).getD j t0).ph = 0 := hp
  rw [getD_set hl] at hp'
  by_cases e : j = i
  ·rw [if_pos e] at hp'; exact absurd hp' h0'
  ·rw [if_neg e] at hp'; exact h.settled hs j hj hp'
theorem Inv.nums {r : R} (h : Inv r) {i : Nat} (hi : i < r.d.length) : 0 ≤ r.d[i].retry ∧ r.d[i].retry ≤ 8 ∧ 1 ≤ r.d[i].wait ∧ r.d[i].wait ≤ 1000 ∧ 1 ≤ r.d[i].base ∧ r.d[i].base ≤ 1000 := by
 have hn := Df.Ok.nums h.good r.d[i] (List.getElem_mem hi)
 unfold Df.numOk at hn
 rw [decide_eq_true_eq] at hn
 exact hn
theorem mayE_ok {r : R} {a : Int} (h : mayE r a = 0) : 0 ≤ a ∧ a < (r.ts.length : Int) ∧ r.st = 0 := by
 unfold mayE at h
 split at h
 ·cases h
 ·split at h
  ·cases h
  ·next h1 h2 => exact ⟨by omega, by omega, by omega⟩
theorem leaseE_ok {r : R} {a x : Int} (h : leaseE r a x = 0) : mayE r a = 0 ∧ (tk r a).ph = 1 ∧ x = (tk r a).tr + 1 := by
 unfold leaseE at h
 split at h
 ·next h1 => exact absurd h h1
 ·next h1 =>
  split at h
  ·cases h
  ·next h2 =>
   split at h
   ·cases h
   ·next h3 => exact ⟨by omega, by omega, by omega⟩
theorem heldE_ok {r : R} {a x : Int} (h : heldE r a x = 0) : mayE r a = 0 ∧ (tk r a).ph = 2 ∧ (tk r a).tr = x := by
 unfold heldE at h
 split at h
 ·next h1 => exact absurd h h1
 ·next h1 =>
  split at h
  ·cases h
  ·next h2 => exact ⟨by omega, by omega, by omega⟩
theorem Inv.lease {r : R} (h : Inv r) {a x now : Int} (he : leaseE r a x = 0) (hn0 : 0 ≤ now) (hn : now ≤ tickMax) : Inv (leaseS r a x now) := by
 obtain ⟨h1, h2, h3⟩ := leaseE_ok he
 obtain ⟨h4, h5, h6⟩ := mayE_ok h1
 obtain ⟨i1, i2, i3, i4⟩ := h.ix h4 h5
 have hk := h.task _ i2
 have hm := h.nums i2
 unfold tk at h2 h3
 have hr := hk.ready h2
 have ht := hk.tr0
 unfold leaseS setT
 unfold tickMax at hn
 rw [i4, df_at i2]
 refine h.set (k := ⟨2, x, now + r.d[a.toNat].wait, []⟩) i2 h6 ?_ (by rw [h2]; decide) (by show (2 : Int) ≠ 0; decide) (by rw [h2]; decide) (by show (2 : Int) ≠ 3; decide) r.st (.inl h6)
 exact ⟨by show (0 : Int) ≤ 2; decide, by show (2 : Int) ≤ 5; decide, by show 0 ≤ x; omega, by show x ≤ _; omega, fun e => by simp at e, fun e => by simp at e, fun e => by simp at e, fun _ => by show 1 ≤ x; omega, fun _ => rfl, fun e => absurd rfl e, by show 0 ≤ now + _; omega, by show now + _ ≤ _; omega, Nat.zero_le _⟩
theorem delay_pos {b x : Int} (hb : 1 ≤ b) : 1 ≤ delay b x ∧ delay b x ≤ 64000 := by
 unfold delay
 have h1 := Bk.dl_pos (b := b.toNat) (by omega) x.toNat
 have h2 := Bk.dl_le b.toNat x.toNat
 omega
theorem Inv.fails {r : R} (h : Inv r) {a now : Int} (hm : mayE r a = 0) (hp : (tk r a).ph = 2) (hn0 : 0 ≤ now) (hn : now ≤ tickMax) : Inv (failsS r a now) := by
 obtain ⟨h4, h5, h6⟩ := mayE_ok hm
 obtain ⟨i1, i2, i3, i4⟩ := h.ix h4 h5
 have hk := h.task _ i2
 have hnum := h.nums i2
 unfold tickMax at hn
 have ht := hk.on (.inl hp)
 have hd := delay_pos (x := (tk r a).tr) hnum.2.2.2.2.1
 have h0 : (r.ts.getD a.toNat t0).ph ≠ 0 := by show (tk r a).ph ≠ 0; rw [hp]; decide
 have h3 : (r.ts.getD a.toNat t0).ph ≠ 3 := by show (tk r a).ph ≠ 3; rw [hp]; decide
 unfold failsS setT
 rw [i4, df_at i2]
 split
 ·next hr =>
  refine h.set i2 h6 ?_ h0 (by show (5 : Int) ≠ 0; decide) h3 (by show (5 : Int) ≠ 3; decide) r.st (.inl h6)
  exact ⟨by show (0 : Int) ≤ 5; decide, by show (5 : Int) ≤ 5; decide, hk.tr0, hk.tr1, fun e => by simp at e, fun e => by simp at e, fun _ => hr, fun _ => ht, fun _ => rfl, fun _ e => absurd rfl e, by show 0 ≤ now + _; omega, by show now + _ ≤ _; omega, Nat.zero_le _⟩
 ·refine h.set i2 h6 ?_ h0 (by show (4 : Int) ≠ 0; decide) h3 (by show (4 : Int) ≠ 3; decide) 2 (.inr rfl)
  exact ⟨by show (0 : Int) ≤ 4; decide, by show (4 : Int) ≤ 5; decide, hk.tr0, hk.tr1, fun e => by simp at e, fun e => by simp at e, fun e => by simp at e, fun e => by simp at e, fun _ => rfl, fun _ _ => rfl, by show (0 : Int) ≤ 0; decide, by show (0 : Int) ≤ _; decide, Nat.zero_le _⟩
theorem Inv.fail {r : R} (h : Inv r) {a x now : Int} (he : heldE r a x = 0) (hn0 : 0 ≤ now) (hn : now ≤ tickMax) : Inv (failsS r a now) := by
 obtain ⟨h1, h2, h3⟩ := heldE_ok he
 exact h.fails h1 h2 hn0 hn
theorem Inv.done {r : R} (h : Inv r) {a x : Int} (he : heldE r a x = 0) (s : Tx.T) (hsz : s.length ≤ 140737488355328) : Inv (doneS r a x s) := by
 obtain ⟨h1, h2, h3⟩ := heldE_ok he
 obtain ⟨h4, h5, h6⟩ := mayE_ok h1
 obtain ⟨i1, i2, i3, i4⟩ := h.ix h4 h5
 have hk := h.task _ i2
 unfold tk at h2 h3
 have ht := hk.on (.inl h2)
 refine Pre.upd (r := setT r a ⟨3, x, 0, s⟩) ⟨h.good, by show (r.ts.set _ _).length = _; rw [List.length_set]; exact h.len, fun j hj => ?_, fun j hj hp b hb => ?_, h.nodup, h.sigs⟩ h6
 ·show TkOk r.d[j] ((r.ts.set a.toNat _).getD j t0)
  rw [getD_set i1]
  by_cases e : j = a.toNat
  ·subst e
   rw [if_pos rfl]
   have h7 := hk.tr1
   exact ⟨by show (0 : Int) ≤ 3; decide, by show (3 : Int) ≤ 5; decide, by show 0 ≤ x; omega, by show x ≤ _; omega, fun e => by simp at e, fun e => by simp at e, fun e => by simp at e, fun e => by simp at e, fun e => absurd rfl e, fun _ _ => rfl, by show (0 : Int) ≤ 0; decide, by show (0 : Int) ≤ _; decide, hsz⟩
  ·rw [if_neg e]; exact h.task j hj
 ·have hp' : ((r.ts.set a.toNat ⟨3, x, 0, s⟩).getD j t0).ph ≠ 0 := hp
  have hj0 : (r.ts.getD j t0).ph ≠ 0 := by
   rw [getD_set i1] at hp'
   by_cases e : j = a.toNat
   ·rw [e, h2]; decide
   ·rw [if_neg e] at hp'; exact hp'
  have := h.pre j hj hj0 b hb
  show ((r.ts.set a.toNat ⟨3, x, 0, s⟩).getD b.toNat t0).ph = 3
  rw [getD_set i1]
  split
  ·rfl
  ·exact this
theorem Inv.sig {r : R} (h : Inv r) {s : Tx.T} (he : sigE r s = 0) : Inv (sigS r s) := by
 unfold sigE at he
 split at he
 ·cases he
 ·next h1 =>
  split at he
  ·cases he
  ·next h2 =>
   split at he
   ·cases he
   ·next h3 =>
    have h4 : s ≠ [] ∧ ∃ t ∈ r.d, t.on = s := ⟨fun e => h3 (.inl e), Classical.byContradiction fun e => h3 (.inr e)⟩
    refine Pre.upd (r := ⟨r.d, r.st, r.ts, r.sg ++ [s]⟩) ⟨h.good, h.len, h.task, h.pre, ?_, fun x hx => ?_⟩ (by show r.st = 0; omega)
    ·show (r.sg ++ [s]).Nodup
     rw [List.nodup_append]
     exact ⟨h.nodup, by simp, fun a ha b hb e => h2 (by rw [List.mem_singleton] at hb; rw [← hb, ← e]; exact ha)⟩
    ·rcases List.mem_append.1 hx with hx | hx
     ·exact h.sigs x hx
     ·rw [List.mem_singleton.1 hx]; exact h4
theorem Inv.cancel {r : R} (h : Inv r) (hs : r.st = 0) : Inv ⟨r.d, 3, r.ts, r.sg⟩ :=
 ⟨⟨h.good, h.len, h.task, h.pre, h.nodup, h.sigs⟩, by show (0 : Int) ≤ 3; decide, by show (3 : Int) ≤ 3; decide, ⟨fun e => by simp at e, fun e => by have := h.fin.2 e; omega⟩, fun e => by simp at e⟩
theorem Inv.tick1 {r : R} (h : Inv r) {now : Int} (hn0 : 0 ≤ now) (hn : now ≤ tickMax) {i : Nat} (hi : i < r.ts.length) : Inv (Rn.tick1 now r i) := by
 unfold Rn.tick1
 split
 ·exact h
 ·next h1 =>
  have hm : mayE r (i : Int) = 0 := by unfold mayE; rw [if_neg (by omega), if_neg (by omega)]
  split
  ·exact h
  ·split
   ·next h2 => exact h.fails hm h2 hn0 hn
   ·split
    ·next h2 =>
     have i2 : i < r.d.length := by rw [← h.len]; exact hi
     have hk := h.task _ i2
     have e : (tk r (i : Int)) = r.ts.getD i t0 := rfl
     rw [e] at h2
     have hr := hk.rest h2
     show Inv ⟨r.d, r.st, r.ts.set (i : Int).toNat ⟨1, (r.ts.getD i t0).tr, 0, []⟩, r.sg⟩
     rw [Int.toNat_natCast]
     refine h.set i2 (by omega) ?_ (by rw [h2]; decide) (by show (1 : Int) ≠ 0; decide) (by rw [h2]; decide) (by show (1 : Int) ≠ 3; decide) r.st (.inl (by omega))
     exact ⟨by show (0 : Int) ≤ 1; decide, by show (1 : Int) ≤ 5; decide, hk.tr0, hk.tr1, fun e => by simp at e, fun _ => hr, fun e => by simp at e, fun e => by simp at e, fun _ => rfl, fun _ _ => rfl, by show (0 : Int) ≤ 0; decide, by show (0 : Int) ≤ _; decide, Nat.zero_le _⟩
    ·exact h
theorem tick1_len (now : Int) (r : R) (i : Nat) : (Rn.tick1 now r i).ts.length = r.ts.length ∧ (Rn.tick1 now r i).d = r.d ∧ (Rn.tick1 now r i).sg = r.sg := by
 unfold Rn.tick1 failsS setT
 repeat' split
 all_goals simp
theorem tickK_next (r : R) (now : Int) (k : Nat) : tickK r now (k + 1) = Rn.tick1 now (tickK r now k) k := by
 unfold tickK
 rw [List.range_succ, List.foldl_append]
 rfl
theorem tickK_len (r : R) (now : Int) : ∀ k, (tickK r now k).ts.length = r.ts.length ∧ (tickK r now k).d = r.d ∧ (tickK r now k).sg = r.sg
 | 0 => ⟨rfl, rfl, rfl⟩
 | k + 1 => by
  rw [tickK_next]
  obtain ⟨h1, h2, h3⟩ := tick1_len now (tickK r now k) k
  obtain ⟨k1, k2, k3⟩ := tickK_len r now k
  exact ⟨h1.trans k1, h2.trans k2, h3.trans k3⟩
theorem Inv.tickK {r : R} (h : Inv r) {now : Int} (hn0 : 0 ≤ now) (hn : now ≤ tickMax) : ∀ k, k ≤ r.ts.length → Inv (Rn.tickK r now k)
 | 0, _ => h
 | k + 1, hk => by
  rw [tickK_next]
  exact (Inv.tickK h hn0 hn k (by omega)).tick1 hn0 hn (by rw [(tickK_len r now k).1]; omega)
end Go.Proofs.YtkbekojnmdgdgaaGreatDoor.Rn
/- FwPlain -/
namespace Go.Proofs.YtkbekojnmdgdgaaGreatDoor.Fw
structure S where
 clock : Int
 defs : List (ByteArray × Df.D)
 runs : List (Rn.R × ByteArray)
 keys : List Ky.T
deriving DecidableEq
def new : S := ⟨0, [], [], []⟩
def lookD (s : S) (n : ByteArray) : Option Df.D := (s.defs.find? fun p => decide (p.1 = n)).map (·.2)
def ks (s : S) : Ky.S := ⟨128, s.keys⟩
def tx (b : ByteArray) : Tx.T := b.data.toList
def defineE (s : S) (e : Ev.E) : Int :=
 if (lookD s e.name).isSome = true then 5 else if (Df.parse (tx e.data)).2 ≠ 0 then (Df.parse (tx e.data)).2 else if 16 ≤ s.defs.length then 6 else 0
def defineS (s : S) (e : Ev.E) : S := { s with defs := s.defs ++ [(e.name, (Df.parse (tx e.data)).1)] }
def startE (s : S) (e : Ev.E) : Int :=
 if (lookD s e.name).isNone = true then 4 else if e.key.size ≠ 0 ∧ Ky.getB (ks s) e.name e.key = true then 5 else if 64 ≤ s.runs.length then 6 else if e.run ≠ s.runs.length + 1 then 1 else 0
def startS (s : S) (e : Ev.E) : S :=
 { s with runs := s.runs ++ [(Rn.newS ((lookD s e.name).getD []), e.name)], keys := if e.key.size = 0 then s.keys else (Ky.putS (ks s) e.name e.key e.run).l }
def run (s : S) (i : Int) : Rn.R := (s.runs.getD (i - 1).toNat (Rn.r0, ⟨#[]⟩)).1
def act (c : Int) (e : Ev.E) (r : Rn.R) : Rn.R × Int :=
 if e.kind = 3 then Rn.leaseV r e.task e.try_ c else if e.kind = 4 then Rn.doneV r e.task e.try_ (tx e.data) else if e.kind = 5 then Rn.failV r e.task e.try_ c else if e.kind = 7 then Rn.sigV r (tx e.name) else Rn.cancelV r
def actE (s : S) (e : Ev.E) : Int := if (s.runs.length : Int) < e.run then 4 else (act s.clock e (run s e.run)).2
def setR (s : S) (i : Int) (r : Rn.R) : S := { s with runs := s.runs.modify (i - 1).toNat fun p => (r, p.2) }
def actS (s : S) (e : Ev.E) : S := setR s e.run (act s.clock e (run s e.run)).1
def tickS (s : S) (n : Int) : S := { s with clock := n, runs := s.runs.map fun p => (Rn.tickS p.1 n, p.2) }
def errV (s : S) (e : Ev.E) : Int :=
 if e.kind = 1 then defineE s e else if e.kind = 2 then startE s e else if e.kind = 6 then (if e.n ≤ s.clock then 10 else 0) else if e.kind = 9 then 0 else actE s e
def err (s : S) (e : Ev.E) : Int := if Ev.good e = true then errV s e else 1
def stepV (s : S) (e : Ev.E) : S :=
 if e.kind = 1 then defineS s e else if e.kind = 2 then startS s e else if e.kind = 6 then tickS s e.n else if e.kind = 9 then s else actS s e
def step (s : S) (e : Ev.E) : S := if err s e = 0 then stepV s e else s
structure RunOk (c : Int) (r : Rn.R) : Prop extends Rn.Inv r where
 until_ : ∀ k ∈ r.ts, k.un ≤ c + 64000
 data : ∀ k ∈ r.ts, k.da.length ≤ 64
structure Inv (s : S) : Prop where
 c0 : 0 ≤ s.clock
 c1 : s.clock ≤ 1099511627776
 dn : (s.defs.map (·.1)).Nodup
 dm : s.defs.length ≤ 16
 dok : ∀ p ∈ s.defs, Nm.isName (tx p.1) = true ∧ Df.Ok p.2 ∧ Df.parse (Df.showT p.2) = (p.2, 0)
 rm : s.runs.length ≤ 64
 rok : ∀ p ∈ s.runs, RunOk s.clock p.1 ∧ lookD s p.2 = some p.1.d
 ki : Ky.Inv (ks s)
 kok : ∀ k ∈ s.keys, 1 ≤ k.key.size ∧ k.key.size ≤ 16 ∧ 1 ≤ k.id ∧ ∃ p, s.runs[(k.id - 1).toNat]? = some p ∧ p.2 = k.name
theorem inv_new : Inv new where
 c0 := by decide
 c1 := by decide
 dn := List.nodup_nil
 dm := by decide
 dok := fun _ h => by cases h
 rm := by decide
 rok := fun _ h => by cases h
 ki := ⟨by decide, by decide, by decide, List.Pairwise.nil⟩
 kok := fun _ h => by cases h
end Go.Proofs.YtkbekojnmdgdgaaGreatDoor.Fw
/- FwInv -/
namespace Go.Proofs.YtkbekojnmdgdgaaGreatDoor.Fw
open Rn
def Bnd (m : Int) (r : R) : Prop := ∀ k ∈ r.ts, k.un ≤ m ∧ k.da.length ≤ 64
theorem Bnd.mono {m m' : Int} {r : R} (h : Bnd m r) (hm : m ≤ m') : Bnd m' r := fun k hk => ⟨Int.le_trans (h k hk).1 hm, (h k hk).2⟩
theorem Bnd.set {m : Int} {d d' : Df.D} {st st' : Int} {ts : List Tk} {sg sg' : List Tx.T} {i : Nat} {k : Tk} (h : Bnd m ⟨d, st, ts, sg⟩) (h1 : k.un ≤ m) (h2 : k.da.length ≤ 64) : Bnd m ⟨d', st', ts.set i k, sg'⟩ := fun x hx => by
 rcases List.mem_or_eq_of_mem_set hx with hx | rfl
 ·exact h x hx
 ·exact ⟨h1, h2⟩
theorem Bnd.upd {m : Int} {r : R} (h : Bnd m r) : Bnd m (Rn.upd r) := fun x hx => by
 have hx' : x ∈ List.zipWith (upT r.ts r.sg) r.d r.ts := hx
 obtain ⟨i, hi, rfl⟩ := List.getElem_of_mem hx'
 rw [List.getElem_zipWith]
 have h1 := h (r.ts[i]'(by rw [List.length_zipWith] at hi; omega)) (List.getElem_mem _)
 unfold upT
 split
 ·exact h1
 ·exact h1
theorem df_nums {r : R} (h : Rn.Inv r) {a : Int} (hm : mayE r a = 0) : 0 ≤ (df r a).retry ∧ 1 ≤ (df r a).wait ∧ (df r a).wait ≤ 1000 ∧ 1 ≤ (df r a).base ∧ (df r a).base ≤ 1000 := by
 obtain ⟨m1, m2, _⟩ := mayE_ok hm
 obtain ⟨_, i2, _, i4⟩ := h.ix m1 m2
 have := h.nums i2
 rw [i4, df_at i2]
 omega
theorem Bnd.lease {r : R} (h : Rn.Inv r) {a x c : Int} (he : leaseE r a x = 0) (hb : Bnd (c + 64000) r) : Bnd (c + 64000) (leaseS r a x c) := by
 have h1 := df_nums h (leaseE_ok he).1
 exact Bnd.set (d := r.d) (st := r.st) (sg := r.sg) hb (by show c + (df r a).wait ≤ _; omega) (Nat.zero_le _)
theorem Bnd.fails {r : R} (h : Rn.Inv r) {a c : Int} (hm : mayE r a = 0) (c0 : 0 ≤ c) (hb : Bnd (c + 64000) r) : Bnd (c + 64000) (failsS r a c) := by
 have h1 := df_nums h hm
 have h2 := delay_pos (x := (tk r a).tr) h1.2.2.2.1
 unfold failsS
 split
 ·exact Bnd.set (d := r.d) (st := r.st) (sg := r.sg) hb (by show c + delay (df r a).base (tk r a).tr ≤ _; omega) (Nat.zero_le _)
 ·exact Bnd.set (d := r.d) (st := r.st) (sg := r.sg) hb (by show (0 : Int) ≤ _; omega) (Nat.zero_le _)
theorem Bnd.done {r : R} {a x c : Int} {s : Tx.T} (c0 : 0 ≤ c) (hs : s.length ≤ 64) (hb : Bnd (c + 64000) r) : Bnd (c + 64000) (doneS r a x s) :=
 Bnd.upd (Bnd.set (d := r.d) (st := r.st) (sg := r.sg) hb (by show (0 : Int) ≤ _; omega) hs)
theorem Bnd.tick1 {r : R} (h : Rn.Inv r) {c : Int} (c0 : 0 ≤ c) {i : Nat} (hi : i < r.ts.length) (hb : Bnd (c + 64000) r) : Bnd (c + 64000) (Rn.tick1 c r i) := by
 unfold Rn.tick1
 split
 ·exact hb
 ·next h1 =>
  have hm : mayE r (i : Int) = 0 := by unfold mayE; rw [if_neg (by omega), if_neg (by omega)]
  split
  ·exact hb
  ·split
   ·exact hb.fails h hm c0
   ·split
    ·exact Bnd.set (d := r.d) (st := r.st) (sg := r.sg) hb (by show (0 : Int) ≤ _; omega) (Nat.zero_le _)
    ·exact hb
theorem Bnd.tickK {r : R} (h : Rn.Inv r) {c : Int} (c0 : 0 ≤ c) (c1 : c ≤ tickMax) (hb : Bnd (c + 64000) r) : ∀ k, k ≤ r.ts.length → Bnd (c + 64000) (Rn.tickK r c k)
 | 0, _ => hb
 | k + 1, hk => by
  rw [tickK_next]
  exact (Bnd.tickK h c0 c1 hb k (by omega)).tick1 (h.tickK c0 c1 k (by omega)) c0 (by rw [(tickK_len r c k).1]; omega)
theorem RunOk.bnd {c : Int} {r : R} (h : RunOk c r) : Bnd (c + 64000) r := fun k hk => ⟨h.until_ k hk, h.data k hk⟩
theorem RunOk.of {c : Int} {r : R} (h : Rn.Inv r) (hb : Bnd (c + 64000) r) : RunOk c r := ⟨h, fun k hk => (hb k hk).1, fun k hk => (hb k hk).2⟩
theorem RunOk.new {c : Int} (c0 : 0 ≤ c) {d : Df.D} (h : Df.Ok d) : RunOk c (newS d) :=
 RunOk.of (new_inv h) (Bnd.upd fun k hk => by
  have : k = t0 := List.eq_of_mem_replicate hk
  subst this
  exact ⟨by show (0 : Int) ≤ _; omega, Nat.zero_le _⟩)
theorem RunOk.tick {c n : Int} {r : R} (h : RunOk c r) (c0 : 0 ≤ c) (hn : c ≤ n) (n1 : n ≤ tickMax) : RunOk n (Rn.tickS r n) :=
 RunOk.of (h.toInv.tickK (by omega) n1 _ (Nat.le_refl _)) (Bnd.tickK h.toInv (by omega) n1 (h.bnd.mono (by omega)) _ (Nat.le_refl _))
theorem RunOk.act {c : Int} {r : R} (h : RunOk c r) (c0 : 0 ≤ c) (c1 : c ≤ 1099511627776) {e : Ev.E} (hd : e.data.size ≤ 64 ∨ e.kind ≠ 4) (he : (Fw.act c e r).2 = 0) : RunOk c (Fw.act c e r).1 ∧ (Fw.act c e r).1.d = r.d := by
 have c2 : c ≤ tickMax := by unfold tickMax; omega
 unfold Fw.act at he ⊢
 by_cases k3 : e.kind = 3
 ·rw [if_pos k3] at he ⊢
  unfold leaseV at he ⊢
  split at he
  ·next hx => rw [if_pos hx]; exact ⟨RunOk.of (h.toInv.lease hx c0 c2) (h.bnd.lease h.toInv hx), rfl⟩
  ·next hx => exact absurd he hx
 rw [if_neg k3] at he ⊢
 by_cases k4 : e.kind = 4
 ·rw [if_pos k4] at he ⊢
  unfold doneV at he ⊢
  have hs : (tx e.data).length ≤ 64 := by
   show e.data.data.toList.length ≤ 64
   rw [Array.length_toList]
   rcases hd with hd | hd
   ·exact hd
   ·exact absurd k4 hd
  split at he
  ·next hx => rw [if_pos hx]; exact ⟨RunOk.of (h.toInv.done hx _ (by omega)) (h.bnd.done c0 hs), rfl⟩
  ·next hx => exact absurd he hx
 rw [if_neg k4] at he ⊢
 by_cases k5 : e.kind = 5
 ·rw [if_pos k5] at he ⊢
  unfold failV at he ⊢
  split at he
  ·next hx =>
   rw [if_pos hx]
   refine ⟨RunOk.of (h.toInv.fail hx c0 c2) (h.bnd.fails h.toInv (heldE_ok hx).1 c0), ?_⟩
   show (failsS r e.task c).d = r.d
   unfold failsS
   split <;> rfl
  ·next hx => exact absurd he hx
 rw [if_neg k5] at he ⊢
 by_cases k7 : e.kind = 7
 ·rw [if_pos k7] at he ⊢
  unfold sigV at he ⊢
  split at he
  ·next hx =>
   rw [if_pos hx]
   exact ⟨RunOk.of (h.toInv.sig hx) (Bnd.upd (r := ⟨r.d, r.st, r.ts, r.sg ++ [tx e.name]⟩) h.bnd), rfl⟩
  ·next hx => exact absurd he hx
 rw [if_neg k7] at he ⊢
 unfold cancelV at he ⊢
 split at he
 ·next hx => rw [if_pos hx]; exact ⟨RunOk.of (h.toInv.cancel hx) h.bnd, rfl⟩
 ·exact absurd he (by decide)
theorem look_mem {s : S} {n : ByteArray} {d : Df.D} (h : lookD s n = some d) : (n, d) ∈ s.defs := by
 unfold lookD at h
 obtain ⟨p, hp, rfl⟩ := Option.map_eq_some_iff.1 h
 have h1 := List.mem_of_find?_eq_some hp
 have h2 := List.find?_some hp
 simp only [decide_eq_true_eq] at h2
 obtain ⟨a, b⟩ := p
 simp only at h2
 subst h2
 exact h1
theorem look_none {s : S} {n : ByteArray} (h : (lookD s n).isSome ≠ true) : n ∉ s.defs.map (·.1) := by
 intro hm
 obtain ⟨p, hp, rfl⟩ := List.mem_map.1 hm
 apply h
 unfold lookD
 rw [Option.isSome_map, List.find?_isSome]
 exact ⟨p, hp, by simp⟩
theorem look_more {s : S} {n : ByteArray} {d : Df.D} (x : ByteArray × Df.D) (h : lookD s n = some d) : lookD { s with defs := s.defs ++ [x] } n = some d := by
 unfold lookD at h ⊢
 simp only
 rw [List.find?_append]
 obtain ⟨p, hp, hd⟩ := Option.map_eq_some_iff.1 h
 rw [hp]
 exact congrArg some hd
theorem data64 {e : Ev.E} (h : Ev.Good e) : e.data.size ≤ 64 ∨ e.kind ≠ 4 := by
 by_cases k4 : e.kind = 4
 ·left
  rcases h.dataIn with ⟨_, h1⟩ | h1
  ·rw [k4] at h1
   have : Ev.most 4 = 64 := rfl
   omega
  ·omega
 ·exact .inr k4
theorem Inv.step {s : S} (h : Inv s) (e : Ev.E) : Inv (step s e) := by
 unfold Fw.step
 split
 case isFalse => exact h
 next he =>
 unfold err at he
 split at he
 case isFalse => exact absurd he (by decide)
 next hg =>
 have hG := Ev.good_iff.1 hg
 unfold errV at he
 unfold stepV
 by_cases k1 : e.kind = 1
 ·rw [if_pos k1] at he ⊢
  unfold defineE at he
  split at he
  ·exact absurd he (by decide)
  next h1 =>
  split at he
  ·next h2 => exact absurd he h2
  next h2 =>
  split at he
  ·exact absurd he (by decide)
  next h3 =>
  have hp : Df.parse (tx e.data) = ((Df.parse (tx e.data)).1, 0) := Prod.ext rfl (by simpa using h2)
  obtain ⟨hok, hsh, _, hpb⟩ := Df.parse_back hp
  rw [← hsh] at hpb
  have hn : Nm.isName (tx e.name) = true := by
   have := hG.name
   unfold Ev.goodName at this
   rw [k1, if_pos (by decide)] at this
   exact this
  unfold defineS
  refine ⟨h.c0, h.c1, ?_, ?_, ?_, h.rm, fun p hp => ⟨(h.rok p hp).1, look_more _ (h.rok p hp).2⟩, h.ki, h.kok⟩
  ·show ((s.defs ++ [(e.name, (Df.parse (tx e.data)).1)]).map (·.1)).Nodup
   rw [List.map_append, List.nodup_append]
   refine ⟨h.dn, by simp, ?_⟩
   intro a ha b hb
   simp only [List.map_cons, List.map_nil, List.mem_singleton] at hb
   subst hb
   rintro rfl
   exact look_none h1 ha
  ·show (s.defs ++ [(e.name, (Df.parse (tx e.data)).1)]).length ≤ 16
   rw [List.length_append, List.length_singleton]; omega
  ·intro p hp
   rcases List.mem_append.1 hp with hp | hp
   ·exact h.dok p hp
   ·obtain rfl := List.mem_singleton.1 hp
    exact ⟨hn, hok, hpb⟩
 rw [if_neg k1] at he ⊢
 by_cases k2 : e.kind = 2
 ·rw [if_pos k2] at he ⊢
  unfold startE at he
  split at he
  ·exact absurd he (by decide)
  next h1 =>
  split at he
  ·exact absurd he (by decide)
  next h2 =>
  split at he
  ·exact absurd he (by decide)
  next h3 =>
  split at he
  ·exact absurd he (by decide)
  next h4 =>
  have h4' : e.run = s.runs.length + 1 := Decidable.not_not.1 h4
  obtain ⟨d, hd⟩ : ∃ d, lookD s e.name = some d := by
   cases hx : lookD s e.name with
   | none => rw [hx] at h1; exact absurd rfl h1
   | some d => exact ⟨d, rfl⟩
  have hok := (h.dok _ (look_mem hd)).2.1
  have hkey : e.key.size ≤ 16 := by rcases hG.keyIn with ⟨_, h⟩ | h <;> omega
  have hrow : ∀ k ∈ s.keys, 1 ≤ k.key.size ∧ k.key.size ≤ 16 ∧ 1 ≤ k.id ∧ ∃ p, (s.runs ++ [(Rn.newS d, e.name)])[(k.id - 1).toNat]? = some p ∧ p.2 = k.name := fun k hk => by
   obtain ⟨q1, q2, q3, p, q4, q5⟩ := h.kok k hk
   exact ⟨q1, q2, q3, p, by rw [List.getElem?_append_left (List.getElem?_eq_some_iff.1 q4).1]; exact q4, q5⟩
  have hnew : ∀ k : Ky.T, k = ⟨e.name, e.key, e.run⟩ → e.key.size ≠ 0 → 1 ≤ k.key.size ∧ k.key.size ≤ 16 ∧ 1 ≤ k.id ∧ ∃ p, (s.runs ++ [(Rn.newS d, e.name)])[(k.id - 1).toNat]? = some p ∧ p.2 = k.name := fun k hk h0 => by
   subst hk
   refine ⟨by show 1 ≤ e.key.size; omega, hkey, by show 1 ≤ e.run; omega, (Rn.newS d, e.name), ?_, rfl⟩
   rw [show ((e.run - 1).toNat) = s.runs.length by rw [h4']; omega]
   simp
  unfold startS
  rw [hd]
  refine ⟨h.c0, h.c1, h.dn, h.dm, h.dok, ?_, ?_, ?_, ?_⟩
  ·show (s.runs ++ [_]).length ≤ 64
   rw [List.length_append, List.length_singleton]; omega
  ·intro p hp
   rcases List.mem_append.1 hp with hp | hp
   ·exact h.rok p hp
   ·obtain rfl := List.mem_singleton.1 hp
    exact ⟨RunOk.new h.c0 hok, hd⟩
  ·show Ky.Inv ⟨128, if e.key.size = 0 then s.keys else (Ky.putS (ks s) e.name e.key e.run).l⟩
   split
   ·exact h.ki
   ·have := h.ki.put e.name e.key e.run
    have hm : (Ky.putS (ks s) e.name e.key e.run).most = 128 := by
     unfold Ky.putS
     split <;> rfl
    rw [← hm]
    exact this
  ·show ∀ k ∈ (if e.key.size = 0 then s.keys else (Ky.putS (ks s) e.name e.key e.run).l), _
   intro k hk
   split at hk
   ·exact hrow k hk
   next h0 =>
   unfold Ky.putS at hk
   split at hk
   ·exact hrow k hk
   ·unfold Ky.pushL at hk
    rcases List.mem_append.1 hk with hk | hk
    ·refine hrow k ?_
     split at hk
     ·exact List.mem_of_mem_drop hk
     ·exact hk
    ·exact hnew k (List.mem_singleton.1 hk) h0
 rw [if_neg k2] at he ⊢
 by_cases k6 : e.kind = 6
 ·rw [if_pos k6] at he ⊢
  split at he
  ·exact absurd he (by decide)
  next h1 =>
  have hn := hG.fits.n
  have hn2 : e.n ≤ tickMax := by unfold tickMax; omega
  unfold tickS
  refine ⟨hn.1, hn.2, h.dn, h.dm, h.dok, ?_, ?_, h.ki, ?_⟩
  ·show (s.runs.map _).length ≤ 64
   rw [List.length_map]; exact h.rm
  ·intro p hp
   obtain ⟨q, hq, rfl⟩ := List.mem_map.1 hp
   obtain ⟨r1, r2⟩ := h.rok q hq
   refine ⟨r1.tick h.c0 (by show s.clock ≤ e.n; omega) hn2, ?_⟩
   show lookD s q.2 = some (Rn.tickS q.1 e.n).d
   rw [r2]
   exact congrArg some (tickK_len q.1 e.n _).2.1.symm
  ·intro k hk
   obtain ⟨q1, q2, q3, p, q4, q5⟩ := h.kok k hk
   exact ⟨q1, q2, q3, (Rn.tickS p.1 e.n, p.2), by show (s.runs.map _)[_]? = _; rw [List.getElem?_map, q4]; rfl, q5⟩
 rw [if_neg k6] at he ⊢
 by_cases k9 : e.kind = 9
 ·rw [if_pos k9]; exact h
 rw [if_neg k9] at he ⊢
 unfold actE at he
 split at he
 ·exact absurd he (by decide)
 next h1 =>
 have hrun : 1 ≤ e.run := by
  have hk := hG.kind
  have hc : e.kind = 3 ∨ e.kind = 4 ∨ e.kind = 5 ∨ e.kind = 7 ∨ e.kind = 8 := by omega
  have hw := Ev.within_in hG.run
  rcases hw with ⟨_, h1, _⟩ | ⟨h1, _⟩
  ·exact h1
  ·rcases hc with hc | hc | hc | hc | hc <;> rw [hc] at h1 <;> exact absurd h1 (by decide)
 have hlt : (e.run - 1).toNat < s.runs.length := by omega
 have hr : run s e.run = (s.runs[(e.run - 1).toNat]).1 := by
  unfold run
  rw [List.getD_eq_getElem?_getD, List.getElem?_eq_getElem hlt]
  rfl
 obtain ⟨r1, r2⟩ := h.rok _ (List.getElem_mem hlt)
 rw [hr] at he
 obtain ⟨a1, a2⟩ := r1.act h.c0 h.c1 (data64 hG) he
 unfold actS setR
 rw [hr]
 refine ⟨h.c0, h.c1, h.dn, h.dm, h.dok, ?_, ?_, h.ki, ?_⟩
 ·show (s.runs.modify _ _).length ≤ 64
  rw [List.length_modify]; exact h.rm
 ·intro p hp
  obtain ⟨i, hi, rfl⟩ := List.getElem_of_mem (show p ∈ s.runs.modify _ _ from hp)
  rw [List.getElem_modify]
  split
  ·next hii =>
   subst hii
   exact ⟨a1, by rw [a2]; exact r2⟩
  ·exact h.rok _ (List.getElem_mem _)
 ·intro k hk
  obtain ⟨q1, q2, q3, p, q4, q5⟩ := h.kok k hk
  refine ⟨q1, q2, q3, ?_⟩
  show ∃ p, (s.runs.modify _ _)[_]? = some p ∧ _
  rw [List.getElem?_modify, q4]
  refine ⟨_, rfl, ?_⟩
  split <;> exact q5
end Go.Proofs.YtkbekojnmdgdgaaGreatDoor.Fw
/- FwState -/
namespace Go.Proofs.YtkbekojnmdgdgaaGreatDoor.Fw
structure St where
 clock : Int
 names : List ByteArray
 texts : List ByteArray
 runs : List Rn.R
 of : List ByteArray
 keys : List Ky.T
def bs (l : Tx.T) : ByteArray := ⟨l.toArray⟩
theorem bs_tx (b : ByteArray) : bs (tx b) = b := by unfold tx bs; simp
def stateV (s : S) : St := ⟨s.clock, s.defs.map (·.1), s.defs.map fun p => bs (Df.showT p.2), s.runs.map (·.1), s.runs.map (·.2), s.keys⟩
def build (t : St) : S := ⟨t.clock, t.names.zip (t.texts.map fun x => (Df.parse (tx x)).1), t.runs.zip t.of, t.keys⟩
structure TkV (c : Df.Task) (k : Rn.Tk) : Prop where
 ph0 : 0 ≤ k.ph
 ph5 : k.ph ≤ 5
 tr0 : 0 ≤ k.tr
 tr1 : k.tr ≤ c.retry + 1
 un : k.ph ≠ 2 → k.ph ≠ 5 → k.un = 0
 lo : 0 ≤ k.un
 hi : k.un ≤ 1099511627776 + 64000
 data : k.da.length ≤ 64
structure RunV (r : Rn.R) : Prop where
 st0 : 0 ≤ r.st
 st3 : r.st ≤ 3
 len : r.ts.length = r.d.length
 task : ∀ i (hi : i < r.d.length), TkV r.d[i] (r.ts.getD i Rn.t0)
 nodup : r.sg.Nodup
 sigs : ∀ s ∈ r.sg, s ≠ [] ∧ ∃ t ∈ r.d, t.on = s
structure Valid (t : St) : Prop where
 c0 : 0 ≤ t.clock
 c1 : t.clock ≤ 1099511627776
 nn : t.names.Nodup
 nm : t.names.length ≤ 16
 nok : ∀ n ∈ t.names, Nm.isName (tx n) = true
 nt : t.texts.length = t.names.length
 tok : ∀ x ∈ t.texts, (Df.parse (tx x)).2 = 0 ∧ bs (Df.showT (Df.parse (tx x)).1) = x
 rm : t.runs.length ≤ 64
 ro : t.of.length = t.runs.length
 rok : ∀ p ∈ t.runs.zip t.of, RunV p.1 ∧ lookD (build t) p.2 = some p.1.d
 ki : Ky.Inv ⟨128, t.keys⟩
 kok : ∀ k ∈ t.keys, 1 ≤ k.key.size ∧ k.key.size ≤ 16 ∧ 1 ≤ k.id ∧ ∃ p, (t.runs.zip t.of)[(k.id - 1).toNat]? = some p ∧ p.2 = k.name
theorem Valid.told {t : St} (h : Valid t) : stateV (build t) = t := by
 obtain ⟨c, ns, xs, rs, os, kk⟩ := t
 have h1 := h.nt
 have h2 := h.ro
 simp only at h1 h2
 unfold stateV build
 simp only
 congr 1
 ·exact List.map_fst_zip (by rw [List.length_map]; omega)
 ·have e : (ns.zip (xs.map fun x => (Df.parse (tx x)).1)).map (fun p => bs (Df.showT p.2)) = ((ns.zip (xs.map fun x => (Df.parse (tx x)).1)).map (·.2)).map fun d => bs (Df.showT d) := by rw [List.map_map]; rfl
  rw [e, List.map_snd_zip (by rw [List.length_map]; omega), List.map_map]
  conv => rhs; rw [← List.map_id xs]
  exact List.map_congr_left fun x hx => (h.tok x hx).2
 ·exact List.map_fst_zip (by omega)
 ·exact List.map_snd_zip (by omega)
end Go.Proofs.YtkbekojnmdgdgaaGreatDoor.Fw
/- FwFirst -/
namespace Go.Proofs.YtkbekojnmdgdgaaGreatDoor.Fw
def firstT : Nat → List Rn.Tk → Option (Nat × Int)
 | _, [] => none
 | k, t :: r => if t.ph = 1 then some (k, t.tr + 1) else firstT (k + 1) r
def firstR : Nat → List (Rn.R × ByteArray) → Int × Int × Int × Bool
 | _, [] => (0, 0, 0, false)
 | i, p :: r => match (if p.1.st = 0 then firstT 0 p.1.ts else none) with
  | some (k, y) => ((i : Int) + 1, (k : Int), y, true)
  | none => firstR (i + 1) r
def firstV (s : S) : Int × Int × Int × Bool := firstR 0 s.runs
def lessO (a : Option Int) (b : Option Int) : Option Int := match a, b with
 | none, b => b
 | some x, none => some x
 | some x, some y => if y < x then some y else some x
def nextR : List (Rn.R × ByteArray) → Option Int → Option Int
 | [], o => o
 | p :: r, o => nextR r (lessO o (Rn.nextV p.1))
def nextV (s : S) : Option Int := nextR s.runs none
end Go.Proofs.YtkbekojnmdgdgaaGreatDoor.Fw
/- DfMem -/
namespace Go.Proofs.YtkbekojnmdgdgaaGreatDoor
open Go.RowKit
def str (t : Tx.T) : ByteArray := ⟨t.toArray⟩
theorem str_list (b : ByteArray) : str b.data.toList = b := by cases b; rfl
theorem str_inj {s t : Tx.T} : str s = str t ↔ s = t := by
 unfold str
 rw [ByteArray.mk.injEq]
 exact ⟨fun h => by have := congrArg Array.toList h; simpa using this, fun h => by rw [h]⟩
def numIn (t : Df.Task) : Prop := inI t.retry ∧ inI t.wait ∧ inI t.base
def TaskAt (w : World) (B b o : Nat) (t : Df.Task) : Prop :=
 ∃ A cap, w.cell? ⟨b, o, none⟩ = some (.string (str t.name)) ∧ w.cell? ⟨b, o + 1, none⟩ = some (.slice A t.after.length cap) ∧ w.cell? ⟨b, o + 2, none⟩ = some (.int .i64 t.retry) ∧
  w.cell? ⟨b, o + 3, none⟩ = some (.int .i64 t.wait) ∧ w.cell? ⟨b, o + 4, none⟩ = some (.int .i64 t.base) ∧ w.cell? ⟨b, o + 5, none⟩ = some (.string (str t.on)) ∧ Zs w B A t.after ∧ t.after.length ≤ cap
def DefIn (w : World) (B : Nat) (A : Option Addr) (d : Df.D) : Prop :=
 (∀ t ∈ d, numIn t) ∧ (0 < d.length → ∃ b off, A = some ⟨b, off, none⟩ ∧ b < B ∧ ∀ i (hi : i < d.length), TaskAt w B b (off + i * 6) d[i])
theorem TaskAt.below {w w' : World} {B b o : Nat} {t : Df.Task} (hb : b < B) (h : TaskAt w B b o t) (hB : Below B w w') : TaskAt w' B b o t := by
 obtain ⟨A, cap, h0, h1, h2, h3, h4, h5, h6, h7⟩ := h
 exact ⟨A, cap, (hB.cell (p := ⟨b, _, none⟩) hb).trans h0, (hB.cell (p := ⟨b, _, none⟩) hb).trans h1, (hB.cell (p := ⟨b, _, none⟩) hb).trans h2, (hB.cell (p := ⟨b, _, none⟩) hb).trans h3, (hB.cell (p := ⟨b, _, none⟩) hb).trans h4, (hB.cell (p := ⟨b, _, none⟩) hb).trans h5, h6.below hB, h7⟩
theorem TaskAt.more {w : World} {B B' b o : Nat} {t : Df.Task} (h : TaskAt w B b o t) (hB : B ≤ B') : TaskAt w B' b o t := by
 obtain ⟨A, cap, h0, h1, h2, h3, h4, h5, h6, h7⟩ := h
 exact ⟨A, cap, h0, h1, h2, h3, h4, h5, h6.more hB, h7⟩
theorem DefIn.below {w w' : World} {B : Nat} {A : Option Addr} {d : Df.D} (h : DefIn w B A d) (hb : Below B w w') : DefIn w' B A d :=
 ⟨h.1, fun hn => by
  obtain ⟨b, off, e, hl, hc⟩ := h.2 hn
  exact ⟨b, off, e, hl, fun i hi => (hc i hi).below hl hb⟩⟩
theorem DefIn.more {w : World} {B B' : Nat} {A : Option Addr} {d : Df.D} (h : DefIn w B A d) (hB : B ≤ B') : DefIn w B' A d :=
 ⟨h.1, fun hn => by
  obtain ⟨b, off, e, hl, hc⟩ := h.2 hn
  exact ⟨b, off, e, Nat.lt_of_lt_of_le hl hB, fun i hi => (hc i hi).more hB⟩⟩
theorem DefIn.on {w w' : World} {A : Option Addr} {d : Df.D} (h : DefIn w w.heap.size A d) (hb : Below w.heap.size w w') : DefIn w' w'.heap.size A d := (h.below hb).more hb.size
theorem DefIn.nil_ {w : World} {B : Nat} {A : Option Addr} : DefIn w B A [] := ⟨fun t h => by simp at h, fun h => by simp at h⟩
def taskV (t : Df.Task) (p : Option Addr × Nat) : List Value := [.string (str t.name), .slice p.1 t.after.length p.2, .int .i64 t.retry, .int .i64 t.wait, .int .i64 t.base, .string (str t.on)]
theorem taskV_wide {vs : List (Df.Task × (Option Addr × Nat))} : Wide 6 (vs.map fun x => taskV x.1 x.2) := fun v hv => by
 obtain ⟨x, _, rfl⟩ := List.mem_map.1 hv
 exact ⟨rfl, fun u hu => by simp [taskV] at hu; rcases hu with rfl | rfl | rfl | rfl | rfl | rfl <;> rfl⟩
structure OwnD (w : World) (base B : Nat) (T : TypeId) (A : Option Addr) (cap : Nat) (vs : List (Df.Task × (Option Addr × Nat))) : Prop where
 row : OwnK w base T 6 A cap (vs.map fun x => taskV x.1 x.2)
 ints : ∀ x ∈ vs, Zs w B x.2.1 x.1.after ∧ x.1.after.length ≤ x.2.2
 nums : ∀ x ∈ vs, numIn x.1
theorem OwnD.defIn {w : World} {base B : Nat} {T : TypeId} {A : Option Addr} {cap : Nat} {vs : List (Df.Task × (Option Addr × Nat))} (h : OwnD w base B T A cap vs) (hB : B ≤ w.heap.size) : DefIn w w.heap.size A (vs.map (·.1)) := by
 refine ⟨fun t ht => ?_, fun hn => ?_⟩
 ·obtain ⟨x, hx, rfl⟩ := List.mem_map.1 ht
  exact h.nums x hx
 ·obtain ⟨g, rfl, _, hg⟩ := h.row.shape (by simpa using hn)
  refine ⟨g, 0, rfl, hg, fun i hi => ?_⟩
  have hi2 : i < vs.length := by simpa using hi
  have key : ∀ (j : Nat) (u : Value), j < 6 → (taskV vs[i].1 vs[i].2)[j]? = some u → w.cell? ⟨g, 0 + i * 6 + j, none⟩ = some u := fun j u hj hu => by
   rw [Nat.zero_add]
   refine h.row.cell (by simpa using hi2) hj ?_
   rw [List.getD_eq_getElem?_getD, List.getElem?_map, List.getElem?_eq_getElem hi2]
   exact hu
  obtain ⟨z1, z2⟩ := h.ints vs[i] (List.getElem_mem hi2)
  rw [List.getElem_map]
  exact ⟨_, _, key 0 _ (by decide) rfl, key 1 _ (by decide) rfl, key 2 _ (by decide) rfl, key 3 _ (by decide) rfl, key 4 _ (by decide) rfl, key 5 _ (by decide) rfl, z1.more hB, z2⟩
end Go.Proofs.YtkbekojnmdgdgaaGreatDoor
/- RnMem -/
namespace Go.Proofs.YtkbekojnmdgdgaaGreatDoor
open Go.RowKit
def RowO (w : World) (O : Nat → Prop) (A : Option Addr) (n k : Nat) (P : Nat → (Nat → Option Value) → Prop) : Prop :=
 0 < n → ∃ b off, A = some ⟨b, off, none⟩ ∧ O b ∧ b < w.heap.size ∧ ∀ i, i < n → P i fun j => w.cell? ⟨b, off + i * k + j, none⟩
theorem RowO.nil_ {w : World} {O : Nat → Prop} {A : Option Addr} {k : Nat} {P : Nat → (Nat → Option Value) → Prop} : RowO w O A 0 k P := fun h => by omega
theorem RowO.keep {w w' : World} {O : Nat → Prop} {A : Option Addr} {n k : Nat} {P : Nat → (Nat → Option Value) → Prop} (h : RowO w O A n k P) (hs : w.heap.size ≤ w'.heap.size) (hk : ∀ b, O b → b < w.heap.size → w'.heap[b]? = w.heap[b]?) : RowO w' O A n k P := fun hn => by
 obtain ⟨b, off, e, ho, hb, hc⟩ := h hn
 have e2 : (fun o => w'.cell? ⟨b, o, none⟩) = fun o => w.cell? ⟨b, o, none⟩ := by
  funext o
  exact World.cell?_of_block (w := w) (hk b ho hb)
 refine ⟨b, off, e, ho, Nat.lt_of_lt_of_le hb hs, fun i hi => ?_⟩
 have e3 : (fun j => w'.cell? ⟨b, off + i * k + j, none⟩) = fun j => w.cell? ⟨b, off + i * k + j, none⟩ := by
  funext j
  exact congrFun e2 _
 rw [e3]
 exact hc i hi
theorem RowO.imp {w : World} {O O' : Nat → Prop} {A : Option Addr} {n k : Nat} {P : Nat → (Nat → Option Value) → Prop} (h : RowO w O A n k P) (hO : ∀ b, b < w.heap.size → O b → O' b) : RowO w O' A n k P := fun hn => by
 obtain ⟨b, off, e, ho, hb, hc⟩ := h hn
 exact ⟨b, off, e, hO b hb ho, hb, hc⟩
theorem RowO.with {w : World} {O : Nat → Prop} {A : Option Addr} {n k : Nat} {P Q : Nat → (Nat → Option Value) → Prop} (h : RowO w O A n k P) (hq : ∀ i c, i < n → P i c → Q i c) : RowO w O A n k Q := fun hn => by
 obtain ⟨b, off, e, ho, hb, hc⟩ := h hn
 exact ⟨b, off, e, ho, hb, fun i hi => hq i _ hi (hc i hi)⟩
def ZsO (w : World) (O : Nat → Prop) (A : Option Addr) (zs : List Int) : Prop := (∀ i, i < zs.length → inI (zs.getD i 0)) ∧ RowO w O A zs.length 1 fun i c => c 0 = some (.int .i64 (zs.getD i 0))
def taskC (w : World) (O : Nat → Prop) (t : Df.Task) (c : Nat → Option Value) : Prop :=
 ∃ A cap, c 0 = some (.string (str t.name)) ∧ c 1 = some (.slice A t.after.length cap) ∧ c 2 = some (.int .i64 t.retry) ∧ c 3 = some (.int .i64 t.wait) ∧ c 4 = some (.int .i64 t.base) ∧ c 5 = some (.string (str t.on)) ∧ ZsO w O A t.after ∧ t.after.length ≤ cap
def tz : Df.Task := ⟨[], [], 0, 0, 0, []⟩
def DefO (w : World) (O : Nat → Prop) (A : Option Addr) (d : Df.D) : Prop := (∀ t ∈ d, numIn t) ∧ RowO w O A d.length 6 fun i c => taskC w O (d.getD i tz) c
def tkIn (k : Rn.Tk) : Prop := inI k.ph ∧ inI k.tr ∧ inI k.un
def tkC (k : Rn.Tk) (c : Nat → Option Value) : Prop := c 0 = some (.int .i64 k.ph) ∧ c 1 = some (.int .i64 k.tr) ∧ c 2 = some (.int .i64 k.un) ∧ c 3 = some (.string (str k.da))
def TksO (w : World) (O : Nat → Prop) (A : Option Addr) (ts : List Rn.Tk) : Prop := (∀ k ∈ ts, tkIn k) ∧ RowO w O A ts.length 4 fun i c => tkC (ts.getD i Rn.t0) c
def SigsO (w : World) (O : Nat → Prop) (A : Option Addr) (sg : List Tx.T) : Prop := RowO w O A sg.length 1 fun i c => c 0 = some (.string (str (sg.getD i [])))
section
variable {w w' : World} {O O' : Nat → Prop} {A : Option Addr}
theorem ZsO.keep {zs : List Int} (h : ZsO w O A zs) (hs : w.heap.size ≤ w'.heap.size) (hk : ∀ b, O b → b < w.heap.size → w'.heap[b]? = w.heap[b]?) : ZsO w' O A zs := ⟨h.1, h.2.keep hs hk⟩
theorem ZsO.imp {zs : List Int} (h : ZsO w O A zs) (hO : ∀ b, b < w.heap.size → O b → O' b) : ZsO w O' A zs := ⟨h.1, h.2.imp hO⟩
theorem ZsO.zs {zs : List Int} (h : ZsO w O A zs) : Zs w w.heap.size A zs := ⟨h.1, fun hn => by
 obtain ⟨b, off, e, _, hb, hc⟩ := h.2 hn
 exact ⟨b, off, e, hb, fun i hi => by
  have h2 : w.cell? ⟨b, off + i * 1 + 0, none⟩ = some (.int .i64 (zs.getD i 0)) := hc i hi
  rwa [Nat.mul_one, Nat.add_zero] at h2⟩⟩
theorem DefO.keep {d : Df.D} (h : DefO w O A d) (hs : w.heap.size ≤ w'.heap.size) (hk : ∀ b, O b → b < w.heap.size → w'.heap[b]? = w.heap[b]?) : DefO w' O A d :=
 ⟨h.1, (h.2.keep hs hk).with fun _ _ _ ⟨A2, c2, h0, h1, h2, h3, h4, h5, h6, h7⟩ => ⟨A2, c2, h0, h1, h2, h3, h4, h5, h6.keep hs hk, h7⟩⟩
theorem DefO.imp {d : Df.D} (h : DefO w O A d) (hO : ∀ b, b < w.heap.size → O b → O' b) : DefO w O' A d :=
 ⟨h.1, (h.2.imp hO).with fun _ _ _ ⟨A2, c2, h0, h1, h2, h3, h4, h5, h6, h7⟩ => ⟨A2, c2, h0, h1, h2, h3, h4, h5, h6.imp hO, h7⟩⟩
theorem DefO.defIn {d : Df.D} (h : DefO w O A d) : DefIn w w.heap.size A d := ⟨h.1, fun hn => by
 obtain ⟨b, off, e, _, hb, hc⟩ := h.2 hn
 refine ⟨b, off, e, hb, fun i hi => ?_⟩
 obtain ⟨A2, c2, h0, h1, h2, h3, h4, h5, h6, h7⟩ := hc i hi
 rw [show d.getD i tz = d[i] by rw [List.getD_eq_getElem?_getD, List.getElem?_eq_getElem hi]; rfl] at h0 h1 h2 h3 h4 h5 h6 h7
 exact ⟨A2, c2, h0, h1, h2, h3, h4, h5, h6.zs, h7⟩⟩
theorem DefO.at_ {d : Df.D} {i : Nat} (h : DefO w O A d) (hi : i < d.length) :
  ∃ b off A2 c2 t, A = some ⟨b, off, none⟩ ∧ Hid (O b) ∧ Hid (d[i]? = some t) ∧ Hid (ZsO w O A2 t.after) ∧ Hid (t.after.length ≤ c2) ∧ Hid (numIn t) ∧
   w.cell? ⟨b, off + i * 6, none⟩ = some (.string (str t.name)) ∧ w.cell? ⟨b, off + i * 6 + 1, none⟩ = some (.slice A2 t.after.length c2) ∧ w.cell? ⟨b, off + i * 6 + 2, none⟩ = some (.int .i64 t.retry) ∧
   w.cell? ⟨b, off + i * 6 + 3, none⟩ = some (.int .i64 t.wait) ∧ w.cell? ⟨b, off + i * 6 + 4, none⟩ = some (.int .i64 t.base) ∧ w.cell? ⟨b, off + i * 6 + 5, none⟩ = some (.string (str t.on)) := by
 obtain ⟨b, off, e, ho, hb, hc⟩ := h.2 (by omega)
 obtain ⟨A2, c2, h0, h1, h2, h3, h4, h5, h6, h7⟩ := hc i hi
 rw [show d.getD i tz = d[i] by rw [List.getD_eq_getElem?_getD, List.getElem?_eq_getElem hi]; rfl] at h0 h1 h2 h3 h4 h5 h6 h7
 exact ⟨b, off, A2, c2, d[i], e, Lib.hid ho, Lib.hid (List.getElem?_eq_getElem hi), Lib.hid h6, Lib.hid h7, Lib.hid (h.1 _ (List.getElem_mem hi)), h0, h1, h2, h3, h4, h5⟩
theorem TksO.keep {ts : List Rn.Tk} (h : TksO w O A ts) (hs : w.heap.size ≤ w'.heap.size) (hk : ∀ b, O b → b < w.heap.size → w'.heap[b]? = w.heap[b]?) : TksO w' O A ts := ⟨h.1, h.2.keep hs hk⟩
theorem TksO.imp {ts : List Rn.Tk} (h : TksO w O A ts) (hO : ∀ b, b < w.heap.size → O b → O' b) : TksO w O' A ts := ⟨h.1, h.2.imp hO⟩
theorem TksO.at_ {ts : List Rn.Tk} {i : Nat} (h : TksO w O A ts) (hi : i < ts.length) :
  ∃ b off k, A = some ⟨b, off, none⟩ ∧ Hid (O b) ∧ Hid (ts[i]? = some k) ∧ Hid (tkIn k) ∧ w.cell? ⟨b, off + i * 4, none⟩ = some (.int .i64 k.ph) ∧ w.cell? ⟨b, off + i * 4 + 1, none⟩ = some (.int .i64 k.tr) ∧ w.cell? ⟨b, off + i * 4 + 2, none⟩ = some (.int .i64 k.un) ∧ w.cell? ⟨b, off + i * 4 + 3, none⟩ = some (.string (str k.da)) := by
 obtain ⟨b, off, e, ho, hb, hc⟩ := h.2 (by omega)
 obtain ⟨h0, h1, h2, h3⟩ := hc i hi
 rw [show ts.getD i Rn.t0 = ts[i] by rw [List.getD_eq_getElem?_getD, List.getElem?_eq_getElem hi]; rfl] at h0 h1 h2 h3
 exact ⟨b, off, ts[i], e, Lib.hid ho, Lib.hid (List.getElem?_eq_getElem hi), Lib.hid (h.1 _ (List.getElem_mem hi)), h0, h1, h2, h3⟩
theorem SigsO.at_ {sg : List Tx.T} {i : Nat} (h : SigsO w O A sg) (hi : i < sg.length) : ∃ b off s, A = some ⟨b, off, none⟩ ∧ Hid (O b) ∧ Hid (sg[i]? = some s) ∧ w.cell? ⟨b, off + i, none⟩ = some (.string (str s)) := by
 obtain ⟨b, off, e, ho, hb, hc⟩ := h (by omega)
 have this : w.cell? ⟨b, off + i * 1 + 0, none⟩ = some (.string (str (sg.getD i []))) := hc i hi
 rw [Nat.mul_one, Nat.add_zero, show sg.getD i [] = sg[i] by rw [List.getD_eq_getElem?_getD, List.getElem?_eq_getElem hi]; rfl] at this
 exact ⟨b, off, sg[i], e, Lib.hid ho, Lib.hid (List.getElem?_eq_getElem hi), this⟩
end
theorem bs_ne {a b : ByteArray} (h : ¬ a = b) : (a.toList == b.toList) = false := by
 cases a with | mk x => cases b with | mk y =>
 rw [ByteArray.toList_eq, ByteArray.toList_eq]
 refine beq_eq_false_iff_ne.2 fun e => h ?_
 have e' : x = y := Array.toList_inj.1 e
 rw [e']
theorem bs_nonempty {a : ByteArray} (h : ¬ a = { data := #[] }) : a.toList.isEmpty = false := by
 rw [List.isEmpty_eq_false_iff]
 intro e
 have := bs_ne h
 rw [e] at this
 simp at this
structure At3 where
 A : Option Addr
 ca : Nat
 T : Option Addr
 ct : Nat
 S : Option Addr
 cs : Nat
structure RunO (w : World) (O : Nat → Prop) (p : At3) (r : Rn.R) : Prop where
 d : DefO w O p.A r.d
 dc : r.d.length ≤ p.ca
 t : TksO w O p.T r.ts
 tc : r.ts.length ≤ p.ct
 s : SigsO w O p.S r.sg
 sc : r.sg.length ≤ p.cs
section
variable {w w' : World} {O O' : Nat → Prop} {p : At3} {r : Rn.R}
theorem RunO.keep (h : RunO w O p r) (hs : w.heap.size ≤ w'.heap.size) (hk : ∀ b, O b → b < w.heap.size → w'.heap[b]? = w.heap[b]?) : RunO w' O p r :=
 ⟨h.d.keep hs hk, h.dc, h.t.keep hs hk, h.tc, RowO.keep h.s hs hk, h.sc⟩
theorem RunO.on (h : RunO w O p r) (hb : Below w.heap.size w w') : RunO w' O p r := h.keep hb.size fun b _ hl => hb.block b hl
theorem RunO.imp (h : RunO w O p r) (hO : ∀ b, b < w.heap.size → O b → O' b) : RunO w O' p r := ⟨h.d.imp hO, h.dc, h.t.imp hO, h.tc, RowO.imp h.s hO, h.sc⟩
theorem RunO.here (h : RunO w O p r) : RunO w (fun b => O b ∧ b < w.heap.size) p r := h.imp fun _ hl ho => ⟨ho, hl⟩
end
theorem run0_o (w : World) (O : Nat → Prop) : RunO w O ⟨none, 0, none, 0, none, 0⟩ Rn.r0 :=
 ⟨⟨fun t h => by simp [Rn.r0] at h, RowO.nil_⟩, Nat.le_refl _, ⟨fun t h => by simp [Rn.r0] at h, RowO.nil_⟩, Nat.le_refl _, RowO.nil_, Nat.le_refl _⟩
def rv (p : At3) (r : Rn.R) : Value := .agg #[.slice p.A r.d.length p.ca, .int .i64 r.st, .slice p.T r.ts.length p.ct, .slice p.S r.sg.length p.cs]
def since (w : World) (b : Nat) : Prop := w.heap.size ≤ b
def RunG (w : World) (x : Rn.R × Int) (e : Ending) (w' : World) : Prop := ∃ p, e = .returned (.tuple #[rv p x.1, .int .i64 x.2]) ∧ Hid (RunO w' (since w) p x.1) ∧ Hid (Below w.heap.size w w')
def RunY (w : World) (r : Rn.R) (n : Nat) (st : Int) (m k : Nat) (er : Int) (e : Ending) (w' : World) : Prop := ∃ p : At3, e = .returned (.tuple #[.agg #[.slice p.A n p.ca, .int .i64 st, .slice p.T m p.ct, .slice p.S k p.cs], .int .i64 er]) ∧ Hid (RunO w' (since w) p r) ∧ Hid (Below w.heap.size w w')
theorem RunG.of {w w' : World} {x : Rn.R × Int} {r : Rn.R} {n m k : Nat} {st er : Int} {e : Ending} (h : RunG w x e w') (hx : x = (r, er)) (hn : r.d.length = n) (hs : r.st = st) (hm : r.ts.length = m) (hk : r.sg.length = k) : RunY w r n st m k er e w' := by
 subst hx hn hs hm hk
 exact h
def RunG1 (w : World) (r : Rn.R) (e : Ending) (w' : World) : Prop := ∃ p, e = .returned (rv p r) ∧ Hid (RunO w' (since w) p r) ∧ Hid (Below w.heap.size w w')
def RunY1 (w : World) (r : Rn.R) (n : Nat) (st : Int) (m k : Nat) (e : Ending) (w' : World) : Prop := ∃ p : At3, e = .returned (.agg #[.slice p.A n p.ca, .int .i64 st, .slice p.T m p.ct, .slice p.S k p.cs]) ∧ Hid (RunO w' (since w) p r) ∧ Hid (Below w.heap.size w w')
theorem RunG1.of {w w' : World} {x r : Rn.R} {n m k : Nat} {st : Int} {e : Ending} (h : RunG1 w x e w') (hx : x = r) (hn : r.d.length = n) (hs : r.st = st) (hm : r.ts.length = m) (hk : r.sg.length = k) : RunY1 w r n st m k e w' := by
 subst hx hn hs hm hk
 exact h
end Go.Proofs.YtkbekojnmdgdgaaGreatDoor
