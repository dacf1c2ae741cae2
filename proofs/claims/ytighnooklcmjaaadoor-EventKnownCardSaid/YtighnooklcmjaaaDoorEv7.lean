/-
  Part 7 of the texts behind the law: StrCells, NamePlain, EvPlain, EvBack, EvFields, NameRef.
-/
import Derived.Test.YtighnooklcmjaaaDoorEv1
import Derived.Laws.MakeOwn
import Derived.Test.YtighnooklcmjaaaDoorEv6
/-
  Rows of strings of the call's own: made by length, stored into, read.
-/
namespace Go.Proofs.YtighnooklcmjaaaDoor
open Go.RowKit
theorem OwnT.lt {w : World} {base : Nat} {a : Addr} {cap : Nat} {ss : List ByteArray} (h : OwnT w base (some a) cap ss) : base ≤ a.block ∧ a.block < w.heap.size :=
  World.ownsRow.lt h a.block (by simp [Value.ownBlock])
theorem OwnT.kept {w w' : World} {base : Nat} {A : Option Addr} {cap : Nat} {ss : List ByteArray} (h : OwnT w base A cap ss) (hk : ∀ a, A = some a → w'.heap[a.block]? = w.heap[a.block]?) : OwnT w' base A cap ss := by
  refine ⟨h.1, ?_⟩
  rcases h.2 with e | ⟨g, c', cur, e, hb, hg, r⟩
  · exact .inl e
  · injection e with e1 e2 e3
    subst e1 e3
    exact .inr ⟨g, _, cur, rfl, hb, by rw [hk _ rfl]; exact hg, r⟩
theorem OwnT.under {w w' : World} {base B g cap : Nat} {ss : List ByteArray} (h : OwnT w base (some ⟨g, 0, none⟩) cap ss) (hb : Below B w w') (hB : g < B) : OwnT w' base (some ⟨g, 0, none⟩) cap ss :=
  h.kept fun a ha => by
    injection ha with ha
    subst ha
    exact hb.block _ hB
theorem OwnT.val {w : World} {base g cap : Nat} {ss : List ByteArray} (h : OwnT w base (some ⟨g, 0, none⟩) cap ss) {i : Nat} (hi : i < ss.length) : w.cell? ⟨g, i, none⟩ = some (.string (ss.getD i ByteArray.empty)) := by
  rw [World.ownsRow.cellAt h i (by omega), List.getElem?_map, List.getD_eq_getElem?_getD, List.getElem?_eq_getElem hi]
  rfl
theorem OwnT.thaw {w : World} {base g cap : Nat} {ss : List ByteArray} (h : OwnT w base (some ⟨g, 0, none⟩) cap ss) (i : Nat) : w.frozen? ⟨g, i, none⟩ = false := by
  rcases h.2 with ⟨e, _⟩ | ⟨g', c', cur, e, hb, hg, r⟩
  · cases e
  · injection e with e1 e2 e3
    injection e1 with e1
    injection e1 with e1
    subst e1
    simp [World.frozen?, hg]
theorem OwnT.stored {w : World} {base g cap : Nat} {ss : List ByteArray} (h : OwnT w base (some ⟨g, 0, none⟩) cap ss) (j : Nat) (v : ByteArray) :
    OwnT (w.setCell ⟨g, j, none⟩ (.string v)) base (some ⟨g, 0, none⟩) cap (ss.set j v) := by
  have hs := World.ownsRow.stored h j (.string v)
  unfold OwnT
  rw [List.length_set, List.map_set]
  exact hs.1
theorem OwnT.cap_ {w : World} {base : Nat} {A : Option Addr} {cap : Nat} {ss : List ByteArray} (h : OwnT w base A cap ss) : ss.length ≤ cap := by
  rcases h.2 with ⟨e, e0⟩ | ⟨g, c', cur, e, _, _, hle, _⟩
  · omega
  · injection e with e1 e2 e3; omega
theorem OwnT.shape {w : World} {base : Nat} {A : Option Addr} {cap : Nat} {ss : List ByteArray} (h : OwnT w base A cap ss) (hn : 0 < ss.length) : ∃ g, A = some ⟨g, 0, none⟩ ∧ base ≤ g ∧ g < w.heap.size := by
  obtain ⟨g, c, e⟩ := Joins.ownsRow_form h hn
  injection e with e1 e2 e3
  subst e1 e3
  have hlt := OwnT.lt h
  exact ⟨g, rfl, hlt.1, hlt.2⟩
theorem OwnT.low {w : World} {base b : Nat} {A : Option Addr} {cap : Nat} {ss : List ByteArray} (h : OwnT w base A cap ss) (hb : b ≤ base) : OwnT w b A cap ss := Joins.ownsRow_le h hb
theorem made_T (n : Nat) (hn : n ≤ 1000000) (W : World) : (Instr.makeSlice 55 (.int .i64 (n : Int)) (.int .i64 (n : Int))).run Tryd.prog W = .ok (.slice (some ⟨W.heap.size, 0, none⟩) n n) (W.alloc (.cells (madeCells #[.string ⟨#[]⟩] n) 9)) := by
  obtain ⟨i, hi, hz, hs, hy⟩ := info_parts txt_info
  have hr := run_make (P := Tryd.prog) W 55 9 i _ Tryd.underlying55 hi hz .i64 .i64 n n (by omega) (Int.le_refl _) (by rw [hy]; omega) (by omega)
  rw [hs, Int.toNat_natCast, Nat.mul_one] at hr
  exact hr
theorem OwnT.made (W : World) (n : Nat) (hn : n ≤ 1000000) : OwnT (W.alloc (.cells (madeCells #[.string ⟨#[]⟩] n) 9)) W.heap.size (some ⟨W.heap.size, 0, none⟩) n (List.replicate n ⟨#[]⟩) := by
  have e : (madeCells #[Value.string ⟨#[]⟩] n).toList = (List.replicate n (⟨#[]⟩ : ByteArray)).map Value.string := by
    rw [toList_madeCells_one (Value.string ⟨#[]⟩) n, List.map_replicate]
  have h := World.ownsRow_lit (e := 9) (size := 1) W (madeCells #[.string ⟨#[]⟩] n) n (Nat.le_refl W.heap.size) (by unfold maxLen; omega) (by rw [← Array.length_toList, e]; simp)
  rw [e] at h
  unfold OwnT
  rw [List.length_replicate]
  exact h
theorem OwnT.lit (W : World) (ss : List ByteArray) (hn : ss.length ≤ 1000000) (cs : Array Value) (hc : cs.toList = ss.map Value.string) : OwnT (W.alloc (.cells cs 9)) W.heap.size (some ⟨W.heap.size, 0, none⟩) ss.length ss := by
  have h := World.ownsRow_lit (e := 9) (size := 1) W cs ss.length (Nat.le_refl W.heap.size) (by unfold maxLen; omega) (by rw [← Array.length_toList, hc]; simp)
  rw [hc] at h
  exact h
/-- While a made row is filled: the first k are there. -/
def Filled (ss : List ByteArray) (m : Nat) (l : List (List UInt8)) (k : Nat) : Prop := ss.length = m ∧ ss.take k = (l.take k).map (fun t => (⟨t.toArray⟩ : ByteArray))
theorem Filled.next {ss : List ByteArray} {m k : Nat} {l : List (List UInt8)} (h : Filled ss m l k) (hk : k < m) (hl : k < l.length) : Filled (ss.set k ⟨l[k].toArray⟩) m l (k + 1) := by
  refine ⟨by rw [List.length_set]; exact h.1, ?_⟩
  have hks : k < (ss.set k ⟨l[k].toArray⟩).length := by rw [List.length_set, h.1]; exact hk
  rw [List.take_succ_eq_append_getElem hks, List.take_succ_eq_append_getElem hl, List.map_append, ← h.2, List.take_set_of_le (Nat.le_refl k), List.getElem_set_self]
  rfl
theorem Filled.all {ss : List ByteArray} {m : Nat} {l : List (List UInt8)} (h : Filled ss m l m) (hl : l.length = m) : ss = l.map (fun t => (⟨t.toArray⟩ : ByteArray)) := by
  have := h.2
  rwa [List.take_of_length_le (Nat.le_of_eq h.1), List.take_of_length_le (Nat.le_of_eq hl)] at this
end Go.Proofs.YtighnooklcmjaaaDoor
/-
  Names in plain words: their letters, their length.
-/
namespace Go.Proofs.YtighnooklcmjaaaDoor
open Go.RowKit
namespace Nm
def isChar (c : UInt8) : Bool := decide (97 ≤ c.toNat ∧ c.toNat ≤ 122) || decide (48 ≤ c.toNat ∧ c.toNat ≤ 57)
def isName (s : List UInt8) : Bool := decide (1 ≤ s.length ∧ s.length ≤ 16) && s.all isChar
end Nm
theorem takeB_snoc (s : ByteArray) (k : Nat) (h : k < s.size) : s.data.toList.take (k + 1) = s.data.toList.take k ++ [s[k]] := by
  rw [List.take_succ_eq_append_getElem (by simpa using h)]; rfl
theorem getB_data (s : ByteArray) (k : Nat) (h : k < s.size) : s.data.toList[k]? = some s[k] := by
  rw [List.getElem?_eq_getElem (by simpa using h)]; rfl
theorem sizeB_list (s : ByteArray) : s.data.toList.length = s.size := Array.length_toList
theorem takeB_all (s : ByteArray) : s.data.toList.take s.size = s.data.toList := List.take_of_length_le (by rw [sizeB_list]; exact Nat.le_refl _)
theorem emptyB {s : ByteArray} (h : s.size = 0) : s = ⟨#[]⟩ := by
  cases s with | mk d => exact congrArg _ (Array.eq_empty_of_size_eq_zero h)
theorem nonemptyB {s : ByteArray} (h : ¬ s.size = 0) : s.toList.isEmpty = false ∧ s.toList ≠ [] := by
  have h1 : s.toList ≠ [] := by
    rw [ByteArray.toList_eq]
    intro h2
    have h3 := congrArg List.length h2
    rw [Array.length_toList] at h3
    exact h h3
  exact ⟨by rw [List.isEmpty_eq_false_iff]; exact h1, h1⟩
/-! ### Name -/
theorem char_split (c : UInt8) : ((c.toNat : Int) < 48 ∧ Nm.isChar c = false) ∨ (48 ≤ (c.toNat : Int) ∧ (c.toNat : Int) ≤ 57 ∧ Nm.isChar c = true) ∨ (57 < (c.toNat : Int) ∧ (c.toNat : Int) < 97 ∧ Nm.isChar c = false) ∨
    (97 ≤ (c.toNat : Int) ∧ (c.toNat : Int) ≤ 122 ∧ Nm.isChar c = true) ∨ (122 < (c.toNat : Int) ∧ Nm.isChar c = false) := by
  unfold Nm.isChar
  simp only [Bool.or_eq_true, Bool.or_eq_false_iff, decide_eq_true_eq, decide_eq_false_iff_not]
  omega
def CharsTo (s : ByteArray) (k : Nat) : Prop := k ≤ s.size ∧ (s.data.toList.take k).all Nm.isChar = true
theorem CharsTo.next {s : ByteArray} {k : Nat} (h : CharsTo s k) (hk : k < s.size) (hc : Nm.isChar s[k] = true) : CharsTo s (k + 1) :=
  ⟨hk, by rw [takeB_snoc s k hk, List.all_append, h.2, Bool.true_and, List.all_cons, hc]; rfl⟩
theorem name_no {s : ByteArray} {k : Nat} (hk : k < s.size) (hc : Nm.isChar s[k] = false) : Nm.isName s.data.toList = false := by
  unfold Nm.isName
  have : s.data.toList.all Nm.isChar = false := by
    rw [List.all_eq_false]
    exact ⟨s[k], List.mem_of_getElem? (getB_data s k hk), by rw [hc]; simp⟩
  rw [this, Bool.and_false]
theorem name_yes {s : ByteArray} (h1 : 1 ≤ s.size) (h2 : s.size ≤ 16) (h : CharsTo s s.size) : Nm.isName s.data.toList = true := by
  have h3 := h.2
  rw [takeB_all] at h3
  unfold Nm.isName
  rw [h3, sizeB_list, Bool.and_true, decide_eq_true_eq]
  exact ⟨h1, h2⟩
theorem name_len {s : ByteArray} (h : s.size = 0 ∨ 16 < s.size) : Nm.isName s.data.toList = false := by
  unfold Nm.isName
  rw [sizeB_list, decide_eq_false (by omega), Bool.false_and]
end Go.Proofs.YtighnooklcmjaaaDoor
/-
  Events in plain words: which may be, their bytes, what bytes are read as.
-/
namespace Go.Proofs.YtighnooklcmjaaaDoor.Ev
open En
structure E where
  kind : Int
  run : Int
  task : Int
  try_ : Int
  n : Int
  name : ByteArray
  key : ByteArray
  data : ByteArray
deriving DecidableEq
def zero : E := ⟨0, 0, 0, 0, 0, ⟨#[]⟩, ⟨#[]⟩, ⟨#[]⟩⟩
/-- The fields of a kind, in their order. -/
def codes (k : Int) : List UInt8 :=
  if k = 1 then [97, 100] else if k = 2 then [114, 97, 107] else if k = 3 then [114, 116, 121] else if k = 4 then [114, 116, 121, 100] else if k = 5 then [114, 116, 121] else if k = 6 then [110] else if k = 7 then [114, 97] else if k = 8 then [114] else if k = 9 then [110] else []
def most (k : Int) : Int := if k = 1 then 900 else if 1 ≤ k ∧ k ≤ 9 then 64 else 0
def top (k : Int) : Int := if k = 9 then 1048575 else 1099511627776
def has (k : Int) (c : UInt8) : Bool := (codes k).contains c
def within (yes : Bool) (n lo hi : Int) : Bool := if yes = true then decide (lo ≤ n ∧ n ≤ hi) else decide (n = 0)
def goodName (k : Int) (s : ByteArray) : Bool := if has k 97 = true then Nm.isName s.data.toList else decide (s.size = 0)
def goodKey (k : Int) (s : ByteArray) : Bool := (has k 107 && decide (s.size ≤ 16)) || decide (s.size = 0)
def goodData (k : Int) (s : ByteArray) : Bool := (has k 100 && decide ((s.size : Int) ≤ most k)) || decide (s.size = 0)
def good (e : E) : Bool :=
  decide (1 ≤ e.kind ∧ e.kind ≤ 9) && (within (has e.kind 114) e.run 1 64 && (within (has e.kind 116) e.task 0 15 && (within (has e.kind 121) e.try_ 1 9 && (within (has e.kind 110) e.n 1 (top e.kind) && (goodName e.kind e.name && (goodKey e.kind e.key && goodData e.kind e.data))))))
/-- The bytes of one field. -/
def field (e : E) (c : UInt8) : List Int :=
  if c = 114 then leb e.run else if c = 116 then leb e.task else if c = 121 then leb e.try_ else if c = 110 then leb e.n else if c = 97 then putS e.name else if c = 107 then putS e.key else putS e.data
def bytes (e : E) : List Int := leb e.kind ++ (codes e.kind).flatMap (field e)
def put (e : E) : List Int := if good e = true then bytes e else []
/-! ### Reading -/
structure R where
  zs : List Int
  b : Bool
  e : E
def step (r : R) (c : UInt8) : R :=
  if c = 114 then ⟨restM r.zs r.b 64, !okM r.zs r.b 64, { r.e with run := valM r.zs r.b 64 }⟩
  else if c = 116 then ⟨restM r.zs r.b 64, !okM r.zs r.b 64, { r.e with task := valM r.zs r.b 64 }⟩
  else if c = 121 then ⟨restM r.zs r.b 64, !okM r.zs r.b 64, { r.e with try_ := valM r.zs r.b 64 }⟩
  else if c = 110 then ⟨restU r.zs r.b, !okU r.zs r.b, { r.e with n := valU r.zs r.b }⟩
  else if c = 97 then ⟨restS r.zs r.b 64, !okS r.zs r.b 64, { r.e with name := valS r.zs r.b 64 }⟩
  else if c = 107 then ⟨restS r.zs r.b 64, !okS r.zs r.b 64, { r.e with key := valS r.zs r.b 64 }⟩
  else ⟨restS r.zs r.b 900, !okS r.zs r.b 900, { r.e with data := valS r.zs r.b 900 }⟩
def start (zs : List Int) : R := ⟨restM zs false 9, !okM zs false 9, { zero with kind := valM zs false 9 }⟩
def final (zs : List Int) : R := (codes (valM zs false 9)).foldl step (start zs)
def acc (zs : List Int) : Bool := !(final zs).b && (decide ((final zs).zs.length = 0) && good (final zs).e)
def getV (zs : List Int) : E := if acc zs = true then (final zs).e else zero
def getE (zs : List Int) : Int := if acc zs = true then 0 else 2
/-! ### What is read is what was written -/
theorem step_kind (r : R) (c : UInt8) : (step r c).e.kind = r.e.kind := by
  unfold step
  repeat' split
  all_goals rfl
theorem fold_kind (cs : List UInt8) : ∀ r : R, (cs.foldl step r).e.kind = r.e.kind := by
  induction cs with
  | nil => intro r; rfl
  | cons c cs ih => intro r; rw [List.foldl_cons, ih, step_kind]
theorem final_kind (zs : List Int) : (final zs).e.kind = valM zs false 9 := fold_kind _ _
theorem step_bad (r : R) (c : UInt8) (h : r.b = true) : (step r c).b = true := by
  obtain ⟨zs, b, e⟩ := r
  simp only at h
  subst h
  unfold step
  repeat' split
  all_goals rfl
theorem fold_bad (cs : List UInt8) : ∀ r : R, r.b = true → (cs.foldl step r).b = true := by
  induction cs with
  | nil => intro r h; exact h
  | cons c cs ih => intro r h; rw [List.foldl_cons]; exact ih _ (step_bad r c h)
theorem step_byte (r : R) (c : UInt8) (h : Byte r.zs) : Byte (step r c).zs := by
  unfold step
  repeat' split
  · exact restM_byte _ _ _ h
  · exact restM_byte _ _ _ h
  · exact restM_byte _ _ _ h
  · exact restU_byte _ _ h
  · exact restS_byte _ _ _ h
  · exact restS_byte _ _ _ h
  · exact restS_byte _ _ _ h
/-- A step that went well read the field's own bytes. -/
theorem step_sound (r : R) (c : UInt8) (hb : Byte r.zs) (h : (step r c).b = false) : r.b = false ∧ r.zs = field (step r c).e c ++ (step r c).zs := by
  have hr : r.b = false := by
    cases hx : r.b with
    | false => rfl
    | true => rw [step_bad r c hx] at h; cases h
  obtain ⟨zs, b, e⟩ := r
  simp only at hr hb
  subst hr
  refine ⟨rfl, ?_⟩
  unfold step at h ⊢
  unfold field
  by_cases h1 : c = 114
  · simp only [if_pos h1] at h ⊢
    exact (canonM hb (by simpa using h)).1
  by_cases h2 : c = 116
  · simp only [if_neg h1, if_pos h2] at h ⊢
    exact (canonM hb (by simpa using h)).1
  by_cases h3 : c = 121
  · simp only [if_neg h1, if_neg h2, if_pos h3] at h ⊢
    exact (canonM hb (by simpa using h)).1
  by_cases h4 : c = 110
  · simp only [if_neg h1, if_neg h2, if_neg h3, if_pos h4] at h ⊢
    exact (canonU hb (by simpa using h)).1
  by_cases h5 : c = 97
  · simp only [if_neg h1, if_neg h2, if_neg h3, if_neg h4, if_pos h5] at h ⊢
    exact (canonS hb (by simpa using h)).1
  by_cases h6 : c = 107
  · simp only [if_neg h1, if_neg h2, if_neg h3, if_neg h4, if_neg h5, if_pos h6] at h ⊢
    exact (canonS hb (by simpa using h)).1
  · simp only [if_neg h1, if_neg h2, if_neg h3, if_neg h4, if_neg h5, if_neg h6] at h ⊢
    exact (canonS hb (by simpa using h)).1
/-- Which letters there are. -/
def Code (c : UInt8) : Prop := c = 114 ∨ c = 116 ∨ c = 121 ∨ c = 110 ∨ c = 97 ∨ c = 107 ∨ c = 100
theorem step_other (r : R) (c d : UInt8) (hc : Code c) (hd : Code d) (h : c ≠ d) : field (step r c).e d = field r.e d := by
  unfold Code at hc hd
  rcases hc with rfl | rfl | rfl | rfl | rfl | rfl | rfl <;> rcases hd with rfl | rfl | rfl | rfl | rfl | rfl | rfl <;> first | exact absurd rfl h | rfl
theorem fold_other (d : UInt8) (hd : Code d) : ∀ (cs : List UInt8) (r : R), (∀ c ∈ cs, Code c) → d ∉ cs → field (cs.foldl step r).e d = field r.e d
  | [], _, _, _ => rfl
  | c :: cs, r, hc, hn => by
    rw [List.foldl_cons, fold_other d hd cs _ (fun x hx => hc x (List.mem_cons_of_mem _ hx)) (fun hm => hn (List.mem_cons_of_mem _ hm))]
    exact step_other r c d (hc c (List.mem_cons_self ..)) hd (fun e => hn (e ▸ List.mem_cons_self ..))
theorem fold_sound : ∀ (cs : List UInt8) (r : R), (∀ c ∈ cs, Code c) → cs.Nodup → Byte r.zs → (cs.foldl step r).b = false → r.b = false ∧ r.zs = cs.flatMap (field (cs.foldl step r).e) ++ (cs.foldl step r).zs
  | [], _, _, _, _, h => ⟨h, rfl⟩
  | c :: cs, r, hc, hn, hb, h => by
    rw [List.nodup_cons] at hn
    rw [List.foldl_cons] at h ⊢
    have hcs : ∀ x ∈ cs, Code x := fun x hx => hc x (List.mem_cons_of_mem _ hx)
    obtain ⟨h1, h2⟩ := fold_sound cs (step r c) hcs hn.2 (step_byte r c hb) h
    obtain ⟨h3, h4⟩ := step_sound r c hb h1
    refine ⟨h3, ?_⟩
    rw [List.flatMap_cons, fold_other c (hc c (List.mem_cons_self ..)) cs _ hcs hn.1, List.append_assoc, ← h2]
    exact h4
theorem codes_in (k : Int) : k = 1 ∨ k = 2 ∨ k = 3 ∨ k = 4 ∨ k = 5 ∨ k = 6 ∨ k = 7 ∨ k = 8 ∨ k = 9 ∨ codes k = [] := by
  unfold codes
  repeat' split
  all_goals simp_all
theorem codes_code (k : Int) : ∀ c ∈ codes k, Code c := by
  intro c hc
  unfold Code
  rcases codes_in k with rfl | rfl | rfl | rfl | rfl | rfl | rfl | rfl | rfl | h
  case inr.inr.inr.inr.inr.inr.inr.inr.inr => rw [h] at hc; simp at hc
  all_goals
    simp [codes] at hc
    rcases hc with rfl | rfl | rfl | rfl <;> simp
theorem codes_nodup (k : Int) : (codes k).Nodup := by
  rcases codes_in k with rfl | rfl | rfl | rfl | rfl | rfl | rfl | rfl | rfl | h
  case inr.inr.inr.inr.inr.inr.inr.inr.inr => rw [h]; exact List.nodup_nil
  all_goals decide
/-- What is accepted is what was written. -/
theorem acc_put {zs : List Int} (hb : Byte zs) (h : acc zs = true) : good (final zs).e = true ∧ zs = put (final zs).e := by
  unfold acc at h
  simp only [Bool.and_eq_true, Bool.not_eq_true', decide_eq_true_eq] at h
  obtain ⟨h1, h2, h3⟩ := h
  refine ⟨h3, ?_⟩
  unfold put
  rw [if_pos h3]
  unfold bytes
  have hk : okM zs false 9 = true := by
    cases hx : okM zs false 9 with
    | true => rfl
    | false =>
      have := fold_bad (codes (valM zs false 9)) (start zs) (by show (!okM zs false 9) = true; rw [hx]; rfl)
      rw [show (codes (valM zs false 9)).foldl step (start zs) = final zs from rfl, h1] at this
      cases this
  obtain ⟨c1, _, _⟩ := canonM hb hk
  obtain ⟨_, s2⟩ := fold_sound (codes (valM zs false 9)) (start zs) (codes_code _) (codes_nodup _) (restM_byte _ _ _ hb) h1
  rw [show (codes (valM zs false 9)).foldl step (start zs) = final zs from rfl] at s2
  rw [List.eq_nil_of_length_eq_zero h2, List.append_nil] at s2
  rw [final_kind, ← s2]
  exact c1
/-! ### What was written is read -/
theorem step_full (e : E) (c : UInt8) (hc : Code c) (he : 0 ≤ e.run ∧ e.run ≤ 64 ∧ 0 ≤ e.task ∧ e.task ≤ 64 ∧ 0 ≤ e.try_ ∧ e.try_ ≤ 64 ∧ 0 ≤ e.n ∧ e.n < 18446744073709551616 ∧ e.name.size ≤ 64 ∧ e.key.size ≤ 64 ∧ e.data.size ≤ 900) (rest : List Int) (x : E) :
    ∃ y, step ⟨field e c ++ rest, false, x⟩ c = ⟨rest, false, y⟩ ∧ (c = 114 → y = { x with run := e.run }) ∧ (c = 116 → y = { x with task := e.task }) ∧ (c = 121 → y = { x with try_ := e.try_ }) ∧ (c = 110 → y = { x with n := e.n }) ∧ (c = 97 → y = { x with name := e.name }) ∧ (c = 107 → y = { x with key := e.key }) ∧ (c = 100 → y = { x with data := e.data }) := by
  obtain ⟨r0, r1, t0, t1, y0, y1, n0, n1, a1, k1, d1⟩ := he
  unfold Code at hc
  rcases hc with rfl | rfl | rfl | rfl | rfl | rfl | rfl
  · obtain ⟨q1, q2, q3⟩ := readM e.run rest 64 r0 r1 (by omega)
    refine ⟨{ x with run := e.run }, ?_, by simp⟩
    show (⟨restM (leb e.run ++ rest) false 64, !okM (leb e.run ++ rest) false 64, { x with run := valM (leb e.run ++ rest) false 64 }⟩ : R) = _
    rw [q1, q2, q3]; rfl
  · obtain ⟨q1, q2, q3⟩ := readM e.task rest 64 t0 t1 (by omega)
    refine ⟨{ x with task := e.task }, ?_, by simp⟩
    show (⟨restM (leb e.task ++ rest) false 64, !okM (leb e.task ++ rest) false 64, { x with task := valM (leb e.task ++ rest) false 64 }⟩ : R) = _
    rw [q1, q2, q3]; rfl
  · obtain ⟨q1, q2, q3⟩ := readM e.try_ rest 64 y0 y1 (by omega)
    refine ⟨{ x with try_ := e.try_ }, ?_, by simp⟩
    show (⟨restM (leb e.try_ ++ rest) false 64, !okM (leb e.try_ ++ rest) false 64, { x with try_ := valM (leb e.try_ ++ rest) false 64 }⟩ : R) = _
    rw [q1, q2, q3]; rfl
  · obtain ⟨q1, q2, q3⟩ := readU e.n rest n0 n1
    refine ⟨{ x with n := e.n }, ?_, by simp⟩
    show (⟨restU (leb e.n ++ rest) false, !okU (leb e.n ++ rest) false, { x with n := valU (leb e.n ++ rest) false }⟩ : R) = _
    rw [q1, q2, q3]; rfl
  · obtain ⟨q1, q2, q3⟩ := readS e.name rest 64 (by omega) (by omega)
    refine ⟨{ x with name := e.name }, ?_, by simp⟩
    show (⟨restS (putS e.name ++ rest) false 64, !okS (putS e.name ++ rest) false 64, { x with name := valS (putS e.name ++ rest) false 64 }⟩ : R) = _
    rw [q1, q2, q3]; rfl
  · obtain ⟨q1, q2, q3⟩ := readS e.key rest 64 (by omega) (by omega)
    refine ⟨{ x with key := e.key }, ?_, by simp⟩
    show (⟨restS (putS e.key ++ rest) false 64, !okS (putS e.key ++ rest) false 64, { x with key := valS (putS e.key ++ rest) false 64 }⟩ : R) = _
    rw [q1, q2, q3]; rfl
  · obtain ⟨q1, q2, q3⟩ := readS e.data rest 900 (by omega) (by omega)
    refine ⟨{ x with data := e.data }, ?_, by simp⟩
    show (⟨restS (putS e.data ++ rest) false 900, !okS (putS e.data ++ rest) false 900, { x with data := valS (putS e.data ++ rest) false 900 }⟩ : R) = _
    rw [q1, q2, q3]; rfl
end Go.Proofs.YtighnooklcmjaaaDoor.Ev
/-
  Events in plain words: what was written is read, whatever follows it; bytes are read as one event or none.
-/
namespace Go.Proofs.YtighnooklcmjaaaDoor.Ev
open En
/-- x with e's fields of these letters. -/
def ov (e x : E) (cs : List UInt8) : E :=
  ⟨x.kind, if 114 ∈ cs then e.run else x.run, if 116 ∈ cs then e.task else x.task, if 121 ∈ cs then e.try_ else x.try_, if 110 ∈ cs then e.n else x.n, if 97 ∈ cs then e.name else x.name, if 107 ∈ cs then e.key else x.key, if 100 ∈ cs then e.data else x.data⟩
structure Fits (e : E) : Prop where
  r : 0 ≤ e.run ∧ e.run ≤ 64
  t : 0 ≤ e.task ∧ e.task ≤ 64
  y : 0 ≤ e.try_ ∧ e.try_ ≤ 64
  n : 0 ≤ e.n ∧ e.n ≤ 1099511627776
  a : e.name.size ≤ 64
  k : e.key.size ≤ 64
  d : e.data.size ≤ 900
theorem fold_full {e : E} (he : Fits e) (rest : List Int) : ∀ (cs : List UInt8) (x : E), (∀ c ∈ cs, Code c) → cs.foldl step ⟨cs.flatMap (field e) ++ rest, false, x⟩ = ⟨rest, false, ov e x cs⟩
  | [], x, _ => by simp [ov]
  | c :: cs, x, hc => by
    have hC := hc c (List.mem_cons_self ..)
    obtain ⟨y, h0, h1, h2, h3, h4, h5, h6, h7⟩ := step_full e c hC ⟨he.r.1, he.r.2, he.t.1, he.t.2, he.y.1, he.y.2, he.n.1, by have := he.n.2; omega, he.a, he.k, he.d⟩ (cs.flatMap (field e) ++ rest) x
    rw [List.flatMap_cons, List.append_assoc, List.foldl_cons, h0, fold_full he rest cs y fun d hd => hc d (List.mem_cons_of_mem _ hd)]
    congr 1
    unfold Code at hC
    rcases hC with rfl | rfl | rfl | rfl | rfl | rfl | rfl
    · rw [h1 rfl]; by_cases hm : (114 : UInt8) ∈ cs <;> simp [ov, hm]
    · rw [h2 rfl]; by_cases hm : (116 : UInt8) ∈ cs <;> simp [ov, hm]
    · rw [h3 rfl]; by_cases hm : (121 : UInt8) ∈ cs <;> simp [ov, hm]
    · rw [h4 rfl]; by_cases hm : (110 : UInt8) ∈ cs <;> simp [ov, hm]
    · rw [h5 rfl]; by_cases hm : (97 : UInt8) ∈ cs <;> simp [ov, hm]
    · rw [h6 rfl]; by_cases hm : (107 : UInt8) ∈ cs <;> simp [ov, hm]
    · rw [h7 rfl]; by_cases hm : (100 : UInt8) ∈ cs <;> simp [ov, hm]
theorem has_mem {k : Int} {c : UInt8} : has k c = true ↔ c ∈ codes k := by
  unfold has; exact List.contains_iff_mem
theorem within_in {yes : Bool} {n lo hi : Int} (h : within yes n lo hi = true) : (yes = true ∧ lo ≤ n ∧ n ≤ hi) ∨ (yes = false ∧ n = 0) := by
  unfold within at h
  cases yes <;> simp at h
  · exact .inr ⟨rfl, h⟩
  · exact .inl ⟨rfl, h⟩
structure Good (e : E) : Prop where
  kind : 1 ≤ e.kind ∧ e.kind ≤ 9
  run : within (has e.kind 114) e.run 1 64 = true
  task : within (has e.kind 116) e.task 0 15 = true
  try_ : within (has e.kind 121) e.try_ 1 9 = true
  n : within (has e.kind 110) e.n 1 (top e.kind) = true
  name : goodName e.kind e.name = true
  key : goodKey e.kind e.key = true
  data : goodData e.kind e.data = true
theorem good_iff {e : E} : good e = true ↔ Good e := by
  unfold good
  simp only [Bool.and_eq_true, decide_eq_true_eq]
  exact ⟨fun ⟨h1, h2, h3, h4, h5, h6, h7, h8⟩ => ⟨h1, h2, h3, h4, h5, h6, h7, h8⟩, fun ⟨h1, h2, h3, h4, h5, h6, h7, h8⟩ => ⟨h1, h2, h3, h4, h5, h6, h7, h8⟩⟩
theorem top_le (k : Int) : top k ≤ 1099511627776 := by unfold top; split <;> omega
theorem most_le (k : Int) : most k ≤ 900 := by unfold most; repeat' split
                                               all_goals omega
theorem name_size {s : ByteArray} (h : Nm.isName s.data.toList = true) : 1 ≤ s.size ∧ s.size ≤ 16 := by
  unfold Nm.isName at h
  simp only [Bool.and_eq_true, decide_eq_true_eq] at h
  rw [sizeB_list] at h
  exact h.1
theorem Good.nameIn {e : E} (h : Good e) : (has e.kind 97 = true ∧ 1 ≤ e.name.size ∧ e.name.size ≤ 16) ∨ (has e.kind 97 = false ∧ e.name.size = 0) := by
  have := h.name
  unfold goodName at this
  cases hx : has e.kind 97 <;> rw [hx] at this <;> simp at this
  · exact .inr ⟨rfl, by simpa using this⟩
  · exact .inl ⟨rfl, name_size this⟩
theorem Good.keyIn {e : E} (h : Good e) : (has e.kind 107 = true ∧ e.key.size ≤ 16) ∨ e.key.size = 0 := by
  have := h.key
  unfold goodKey at this
  simpa using this
theorem Good.dataIn {e : E} (h : Good e) : (has e.kind 100 = true ∧ (e.data.size : Int) ≤ most e.kind) ∨ e.data.size = 0 := by
  have := h.data
  unfold goodData at this
  simpa using this
theorem Good.fits {e : E} (h : Good e) : Fits e := by
  have h1 := within_in h.run
  have h2 := within_in h.task
  have h3 := within_in h.try_
  have h4 := within_in h.n
  have h5 := h.nameIn
  have h6 := h.keyIn
  have h7 := h.dataIn
  have h8 := top_le e.kind
  have h9 := most_le e.kind
  exact ⟨by omega, by omega, by omega, by omega, by omega, by omega, by omega⟩
theorem Good.ov_eq {e : E} (h : Good e) : ov e { zero with kind := e.kind } (codes e.kind) = e := by
  have h1 := within_in h.run
  have h2 := within_in h.task
  have h3 := within_in h.try_
  have h4 := within_in h.n
  have h5 := h.nameIn
  have h6 := h.keyIn
  have h7 := h.dataIn
  have key : ∀ {c : UInt8}, has e.kind c = false → c ∉ codes e.kind := fun {c} hf hm => by rw [has_mem.2 hm] at hf; cases hf
  obtain ⟨kind, run, task, try_, n, name, k, data⟩ := e
  simp only at *
  unfold ov zero
  simp only
  congr 1
  · rcases h1 with ⟨a, _⟩ | ⟨a, b⟩
    · rw [if_pos (has_mem.1 a)]
    · rw [if_neg (key a), b]
  · rcases h2 with ⟨a, _⟩ | ⟨a, b⟩
    · rw [if_pos (has_mem.1 a)]
    · rw [if_neg (key a), b]
  · rcases h3 with ⟨a, _⟩ | ⟨a, b⟩
    · rw [if_pos (has_mem.1 a)]
    · rw [if_neg (key a), b]
  · rcases h4 with ⟨a, _⟩ | ⟨a, b⟩
    · rw [if_pos (has_mem.1 a)]
    · rw [if_neg (key a), b]
  · rcases h5 with ⟨a, _⟩ | ⟨a, b⟩
    · rw [if_pos (has_mem.1 a)]
    · rw [if_neg (key a), emptyB b]
  · split
    · rfl
    · next hn =>
      rcases h6 with ⟨a, _⟩ | b
      · exact absurd (has_mem.1 a) hn
      · rw [emptyB b]
  · split
    · rfl
    · next hn =>
      rcases h7 with ⟨a, _⟩ | b
      · exact absurd (has_mem.1 a) hn
      · rw [emptyB b]
/-- What was written is read, whatever follows it. -/
theorem final_bytes {e : E} (h : Good e) (rest : List Int) : final (bytes e ++ rest) = ⟨rest, false, e⟩ := by
  have hk := h.kind
  obtain ⟨q1, q2, q3⟩ := readM e.kind ((codes e.kind).flatMap (field e) ++ rest) 9 (by omega) (by omega) (by omega)
  have hb : bytes e ++ rest = leb e.kind ++ ((codes e.kind).flatMap (field e) ++ rest) := by unfold bytes; rw [List.append_assoc]
  unfold final start
  rw [hb, q1, q2, q3]
  rw [show (!true) = false from rfl, fold_full h.fits rest _ _ (codes_code _), h.ov_eq]
theorem acc_bytes {e : E} (h : Good e) : acc (bytes e) = true ∧ (final (bytes e)).e = e := by
  have := final_bytes h []
  rw [List.append_nil] at this
  unfold acc
  rw [this, good_iff.2 h]
  exact ⟨rfl, rfl⟩
theorem put_bytes {e : E} (h : Good e) : put e = bytes e := by unfold put; rw [if_pos (good_iff.2 h)]
theorem getV_put {e : E} (h : Good e) : getV (put e) = e ∧ getE (put e) = 0 := by
  obtain ⟨h1, h2⟩ := acc_bytes h
  rw [put_bytes h]
  unfold getV getE
  rw [if_pos h1, if_pos h1]
  exact ⟨h2, rfl⟩
theorem put_inj {a b : E} (ha : Good a) (hb : Good b) (h : put a = put b) : a = b := by
  rw [← (getV_put ha).1, ← (getV_put hb).1, h]
/-- No first part of an event's bytes is another's bytes. -/
theorem put_first {a b : E} (ha : Good a) (hb : Good b) (rest : List Int) (h : put a = put b ++ rest) : rest = [] := by
  rw [put_bytes ha, put_bytes hb] at h
  have h1 := final_bytes ha []
  rw [List.append_nil, h, final_bytes hb rest] at h1
  exact congrArg R.zs h1
theorem leb_le (v : Int) (h0 : 0 ≤ v) (h1 : v < 128) : (leb v).length = 1 := by rw [leb_small v h0 h1]; rfl
theorem field_len {e : E} (h : Good e) (c : UInt8) (hc : Code c) : (field e c).length ≤ if c = 100 then 902 else if c = 97 then 17 else if c = 107 then 17 else if c = 110 then 6 else 1 := by
  have hf := h.fits
  have hn := h.nameIn
  have hk := h.keyIn
  unfold Code at hc
  rcases hc with rfl | rfl | rfl | rfl | rfl | rfl | rfl
  · show (leb e.run).length ≤ 1; rw [leb_le _ hf.r.1 (by have := hf.r.2; omega)]; exact Nat.le_refl _
  · show (leb e.task).length ≤ 1; rw [leb_le _ hf.t.1 (by have := hf.t.2; omega)]; exact Nat.le_refl _
  · show (leb e.try_).length ≤ 1; rw [leb_le _ hf.y.1 (by have := hf.y.2; omega)]; exact Nat.le_refl _
  · show (leb e.n).length ≤ 6
    exact leb_len_aux 6 e.n hf.n.1 (by have := hf.n.2; omega) (by decide)
  · show (putS e.name).length ≤ 17
    unfold putS
    rw [List.length_append, strB_len, leb_le _ (by omega) (by omega)]; omega
  · show (putS e.key).length ≤ 17
    unfold putS
    rw [List.length_append, strB_len, leb_le _ (by omega) (by omega)]; omega
  · show (putS e.data).length ≤ 902
    unfold putS
    have := leb_len_aux 2 (e.data.size : Int) (by omega) (by have := hf.d; omega) (by decide)
    rw [List.length_append, strB_len]
    have := hf.d
    omega
theorem put_len {e : E} (h : Good e) : 1 ≤ (put e).length ∧ (put e).length ≤ 1000 := by
  rw [put_bytes h]
  have hk := h.kind
  have hl := field_len h
  unfold bytes
  rw [List.length_append, leb_le e.kind (by omega) (by omega)]
  refine ⟨by omega, ?_⟩
  rcases codes_in e.kind with hx | hx | hx | hx | hx | hx | hx | hx | hx | hx
  case inr.inr.inr.inr.inr.inr.inr.inr.inr => rw [hx]; simp
  all_goals
    rw [hx]
    simp [codes, List.flatMap_cons]
    have a1 := hl 114 (by unfold Code; simp)
    have a2 := hl 116 (by unfold Code; simp)
    have a3 := hl 121 (by unfold Code; simp)
    have a4 := hl 110 (by unfold Code; simp)
    have a5 := hl 97 (by unfold Code; simp)
    have a6 := hl 107 (by unfold Code; simp)
    have a7 := hl 100 (by unfold Code; simp)
    simp at a1 a2 a3 a4 a5 a6 a7
    omega
/-- What reading answers, told by writing alone. -/
theorem get_iff {zs : List Int} (hb : Byte zs) : acc zs = true ↔ ∃ e, Good e ∧ zs = put e := by
  constructor
  · intro h
    obtain ⟨h1, h2⟩ := acc_put hb h
    exact ⟨_, good_iff.1 h1, h2⟩
  · rintro ⟨e, h, rfl⟩
    rw [put_bytes h]
    exact (acc_bytes h).1
end Go.Proofs.YtighnooklcmjaaaDoor.Ev
/-
  The reference's fields, hasField, within, at every argument.
-/
namespace Go.Proofs.YtighnooklcmjaaaDoor
open Go.RowKit
def is64 (z : Int) : Prop := -9223372036854775808 ≤ z ∧ z ≤ 9223372036854775807
/-- The letters of a kind as a string. -/
def Ev.cstr (k : Int) : ByteArray := ⟨(Ev.codes k).toArray⟩
set_option maxHeartbeats 2000000 in
theorem fields_any (k : Int) (hk : is64 k) (w : World) : Calls Tryd.prog 30 #[.int .i64 k] w fun e w' => e = .returned (.tuple #[.string (Ev.cstr k), .int .i64 (Ev.most k)]) ∧ Below w.heap.size w w' := by
  obtain ⟨k0, k1⟩ := hk
  by_cases h1 : k < 1
  · have E1 : Hid (Ev.cstr k = ⟨#[]⟩) := Lib.hid (by unfold Ev.cstr Ev.codes; repeat rw [if_neg (by omega)])
    have E2 : Hid (Ev.most k = 0) := Lib.hid (by unfold Ev.most; rw [if_neg (by omega), if_neg (by omega)])
    go_enter Tryd.func30, Tryd.ntmps30
    go_wp2
    go_ret2
    rw [E1.out, E2.out]
    exact ⟨rfl, (Below.refl _ w).alloc (Nat.le_refl _) _⟩
  by_cases h9 : 9 < k
  · have E1 : Hid (Ev.cstr k = ⟨#[]⟩) := Lib.hid (by unfold Ev.cstr Ev.codes; repeat rw [if_neg (by omega)])
    have E2 : Hid (Ev.most k = 0) := Lib.hid (by unfold Ev.most; rw [if_neg (by omega), if_neg (by omega)])
    have h1' : 1 ≤ k := by omega
    clear h1
    go_enter Tryd.func30, Tryd.ntmps30
    go_wp2
    go_ret2
    rw [E1.out, E2.out]
    exact ⟨rfl, (Below.refl _ w).alloc (Nat.le_refl _) _⟩
  have hc : k = 1 ∨ k = 2 ∨ k = 3 ∨ k = 4 ∨ k = 5 ∨ k = 6 ∨ k = 7 ∨ k = 8 ∨ k = 9 := by omega
  clear k0 k1 h1 h9
  rcases hc with rfl | rfl | rfl | rfl | rfl | rfl | rfl | rfl | rfl
  all_goals
    go_enter Tryd.func30, Tryd.ntmps30
    go_wp2
    go_ret2
    exact ⟨rfl, (Below.refl _ w).alloc (Nat.le_refl _) _⟩
set_option maxHeartbeats 1000000 in
theorem within_any (yes : Bool) (n lo hi : Int) (w : World) : Calls Tryd.prog 33 #[.bool yes, .int .i64 n, .int .i64 lo, .int .i64 hi] w fun e w' => e = .returned (.bool (Ev.within yes n lo hi)) ∧ w = w' := by
  cases yes
  · go_enter Tryd.func33, Tryd.ntmps33
    go_wp2
    go_ret
    exact ⟨ret_bool (by unfold Ev.within; rw [if_neg (by decide)]; by_cases h : n = 0 <;> simp [h]), rfl⟩
  · by_cases h1 : lo ≤ n
    · by_cases h2 : n ≤ hi
      · have E : Hid (Ev.within true n lo hi = true) := Lib.hid (by simp [Ev.within]; omega)
        go_enter Tryd.func33, Tryd.ntmps33
        go_wp2
        go_ret
        exact ⟨ret_bool (by rw [E.out]), rfl⟩
      · have E : Hid (Ev.within true n lo hi = false) := Lib.hid (by simp [Ev.within]; omega)
        have h2' : hi < n := by omega
        clear h2
        go_enter Tryd.func33, Tryd.ntmps33
        go_wp2
        go_ret
        exact ⟨ret_bool (by rw [E.out]; exact decide_eq_false (by omega)), rfl⟩
    · have E : Hid (Ev.within true n lo hi = false) := Lib.hid (by simp [Ev.within]; omega)
      have h1' : n < lo := by omega
      clear h1
      go_enter Tryd.func33, Tryd.ntmps33
      go_wp2
      go_ret
      exact ⟨ret_bool (by rw [E.out]), rfl⟩
theorem cstr_size (k : Int) : (Ev.cstr k).size = (Ev.codes k).length := by unfold Ev.cstr; simp [ByteArray.size]
theorem cstr_get (k : Int) (i : Nat) (h : i < (Ev.cstr k).size) : (Ev.codes k)[i]? = some (Ev.cstr k)[i] := by
  have h2 : i < (Ev.codes k).length := by rw [← cstr_size]; exact h
  rw [List.getElem?_eq_getElem h2]
  rfl
theorem codes_few (k : Int) : (Ev.codes k).length ≤ 4 := by
  unfold Ev.codes
  repeat' split
  all_goals decide
set_option maxRecDepth 8000 in
set_option maxHeartbeats 1000000 in
theorem hasField_any (k : Int) (hk : is64 k) (c : UInt8) (w : World) : Calls Tryd.prog 34 #[.int .i64 k, .int .u8 (c.toNat : Int)] w fun e w' => e = .returned (.bool (Ev.has k c)) ∧ Below w.heap.size w w' := by
  have F := Lib.hid (fields_any k hk w)
  have hs : (Ev.cstr k).size ≤ 4 := by rw [cstr_size]; exact codes_few k
  have G := Lib.hid (fun i (h : i < (Ev.cstr k).size) => cstr_get k i h)
  have HF : Hid (Ev.has k c = (Ev.codes k).contains c) := Lib.hid rfl
  have SZ := Lib.hid (cstr_size k)
  generalize Ev.cstr k = s at *
  generalize Ev.has k c = r at *
  generalize Ev.most k = m at *
  go_enter Tryd.func34, Tryd.ntmps34
  go_wp2_with fail
  refine F.out.mono ?_; rintro e w1 ⟨rfl, hb⟩
  have HB := Lib.hid hb
  clear hb
  go_wp2_with fail
  go_loop [7] (fun i => ∃ j : Nat, j ≤ s.size ∧ Hid (c ∉ (Ev.codes k).take j) ∧ i = .int .i64 j) (fun i => s.size - (intOf i).toNat)
  case atStart => exact ⟨0, Nat.zero_le _, Lib.hid (by simp), rfl⟩
  case round =>
    obtain ⟨j, hj, HN, rfl⟩ := hrel
    by_cases hlt : j < s.size
    · have hlt' : (j : Int) < (s.size : Int) := by omega
      have hg := G.out j hlt
      have hlen : j < (Ev.codes k).length := by rw [← SZ.out]; exact hlt
      by_cases he : s[j] = c
      · have R : Hid (r = true) := Lib.hid (by rw [HF.out, List.contains_iff_mem, ← he]; exact List.mem_of_getElem? hg)
        have he' : ((s[j]).toNat : Int) = (c.toNat : Int) := by rw [he]
        clear hg he
        go_wp2
        go_ret
        exact ⟨ret_bool R.out.symm, HB.out⟩
      · have R : Hid (c ∉ (Ev.codes k).take (j + 1)) := Lib.hid (by
          rw [List.take_succ_eq_append_getElem hlen, List.mem_append, List.mem_singleton]
          rintro (h | h)
          · exact HN.out h
          · rw [List.getElem?_eq_getElem hlen] at hg
            exact he ((Option.some.inj hg).symm.trans h.symm))
        have he' : ¬ ((s[j]).toNat : Int) = (c.toNat : Int) := fun h => he (UInt8.toNat_inj.1 (by omega))
        clear hg he
        go_wp2
        go_round
        case rel => exact ⟨j + 1, hlt, R, by go_num⟩
        case measure => simp [intOf]; omega
    · have R : Hid (r = false) := Lib.hid (by
        rw [HF.out]
        have hN := HN.out
        rw [List.take_of_length_le (by rw [← SZ.out]; omega)] at hN
        cases hx : (Ev.codes k).contains c with
        | false => rfl
        | true => exact absurd (List.contains_iff_mem.1 hx) hN)
      obtain rfl : j = s.size := by omega
      go_wp2
      go_ret
      exact ⟨ret_bool R.out.symm, HB.out⟩
end Go.Proofs.YtighnooklcmjaaaDoor
/-
  The reference's Name at every argument.
-/
namespace Go.Proofs.YtighnooklcmjaaaDoor
open Go.RowKit
set_option maxRecDepth 8000 in
set_option maxHeartbeats 1000000 in
theorem refName_at (s : ByteArray) (hs : s.size ≤ 9223372036854775807) (w : World) : Calls Tryd.prog 35 #[.string s] w fun e w' => e = .returned (.bool (Nm.isName s.data.toList)) ∧ w = w' := by
  have hs' : (s.size : Int) ≤ 9223372036854775807 := by omega
  have st : Hid (CharsTo s 0) := Lib.hid ⟨Nat.zero_le _, rfl⟩
  go_enter Tryd.func35, Tryd.ntmps35
  go_wp2
  go_loop [3] (fun i => ∃ k : Nat, CharsTo s k ∧ i = .int .i64 k) (fun i => s.size - (intOf i).toNat)
  case atStart => exact ⟨0, st.out, rfl⟩
  case round =>
    obtain ⟨k, hk, rfl⟩ := hrel
    have HK := Lib.hid hk
    clear hk
    by_cases hlt : k < s.size
    · have hlt' : (k : Int) < (s.size : Int) := by omega
      have NO := name_no hlt
      have YES := HK.out.next hlt
      have CS := char_split s[k]
      have hr : 0 ≤ (s[k].toNat : Int) ∧ (s[k].toNat : Int) ≤ 255 := by have := s[k].toNat_lt; omega
      obtain ⟨c, hc⟩ : ∃ c : Int, (s[k].toNat : Int) = c := ⟨_, rfl⟩
      rw [hc] at CS hr
      obtain ⟨z0, z1⟩ := hr
      rcases CS with ⟨a1, a2⟩ | ⟨a1, a2, a3⟩ | ⟨a1, a2, a3⟩ | ⟨a1, a2, a3⟩ | ⟨a1, a2⟩
      · have R := Lib.hid (NO a2)
        clear NO YES a2
        go_wp2
        go_ret
        exact ⟨ret_bool R.out.symm, rfl⟩
      · have R := Lib.hid (YES a3)
        clear NO YES a3
        go_wp2
        go_round
        case rel => exact ⟨k + 1, R.out, by go_num⟩
        case measure => simp [intOf]; omega
      · have R := Lib.hid (NO a3)
        clear NO YES a3
        go_wp2
        go_ret
        exact ⟨ret_bool R.out.symm, rfl⟩
      · have R := Lib.hid (YES a3)
        clear NO YES a3
        go_wp2
        go_round
        case rel => exact ⟨k + 1, R.out, by go_num⟩
        case measure => simp [intOf]; omega
      · have R := Lib.hid (NO a2)
        clear NO YES a2
        go_wp2
        go_ret
        exact ⟨ret_bool R.out.symm, rfl⟩
    · obtain rfl : k = s.size := by have := HK.out.1; omega
      by_cases h0 : s.size = 0
      · have R := Lib.hid (name_len (s := s) (.inl h0))
        have h0' : (s.size : Int) = 0 := by omega
        go_wp2
        go_ret
        exact ⟨ret_bool R.out.symm, rfl⟩
      · by_cases h1 : 16 < s.size
        · have R := Lib.hid (name_len (s := s) (.inr h1))
          have h1' : 16 < (s.size : Int) := by omega
          go_wp2
          go_ret
          exact ⟨ret_bool (by rw [R.out]; first | exact decide_eq_false (by omega) | simp; omega), rfl⟩
        · have R := Lib.hid (name_yes (s := s) (by omega) (by omega) HK.out)
          have h2 : 1 ≤ (s.size : Int) := by omega
          have h3 : (s.size : Int) ≤ 16 := by omega
          clear h0 h1
          go_wp2
          go_ret
          exact ⟨ret_bool R.out.symm, rfl⟩
end Go.Proofs.YtighnooklcmjaaaDoor
