/-
  Part 1 of the texts behind the law: TBaseKit, TTextPlain, TGrPlain, TGrFw, TGrVals, TToPlain, TToVals, TBkPlain, TKyPlain, TNamePlain, TEvPlain, TEvBack, TZRows, TKRows, TKSrc, TFourKit, TOnly, TKyEnts, TKyMap, TEdges, TToPost, TRowsKit.
-/
import Derived.Test.YtkbekojnmdgdgaaGreatDoorProg
import Derived.WalkKit
import Derived.WalkSpells
import Derived.WalkLawsBesides
import Derived.Lib.Hide
import Derived.Lib.SlBytesConst
import Derived.Lib.AppendStr
import Derived.OwnWalk
import Derived.Laws.OwnMore
import Derived.Laws.BytesArg
import Derived.Maps.AppendAt
import Derived.ArgAppend
import Derived.OneCell
import Derived.Lib.SmallJoins
import Derived.RegionTactic
import Derived.RowKit
import Derived.Laws.Bits64b
import Derived.Laws.MakeOwn
import Derived.Maps.OwnSet
import Derived.Maps.RangeWalk
import Derived.DeepKeys4
import Derived.ProofKit
import Derived.OpenShut
import Derived.SliceStrings
/- BaseKit -/
namespace Go.Proofs.YtkbekojnmdgdgaaGreatDoor
open Go.RowKit
theorem ret_int {k : IntKind} {a b : Int} (h : a = b) : Ending.returned (.int k a) = .returned (.int k b) := by rw [h]
theorem ret_bool {a b : Bool} (h : a = b) : Ending.returned (.bool a) = .returned (.bool b) := by rw [h]
theorem add_off (b off j : Nat) : Addr.add ⟨b, off, none⟩ j = ⟨b, off + j, none⟩ := by
 unfold Addr.add
 split
 ·next h => subst h; rfl
 ·rfl
theorem block_lt {W : World} {b o : Nat} {v : Value} (h : W.cell? ⟨b, o, none⟩ = some v) : b < W.heap.size := by
 rcases Nat.lt_or_ge b W.heap.size with hl | hl
 ·exact hl
 ·simp [World.cell?, Array.getElem?_eq_none hl] at h
structure But (B g : Nat) (w w' : World) : Prop where
 os : w'.os = w.os
 tape : w'.tape = w.tape
 output : w'.output = w.output
 size : w.heap.size ≤ w'.heap.size
 block : ∀ k, k < B → k ≠ g → w'.heap[k]? = w.heap[k]?
theorem But.refl (B g : Nat) (w : World) : But B g w w := ⟨rfl, rfl, rfl, Nat.le_refl _, fun _ _ _ => rfl⟩
theorem But.trans {B g : Nat} {a b c : World} (h : But B g a b) (k : But B g b c) : But B g a c :=
 ⟨k.os.trans h.os, k.tape.trans h.tape, k.output.trans h.output, Nat.le_trans h.size k.size, fun i hi hg => (k.block i hi hg).trans (h.block i hi hg)⟩
theorem But.mono {B B' g : Nat} {w w' : World} (h : But B g w w') (hB : B' ≤ B) : But B' g w w' := ⟨h.os, h.tape, h.output, h.size, fun k hk hg => h.block k (by omega) hg⟩
theorem But.of {B g : Nat} {w w' : World} (h : Below B w w') : But B g w w' := ⟨h.os, h.tape, h.output, h.size, fun k hk _ => h.block k hk⟩
theorem But.below {B B0 g : Nat} {w w' : World} (h : But B g w w') (h1 : B0 ≤ B) (h2 : B0 ≤ g) : Below B0 w w' := ⟨h.os, h.tape, h.output, h.size, fun k hk => h.block k (by omega) (by omega)⟩
theorem But.set (B g o : Nat) (w : World) (v : Value) : But B g w (w.setCell ⟨g, o, none⟩ v) :=
 ⟨rfl, rfl, rfl, by simp [World.setCell], fun k _ hg => Below.heap_setCell _ _ _ _ hg⟩
theorem below_n {B : Nat} {a w : World} (h : Below B a w) (n : Nat) : Below B a (w.drewN n) := ⟨h.os, h.tape, h.output, h.size, h.block⟩
def is64 (z : Int) : Prop := -9223372036854775808 ≤ z ∧ z ≤ 9223372036854775807
def BoolP (w : World) (b : Bool) (e : Ending) (w' : World) : Prop := e = .returned (.bool b) ∧ Hid (Below w.heap.size w w')
theorem BoolP.plain {w w' : World} {b : Bool} {e : Ending} (h : BoolP w b e w') : e = .returned (.bool b) ∧ Below w.heap.size w w' := ⟨h.1, h.2.out⟩
def tailA (A : Option Addr) (cap k : Nat) : Option Addr := if cap = k then A else A.map (·.add k)
end Go.Proofs.YtkbekojnmdgdgaaGreatDoor
/- TextPlain -/
namespace Go.Proofs.YtkbekojnmdgdgaaGreatDoor.Tx
abbrev T := List UInt8
def split (c : UInt8) : T → List T
 | [] => [[]]
 | x :: r => if x = c then [] :: split c r else (x :: (split c r).headD []) :: (split c r).tail
def join (c : UInt8) : List T → T
 | [] => []
 | p :: r => if r.isEmpty then p else p ++ c :: join c r
theorem split_ne (c : UInt8) (t : T) : split c t ≠ [] := by
 cases t with
 | nil => simp [split]
 | cons x r => unfold split; split <;> simp
theorem split_head (c : UInt8) (t : T) : (split c t).headD [] :: (split c t).tail = split c t := by
 cases h : split c t with
 | nil => exact absurd h (split_ne c t)
 | cons p r => rfl
theorem join_more (c : UInt8) (p : T) {r : List T} (h : r ≠ []) : join c (p :: r) = p ++ c :: join c r := by
 cases r with
 | nil => exact absurd rfl h
 | cons q r => rfl
theorem join_head (c x : UInt8) (p : T) (r : List T) : join c ((x :: p) :: r) = x :: join c (p :: r) := by
 cases r with
 | nil => rfl
 | cons q r => rfl
theorem join_split (c : UInt8) : ∀ t : T, join c (split c t) = t
 | [] => rfl
 | x :: r => by
  have ih := join_split c r
  unfold split
  by_cases h : x = c
  ·rw [if_pos h, join_more c [] (split_ne c r), ih, h]; rfl
  ·rw [if_neg h, join_head, split_head, ih]
theorem split_one {c : UInt8} : ∀ {t : T}, c ∉ t → split c t = [t]
 | [], _ => rfl
 | x :: r, h => by
  unfold split
  rw [if_neg (fun e => h (by simp [e])), split_one (fun hc => h (List.mem_cons_of_mem _ hc))]
  rfl
theorem split_app {c : UInt8} : ∀ {p : T} (t : T), c ∉ p → split c (p ++ c :: t) = p :: split c t
 | [], t, _ => by
  show split c (c :: t) = _
  unfold split
  rw [if_pos rfl]
  cases t <;> rfl
 | x :: r, t, h => by
  show split c (x :: (r ++ c :: t)) = _
  rw [split, if_neg (fun e => h (by simp [e])), split_app t (fun hc => h (List.mem_cons_of_mem _ hc))]
  rfl
theorem split_join {c : UInt8} : ∀ {l : List T}, l ≠ [] → (∀ p ∈ l, c ∉ p) → split c (join c l) = l
 | [], h, _ => absurd rfl h
 | [p], _, h => split_one (h p (by simp))
 | p :: q :: r, _, h => by
  rw [join_more c p (by simp), split_app _ (h p (by simp)), split_join (l := q :: r) (by simp) fun x hx => h x (List.mem_cons_of_mem _ hx)]
theorem join_free {c d : UInt8} (hcd : d ≠ c) : ∀ {l : List T}, (∀ p ∈ l, d ∉ p) → d ∉ join c l
 | [], _ => by simp [join]
 | [p], h => h p (by simp)
 | p :: q :: r, h => by
  rw [join_more c p (by simp)]
  intro hm
  rcases List.mem_append.1 hm with hm | hm
  ·exact h p (by simp) hm
  ·rcases List.mem_cons.1 hm with e | hm
   ·exact hcd e
   ·exact join_free hcd (fun x hx => h x (List.mem_cons_of_mem _ hx)) hm
def jl : List T → Nat
 | [] => 0
 | p :: r => p.length + 1 + jl r
theorem join_len (c : UInt8) : ∀ l : List T, (join c l).length = jl l - 1
 | [] => rfl
 | [p] => by simp [join, jl]
 | p :: q :: r => by
  rw [join_more c p (by simp), List.length_append, List.length_cons, join_len c (q :: r)]
  simp only [jl]
  omega
theorem jl_sub {a b : List T} (h : a.Sublist b) : jl a ≤ jl b := by
 induction h with
 | slnil => exact Nat.le_refl _
 | cons _ _ ih => simp only [jl]; omega
 | cons_cons _ _ ih => simp only [jl]; omega
theorem join_sub (c : UInt8) {a b : List T} (h : a.Sublist b) : (join c a).length ≤ (join c b).length := by
 rw [join_len, join_len]
 have := jl_sub h
 omega
def mapO {α β : Type} (f : α → Option β) : List α → Option (List β)
 | [] => some []
 | a :: r => match f a, mapO f r with
  | some b, some bs => some (b :: bs)
  | _, _ => none
theorem mapO_iff {α β : Type} {f : α → Option β} : ∀ {l : List α} {bs : List β}, mapO f l = some bs ↔ l.map f = bs.map some
 | [], bs => by cases bs <;> simp [mapO]
 | a :: r, bs => by
  unfold mapO
  cases hf : f a with
  | none => cases bs <;> simp [hf]
  | some b =>
   cases hm : mapO f r with
   | none =>
    cases bs with
    | nil => simp
    | cons c cs =>
     simp only [List.map_cons, hf, List.cons.injEq, Option.some.injEq, reduceCtorEq, false_iff, not_and]
     intro _ h
     have := mapO_iff.2 h
     rw [hm] at this; cases this
   | some rs =>
    cases bs with
    | nil => simp
    | cons c cs =>
     simp only [List.map_cons, hf, List.cons.injEq, Option.some.injEq]
     rw [← mapO_iff, hm, Option.some.injEq]
theorem mapO_none {α β : Type} {f : α → Option β} : ∀ {l : List α}, mapO f l = none ↔ ∃ a, a ∈ l ∧ f a = none
 | [] => by simp [mapO]
 | a :: r => by
  unfold mapO
  cases hf : f a with
  | none => simp [hf]
  | some b =>
   have ih := mapO_none (f := f) (l := r)
   cases hm : mapO f r with
   | none =>
    obtain ⟨c, h1, h2⟩ := ih.1 hm
    simp only [true_iff]
    exact ⟨c, List.mem_cons_of_mem _ h1, h2⟩
   | some rs =>
    simp only [reduceCtorEq, false_iff]
    rintro ⟨c, h1, h2⟩
    rcases List.mem_cons.1 h1 with rfl | h1
    ·rw [hf] at h2; cases h2
    ·have := ih.2 ⟨c, h1, h2⟩
     rw [hm] at this; cases this
theorem mapO_len {α β : Type} {f : α → Option β} {l : List α} {bs : List β} (h : mapO f l = some bs) : bs.length = l.length := by
 have := congrArg List.length (mapO_iff.1 h)
 simpa using this.symm
theorem mapO_get {α β : Type} {f : α → Option β} {l : List α} {bs : List β} (h : mapO f l = some bs) {i : Nat} (hi : i < l.length) (hb : i < bs.length) : f l[i] = some bs[i] := by
 have h1 := mapO_iff.1 h
 have h2 : (l.map f)[i]'(by simpa using hi) = (bs.map some)[i]'(by simpa using hb) := by simp only [h1]
 simpa using h2
end Go.Proofs.YtkbekojnmdgdgaaGreatDoor.Tx
/- GrPlain -/
namespace Go.Proofs.YtkbekojnmdgdgaaGreatDoor.Gr
abbrev E := List (Nat × Nat)
def Low (es : E) (n : Nat) : Prop := ∀ e ∈ es, e.1 < n ∧ e.2 < n
theorem nodup_low : ∀ (n : Nat) (l : List Nat), (∀ x ∈ l, x < n) → l.Nodup → l.length ≤ n
 | 0, l, h, _ => by
  cases l with
  | nil => simp
  | cons x r => have := h x (by simp); omega
 | n + 1, l, h, hd => by
  have h1 : ∀ x ∈ l.erase n, x < n := fun x hx => by
   have h2 := h x (List.mem_of_mem_erase hx)
   have h3 := (List.Nodup.mem_erase_iff hd).1 hx
   omega
  have h2 := nodup_low n (l.erase n) h1 (hd.erase n)
  rw [List.length_erase] at h2
  split at h2 <;> omega
def aheadV (es : E) (n b : Nat) : List Nat := (List.range n).filter fun a => es.contains (a, b)
theorem mem_ahead {es : E} {n a b : Nat} (hl : Low es n) : a ∈ aheadV es n b ↔ (a, b) ∈ es := by
 unfold aheadV
 rw [List.mem_filter, List.contains_iff_mem, List.mem_range]
 exact ⟨fun h => h.2, fun h => ⟨(hl _ h).1, h⟩⟩
end Go.Proofs.YtkbekojnmdgdgaaGreatDoor.Gr
/- GrFw -/
namespace Go.Proofs.YtkbekojnmdgdgaaGreatDoor.Gr
abbrev EI := List (Int × Int)
structure Good (n : Int) (es : EI) : Prop where
 n0 : 0 ≤ n
 n16 : n ≤ 16
 edge : ∀ e ∈ es, 0 ≤ e.1 ∧ e.1 < n ∧ 0 ≤ e.2 ∧ e.2 < n ∧ e.1 ≠ e.2
 once : es.Nodup
def goodV (n : Int) (es : EI) : Bool := decide (0 ≤ n ∧ n ≤ 16 ∧ (∀ e ∈ es, 0 ≤ e.1 ∧ e.1 < n ∧ 0 ≤ e.2 ∧ e.2 < n ∧ e.1 ≠ e.2) ∧ es.Nodup)
theorem goodV_iff {n : Int} {es : EI} : goodV n es = true ↔ Good n es := by
 unfold goodV
 rw [decide_eq_true_eq]
 exact ⟨fun h => ⟨h.1, h.2.1, h.2.2.1, h.2.2.2⟩, fun h => ⟨h.n0, h.n16, h.edge, h.once⟩⟩
theorem goodV_no {n : Int} {es : EI} (h : ¬ Good n es) : goodV n es = false := by
 cases hg : goodV n es with
 | false => rfl
 | true => exact absurd (goodV_iff.1 hg) h
def nat (es : EI) : E := es.map fun e => (e.1.toNat, e.2.toNat)
theorem Good.low {n : Int} {es : EI} (h : Good n es) : Low (nat es) n.toNat := fun e he => by
 obtain ⟨x, hx, rfl⟩ := List.mem_map.1 he
 have := h.edge x hx
 exact ⟨by show x.1.toNat < _; omega, by show x.2.toNat < _; omega⟩
end Go.Proofs.YtkbekojnmdgdgaaGreatDoor.Gr
/- GrVals -/
namespace Go.Proofs.YtkbekojnmdgdgaaGreatDoor.Gr
def ints (l : List Nat) : List Int := l.map Int.ofNat
theorem ints_len (l : List Nat) : (ints l).length = l.length := by simp [ints]
theorem ints_get (l : List Nat) (i : Nat) : (ints l).getD i 0 = ((l.getD i 0 : Nat) : Int) := by
 unfold ints
 rw [List.getD_eq_getElem?_getD, List.getElem?_map, List.getD_eq_getElem?_getD]
 cases l[i]? <;> rfl
theorem ints_app (l k : List Nat) : ints (l ++ k) = ints l ++ ints k := by simp [ints]
end Go.Proofs.YtkbekojnmdgdgaaGreatDoor.Gr
/- ToPlain -/
namespace Go.Proofs.YtkbekojnmdgdgaaGreatDoor.To
open Gr
def ready (es : E) (n : Nat) (l : List Nat) (x : Nat) : Bool := !l.contains x && (aheadV es n x).all fun a => l.contains a
def next (es : E) (n : Nat) (l : List Nat) : Option Nat := (List.range n).find? (ready es n l)
def orderK (es : E) (n : Nat) : Nat → List Nat → Option (List Nat)
 | 0, l => some l
 | k + 1, l => match next es n l with
  | none => none
  | some x => orderK es n k (l ++ [x])
def orderV (es : E) (n : Nat) : Option (List Nat) := orderK es n n []
structure Ord (es : E) (n : Nat) (l : List Nat) : Prop where
 once : l.Nodup
 low : ∀ x ∈ l, x < n
 behind : ∀ i, i < l.length → ∀ a, (a, l.getD i 0) ∈ es → a ∈ l.take i
theorem Ord.nil (es : E) (n : Nat) : Ord es n [] := ⟨List.nodup_nil, fun x h => by simp at h, fun i h => by simp at h⟩
theorem ready_iff {es : E} {n : Nat} (hl : Low es n) (l : List Nat) (x : Nat) : ready es n l x = true ↔ x ∉ l ∧ ∀ a, (a, x) ∈ es → a ∈ l := by
 unfold ready
 rw [Bool.and_eq_true, Bool.not_eq_true', List.all_eq_true]
 constructor
 ·rintro ⟨h1, h2⟩
  refine ⟨fun h => (by rw [List.contains_iff_mem.2 h] at h1; cases h1), fun a ha => List.contains_iff_mem.1 (h2 a ((mem_ahead hl).2 ha))⟩
 ·rintro ⟨h1, h2⟩
  refine ⟨?_, fun a ha => List.contains_iff_mem.2 (h2 a ((mem_ahead hl).1 ha))⟩
  cases hc : l.contains x with
  | false => rfl
  | true => exact absurd (List.contains_iff_mem.1 hc) h1
theorem next_some {es : E} {n x : Nat} {l : List Nat} (h : next es n l = some x) : x < n ∧ ready es n l x = true ∧ ∀ y, y < x → ready es n l y = false := by
 unfold next at h
 rw [List.find?_eq_some_iff_getElem] at h
 obtain ⟨h1, i, hi, h2, h3⟩ := h
 rw [List.getElem_range] at h2
 subst h2
 rw [List.length_range] at hi
 refine ⟨hi, h1, fun y hy => ?_⟩
 have := h3 y hy
 rw [List.getElem_range] at this
 simpa using this
theorem next_eq {es : E} {n x : Nat} {l : List Nat} (hx : x < n) (h : ready es n l x = true) (hm : ∀ y, y < x → ready es n l y = false) : next es n l = some x := by
 unfold next
 rw [List.find?_eq_some_iff_getElem]
 refine ⟨h, x, by simpa using hx, by rw [List.getElem_range], fun y hy => ?_⟩
 rw [List.getElem_range, hm y hy]; rfl
theorem next_none {es : E} {n : Nat} {l : List Nat} : next es n l = none ↔ ∀ y, y < n → ready es n l y = false := by
 unfold next
 rw [List.find?_eq_none]
 constructor
 ·intro h y hy
  have := h y (by simpa using hy)
  simpa using this
 ·intro h y hy
  rw [h y (by simpa using hy)]; simp
theorem Ord.next {es : E} {n x : Nat} {l : List Nat} (hl : Low es n) (h : Ord es n l) (hx : x < n) (hr : ready es n l x = true) : Ord es n (l ++ [x]) := by
 obtain ⟨h1, h2⟩ := (ready_iff hl l x).1 hr
 refine ⟨List.nodup_append.2 ⟨h.once, by simp, fun a ha b hb hab => by simp at hb; subst hb; subst hab; exact h1 ha⟩, fun y hy => ?_, fun i hi a ha => ?_⟩
 ·rcases List.mem_append.1 hy with hy | hy
  ·exact h.low y hy
  ·simp at hy; subst hy; exact hx
 ·rcases Nat.lt_or_ge i l.length with hlt | hge
  ·rw [List.getD_eq_getElem?_getD, List.getElem?_append_left hlt, ← List.getD_eq_getElem?_getD] at ha
   rw [List.take_append_of_le_length (by omega)]
   exact h.behind i hlt a ha
  ·have hie : i = l.length := by simp at hi; omega
   subst hie
   rw [List.getD_eq_getElem?_getD, List.getElem?_append_right (by omega)] at ha
   simp at ha
   rw [List.take_append_of_le_length (by omega), List.take_length]
   exact h2 a ha
end Go.Proofs.YtkbekojnmdgdgaaGreatDoor.To
/- ToVals -/
namespace Go.Proofs.YtkbekojnmdgdgaaGreatDoor.To
open Gr
def okI (n : Int) (es : EI) : Bool := goodV n es && (orderV (nat es) n.toNat).isSome
def orderI (n : Int) (es : EI) : Option (List Int) := if goodV n es then (orderV (nat es) n.toNat).map ints else none
theorem orderI_bad {n : Int} {es : EI} (h : goodV n es = false) : orderI n es = none := by unfold orderI; rw [h]; rfl
end Go.Proofs.YtkbekojnmdgdgaaGreatDoor.To
/- BkPlain -/
namespace Go.Proofs.YtkbekojnmdgdgaaGreatDoor.Bk
def dl (b k : Nat) : Nat := min 64000 (b * 2 ^ (k - 1))
theorem pow_pos2 (k : Nat) : 1 ≤ 2 ^ k := Nat.one_le_two_pow
theorem dl_pos {b : Nat} (hb : 1 ≤ b) (k : Nat) : 1 ≤ dl b k := by
 have h : 1 * 1 ≤ b * 2 ^ (k - 1) := Nat.mul_le_mul hb (pow_pos2 _)
 unfold dl
 omega
theorem dl_le (b k : Nat) : dl b k ≤ 64000 := Nat.min_le_left _ _
theorem dl_top {b k : Nat} (h : 64000 ≤ b * 2 ^ (k - 1)) : dl b k = 64000 := Nat.min_eq_left h
theorem dl_low {b k : Nat} (h : b * 2 ^ (k - 1) ≤ 64000) : dl b k = b * 2 ^ (k - 1) := Nat.min_eq_right h
theorem dl_next (b : Nat) {k : Nat} (hk : 1 ≤ k) : dl b (k + 1) = min 64000 (2 * dl b k) := by
 obtain ⟨j, rfl⟩ : ∃ j, k = j + 1 := ⟨k - 1, by omega⟩
 unfold dl
 rw [Nat.add_sub_cancel, Nat.add_sub_cancel, Nat.pow_succ, ← Nat.mul_assoc]
 generalize b * 2 ^ j = x
 omega
theorem dl_step (b k : Nat) : dl b k ≤ dl b (k + 1) := by
 cases k with
 | zero => exact Nat.le_refl _
 | succ j =>
  rw [dl_next b (k := j + 1) (by omega)]
  have := dl_le b (j + 1)
  omega
theorem dl_mono (b : Nat) {k l : Nat} (h : k ≤ l) : dl b k ≤ dl b l := by
 induction l with
 | zero => rw [Nat.le_zero.1 h]; exact Nat.le_refl _
 | succ l ih =>
  rcases Nat.lt_or_ge l k with h2 | h2
  ·rw [show k = l + 1 by omega]; exact Nat.le_refl _
  ·exact Nat.le_trans (ih h2) (dl_step b l)
theorem dl_17 {b k : Nat} (hb : 1 ≤ b) (hk : 17 ≤ k) : dl b k = 64000 := by
 refine Nat.le_antisymm (dl_le _ _) (Nat.le_trans ?_ (dl_mono b hk))
 unfold dl
 have : 1 * 2 ^ 16 ≤ b * 2 ^ (17 - 1) := Nat.mul_le_mul_right _ hb
 omega
def delayI (b t : Int) : Int := if b < 1 ∨ t < 1 then 0 else (dl b.toNat t.toNat : Int)
theorem delayI_rng (b t : Int) : 0 ≤ delayI b t ∧ delayI b t ≤ 64000 := by
 unfold delayI
 split
 ·omega
 ·have := dl_le b.toNat t.toNat; omega
end Go.Proofs.YtkbekojnmdgdgaaGreatDoor.Bk
/- KyPlain -/
namespace Go.Proofs.YtkbekojnmdgdgaaGreatDoor.Ky
structure T where
 name : ByteArray
 key : ByteArray
 id : Int
deriving DecidableEq
def same (a : T) (n k : ByteArray) : Bool := decide (a.name = n) && decide (a.key = k)
theorem same_iff {a : T} {n k : ByteArray} : same a n k = true ↔ a.name = n ∧ a.key = k := by unfold same; simp
structure S where
 most : Int
 l : List T
def clamp (m : Int) : Int := if m < 1 then 1 else if 128 < m then 128 else m
def newS (m : Int) : S := ⟨clamp m, []⟩
def findV (s : S) (n k : ByteArray) : Option T := s.l.find? fun a => same a n k
def getV (s : S) (n k : ByteArray) : Int := ((findV s n k).map (·.id)).getD 0
def getB (s : S) (n k : ByteArray) : Bool := (findV s n k).isSome
def pushL (s : S) (x : T) : List T := (if (s.l.length : Int) = s.most then s.l.drop 1 else s.l) ++ [x]
def putS (s : S) (n k : ByteArray) (id : Int) : S := match findV s n k with
 | some _ => s
 | none => ⟨s.most, pushL s ⟨n, k, id⟩⟩
def putV (s : S) (n k : ByteArray) (id : Int) : Int := match findV s n k with
 | some a => a.id
 | none => id
def putB (s : S) (n k : ByteArray) : Bool := (findV s n k).isNone
structure Inv (s : S) : Prop where
 most0 : 1 ≤ s.most
 most1 : s.most ≤ 128
 few : (s.l.length : Int) ≤ s.most
 once : s.l.Pairwise fun a b => same b a.name a.key = false
theorem push_len {s : S} (h : Inv s) (x : T) : ((pushL s x).length : Int) ≤ s.most := by
 have h0 := h.most0
 have h1 := h.few
 unfold pushL
 split
 ·rw [List.length_append, List.length_drop]; simp; omega
 ·rw [List.length_append]; simp; omega
theorem find_none {s : S} {n k : ByteArray} : findV s n k = none ↔ ∀ a ∈ s.l, same a n k = false := by
 unfold findV
 rw [List.find?_eq_none]
 exact ⟨fun h a ha => by have := h a ha; simpa using this, fun h a ha => by rw [h a ha]; simp⟩
theorem Inv.put {s : S} (h : Inv s) (n k : ByteArray) (id : Int) : Inv (putS s n k id) := by
 unfold putS
 cases hf : findV s n k with
 | some a => exact h
 | none =>
  have hn := find_none.1 hf
  refine ⟨h.most0, h.most1, push_len h _, ?_⟩
  have hsub : ∀ a ∈ (if (s.l.length : Int) = s.most then s.l.drop 1 else s.l), a ∈ s.l := fun a ha => by
   split at ha
   ·exact List.mem_of_mem_drop ha
   ·exact ha
  refine List.pairwise_append.2 ⟨?_, List.pairwise_singleton _ _, fun a ha b hb => ?_⟩
  ·split
   ·exact h.once.sublist (List.drop_sublist _ _)
   ·exact h.once
  ·obtain rfl : b = ⟨n, k, id⟩ := by simpa using hb
   cases hc : same ⟨n, k, id⟩ a.name a.key with
   | false => rfl
   | true =>
    obtain ⟨e1, e2⟩ := same_iff.1 hc
    have h2 := hn a (hsub a ha)
    rw [same_iff.2 ⟨e1.symm, e2.symm⟩] at h2
    cases h2
end Go.Proofs.YtkbekojnmdgdgaaGreatDoor.Ky
/- NamePlain -/
namespace Go.Proofs.YtkbekojnmdgdgaaGreatDoor
open Go.RowKit
namespace Nm
def isChar (c : UInt8) : Bool := decide (97 ≤ c.toNat ∧ c.toNat ≤ 122) || decide (48 ≤ c.toNat ∧ c.toNat ≤ 57)
def isName (s : List UInt8) : Bool := decide (1 ≤ s.length ∧ s.length ≤ 16) && s.all isChar
end Nm
theorem takeB_snoc (s : ByteArray) (k : Nat) (h : k < s.size) : s.data.toList.take (k + 1) = s.data.toList.take k ++ [s[k]] := by
 rw [List.take_succ_eq_append_getElem (by simpa using h)]; rfl
theorem getB_data (s : ByteArray) (k : Nat) (h : k < s.size) : s.data.toList[k]? = some s[k] := by
 rw [List.getElem?_eq_getElem (by simpa using h)]; rfl
theorem sizeB_list (s : ByteArray) : s.data.toList.length = s.size := Array.length_toList
theorem takeB_all (s : ByteArray) : s.data.toList.take s.size = s.data.toList := List.take_of_length_le (by rw [sizeB_list]; exact Nat.le_refl _)
theorem emptyB {s : ByteArray} (h : s.size = 0) : s = ⟨#[]⟩ := by
 cases s with | mk d => exact congrArg _ (Array.eq_empty_of_size_eq_zero h)
theorem nonemptyB {s : ByteArray} (h : ¬ s.size = 0) : s.toList.isEmpty = false ∧ s.toList ≠ [] := by
 have h1 : s.toList ≠ [] := by
  rw [ByteArray.toList_eq]
  intro h2
  have h3 := congrArg List.length h2
  rw [Array.length_toList] at h3
  exact h h3
 exact ⟨by rw [List.isEmpty_eq_false_iff]; exact h1, h1⟩
theorem char_split (c : UInt8) : ((c.toNat : Int) < 48 ∧ Nm.isChar c = false) ∨ (48 ≤ (c.toNat : Int) ∧ (c.toNat : Int) ≤ 57 ∧ Nm.isChar c = true) ∨ (57 < (c.toNat : Int) ∧ (c.toNat : Int) < 97 ∧ Nm.isChar c = false) ∨
  (97 ≤ (c.toNat : Int) ∧ (c.toNat : Int) ≤ 122 ∧ Nm.isChar c = true) ∨ (122 < (c.toNat : Int) ∧ Nm.isChar c = false) := by
 unfold Nm.isChar
 simp only [Bool.or_eq_true, Bool.or_eq_false_iff, decide_eq_true_eq, decide_eq_false_iff_not]
 omega
def CharsTo (s : ByteArray) (k : Nat) : Prop := k ≤ s.size ∧ (s.data.toList.take k).all Nm.isChar = true
theorem CharsTo.next {s : ByteArray} {k : Nat} (h : CharsTo s k) (hk : k < s.size) (hc : Nm.isChar s[k] = true) : CharsTo s (k + 1) :=
 ⟨hk, by rw [takeB_snoc s k hk, List.all_append, h.2, Bool.true_and, List.all_cons, hc]; rfl⟩
theorem name_no {s : ByteArray} {k : Nat} (hk : k < s.size) (hc : Nm.isChar s[k] = false) : Nm.isName s.data.toList = false := by
 unfold Nm.isName
 have : s.data.toList.all Nm.isChar = false := by
  rw [List.all_eq_false]
  exact ⟨s[k], List.mem_of_getElem? (getB_data s k hk), by rw [hc]; simp⟩
 rw [this, Bool.and_false]
theorem name_yes {s : ByteArray} (h1 : 1 ≤ s.size) (h2 : s.size ≤ 16) (h : CharsTo s s.size) : Nm.isName s.data.toList = true := by
 have h3 := h.2
 rw [takeB_all] at h3
 unfold Nm.isName
 rw [h3, sizeB_list, Bool.and_true, decide_eq_true_eq]
 exact ⟨h1, h2⟩
theorem name_len {s : ByteArray} (h : s.size = 0 ∨ 16 < s.size) : Nm.isName s.data.toList = false := by
 unfold Nm.isName
 rw [sizeB_list, decide_eq_false (by omega), Bool.false_and]
end Go.Proofs.YtkbekojnmdgdgaaGreatDoor
/- EvPlain -/
namespace Go.Proofs.YtkbekojnmdgdgaaGreatDoor.Ev
structure E where
 kind : Int
 run : Int
 task : Int
 try_ : Int
 n : Int
 name : ByteArray
 key : ByteArray
 data : ByteArray
deriving DecidableEq
def codes (k : Int) : List UInt8 :=
 if k = 1 then [97, 100] else if k = 2 then [114, 97, 107] else if k = 3 then [114, 116, 121] else if k = 4 then [114, 116, 121, 100] else if k = 5 then [114, 116, 121] else if k = 6 then [110] else if k = 7 then [114, 97] else if k = 8 then [114] else if k = 9 then [110] else []
def most (k : Int) : Int := if k = 1 then 900 else if 1 ≤ k ∧ k ≤ 9 then 64 else 0
def top (k : Int) : Int := if k = 9 then 1048575 else 1099511627776
def has (k : Int) (c : UInt8) : Bool := (codes k).contains c
def within (yes : Bool) (n lo hi : Int) : Bool := if yes = true then decide (lo ≤ n ∧ n ≤ hi) else decide (n = 0)
def goodName (k : Int) (s : ByteArray) : Bool := if has k 97 = true then Nm.isName s.data.toList else decide (s.size = 0)
def goodKey (k : Int) (s : ByteArray) : Bool := (has k 107 && decide (s.size ≤ 16)) || decide (s.size = 0)
def goodData (k : Int) (s : ByteArray) : Bool := (has k 100 && decide ((s.size : Int) ≤ most k)) || decide (s.size = 0)
def good (e : E) : Bool :=
 decide (1 ≤ e.kind ∧ e.kind ≤ 9) && (within (has e.kind 114) e.run 1 64 && (within (has e.kind 116) e.task 0 15 && (within (has e.kind 121) e.try_ 1 9 && (within (has e.kind 110) e.n 1 (top e.kind) && (goodName e.kind e.name && (goodKey e.kind e.key && goodData e.kind e.data))))))
end Go.Proofs.YtkbekojnmdgdgaaGreatDoor.Ev
/- EvBack -/
namespace Go.Proofs.YtkbekojnmdgdgaaGreatDoor.Ev
structure Fits (e : E) : Prop where
 r : 0 ≤ e.run ∧ e.run ≤ 64
 t : 0 ≤ e.task ∧ e.task ≤ 64
 y : 0 ≤ e.try_ ∧ e.try_ ≤ 64
 n : 0 ≤ e.n ∧ e.n ≤ 1099511627776
 a : e.name.size ≤ 64
 k : e.key.size ≤ 64
 d : e.data.size ≤ 900
theorem within_in {yes : Bool} {n lo hi : Int} (h : within yes n lo hi = true) : (yes = true ∧ lo ≤ n ∧ n ≤ hi) ∨ (yes = false ∧ n = 0) := by
 unfold within at h
 cases yes <;> simp at h
 ·exact .inr ⟨rfl, h⟩
 ·exact .inl ⟨rfl, h⟩
structure Good (e : E) : Prop where
 kind : 1 ≤ e.kind ∧ e.kind ≤ 9
 run : within (has e.kind 114) e.run 1 64 = true
 task : within (has e.kind 116) e.task 0 15 = true
 try_ : within (has e.kind 121) e.try_ 1 9 = true
 n : within (has e.kind 110) e.n 1 (top e.kind) = true
 name : goodName e.kind e.name = true
 key : goodKey e.kind e.key = true
 data : goodData e.kind e.data = true
theorem good_iff {e : E} : good e = true ↔ Good e := by
 unfold good
 simp only [Bool.and_eq_true, decide_eq_true_eq]
 exact ⟨fun ⟨h1, h2, h3, h4, h5, h6, h7, h8⟩ => ⟨h1, h2, h3, h4, h5, h6, h7, h8⟩, fun ⟨h1, h2, h3, h4, h5, h6, h7, h8⟩ => ⟨h1, h2, h3, h4, h5, h6, h7, h8⟩⟩
theorem top_le (k : Int) : top k ≤ 1099511627776 := by unfold top; split <;> omega
theorem most_le (k : Int) : most k ≤ 900 := by unfold most; repeat' split
                                               all_goals omega
theorem name_size {s : ByteArray} (h : Nm.isName s.data.toList = true) : 1 ≤ s.size ∧ s.size ≤ 16 := by
 unfold Nm.isName at h
 simp only [Bool.and_eq_true, decide_eq_true_eq] at h
 rw [sizeB_list] at h
 exact h.1
theorem Good.nameIn {e : E} (h : Good e) : (has e.kind 97 = true ∧ 1 ≤ e.name.size ∧ e.name.size ≤ 16) ∨ (has e.kind 97 = false ∧ e.name.size = 0) := by
 have := h.name
 unfold goodName at this
 cases hx : has e.kind 97 <;> rw [hx] at this <;> simp at this
 ·exact .inr ⟨rfl, by simpa using this⟩
 ·exact .inl ⟨rfl, name_size this⟩
theorem Good.keyIn {e : E} (h : Good e) : (has e.kind 107 = true ∧ e.key.size ≤ 16) ∨ e.key.size = 0 := by
 have := h.key
 unfold goodKey at this
 simpa using this
theorem Good.dataIn {e : E} (h : Good e) : (has e.kind 100 = true ∧ (e.data.size : Int) ≤ most e.kind) ∨ e.data.size = 0 := by
 have := h.data
 unfold goodData at this
 simpa using this
theorem Good.fits {e : E} (h : Good e) : Fits e := by
 have h1 := within_in h.run
 have h2 := within_in h.task
 have h3 := within_in h.try_
 have h4 := within_in h.n
 have h5 := h.nameIn
 have h6 := h.keyIn
 have h7 := h.dataIn
 have h8 := top_le e.kind
 have h9 := most_le e.kind
 exact ⟨by omega, by omega, by omega, by omega, by omega, by omega, by omega⟩
end Go.Proofs.YtkbekojnmdgdgaaGreatDoor.Ev
/- ZRows -/
namespace Go.Proofs.YtkbekojnmdgdgaaGreatDoor
open Go.RowKit
def inI (z : Int) : Prop := -9223372036854775808 ≤ z ∧ z ≤ 9223372036854775807
def Zs (w : World) (B : Nat) (A : Option Addr) (zs : List Int) : Prop :=
 (∀ i, i < zs.length → inI (zs.getD i 0)) ∧
 (0 < zs.length → ∃ b off, A = some ⟨b, off, none⟩ ∧ b < B ∧ ∀ i, i < zs.length → w.cell? ⟨b, off + i, none⟩ = some (.int .i64 (zs.getD i 0)))
theorem Zs.at_ {w : World} {B : Nat} {A : Option Addr} {zs : List Int} {k : Nat} (h : Zs w B A zs) (hk : k < zs.length) :
  ∃ b off z, A = some ⟨b, off, none⟩ ∧ Hid (b < B) ∧ w.cell? ⟨b, off + k, none⟩ = some (.int .i64 z) ∧ Hid (zs.getD k 0 = z) ∧ -9223372036854775808 ≤ z ∧ z ≤ 9223372036854775807 := by
 obtain ⟨b, off, e, hb, hc⟩ := h.2 (by omega)
 exact ⟨b, off, _, e, Lib.hid hb, hc k hk, Lib.hid rfl, (h.1 k hk).1, (h.1 k hk).2⟩
theorem Zs.nil_ {w : World} {B : Nat} {A : Option Addr} : Zs w B A [] := ⟨fun i h => by simp at h, fun h => by simp at h⟩
theorem Zs.below {w w' : World} {B : Nat} {A : Option Addr} {zs : List Int} (h : Zs w B A zs) (hb : Below B w w') : Zs w' B A zs :=
 ⟨h.1, fun hn => by
  obtain ⟨b, off, e, hl, hc⟩ := h.2 hn
  exact ⟨b, off, e, hl, fun i hi => (hb.cell (p := ⟨b, _, none⟩) hl).trans (hc i hi)⟩⟩
theorem Zs.more {w : World} {B B' : Nat} {A : Option Addr} {zs : List Int} (h : Zs w B A zs) (hB : B ≤ B') : Zs w B' A zs :=
 ⟨h.1, fun hn => by
  obtain ⟨b, off, e, hb, hc⟩ := h.2 hn
  exact ⟨b, off, e, by omega, hc⟩⟩
theorem Zs.on {w w' : World} {A : Option Addr} {zs : List Int} (h : Zs w w.heap.size A zs) (hb : Below w.heap.size w w') : Zs w' w'.heap.size A zs := (h.below hb).more hb.size
def OwnZ (w : World) (base : Nat) (A : Option Addr) (cap : Nat) (zs : List Int) : Prop :=
 w.ownsRow base 3 1 (.slice A zs.length cap) zs.length (zs.map (Value.int .i64)) ∧ ∀ i, i < zs.length → inI (zs.getD i 0)
theorem OwnZ.none_ (w : World) (base : Nat) : OwnZ w base none 0 [] := ⟨World.ownsRow_nil w base _ _, fun i h => by simp at h⟩
theorem OwnZ.lt {w : World} {base : Nat} {a : Addr} {cap : Nat} {zs : List Int} (h : OwnZ w base (some a) cap zs) : base ≤ a.block ∧ a.block < w.heap.size :=
 World.ownsRow.lt h.1 a.block (by simp [Value.ownBlock])
theorem OwnZ.keep {w w' : World} {base : Nat} {A : Option Addr} {cap : Nat} {zs : List Int} (h : OwnZ w base A cap zs) (hk : ∀ a, A = some a → w'.heap[a.block]? = w.heap[a.block]?) : OwnZ w' base A cap zs := by
 refine ⟨⟨h.1.1, ?_⟩, h.2⟩
 rcases h.1.2 with e | ⟨g, c', cur, e, hb, hg, r⟩
 ·exact .inl e
 ·injection e with e1 e2 e3
  subst e1 e3
  exact .inr ⟨g, _, cur, rfl, hb, by rw [hk _ rfl]; exact hg, r⟩
theorem OwnZ.low {w : World} {base b : Nat} {A : Option Addr} {cap : Nat} {zs : List Int} (h : OwnZ w base A cap zs) (hb : b ≤ base) : OwnZ w b A cap zs := ⟨Joins.ownsRow_le h.1 hb, h.2⟩
theorem OwnZ.grew {w w' : World} {base B : Nat} {A : Option Addr} {cap : Nat} {zs : List Int} (h : OwnZ w base A cap zs) (hb : Below B w w') (hB : w.heap.size ≤ B) : OwnZ w' base A cap zs :=
 h.keep fun a ha => by
  subst ha
  exact hb.block _ (by have := h.lt.2; omega)
theorem OwnZ.zs {w : World} {base : Nat} {A : Option Addr} {cap : Nat} {zs : List Int} (h : OwnZ w base A cap zs) : Zs w w.heap.size A zs := by
 refine ⟨h.2, fun hn => ?_⟩
 obtain ⟨g, c, e⟩ := Joins.ownsRow_form h.1 hn
 injection e with e1 e2 e3
 subst e1 e3
 have hlt := OwnZ.lt h
 refine ⟨g, 0, rfl, hlt.2, fun i hi => ?_⟩
 rw [Nat.zero_add, World.ownsRow.cellAt h.1 i (by omega), List.getElem?_map, List.getD_eq_getElem?_getD, List.getElem?_eq_getElem hi]
 rfl
theorem OwnZ.cap_ {w : World} {base : Nat} {A : Option Addr} {cap : Nat} {zs : List Int} (h : OwnZ w base A cap zs) : zs.length ≤ cap := by
 rcases h.1.2 with ⟨e, e0⟩ | ⟨g, c', cur, e, _, _, hle, _⟩
 ·omega
 ·injection e with e1 e2 e3; omega
theorem OwnZ.ne {w : World} {base : Nat} {a : Addr} {cap : Nat} {zs : List Int} (h : OwnZ w base (some a) cap zs) {g : Nat} {cs : Array Value} {t : TypeId} {fz : Nat × Nat} (ho : w.heap[g]? = some (.cells cs t fz)) (ht : t ≠ 3) : a.block ≠ g := by
 rintro rfl
 rcases h.1.2 with ⟨e, _⟩ | ⟨g, c', cur, e, hb, hg, r⟩
 ·cases e
 ·injection e with e1 e2 e3
  injection e1 with e1
  subst e1
  rw [ho] at hg
  injection hg with hg
  injection hg with _ h2 _
  exact ht h2
theorem int_info : (Tryz.prog.info? 3).map (fun i => (i.zero, i.size, i.bytes)) = some (some (.int .i64 0), 1, 8) := by kernel_rfl
theorem form_ofZ {w : World} {base n : Nat} {v : Value} {xs : List Value} (h : w.ownsRow base 3 1 v n xs) : ∃ A cap, v = .slice A n cap := by
 rcases h.2 with ⟨e, e0⟩ | ⟨g, c', _, e, _⟩
 ·exact ⟨none, 0, by rw [e0]; exact e⟩
 ·exact ⟨_, _, e⟩
theorem grownZ_below {w w' : World} {base : Nat} {A : Option Addr} {cap n : Nat} {zs : List Int} (h : OwnZ w base A cap zs) (hbase : base ≤ w.heap.size) (hg : w.grownBy w' (Value.slice A n cap).ownBlock) : Below base w w' :=
 (Below.refl _ _).grown hg hbase fun k hk => by
  cases A with
  | none => cases hk
  | some a => simp [Value.ownBlock] at hk; subst hk; exact h.lt.1
theorem rng_appZ {xs zs : List Int} (hx : ∀ i, i < xs.length → inI (xs.getD i 0)) (hz : ∀ i, i < zs.length → inI (zs.getD i 0)) : ∀ i, i < (xs ++ zs).length → inI ((xs ++ zs).getD i 0) := fun i hi => by
 rw [List.getD_eq_getElem?_getD]
 by_cases h : i < xs.length
 ·rw [List.getElem?_append_left h, ← List.getD_eq_getElem?_getD]; exact hx i h
 ·rw [List.getElem?_append_right (by omega), ← List.getD_eq_getElem?_getD]
  rw [List.length_append] at hi
  exact hz _ (by omega)
theorem run_appZ {w : World} {base : Nat} {A : Option Addr} {cap : Nat} {zs : List Int} {x : Int} (h : OwnZ w base A cap zs) (hbase : base ≤ w.heap.size) {b2 : Nat} (hx : w.cell? ⟨b2, 0, none⟩ = some (.int .i64 x)) (hxi : inI x) (c : Nat) (hlen : zs.length ≤ 1000000000) (ty : TypeId) :
  ∃ A' cap' w', (Builtin.append_ #[94, 94] ty #[.slice A zs.length cap, .slice (some ⟨b2, 0, none⟩) 1 c]).run Tryz.prog w = .ok (.slice A' (zs ++ [x]).length cap') w' ∧
   OwnZ w' base A' cap' (zs ++ [x]) ∧ w.grownBy w' (Value.slice A zs.length cap).ownBlock := by
 obtain ⟨i, hi, hz0, hs, hyb⟩ := info_parts int_info
 obtain ⟨v', w', hrun, hown, hg, _, _⟩ := run_append_own_at (P := Tryz.prog) (w := w) base 94 ty 3 i _ 1 8 Tryz.underlying94 hi hz0 hs hyb rfl (by decide)
  _ zs.length _ h.1 ⟨b2, 0, none⟩ 1 c [.int .i64 x] rfl (fun j u hu => by
   rw [add_off, Nat.zero_add]
   match j, hu with
   | 0, hu => simp at hu; rw [← hu]; exact hx
   | j + 1, hu => simp at hu) (fun u hu => by simp at hu; subst hu; rfl) (by unfold maxLen; omega) (by omega) hbase
 obtain ⟨A', cap', rfl⟩ := form_ofZ hown
 have e : zs.length + 1 = (zs ++ [x]).length := by simp
 rw [e] at hrun hown
 refine ⟨A', cap', w', hrun, ⟨?_, rng_appZ h.2 fun i hi => ?_⟩, hg⟩
 ·rw [List.map_append]
  exact hown
 ·obtain rfl : i = 0 := by simpa using hi
  exact hxi
theorem wp_appZ {w : World} {ops : Array Oper} {rest : List Oper} {o : Oper} {a : Act} {Q : Exit → Act → World → Prop} (hgd : o.guard = none) (s t : Operand)
  (ho : o.op = .call { callee := .builtin .append, args := #[s, t], argTypes := #[94, 94] })
  {base : Nat} {A : Option Addr} {n cap : Nat} {zs : List Int} {x : Int} (hs : a.eval s = .slice A n cap) (hn : n = zs.length) (h : OwnZ w base A cap zs) (hbase : base ≤ w.heap.size)
  {b2 c : Nat} (ht : a.eval t = .slice (some ⟨b2, 0, none⟩) 1 c) (hx : w.cell? ⟨b2, 0, none⟩ = some (.int .i64 x)) (hxi : inI x) (hlen : zs.length ≤ 1000000000)
  (K : ∀ A' cap' w', OwnZ w' base A' cap' (zs ++ [x]) → w.grownBy w' (Value.slice A zs.length cap).ownBlock → wpList Tryz.prog ops Q rest (a.put o.dst (.slice A' (zs ++ [x]).length cap')) w') :
  wpList Tryz.prog ops Q (o :: rest) a w := by
 subst hn
 obtain ⟨A', cap', w', hrun, h1, h2⟩ := run_appZ h hbase hx hxi c hlen o.type
 refine wpList_plain hgd fun K' hK => ?_
 unfold Oper.wp
 simp [execOp, ho, resolve, invoke, builtin, hs, ht, hrun, Result.andThen]
 have hk := K A' cap' w' h1 h2
 rw [List.length_append, List.length_singleton] at hk
 exact hK _ _ hk
end Go.Proofs.YtkbekojnmdgdgaaGreatDoor
/- KRows -/
namespace Go.Proofs.YtkbekojnmdgdgaaGreatDoor
open Go.RowKit
def Wide (k : Nat) (vs : List (List Value)) : Prop := ∀ v ∈ vs, v.length = k ∧ ∀ u ∈ v, u.oneCell' = true
theorem Wide.nil (k : Nat) : Wide k [] := fun v hv => by simp at hv
theorem Wide.app {k : Nat} {vs us : List (List Value)} (h : Wide k vs) (h2 : Wide k us) : Wide k (vs ++ us) := fun v hv => by
 rcases List.mem_append.1 hv with h1 | h1
 ·exact h v h1
 ·exact h2 v h1
theorem Wide.len {k : Nat} {vs : List (List Value)} (h : Wide k vs) : vs.flatten.length = vs.length * k := by
 induction vs with
 | nil => simp
 | cons v r ih =>
  rw [List.flatten_cons, List.length_append, ih fun x hx => h x (List.mem_cons_of_mem _ hx), (h v (List.mem_cons_self ..)).1, List.length_cons, Nat.add_mul, Nat.one_mul, Nat.add_comm]
theorem Wide.get {k : Nat} {vs : List (List Value)} (h : Wide k vs) (i j : Nat) (hi : i < vs.length) (hj : j < k) : vs.flatten[i * k + j]? = (vs.getD i [])[j]? := by
 induction vs generalizing i with
 | nil => simp at hi
 | cons v r ih =>
  have hv := (h v (List.mem_cons_self ..)).1
  rw [List.flatten_cons]
  cases i with
  | zero =>
   rw [Nat.zero_mul, Nat.zero_add, List.getElem?_append_left (by omega)]
   rfl
  | succ i =>
   rw [List.getElem?_append_right (by rw [hv, Nat.add_mul]; omega), hv, show (i + 1) * k + j - k = i * k + j by rw [Nat.add_mul]; omega,
    ih (fun x hx => h x (List.mem_cons_of_mem _ hx)) i (by simpa using hi)]
   rfl
theorem Wide.mem {k : Nat} {vs : List (List Value)} (h : Wide k vs) : ∀ u ∈ vs.flatten, u.oneCell' = true := fun u hu => by
 obtain ⟨v, hv, hu2⟩ := List.mem_flatten.1 hu
 exact (h v hv).2 u hu2
def OwnK (w : World) (base : Nat) (T : TypeId) (k : Nat) (A : Option Addr) (cap : Nat) (vs : List (List Value)) : Prop :=
 w.ownsRow base T k (.slice A vs.length cap) vs.length vs.flatten ∧ Wide k vs
theorem OwnK.none_ (w : World) (base : Nat) (T : TypeId) (k : Nat) : OwnK w base T k none 0 [] := ⟨World.ownsRow_nil w base _ _, Wide.nil k⟩
theorem OwnK.keep {w w' : World} {base : Nat} {T : TypeId} {k : Nat} {A : Option Addr} {cap : Nat} {vs : List (List Value)} (h : OwnK w base T k A cap vs) (hk : ∀ a, A = some a → w'.heap[a.block]? = w.heap[a.block]?) : OwnK w' base T k A cap vs := by
 refine ⟨⟨h.1.1, ?_⟩, h.2⟩
 rcases h.1.2 with e | ⟨g, c', cur, e, hb, hg, r⟩
 ·exact .inl e
 ·injection e with e1 e2 e3
  subst e1 e3
  exact .inr ⟨g, _, cur, rfl, hb, by rw [hk _ rfl]; exact hg, r⟩
theorem OwnK.low {w : World} {base b : Nat} {T : TypeId} {k : Nat} {A : Option Addr} {cap : Nat} {vs : List (List Value)} (h : OwnK w base T k A cap vs) (hb : b ≤ base) : OwnK w b T k A cap vs := ⟨Joins.ownsRow_le h.1 hb, h.2⟩
theorem OwnK.lt {w : World} {base : Nat} {T : TypeId} {k : Nat} {a : Addr} {cap : Nat} {vs : List (List Value)} (h : OwnK w base T k (some a) cap vs) : base ≤ a.block ∧ a.block < w.heap.size :=
 World.ownsRow.lt h.1 a.block (by simp [Value.ownBlock])
theorem OwnK.grew {w w' : World} {base B : Nat} {T : TypeId} {k : Nat} {A : Option Addr} {cap : Nat} {vs : List (List Value)} (h : OwnK w base T k A cap vs) (hb : Below B w w') (hB : w.heap.size ≤ B) : OwnK w' base T k A cap vs :=
 h.keep fun a ha => by
  subst ha
  exact hb.block _ (by have := h.lt.2; omega)
theorem OwnK.shape {w : World} {base : Nat} {T : TypeId} {k : Nat} {A : Option Addr} {cap : Nat} {vs : List (List Value)} (h : OwnK w base T k A cap vs) (hn : 0 < vs.length) : ∃ g, A = some ⟨g, 0, none⟩ ∧ base ≤ g ∧ g < w.heap.size := by
 obtain ⟨g, c, e⟩ := Joins.ownsRow_form h.1 hn
 injection e with e1 e2 e3
 subst e1 e3
 have hlt := OwnK.lt h
 exact ⟨g, rfl, hlt.1, hlt.2⟩
theorem OwnK.cap_ {w : World} {base : Nat} {T : TypeId} {k : Nat} {A : Option Addr} {cap : Nat} {vs : List (List Value)} (h : OwnK w base T k A cap vs) : vs.length ≤ cap := by
 rcases h.1.2 with ⟨e, e0⟩ | ⟨g, c', cur, e, _, _, hle, _⟩
 ·omega
 ·injection e with e1 e2 e3
  omega
theorem OwnK.cell {w : World} {base g cap : Nat} {T : TypeId} {k : Nat} {vs : List (List Value)} (h : OwnK w base T k (some ⟨g, 0, none⟩) cap vs) {i j : Nat} (hi : i < vs.length) (hj : j < k) {u : Value} (hu : (vs.getD i [])[j]? = some u) :
  w.cell? ⟨g, i * k + j, none⟩ = some u := by
 rw [← hu, ← h.2.get i j hi hj]
 exact World.ownsRow.cellAt h.1 (i * k + j) (by
  have h1 : (i + 1) * k ≤ vs.length * k := Nat.mul_le_mul_right k hi
  rw [Nat.add_mul, Nat.one_mul] at h1
  omega)
theorem form_ofK {w : World} {base n k : Nat} {T : TypeId} {v : Value} {xs : List Value} (h : w.ownsRow base T k v n xs) : ∃ A cap, v = .slice A n cap := by
 rcases h.2 with ⟨e, e0⟩ | ⟨g, c', _, e, _⟩
 ·exact ⟨none, 0, by rw [e0]; exact e⟩
 ·exact ⟨_, _, e⟩
theorem run_appK {w : World} {base : Nat} {T ST : TypeId} {k : Nat} {A : Option Addr} {cap : Nat} {vs us : List (List Value)} {z : Value} {by_ : Nat} (hST : Tryz.prog.underlying ST = some (.slice T))
  (hI : (Tryz.prog.info? T).map (fun i => (i.zero, i.size, i.bytes)) = some (some z, k, by_)) (hz : z.cells.size = k) (hk : 0 < k) (hby : by_ ≤ 128)
  (h : OwnK w base T k A cap vs) (hbase : base ≤ w.heap.size) {b2 o2 : Nat} (hw : Wide k us) (hx : ∀ j u, us.flatten[j]? = some u → w.cell? ⟨b2, o2 + j, none⟩ = some u) (c : Nat)
  (hlen : vs.length + us.length ≤ 1000000000) (ty : TypeId) :
  ∃ A' cap' w', (Builtin.append_ #[ST, ST] ty #[.slice A vs.length cap, .slice (some ⟨b2, o2, none⟩) us.length c]).run Tryz.prog w = .ok (.slice A' (vs ++ us).length cap') w' ∧
   OwnK w' base T k A' cap' (vs ++ us) ∧ w.grownBy w' (Value.slice A vs.length cap).ownBlock ∧ ∀ a, A' = some a → (∃ a0, A = some a0 ∧ a.block = a0.block) ∨ a.block = w.heap.size := by
 obtain ⟨i, hi, hz0, hs, hyb⟩ := info_parts hI
 obtain ⟨v', w', hrun, hown, hg, _, hwh⟩ := run_append_own_at (P := Tryz.prog) (w := w) base ST ty T i z k by_ hST hi hz0 hs hyb hz hk
  _ vs.length _ h.1 ⟨b2, o2, none⟩ us.length c us.flatten hw.len (fun j u hu => by
   rw [add_off]
   exact hx j u hu) hw.mem (by unfold maxLen; omega) (by
   have h1 : (vs.length + us.length) * by_ ≤ 1000000000 * 128 := Nat.mul_le_mul hlen hby
   omega) hbase
 obtain ⟨A', cap', rfl⟩ := form_ofK hown
 rw [← List.length_append] at hrun hown
 refine ⟨A', cap', w', hrun, ⟨?_, h.2.app hw⟩, hg, fun a ha => ?_⟩
 ·rw [List.flatten_append]
  exact hown
 ·subst ha
  rcases hwh with h1 | h1
  ·cases A with
   | none => simp [Value.ownBlock] at h1
   | some a0 => simp [Value.ownBlock] at h1; exact .inl ⟨a0, rfl, h1⟩
  ·simp [Value.ownBlock] at h1; exact .inr h1
theorem wp_appK {w : World} {ops : Array Oper} {rest : List Oper} {o : Oper} {a : Act} {Q : Exit → Act → World → Prop} (hgd : o.guard = none) (s t : Operand) {T ST : TypeId}
  (ho : o.op = .call { callee := .builtin .append, args := #[s, t], argTypes := #[ST, ST] })
  {base k : Nat} {A : Option Addr} {n cap : Nat} {vs us : List (List Value)} {z : Value} {by_ : Nat} (hST : Tryz.prog.underlying ST = some (.slice T))
  (hI : (Tryz.prog.info? T).map (fun i => (i.zero, i.size, i.bytes)) = some (some z, k, by_)) (hz : z.cells.size = k) (hk : 0 < k) (hby : by_ ≤ 128)
  (hs : a.eval s = .slice A n cap) (hn : n = vs.length) (h : OwnK w base T k A cap vs) (hbase : base ≤ w.heap.size)
  {b2 o2 m c : Nat} (ht : a.eval t = .slice (some ⟨b2, o2, none⟩) m c) (hm : m = us.length) (hw : Wide k us) (hx : ∀ j u, us.flatten[j]? = some u → w.cell? ⟨b2, o2 + j, none⟩ = some u)
  (hlen : vs.length + us.length ≤ 1000000000)
  (K : ∀ A' cap' w', OwnK w' base T k A' cap' (vs ++ us) → w.grownBy w' (Value.slice A vs.length cap).ownBlock → (∀ a, A' = some a → (∃ a0, A = some a0 ∧ a.block = a0.block) ∨ a.block = w.heap.size) → wpList Tryz.prog ops Q rest (a.put o.dst (.slice A' (vs ++ us).length cap')) w') :
  wpList Tryz.prog ops Q (o :: rest) a w := by
 subst hn hm
 obtain ⟨A', cap', w', hrun, h1, h2, h3⟩ := run_appK hST hI hz hk hby h hbase hw hx c hlen o.type
 refine wpList_plain hgd fun K' hK => ?_
 unfold Oper.wp
 simp [execOp, ho, resolve, invoke, builtin, hs, ht, hrun, Result.andThen]
 have hk := K A' cap' w' h1 h2 h3
 rw [List.length_append] at hk
 exact hK _ _ hk
theorem OwnK.lit {w : World} {T : TypeId} {k : Nat} (vs : List (List Value)) (hw : Wide k vs) (hv : vs.length ≤ 1000000000) (cs : Array Value) (hc : cs.toList = vs.flatten) : OwnK (w.alloc (.cells cs T)) w.heap.size T k (some ⟨w.heap.size, 0, none⟩) vs.length vs := by
 have hl := hw.len
 have hcs : cs = vs.flatten.toArray := by rw [← hc]
 refine ⟨?_, hw⟩
 have := World.ownsRow_lit (e := T) (size := k) w cs vs.length (Nat.le_refl w.heap.size) (by unfold maxLen; omega) (by rw [← Array.length_toList, hc, hl])
 rw [hc] at this
 exact this
end Go.Proofs.YtkbekojnmdgdgaaGreatDoor
/- KSrc -/
namespace Go.Proofs.YtkbekojnmdgdgaaGreatDoor
open Go.RowKit
def Src (w : World) (A : Option Addr) (vs : List (List Value)) : Prop :=
 0 < vs.length → ∃ b off, A = some ⟨b, off, none⟩ ∧ b < w.heap.size ∧ ∀ j u, vs.flatten[j]? = some u → w.cell? ⟨b, off + j, none⟩ = some u
theorem Src.below {w w' : World} {A : Option Addr} {vs : List (List Value)} (h : Src w A vs) (hb : Below w.heap.size w w') : Src w' A vs := fun hn => by
 obtain ⟨b, off, e, hl, hc⟩ := h hn
 exact ⟨b, off, e, Nat.lt_of_lt_of_le hl hb.size, fun j u hu => (hb.cell (p := ⟨b, _, none⟩) hl).trans (hc j u hu)⟩
theorem flat_pos {us : List (List Value)} {j : Nat} {u : Value} (h : us.flatten[j]? = some u) : 0 < us.length := by
 cases us with
 | nil => cases h
 | cons a r => exact Nat.zero_lt_succ _
theorem Src.cell_ {w : World} {ad : Addr} {us : List (List Value)} (h : Src w (some ad) us) {j : Nat} {u : Value} (hu : us.flatten[j]? = some u) : w.cell? (ad.add j) = some u := by
 obtain ⟨b, off, e, _, hc⟩ := h (flat_pos hu)
 injection e with e
 subst e
 rw [add_off]
 exact hc j u hu
theorem run_appKa {w : World} {base : Nat} {T ST : TypeId} {k : Nat} {A : Option Addr} {cap : Nat} {vs us : List (List Value)} {z : Value} {by_ : Nat} (hST : Tryz.prog.underlying ST = some (.slice T))
  (hI : (Tryz.prog.info? T).map (fun i => (i.zero, i.size, i.bytes)) = some (some z, k, by_)) (hz : z.cells.size = k) (hk : 0 < k) (hby : by_ ≤ 128)
  (h : OwnK w base T k A cap vs) (hbase : base ≤ w.heap.size) {ad : Addr} (hw : Wide k us) (hx : Src w (some ad) us) (c : Nat)
  (hlen : vs.length + us.length ≤ 1000000000) (ty : TypeId) :
  ∃ A' cap' w', (Builtin.append_ #[ST, ST] ty #[.slice A vs.length cap, .slice (some ad) us.length c]).run Tryz.prog w = .ok (.slice A' (vs.length + us.length) cap') w' ∧
   OwnK w' base T k A' cap' (vs ++ us) ∧ w.grownBy w' (Value.slice A vs.length cap).ownBlock ∧ ∀ a, A' = some a → (∃ a0, A = some a0 ∧ a.block = a0.block) ∨ a.block = w.heap.size := by
 obtain ⟨i, hi, hz0, hs, hyb⟩ := info_parts hI
 obtain ⟨v', w', hrun, hown, hg, _, hwh⟩ := run_append_own_at (P := Tryz.prog) (w := w) base ST ty T i z k by_ hST hi hz0 hs hyb hz hk
  _ vs.length _ h.1 ad us.length c us.flatten hw.len (fun j u hu => by
   exact hx.cell_ hu) hw.mem (by unfold maxLen; omega) (by
   have h1 : (vs.length + us.length) * by_ ≤ 1000000000 * 128 := Nat.mul_le_mul hlen hby
   omega) hbase
 obtain ⟨A', cap', rfl⟩ := form_ofK hown
 refine ⟨A', cap', w', hrun, ⟨?_, h.2.app hw⟩, hg, fun a ha => ?_⟩
 ·rw [List.flatten_append, List.length_append]
  exact hown
 ·subst ha
  rcases hwh with h1 | h1
  ·cases A with
   | none => simp [Value.ownBlock] at h1
   | some a0 => simp [Value.ownBlock] at h1; exact .inl ⟨a0, rfl, h1⟩
  ·simp [Value.ownBlock] at h1; exact .inr h1
theorem wp_appKa {w : World} {ops : Array Oper} {rest : List Oper} {o : Oper} {a : Act} {Q : Exit → Act → World → Prop} (hgd : o.guard = none) (s t : Operand) {T ST : TypeId}
  (ho : o.op = .call { callee := .builtin .append, args := #[s, t], argTypes := #[ST, ST] })
  {base k : Nat} {A : Option Addr} {n cap : Nat} {vs us : List (List Value)} {z : Value} {by_ : Nat} (hST : Tryz.prog.underlying ST = some (.slice T))
  (hI : (Tryz.prog.info? T).map (fun i => (i.zero, i.size, i.bytes)) = some (some z, k, by_)) (hz : z.cells.size = k) (hk : 0 < k) (hby : by_ ≤ 128)
  (hs : a.eval s = .slice A n cap) (hn : n = vs.length) (h : OwnK w base T k A cap vs) (hbase : base ≤ w.heap.size)
  {ad : Addr} {m c : Nat} (ht : a.eval t = .slice (some ad) m c) (hm : m = us.length) (hw : Wide k us) (hx : Src w (some ad) us)
  (hlen : vs.length + us.length ≤ 1000000000)
  (K : ∀ A' cap' w', OwnK w' base T k A' cap' (vs ++ us) → w.grownBy w' (Value.slice A vs.length cap).ownBlock → (∀ a, A' = some a → (∃ a0, A = some a0 ∧ a.block = a0.block) ∨ a.block = w.heap.size) → wpList Tryz.prog ops Q rest (a.put o.dst (.slice A' (vs.length + us.length) cap')) w') :
  wpList Tryz.prog ops Q (o :: rest) a w := by
 subst hn hm
 obtain ⟨A', cap', w', hrun, h1, h2, h3⟩ := run_appKa hST hI hz hk hby h hbase hw hx c hlen o.type
 refine wpList_plain hgd fun K' hK => ?_
 unfold Oper.wp
 simp [execOp, ho, resolve, invoke, builtin, hs, ht, hrun, Result.andThen]
 exact hK _ _ (K A' cap' w' h1 h2 h3)
def RowK (w : World) (T : TypeId) (k n : Nat) (vs : List (List Value)) (e : Ending) (w' : World) : Prop :=
 ∃ A cap, e = .returned (.slice A n cap) ∧ Hid (OwnK w' w.heap.size T k A cap vs) ∧ Hid (Below w.heap.size w w')
theorem flat_set1 (u : Value) : ∀ (vs : List (List Value)) (k i j : Nat), Wide k vs → i < vs.length → j < k → vs.flatten.set (i * k + j) u = (vs.set i ((vs.getD i []).set j u)).flatten
 | [], _, i, _, _, hi, _ => by simp at hi
 | v :: r, k, i, j, hw, hi, hj => by
  have hv := (hw v (by simp)).1
  cases i with
  | zero =>
   rw [Nat.zero_mul, Nat.zero_add, List.flatten_cons, List.set_append_left _ _ (by omega)]
   rfl
  | succ i =>
   have ih := flat_set1 u r k i j (fun x hx => hw x (List.mem_cons_of_mem _ hx)) (by simpa using hi) hj
   rw [List.flatten_cons, List.set_append_right _ _ (by rw [hv, Nat.add_mul]; omega), hv, show (i + 1) * k + j - k = i * k + j by rw [Nat.add_mul]; omega, ih]
   rfl
theorem OwnK.put1 {w : World} {base g cap : Nat} {T : TypeId} {k : Nat} {vs : List (List Value)} (h : OwnK w base T k (some ⟨g, 0, none⟩) cap vs) {i j : Nat} (hi : i < vs.length) (hj : j < k) {u : Value} (hu : u.oneCell' = true) :
  OwnK (w.setCell ⟨g, i * k + j, none⟩ u) base T k (some ⟨g, 0, none⟩) cap (vs.set i ((vs.getD i []).set j u)) := by
 refine ⟨?_, fun v hv => ?_⟩
 ·rw [List.length_set, ← flat_set1 u vs k i j h.2 hi hj]
  exact (World.ownsRow.stored h.1 (i * k + j) u).1
 ·rcases List.mem_or_eq_of_mem_set hv with hv | rfl
  ·exact h.2 v hv
  ·have h1 : vs.getD i [] ∈ vs := by
    rw [List.getD_eq_getElem?_getD, List.getElem?_eq_getElem hi]
    exact List.getElem_mem hi
   obtain ⟨h2, h3⟩ := h.2 _ h1
   refine ⟨by rw [List.length_set]; exact h2, fun x hx => ?_⟩
   rcases List.mem_or_eq_of_mem_set hx with hx | rfl
   ·exact h3 x hx
   ·exact hu
theorem OwnK.thawed {w : World} {base g cap k : Nat} {T : TypeId} {vs : List (List Value)} (h : OwnK w base T k (some ⟨g, 0, none⟩) cap vs) (i : Nat) : w.frozen? ⟨g, i, none⟩ = false := by
 rcases h.1.2 with ⟨e, _⟩ | ⟨g', c', cur, e, hb, hg, r⟩
 ·cases e
 ·injection e with e1 e2 e3
  injection e1 with e1
  injection e1 with e1
  subst e1
  simp [World.frozen?, hg]
end Go.Proofs.YtkbekojnmdgdgaaGreatDoor
/- FourKit -/
namespace Go.Proofs.YtkbekojnmdgdgaaGreatDoor
open Go.RowKit
theorem obj4 {w : World} {g : Nat} {a b c d : Value} {t : TypeId} (h : w.heap[g]? = some (.cells #[a, b, c, d] t (0, 0))) :
  (w.cell? ⟨g, 0, none⟩ = some a ∧ w.cell? ⟨g, 1, none⟩ = some b ∧ w.cell? ⟨g, 2, none⟩ = some c ∧ w.cell? ⟨g, 3, none⟩ = some d) ∧
  (w.frozen? ⟨g, 0, none⟩ = false ∧ w.frozen? ⟨g, 1, none⟩ = false ∧ w.frozen? ⟨g, 2, none⟩ = false ∧ w.frozen? ⟨g, 3, none⟩ = false) :=
 ⟨⟨by simp [World.cell?, h], by simp [World.cell?, h], by simp [World.cell?, h], by simp [World.cell?, h]⟩,
  by simp [World.frozen?, h], by simp [World.frozen?, h], by simp [World.frozen?, h], by simp [World.frozen?, h]⟩
def S4 (w : World) (g : Nat) (p q r s : Value) : World := (((w.setCell ⟨g, 0, none⟩ p).setCell ⟨g, 1, none⟩ q).setCell ⟨g, 2, none⟩ r).setCell ⟨g, 3, none⟩ s
theorem S4.at_ {w : World} {g : Nat} {a b c d : Value} {t : TypeId} (h : w.heap[g]? = some (.cells #[a, b, c, d] t (0, 0))) (p q r s : Value) : (S4 w g p q r s).heap[g]? = some (.cells #[p, q, r, s] t (0, 0)) :=
 heap_setCell_same _ g 3 _ _ _ (heap_setCell_same _ g 2 _ _ _ (heap_setCell_same _ g 1 _ _ _ (heap_setCell_same w g 0 _ _ _ h)))
theorem S4.else_ (w : World) (g : Nat) (p q r s : Value) {k : Nat} (hk : k ≠ g) : (S4 w g p q r s).heap[k]? = w.heap[k]? :=
 (Below.heap_setCell _ _ _ _ hk).trans ((Below.heap_setCell _ _ _ _ hk).trans ((Below.heap_setCell _ _ _ _ hk).trans (Below.heap_setCell _ _ _ _ hk)))
theorem S4.size_ (w : World) (g : Nat) (p q r s : Value) : (S4 w g p q r s).heap.size = w.heap.size := by simp [S4, World.setCell]
theorem S4.below {a w : World} {B g : Nat} (h : Below B a w) (hg : B ≤ g) (p q r s : Value) : Below B a (S4 w g p q r s) :=
 (((h.setCell (p := ⟨g, 0, none⟩) hg _).setCell (p := ⟨g, 1, none⟩) hg _).setCell (p := ⟨g, 2, none⟩) hg _).setCell (p := ⟨g, 3, none⟩) hg _
end Go.Proofs.YtkbekojnmdgdgaaGreatDoor
/- Only -/
namespace Go.Proofs.YtkbekojnmdgdgaaGreatDoor
open Go.RowKit
structure Only (own : Nat → Prop) (w w' : World) : Prop where
 os : w'.os = w.os
 tape : w'.tape = w.tape
 output : w'.output = w.output
 size : w.heap.size ≤ w'.heap.size
 block : ∀ k, k < w.heap.size → ¬ own k → w'.heap[k]? = w.heap[k]?
theorem Only.refl (own : Nat → Prop) (w : World) : Only own w w := ⟨rfl, rfl, rfl, Nat.le_refl _, fun _ _ _ => rfl⟩
theorem Only.mono {own own2 : Nat → Prop} {w w' : World} (h : Only own w w') (hs : ∀ k, k < w.heap.size → own k → own2 k) : Only own2 w w' := ⟨h.os, h.tape, h.output, h.size, fun k hk hn => h.block k hk fun ho => hn (hs k hk ho)⟩
theorem Only.of {own : Nat → Prop} {w w' : World} (h : Below w.heap.size w w') : Only own w w' := ⟨h.os, h.tape, h.output, h.size, fun k hk _ => h.block k hk⟩
theorem Only.trans {own own2 : Nat → Prop} {a b c : World} (h : Only own a b) (k : Only own2 b c) (hs : ∀ i, own2 i → own i ∨ a.heap.size ≤ i) : Only own a c :=
 ⟨k.os.trans h.os, k.tape.trans h.tape, k.output.trans h.output, Nat.le_trans h.size k.size, fun i hi hn =>
  (k.block i (Nat.lt_of_lt_of_le hi h.size) fun ho => by rcases hs i ho with h1 | h1; exact hn h1; omega).trans (h.block i hi hn)⟩
theorem Only.below {own : Nat → Prop} {w w' : World} {base : Nat} (h : Only own w w') (hb : base ≤ w.heap.size) (ho : ∀ k, own k → base ≤ k) : Below base w w' :=
 ⟨h.os, h.tape, h.output, h.size, fun k hk => h.block k (by omega) fun hn => by have := ho k hn; omega⟩
theorem Only.set (own : Nat → Prop) {g : Nat} (o : Nat) (w : World) (v : Value) (hg : own g) : Only own w (w.setCell ⟨g, o, none⟩ v) :=
 ⟨rfl, rfl, rfl, by simp [World.setCell], fun k _ hn => Below.heap_setCell _ _ _ _ (by rintro rfl; exact hn hg)⟩
theorem Only.drewN {own : Nat → Prop} {a w : World} (h : Only own a w) (n : Nat) : Only own a (w.drewN n) := ⟨h.os, h.tape, h.output, h.size, h.block⟩
theorem Only.drew {own : Nat → Prop} {a w : World} (h : Only own a w) : Only own a w.drew := ⟨h.os, h.tape, h.output, h.size, h.block⟩
theorem Only.grown {own : Nat → Prop} {w w' : World} {row : Option Nat} (h : w.grownBy w' row) (hr : ∀ k, row = some k → own k) : Only own w w' :=
 ⟨h.os, h.tape, h.output, h.size, fun k hk hn => h.block k hk fun e => hn (hr k e.symm)⟩
structure Step (own own2 : Nat → Prop) (w w' : World) : Prop where
 only : Only own w w'
 sub : ∀ k, own2 k → own k ∨ w.heap.size ≤ k
theorem Step.refl (own : Nat → Prop) (w : World) : Step own own w w := ⟨Only.refl _ _, fun _ h => .inl h⟩
end Go.Proofs.YtkbekojnmdgdgaaGreatDoor
/- KyEnts -/
namespace Go.Proofs.YtkbekojnmdgdgaaGreatDoor
open Go.RowKit
def Ky.okk (n k : ByteArray) : Prop := n.size ≤ 9223372036854775807 ∧ k.size ≤ 9223372036854775807
def Ky.ok (n k : ByteArray) (id : Int) : Prop := Ky.okk n k ∧ is64 id
def Ents (w : World) (O : Nat → Prop) (A : Option Addr) (l : List Ky.T) : Prop :=
 0 < l.length → ∃ b off, A = some ⟨b, off, none⟩ ∧ O b ∧ b < w.heap.size ∧ ∀ i (hi : i < l.length), w.cell? ⟨b, off + i * 3, none⟩ = some (.string l[i].name) ∧ w.cell? ⟨b, off + i * 3 + 1, none⟩ = some (.string l[i].key) ∧ w.cell? ⟨b, off + i * 3 + 2, none⟩ = some (.int .i64 l[i].id)
theorem Ents.nil_ {w : World} {O : Nat → Prop} {A : Option Addr} : Ents w O A [] := fun h => by simp at h
theorem Ents.keep {w w' : World} {O : Nat → Prop} {A : Option Addr} {l : List Ky.T} (h : Ents w O A l) (hs : w.heap.size ≤ w'.heap.size) (hk : ∀ b, O b → b < w.heap.size → w'.heap[b]? = w.heap[b]?) : Ents w' O A l :=
 fun hn => by
  obtain ⟨b, off, e, ho, hb, hc⟩ := h hn
  have hcell : ∀ o, w'.cell? ⟨b, o, none⟩ = w.cell? ⟨b, o, none⟩ := fun o => World.cell?_of_block (w := w) (hk b ho hb)
  exact ⟨b, off, e, ho, Nat.lt_of_lt_of_le hb hs, fun i hi => ⟨(hcell _).trans (hc i hi).1, (hcell _).trans (hc i hi).2.1, (hcell _).trans (hc i hi).2.2⟩⟩
theorem Ents.at_ {w : World} {O : Nat → Prop} {A : Option Addr} {l : List Ky.T} {k : Nat} (h : Ents w O A l) (hk : k < l.length) :
  ∃ b off a, A = some ⟨b, off, none⟩ ∧ Hid (O b) ∧ Hid (l[k]? = some a) ∧ w.cell? ⟨b, off + k * 3, none⟩ = some (.string a.name) ∧ w.cell? ⟨b, off + k * 3 + 1, none⟩ = some (.string a.key) ∧ w.cell? ⟨b, off + k * 3 + 2, none⟩ = some (.int .i64 a.id) := by
 obtain ⟨b, off, e, ho, hb, hc⟩ := h (by omega)
 exact ⟨b, off, l[k], e, Lib.hid ho, Lib.hid (List.getElem?_eq_getElem hk), (hc k hk).1, (hc k hk).2.1, (hc k hk).2.2⟩
end Go.Proofs.YtkbekojnmdgdgaaGreatDoor
/- KyMap -/
namespace Go.Proofs.YtkbekojnmdgdgaaGreatDoor
open Go.RowKit Go.Maps
set_option maxRecDepth 100000
theorem laidOutK : laidOutB Tryz.prog = true := by kernel_rfl
theorem kkey_row : 63 < Tryz.prog.types.size := of_decide_eq_true (by kernel_rfl)
theorem kkey_wide : (match Tryz.prog.underlying 63 with | some (.array _ _) | some (.struct _) => true | _ => false) = true := by rw [Tryz.underlying63]
theorem kkey_deep : Tryz.prog.keyType 63 = true := by kernel_rfl
theorem kkey_cells : Tryz.prog.cellsOf 63 = 2 := by kernel_rfl
theorem str_cells : Tryz.prog.cellsOf 9 = 1 := by kernel_rfl
def okS (s : ByteArray) : Prop := s.size ≤ 9223372036854775807
theorem kkey_law : Keyed Tryz.prog 63 := Keyed.of_law (deep_law_laid laidOutK (m := 2) (by omega) kkey_row (by kernel_rfl) kkey_wide)
def evK (a b : ByteArray) : Value := .agg #[.string a, .string b]
def ekK (a b : ByteArray) : Lit := .string (keyBytes [.string a.data.toList, .string b.data.toList])
theorem wf_iK {a : Int} (h : is64 a) : (Lit.int .i64 a).wf = true := by
 unfold is64 at h
 simpa [Lit.wf, IntKind.min, IntKind.max, IntKind.bits, IntKind.signed] using h
theorem key_kkey (a b : ByteArray) (ha : okS a) (hb : okS b) : keyOf Tryz.prog 63 (evK a b) = some (ekK a b) := by
 obtain ⟨n, hn⟩ : ∃ n, Tryz.prog.types.size = n + 1 := ⟨Tryz.prog.types.size - 1, by have := kkey_row; omega⟩
 have hf : (evK a b).formed Tryz.prog 63 = true := by simp [evK, Value.formed, Tryz.underlying63, kkey_cells]
 have e : ∀ v, keyOf Tryz.prog 63 v = if Tryz.prog.keyType 63 && v.formed Tryz.prog 63 then (Tryz.prog.keyLits (Tryz.prog.types.size + 1) 63 v.cells.toList).map fun ls => .string (keyBytes ls) else none := fun v => by
  unfold keyOf
  rw [Tryz.underlying63]
 rw [e, kkey_deep, hf, hn]
 have h1 : ∀ x : ByteArray, okS x → Tryz.prog.keyLits (n + 1) 9 [.string x] = some [.string x.data.toList] := fun x hx => by
  unfold okS at hx
  unfold Program.keyLits
  simp only [Tryz.underlying9]
  rw [if_pos (by unfold maxLen; omega)]
 have h2 : Tryz.prog.keyLits (n + 1 + 1) 63 (evK a b).cells.toList = some [.string a.data.toList, .string b.data.toList] := by
  show Tryz.prog.keyLits (n + 1 + 1) 63 [.string a, .string b] = _
  conv => lhs; unfold Program.keyLits
  simp only [Tryz.underlying63, kkey_cells]
  simp [h1 a ha, h1 b hb, str_cells]
 rw [h2]
 rfl
theorem ekK_ne {a b x y : ByteArray} (ha : okS a) (hb : okS b) (hx : okS x) (hy : okS y) (h : ¬ (x = a ∧ y = b)) : ekK x y ≠ ekK a b := fun e => by
 have h1 := key_kkey a b ha hb
 have h2 := key_kkey x y hx hy
 rw [e] at h2
 have := kkey_law.inj h1 h2
 unfold evK at this
 injection this with h3
 have h4 := congrArg Array.toList h3
 simp at h4
 exact h ⟨h4.1.symm, h4.2.symm⟩
def GMapK (w : World) (m c : Nat) (F : ByteArray → ByteArray → Option Int) : Prop :=
 ∃ D : DataW Unit, w.ownsMap Tryz.prog 63 (plainElem Tryz.prog 3) m c D ∧ ∀ a b, okS a → okS b → Maps.has D (ekK a b) = (F a b).isSome ∧ D.atKey (ekK a b) (.lit (.int .i64 0)) = .lit (.int .i64 ((F a b).getD 0))
theorem GMapK.look {w : World} {m c : Nat} {F : ByteArray → ByteArray → Option Int} (h : GMapK w m c F) (a b : ByteArray) (ha : okS a) (hb : okS b) :
  (Instr.lookup 98 (.map (some m)) (.agg #[.string a, .string b]) false).run Tryz.prog w = .ok (.int .i64 ((F a b).getD 0)) w := by
 obtain ⟨D, h, h2⟩ := h
 obtain ⟨k, hr, hk, _⟩ := h.lookup_int kkey_law Tryz.underlying98 Tryz.underlying3 (show (zeroValue 3).run Tryz.prog w = .ok (.int .i64 0) w by kernel_rfl) (key_kkey a b ha hb)
 rw [(h2 a b ha hb).2] at hk
 injection hk with hk
 injection hk with _ hk
 rw [hk]; exact hr
theorem GMapK.look2 {w : World} {m c : Nat} {F : ByteArray → ByteArray → Option Int} (h : GMapK w m c F) (a b : ByteArray) (ha : okS a) (hb : okS b) :
  (Instr.lookup 98 (.map (some m)) (.agg #[.string a, .string b]) true).run Tryz.prog w = .ok (.tuple #[.int .i64 ((F a b).getD 0), .bool (F a b).isSome]) w := by
 obtain ⟨D, h, h2⟩ := h
 obtain ⟨v, ps, hr, hv⟩ := h.look_ok kkey_law Tryz.underlying98 (show (zeroValue 3).run Tryz.prog w = .ok (.int .i64 0) w by kernel_rfl) (zd := .lit (.int .i64 0)) (zp := []) (plainElem_int Tryz.underlying3 (by decide)) (key_kkey a b ha hb)
 obtain ⟨k, rfl, hk, _⟩ := plainElem_int_inv Tryz.underlying3 hv
 have hk' := congrArg Prod.fst hk
 simp only [(h2 a b ha hb).2] at hk'
 injection hk' with hk'
 injection hk' with _ hk'
 rw [(h2 a b ha hb).1] at hr
 rw [hk']; exact hr
theorem turned_frameK {w w' : World} {m : Nat} (h : w.mapTurned w' m) : w'.os = w.os ∧ w'.tape = w.tape ∧ w'.output = w.output ∧ w'.heap.size = w.heap.size ∧ ∀ i, i ≠ m → w'.heap[i]? = w.heap[i]? := by
 obtain ⟨es, clock, es', clock', hb, rfl⟩ := h
 exact ⟨rfl, rfl, rfl, by simp [ChangeMaps.setBlock], fun i hi => ChangeMaps.heap_setBlock_other hb _ hi⟩
namespace Ky
def del (n k : ByteArray) (l : List T) : List T := l.filter fun a => !same a n k
theorem mem_del {n k : ByteArray} {l : List T} {y : T} : y ∈ del n k l ↔ y ∈ l ∧ same y n k = false := by
 unfold del
 rw [List.mem_filter]
 simp
def inL (l : List T) (a b : ByteArray) : Option Int := (l.find? fun t => same t a b).map (·.id)
def Once (l : List T) : Prop := l.Pairwise fun a b => ¬ (a.name = b.name ∧ a.key = b.key)
theorem same_false {t : T} {a b : ByteArray} : same t a b = false ↔ ¬ (t.name = a ∧ t.key = b) := by
 rw [← same_iff]; cases same t a b <;> simp
theorem Once.inj {l : List T} (h : Once l) {x y : T} (hx : x ∈ l) (hy : y ∈ l) (e : x.name = y.name ∧ x.key = y.key) : x = y := by
 induction l with
 | nil => cases hx
 | cons a r ih =>
  obtain ⟨h1, h2⟩ := List.pairwise_cons.1 h
  rcases List.mem_cons.1 hx with hx1 | hx1 <;> rcases List.mem_cons.1 hy with hy1 | hy1
  ·rw [hx1, hy1]
  ·exact absurd (by rw [← hx1]; exact e) (h1 y hy1)
  ·exact absurd (by rw [← hy1]; exact ⟨e.1.symm, e.2.symm⟩) (h1 x hx1)
  ·exact ih h2 hx1 hy1
theorem inL_some {l : List T} (h : Once l) {a b : ByteArray} {c : Int} : inL l a b = some c ↔ (⟨a, b, c⟩ : T) ∈ l := by
 unfold inL
 constructor
 ·intro hf
  obtain ⟨t, ht, hc⟩ := Option.map_eq_some_iff.1 hf
  have h1 := List.mem_of_find?_eq_some ht
  have h2 := same_iff.1 (List.find?_some (p := fun t => same t a b) ht)
  obtain ⟨t1, t2, t3⟩ := t
  simp only at h2 hc
  obtain ⟨rfl, rfl⟩ := h2
  subst hc
  exact h1
 ·intro hm
  cases hf : l.find? fun t => same t a b with
  | none =>
   have := List.find?_eq_none.1 hf _ hm
   rw [same_iff.2 ⟨rfl, rfl⟩] at this
   exact absurd rfl this
  | some t =>
   have h1 := List.mem_of_find?_eq_some hf
   have h2 := same_iff.1 (List.find?_some (p := fun t => same t a b) hf)
   rw [h.inj h1 hm h2]; rfl
theorem inL_none {l : List T} {a b : ByteArray} : inL l a b = none ↔ ∀ t ∈ l, ¬ (t.name = a ∧ t.key = b) := by
 unfold inL
 rw [Option.map_eq_none_iff, List.find?_eq_none]
 exact ⟨fun h t ht e => h t ht (same_iff.2 e), fun h t ht e => h t ht (same_iff.1 e)⟩
theorem inL_perm {l l' : List T} (h : Once l) (h' : Once l') (hp : ∀ t, t ∈ l' ↔ t ∈ l) (a b : ByteArray) : inL l' a b = inL l a b := by
 cases hx : inL l a b with
 | some c => rw [inL_some h', hp, ← inL_some h, hx]
 | none =>
  rw [inL_none] at hx ⊢
  exact fun t ht => hx t ((hp t).1 ht)
theorem Once.del {l : List T} (h : Once l) (a b : ByteArray) : Once (del a b l) := h.filter _
theorem del_none {l : List T} {a b : ByteArray} (h : inL l a b = none) : del a b l = l := by
 unfold del
 rw [List.filter_eq_self]
 intro t ht
 rw [same_false.2 (inL_none.1 h t ht)]; rfl
theorem del_len2 {a b : ByteArray} : ∀ {l : List T}, Once l → (del a b l).length + (if (inL l a b).isSome = true then 1 else 0) = l.length
 | [], _ => rfl
 | t :: r, h => by
  obtain ⟨h1, h2⟩ := List.pairwise_cons.1 h
  cases hs : same t a b with
  | true =>
   have e1 : inL (t :: r) a b = some t.id := by unfold inL; rw [List.find?_cons, hs]; rfl
   have e2 : inL r a b = none := inL_none.2 fun x hx e => by
    obtain ⟨e3, e4⟩ := same_iff.1 hs
    exact h1 x hx ⟨e3.trans e.1.symm, e4.trans e.2.symm⟩
   have e3 : Ky.del a b (t :: r) = Ky.del a b r := by unfold Ky.del; rw [List.filter_cons, hs]; rfl
   rw [e1, e3, del_none e2]; simp
  | false =>
   have e1 : inL (t :: r) a b = inL r a b := by unfold inL; rw [List.find?_cons, hs]
   have e3 : Ky.del a b (t :: r) = t :: Ky.del a b r := by unfold Ky.del; rw [List.filter_cons, hs]; rfl
   rw [e1, e3, List.length_cons, List.length_cons]
   have := del_len2 (a := a) (b := b) h2
   omega
def setL (a b : ByteArray) (c : Int) (l : List T) : List T := ⟨a, b, c⟩ :: del a b l
theorem Once.set {l : List T} (h : Once l) (a b : ByteArray) (c : Int) : Once (setL a b c l) :=
 List.pairwise_cons.2 ⟨fun x hx e => by
  have := (mem_del.1 hx).2
  exact same_false.1 this ⟨e.1.symm, e.2.symm⟩, h.del a b⟩
theorem inL_set (l : List T) (a b : ByteArray) (c : Int) (x y : ByteArray) : inL (setL a b c l) x y = if x = a ∧ y = b then some c else inL l x y := by
 by_cases h : x = a ∧ y = b
 ·obtain ⟨rfl, rfl⟩ := h
  rw [if_pos ⟨rfl, rfl⟩]
  unfold inL setL
  rw [List.find?_cons, same_iff.2 ⟨rfl, rfl⟩]; rfl
 ·rw [if_neg h]
  have hs : same (⟨a, b, c⟩ : T) x y = false := same_false.2 fun e => h ⟨e.1.symm, e.2.symm⟩
  unfold inL setL
  rw [List.find?_cons, hs]
  dsimp only
  unfold del
  rw [List.find?_filter]
  congr 2
  funext t
  cases h2 : same t x y with
  | false => simp
  | true =>
   obtain ⟨e1, e2⟩ := same_iff.1 h2
   have : same t a b = false := same_false.2 fun e => h ⟨e1.symm.trans e.1, e2.symm.trans e.2⟩
   rw [this]; rfl
theorem inL_del (l : List T) (a b x y : ByteArray) : inL (del a b l) x y = if x = a ∧ y = b then none else inL l x y := by
 by_cases h : x = a ∧ y = b
 ·obtain ⟨rfl, rfl⟩ := h
  rw [if_pos ⟨rfl, rfl⟩, inL_none]
  exact fun t ht => same_false.1 (mem_del.1 ht).2
 ·rw [if_neg h]
  unfold inL del
  rw [List.find?_filter]
  congr 2
  funext t
  cases h2 : same t x y with
  | false => simp
  | true =>
   obtain ⟨e1, e2⟩ := same_iff.1 h2
   have : same t a b = false := same_false.2 fun e => h ⟨e1.symm.trans e.1, e2.symm.trans e.2⟩
   rw [this]; rfl
end Ky
structure Tells (D : DataW Unit) (l : List Ky.T) : Prop where
 size : Maps.size D = l.length
 at_ : ∀ a b, okS a → okS b → Maps.has D (ekK a b) = (Ky.inL l a b).isSome ∧ D.atKey (ekK a b) (.lit (.int .i64 0)) = .lit (.int .i64 ((Ky.inL l a b).getD 0))
 ok : ∀ t ∈ l, (okS t.name ∧ okS t.key ∧ is64 t.id)
 once : Ky.Once l
def TMap (w : World) (m : Nat) (l : List Ky.T) : Prop := ∃ D : DataW Unit, w.ownsMap Tryz.prog 63 (plainElem Tryz.prog 3) m l.length D ∧ Tells D l
theorem ownsMap_tight {P : Program} {k : TypeId} {R : Value → Option (DataW Unit × List MemPlace)} {w : World} {b n : Nat} {D : DataW Unit} (h : w.ownsMap P k R b n D) {c : Nat} (hc : Maps.size D = c) : w.ownsMap P k R b c D := by
 obtain ⟨es, clock, hb, F, hs, rfl⟩ := h
 refine ⟨es, clock, hb, F, ?_, rfl⟩
 rw [← hc]
 simp [Maps.size, length_sorted]
theorem TMap.made (w : World) : TMap (w.alloc (.map #[] 0)) w.heap.size [] :=
 ⟨.map [], World.ownsMap_made w _ _ _, rfl, fun _ _ _ _ => ⟨rfl, rfl⟩, fun t h => by simp at h, List.Pairwise.nil⟩
theorem TMap.lt {w : World} {m : Nat} {l : List Ky.T} (h : TMap w m l) : m < w.heap.size := by obtain ⟨D, h, _⟩ := h; exact World.ownsMap.lt h
theorem TMap.keep {w w' : World} {m : Nat} {l : List Ky.T} (h : TMap w m l) (hk : w'.heap[m]? = w.heap[m]?) : TMap w' m l := by
 obtain ⟨D, ⟨es, clock, hb, r⟩, h2⟩ := h
 exact ⟨D, ⟨es, clock, hk.trans hb, r⟩, h2⟩
theorem TMap.perm {w : World} {m : Nat} {l l' : List Ky.T} (h : TMap w m l) (hp : l'.Perm l) : TMap w m l' := by
 obtain ⟨D, h, h1, h2, h3, h4⟩ := h
 have hl := hp.length_eq
 have ho : Ky.Once l' := (hp.pairwise_iff (fun {x y} hxy e => hxy ⟨e.1.symm, e.2.symm⟩)).2 h4
 refine ⟨D, by rw [hl]; exact h, by rw [hl]; exact h1, fun a b ha hb => ?_, fun t ht => h3 t (hp.mem_iff.1 ht), ho⟩
 rw [Ky.inL_perm h4 ho (fun t => hp.mem_iff) a b]
 exact h2 a b ha hb
theorem TMap.look2 {w : World} {m : Nat} {l : List Ky.T} (h : TMap w m l) (a b : ByteArray) (ha : okS a) (hb : okS b) :
  (Instr.lookup 98 (.map (some m)) (.agg #[.string a, .string b]) true).run Tryz.prog w = .ok (.tuple #[.int .i64 ((Ky.inL l a b).getD 0), .bool (Ky.inL l a b).isSome]) w := by
 obtain ⟨D, h, h2⟩ := h
 exact GMapK.look2 (F := Ky.inL l) ⟨D, h, h2.at_⟩ a b ha hb
theorem TMap.look {w : World} {m : Nat} {l : List Ky.T} (h : TMap w m l) (a b : ByteArray) (ha : okS a) (hb : okS b) :
  (Instr.lookup 98 (.map (some m)) (.agg #[.string a, .string b]) false).run Tryz.prog w = .ok (.int .i64 ((Ky.inL l a b).getD 0)) w := by
 obtain ⟨D, h, h2⟩ := h
 exact GMapK.look (F := Ky.inL l) ⟨D, h, h2.at_⟩ a b ha hb
theorem TMap.store {w : World} {m : Nat} {l : List Ky.T} (h : TMap w m l) (hc : l.length ≤ 1000000000) (a b : ByteArray) (v : Int) (ha : okS a) (hb : okS b) (hv : is64 v) :
  ∃ w', (Instr.mapUpdate 98 (.map (some m)) (.agg #[.string a, .string b]) (.int .i64 v)).run Tryz.prog w = .ok () w' ∧ TMap w' m (Ky.setL a b v l) ∧ w.mapTurned w' m := by
 obtain ⟨D, h, h1, h2, h3, h4⟩ := h
 obtain ⟨w', hr, ho, ht⟩ := h.store kkey_law Tryz.underlying98 (by unfold maxLen; omega) (key_kkey a b ha hb) (d := .lit (.int .i64 v)) (ps := []) (plainElem_int Tryz.underlying3 (wf_iK hv))
 have hsz : Maps.size (D.put (ekK a b) (.lit (.int .i64 v))) = (Ky.setL a b v l).length := by
  rw [size_put (h.tidy kkey_law), (h2 a b ha hb).1, h1]
  have := Ky.del_len2 (a := a) (b := b) h4
  unfold Ky.setL
  rw [List.length_cons]
  split <;> simp_all <;> omega
 refine ⟨w', hr, ⟨_, ownsMap_tight ho hsz, hsz, fun x y hx hy => ?_, fun t ht => ?_, h4.set a b v⟩, ht⟩
 ·rw [Ky.inL_set]
  by_cases hxy : x = a ∧ y = b
  ·obtain ⟨rfl, rfl⟩ := hxy
   rw [if_pos ⟨rfl, rfl⟩, has_put_same h.isMap (kkey_law.key (key_kkey x y ha hb)), atKey_put_same h.isMap (kkey_law.key (key_kkey x y ha hb))]
   exact ⟨rfl, rfl⟩
  ·rw [if_neg hxy, has_put_other (ekK_ne ha hb hx hy hxy), atKey_put_other (ekK_ne ha hb hx hy hxy)]
   exact h2 x y hx hy
 ·rcases List.mem_cons.1 ht with rfl | ht
  ·exact ⟨ha, hb, hv⟩
  ·exact h3 t (Ky.mem_del.1 ht).1
theorem tells_del {D : DataW Unit} {l : List Ky.T} (h : Tells D l) (hd : Tidy D) {a b : ByteArray} (ha : okS a) (hb : okS b) : Tells (D.del (ekK a b)) (Ky.del a b l) := by
 refine ⟨?_, fun x y hx hy => ?_, fun t ht => h.ok t (Ky.mem_del.1 ht).1, h.once.del a b⟩
 ·have h1 := size_del hd (k := ekK a b)
  have h2 := Ky.del_len2 (a := a) (b := b) h.once
  rw [(h.at_ a b ha hb).1, h.size] at h1
  omega
 ·rw [Ky.inL_del]
  by_cases hxy : x = a ∧ y = b
  ·obtain ⟨rfl, rfl⟩ := hxy
   rw [if_pos ⟨rfl, rfl⟩, has_del_same, atKey_del_same]
   exact ⟨rfl, rfl⟩
  ·rw [if_neg hxy, has_del_other (ekK_ne ha hb hx hy hxy), atKey_del_other (ekK_ne ha hb hx hy hxy)]
   exact h.at_ x y hx hy
theorem TMap.drop {w : World} {m : Nat} {l : List Ky.T} (h : TMap w m l) (a b : ByteArray) (ha : okS a) (hb : okS b) (ty : TypeId) :
  ∃ w', (Builtin.delete_ #[98, 63] ty #[.map (some m), .agg #[.string a, .string b]]).run Tryz.prog w = .ok (.tuple #[]) w' ∧ TMap w' m (Ky.del a b l) ∧ w.mapTurned w' m := by
 obtain ⟨D, h, hT⟩ := h
 obtain ⟨w', hr, ho, ht⟩ := h.drop kkey_law Tryz.underlying98 (key_kkey a b ha hb) ty
 have hT' := tells_del hT (h.tidy kkey_law) ha hb
 exact ⟨w', hr, ⟨_, ownsMap_tight ho hT'.size, hT'⟩, ht⟩
end Go.Proofs.YtkbekojnmdgdgaaGreatDoor
/- Edges -/
namespace Go.Proofs.YtkbekojnmdgdgaaGreatDoor
open Go.RowKit
def inE (e : Int × Int) : Prop := inI e.1 ∧ inI e.2
def Edg (w : World) (B : Nat) (A : Option Addr) (es : List (Int × Int)) : Prop :=
 (∀ i, i < es.length → inE (es.getD i (0, 0))) ∧
 (0 < es.length → ∃ b off, A = some ⟨b, off, none⟩ ∧ b < B ∧ ∀ i, i < es.length → w.cell? ⟨b, off + i * 2, none⟩ = some (.int .i64 (es.getD i (0, 0)).1) ∧ w.cell? ⟨b, off + i * 2 + 1, none⟩ = some (.int .i64 (es.getD i (0, 0)).2))
theorem Edg.at_ {w : World} {B : Nat} {A : Option Addr} {es : List (Int × Int)} {k : Nat} (h : Edg w B A es) (hk : k < es.length) :
  ∃ b off x y, A = some ⟨b, off, none⟩ ∧ Hid (b < B) ∧ w.cell? ⟨b, off + k * 2, none⟩ = some (.int .i64 x) ∧ w.cell? ⟨b, off + k * 2 + 1, none⟩ = some (.int .i64 y) ∧ Hid (es.getD k (0, 0) = (x, y)) ∧ (-9223372036854775808 ≤ x ∧ x ≤ 9223372036854775807) ∧ -9223372036854775808 ≤ y ∧ y ≤ 9223372036854775807 := by
 obtain ⟨b, off, e, hb, hc⟩ := h.2 (by omega)
 exact ⟨b, off, _, _, e, Lib.hid hb, (hc k hk).1, (hc k hk).2, Lib.hid rfl, (h.1 k hk).1, (h.1 k hk).2⟩
theorem Edg.below {w w' : World} {B : Nat} {A : Option Addr} {es : List (Int × Int)} (h : Edg w B A es) (hb : Below B w w') : Edg w' B A es :=
 ⟨h.1, fun hn => by
  obtain ⟨b, off, e, hl, hc⟩ := h.2 hn
  exact ⟨b, off, e, hl, fun i hi => ⟨(hb.cell (p := ⟨b, _, none⟩) hl).trans (hc i hi).1, (hb.cell (p := ⟨b, _, none⟩) hl).trans (hc i hi).2⟩⟩⟩
theorem Edg.more {w : World} {B B' : Nat} {A : Option Addr} {es : List (Int × Int)} (h : Edg w B A es) (hB : B ≤ B') : Edg w B' A es :=
 ⟨h.1, fun hn => by
  obtain ⟨b, off, e, hb, hc⟩ := h.2 hn
  exact ⟨b, off, e, by omega, hc⟩⟩
theorem Edg.on {w w' : World} {A : Option Addr} {es : List (Int × Int)} (h : Edg w w.heap.size A es) (hb : Below w.heap.size w w') : Edg w' w'.heap.size A es := (h.below hb).more hb.size
def eds (es : List (Int × Int)) : List (List Value) := es.map fun e => [.int .i64 e.1, .int .i64 e.2]
theorem eds_len (es : List (Int × Int)) : (eds es).length = es.length := by simp [eds]
theorem eds_app (es fs : List (Int × Int)) : eds (es ++ fs) = eds es ++ eds fs := by simp [eds]
theorem eds_wide (es : List (Int × Int)) : Wide 2 (eds es) := fun v hv => by
 obtain ⟨e, _, rfl⟩ := List.mem_map.1 hv
 exact ⟨rfl, fun u hu => by simp at hu; rcases hu with rfl | rfl <;> rfl⟩
def OwnE (w : World) (base : Nat) (T : TypeId) (A : Option Addr) (cap : Nat) (es : List (Int × Int)) : Prop := OwnK w base T 2 A cap (eds es) ∧ ∀ e ∈ es, inE e
theorem OwnE.none_ (w : World) (base : Nat) (T : TypeId) : OwnE w base T none 0 [] := ⟨OwnK.none_ w base T 2, fun e h => by simp at h⟩
theorem OwnE.keep {w w' : World} {base : Nat} {T : TypeId} {A : Option Addr} {cap : Nat} {es : List (Int × Int)} (h : OwnE w base T A cap es) (hk : ∀ a, A = some a → w'.heap[a.block]? = w.heap[a.block]?) : OwnE w' base T A cap es := ⟨h.1.keep hk, h.2⟩
theorem OwnE.lt {w : World} {base : Nat} {T : TypeId} {a : Addr} {cap : Nat} {es : List (Int × Int)} (h : OwnE w base T (some a) cap es) : base ≤ a.block ∧ a.block < w.heap.size := h.1.lt
theorem OwnE.grew {w w' : World} {base B : Nat} {T : TypeId} {A : Option Addr} {cap : Nat} {es : List (Int × Int)} (h : OwnE w base T A cap es) (hb : Below B w w') (hB : w.heap.size ≤ B) : OwnE w' base T A cap es := ⟨h.1.grew hb hB, h.2⟩
theorem OwnE.edg {w : World} {base : Nat} {T : TypeId} {A : Option Addr} {cap : Nat} {es : List (Int × Int)} (h : OwnE w base T A cap es) : Edg w w.heap.size A es := by
 have hr : ∀ i, i < es.length → inE (es.getD i (0, 0)) := fun i hi => by rw [List.getD_eq_getElem?_getD, List.getElem?_eq_getElem hi]; exact h.2 _ (List.getElem_mem hi)
 refine ⟨hr, fun hn => ?_⟩
 obtain ⟨g, rfl, hg, hg2⟩ := h.1.shape (by rw [eds_len]; exact hn)
 refine ⟨g, 0, rfl, hg2, fun i hi => ?_⟩
 have e : (eds es).getD i [] = [.int .i64 (es.getD i (0, 0)).1, .int .i64 (es.getD i (0, 0)).2] := by
  unfold eds
  rw [List.getD_eq_getElem?_getD, List.getElem?_map, List.getD_eq_getElem?_getD, List.getElem?_eq_getElem hi]
  rfl
 have c0 := h.1.cell (i := i) (j := 0) (u := .int .i64 (es.getD i (0, 0)).1) (by rw [eds_len]; exact hi) (by decide) (by rw [e]; rfl)
 have c1 := h.1.cell (i := i) (j := 1) (u := .int .i64 (es.getD i (0, 0)).2) (by rw [eds_len]; exact hi) (by decide) (by rw [e]; rfl)
 rw [Nat.zero_add]
 exact ⟨c0, c1⟩
theorem OwnE.ne {w : World} {base : Nat} {T : TypeId} {a : Addr} {cap : Nat} {es : List (Int × Int)} (h : OwnE w base T (some a) cap es) {g : Nat} {cs : Array Value} {t : TypeId} {fz : Nat × Nat} (ho : w.heap[g]? = some (.cells cs t fz)) (ht : t ≠ T) : a.block ≠ g := by
 rintro rfl
 rcases h.1.1.2 with ⟨e, _⟩ | ⟨g, c', cur, e, hb, hg, r⟩
 ·cases e
 ·injection e with e1 e2 e3
  injection e1 with e1
  subst e1
  rw [ho] at hg
  injection hg with hg
  injection hg with _ h2 _
  exact ht h2
theorem grownE_below {w w' : World} {base : Nat} {T : TypeId} {A : Option Addr} {cap n : Nat} {es : List (Int × Int)} (h : OwnE w base T A cap es) (hbase : base ≤ w.heap.size) (hg : w.grownBy w' (Value.slice A n cap).ownBlock) : Below base w w' :=
 (Below.refl _ _).grown hg hbase fun k hk => by
  cases A with
  | none => cases hk
  | some a => simp [Value.ownBlock] at hk; subst hk; exact h.lt.1
theorem run_appE {w : World} {base : Nat} {T ST : TypeId} {A : Option Addr} {cap : Nat} {es : List (Int × Int)} {x y : Int} (hST : Tryz.prog.underlying ST = some (.slice T))
  (hI : (Tryz.prog.info? T).map (fun i => (i.zero, i.size, i.bytes)) = some (some (.agg #[.int .i64 0, .int .i64 0]), 2, 16))
  (h : OwnE w base T A cap es) (hbase : base ≤ w.heap.size) {b2 : Nat} (hx : w.cell? ⟨b2, 0, none⟩ = some (.int .i64 x)) (hy : w.cell? ⟨b2, 1, none⟩ = some (.int .i64 y)) (hi : inE (x, y)) (c : Nat) (hlen : es.length ≤ 100000000) (ty : TypeId) :
  ∃ A' cap' w', (Builtin.append_ #[ST, ST] ty #[.slice A es.length cap, .slice (some ⟨b2, 0, none⟩) 1 c]).run Tryz.prog w = .ok (.slice A' (es.length + 1) cap') w' ∧
   OwnE w' base T A' cap' (es ++ [(x, y)]) ∧ w.grownBy w' (Value.slice A es.length cap).ownBlock := by
 have hl : (eds es).length = es.length := eds_len es
 obtain ⟨A', cap', w', hr, h1, h2, _⟩ := run_appK (us := eds [(x, y)]) hST hI rfl (by decide) (by decide) h.1 hbase (b2 := b2) (o2 := 0) (eds_wide _) (fun j u hu => by
  rw [Nat.zero_add]
  match j, hu with
  | 0, hu => simp [eds] at hu; rw [← hu]; exact hx
  | 1, hu => simp [eds] at hu; rw [← hu]; exact hy
  | j + 2, hu => simp [eds] at hu) c (by rw [hl]; simp [eds]; omega) ty
 rw [hl] at hr h2
 have e : (eds es ++ eds [(x, y)]).length = es.length + 1 := by rw [List.length_append, hl]; rfl
 rw [e] at hr
 refine ⟨A', cap', w', hr, ⟨by rw [eds_app]; exact h1, fun z hz => ?_⟩, h2⟩
 rcases List.mem_append.1 hz with hz | hz
 ·exact h.2 z hz
 ·simp at hz; subst hz; exact hi
theorem wp_appE {w : World} {ops : Array Oper} {rest : List Oper} {o : Oper} {a : Act} {Q : Exit → Act → World → Prop} (hgd : o.guard = none) (s t : Operand) {T ST : TypeId}
  (ho : o.op = .call { callee := .builtin .append, args := #[s, t], argTypes := #[ST, ST] })
  {base : Nat} {A : Option Addr} {n cap : Nat} {es : List (Int × Int)} {x y : Int} (hST : Tryz.prog.underlying ST = some (.slice T))
  (hI : (Tryz.prog.info? T).map (fun i => (i.zero, i.size, i.bytes)) = some (some (.agg #[.int .i64 0, .int .i64 0]), 2, 16))
  (hs : a.eval s = .slice A n cap) (hn : n = es.length) (h : OwnE w base T A cap es) (hbase : base ≤ w.heap.size)
  {b2 c : Nat} (ht : a.eval t = .slice (some ⟨b2, 0, none⟩) 1 c) (hx : w.cell? ⟨b2, 0, none⟩ = some (.int .i64 x)) (hy : w.cell? ⟨b2, 1, none⟩ = some (.int .i64 y)) (hi : inE (x, y)) (hlen : es.length ≤ 100000000)
  (K : ∀ A' cap' w', OwnE w' base T A' cap' (es ++ [(x, y)]) → w.grownBy w' (Value.slice A es.length cap).ownBlock → wpList Tryz.prog ops Q rest (a.put o.dst (.slice A' (es.length + 1) cap')) w') :
  wpList Tryz.prog ops Q (o :: rest) a w := by
 subst hn
 obtain ⟨A', cap', w', hrun, h1, h2⟩ := run_appE hST hI h hbase hx hy hi c hlen o.type
 refine wpList_plain hgd fun K' hK => ?_
 unfold Oper.wp
 simp [execOp, ho, resolve, invoke, builtin, hs, ht, hrun, Result.andThen]
 exact hK _ _ (K A' cap' w' h1 h2)
theorem OwnE.set {w : World} {base : Nat} {T : TypeId} {A : Option Addr} {cap : Nat} {es : List (Int × Int)} (h : OwnE w base T A cap es) {g : Nat} {cs : Array Value} {t : TypeId} {fz : Nat × Nat} (ho : w.heap[g]? = some (.cells cs t fz)) (ht : t ≠ T) (o : Nat) (v : Value) : OwnE (w.setCell ⟨g, o, none⟩ v) base T A cap es :=
 h.keep fun a ha => by subst ha; exact Below.heap_setCell _ _ _ _ (h.ne ho ht)
theorem OwnE.set2 {w : World} {base : Nat} {T : TypeId} {A : Option Addr} {cap : Nat} {es : List (Int × Int)} (h : OwnE w base T A cap es) {g : Nat} {x y : Value} {t : TypeId} (ho : w.heap[g]? = some (.cells #[x, y] t (0, 0))) (ht : t ≠ T) (a b : Value) :
  OwnE ((w.setCell ⟨g, 0, none⟩ a).setCell ⟨g, 1, none⟩ b) base T A cap es :=
 (h.set ho ht 0 a).set (cs := #[a, y]) (fz := (0, 0)) (heap_setCell_same w g 0 _ _ _ ho) ht 1 b
theorem edge_info : (Tryz.prog.info? 185).map (fun i => (i.zero, i.size, i.bytes)) = some (some (.agg #[.int .i64 0, .int .i64 0]), 2, 16) := by kernel_rfl
theorem obG {w : World} {g : Nat} {x y : Value} {t : TypeId} (h : w.heap[g]? = some (.cells #[x, y] t (0, 0))) :
  (w.cell? ⟨g, 0, none⟩ = some x ∧ w.cell? ⟨g, 1, none⟩ = some y) ∧ (w.frozen? ⟨g, 0, none⟩ = false ∧ w.frozen? ⟨g, 1, none⟩ = false) :=
 ⟨⟨by simp [World.cell?, h], by simp [World.cell?, h]⟩, ⟨by simp [World.frozen?, h], by simp [World.frozen?, h]⟩⟩
def BoolG (w : World) (b : Bool) (e : Ending) (w' : World) : Prop := e = .returned (.bool b) ∧ Hid (Below w.heap.size w w')
end Go.Proofs.YtkbekojnmdgdgaaGreatDoor
/- ToPost -/
namespace Go.Proofs.YtkbekojnmdgdgaaGreatDoor
open Go.RowKit
def OptG (w : World) (o : Option (List Int)) (e : Ending) (w' : World) : Prop :=
 ∃ A cap, e = .returned (.tuple #[.slice A (o.getD []).length cap, .bool o.isSome]) ∧ Hid ((o.getD []).length ≤ cap) ∧ Hid (Zs w' w'.heap.size A (o.getD [])) ∧ Hid (Below w.heap.size w w')
end Go.Proofs.YtkbekojnmdgdgaaGreatDoor
/- RowsKit -/
namespace Go.Proofs.YtkbekojnmdgdgaaGreatDoor
open Go.ChangeShapes Go.WideShapes Go.ChangeAt Go.RowKit
def Strs (w : World) (B : Nat) (A : Option Addr) (ss : List ByteArray) : Prop :=
 (∀ i, i < ss.length → (ss.getD i ByteArray.empty).size ≤ 9223372036854775807) ∧
 (0 < ss.length → ∃ b off, A = some ⟨b, off, none⟩ ∧ b < B ∧ ∀ i, i < ss.length → w.cell? ⟨b, off + i, none⟩ = some (.string (ss.getD i ByteArray.empty)))
theorem Strs.at_ {w : World} {B : Nat} {A : Option Addr} {ss : List ByteArray} {k : Nat} (h : Strs w B A ss) (hk : k < ss.length) :
  ∃ b off s, A = some ⟨b, off, none⟩ ∧ Hid (b < B) ∧ w.cell? ⟨b, off + k, none⟩ = some (.string s) ∧ Hid (ss.getD k ByteArray.empty = s) ∧ s.size ≤ 9223372036854775807 := by
 obtain ⟨b, off, e, hb, hc⟩ := h.2 (by omega)
 exact ⟨b, off, _, e, Lib.hid hb, hc k hk, Lib.hid rfl, h.1 k hk⟩
theorem Strs.below {w w' : World} {B : Nat} {A : Option Addr} {ss : List ByteArray} (h : Strs w B A ss) (hb : Below B w w') : Strs w' B A ss :=
 ⟨h.1, fun hn => by
  obtain ⟨b, off, e, hl, hc⟩ := h.2 hn
  exact ⟨b, off, e, hl, fun i hi => (hb.cell (p := ⟨b, _, none⟩) hl).trans (hc i hi)⟩⟩
end Go.Proofs.YtkbekojnmdgdgaaGreatDoor
