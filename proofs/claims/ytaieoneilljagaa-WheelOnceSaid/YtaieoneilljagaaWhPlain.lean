/-
  Timers in plain words: a list ordered by tick, run and task, one for each key; set, dropped, gone on to a tick.
-/
import Derived.Test.YtaieoneilljagaaBaseKit
namespace Go.Proofs.Ytaieoneilljagaa.Wh
structure T where
  run : Int
  task : Int
  at_ : Int
deriving DecidableEq
def same (a : T) (run task : Int) : Bool := a.run == run && a.task == task
def less (a b : T) : Bool := if a.at_ = b.at_ then (if a.run = b.run then decide (a.task < b.task) else decide (a.run < b.run)) else decide (a.at_ < b.at_)
theorem less_iff {a b : T} : less a b = true ↔ a.at_ < b.at_ ∨ (a.at_ = b.at_ ∧ (a.run < b.run ∨ (a.run = b.run ∧ a.task < b.task))) := by
  unfold less
  by_cases h1 : a.at_ = b.at_
  · rw [if_pos h1]
    by_cases h2 : a.run = b.run
    · rw [if_pos h2, decide_eq_true_eq]; omega
    · rw [if_neg h2, decide_eq_true_eq]; omega
  · rw [if_neg h1, decide_eq_true_eq]; omega
theorem less_trans {a b c : T} (h : less a b = true) (k : less b c = true) : less a c = true := by
  rw [less_iff] at *
  omega
theorem less_or {a b : T} (h : less a b = false) : less b a = true ∨ a = b := by
  have h' : ¬ less a b = true := by rw [h]; simp
  rw [less_iff] at h'
  by_cases e : a = b
  · exact .inr e
  · left
    rw [less_iff]
    have : ¬ (a.run = b.run ∧ a.task = b.task ∧ a.at_ = b.at_) := fun ⟨h1, h2, h3⟩ => e (by cases a; cases b; simp_all)
    omega
/-- The state: the present tick and the timers in order. -/
structure S where
  now : Int
  l : List T
structure Inv (s : S) : Prop where
  sorted : s.l.Pairwise fun a b => less a b = true
  once : s.l.Pairwise fun a b => same b a.run a.task = false
  late : ∀ a ∈ s.l, s.now < a.at_ ∧ a.at_ ≤ 1099511627776
  now0 : 0 ≤ s.now
  now1 : s.now ≤ 1099511627776
def s0 : S := ⟨0, []⟩
theorem s0_inv : Inv s0 := ⟨List.Pairwise.nil, List.Pairwise.nil, fun a h => by simp [s0] at h, by decide, by decide⟩
def del (run task : Int) (l : List T) : List T := l.filter fun a => !same a run task
def ins (x : T) (l : List T) : List T := l.takeWhile (fun a => less a x) ++ x :: l.dropWhile fun a => less a x
def setE (s : S) (at_ : Int) : Int := if 1099511627776 < at_ ∨ at_ ≤ s.now then 1 else 0
def setS (s : S) (run task at_ : Int) : S := if 1099511627776 < at_ ∨ at_ ≤ s.now then s else ⟨s.now, ins ⟨run, task, at_⟩ (del run task s.l)⟩
def findV (s : S) (run task : Int) : Option T := s.l.find? fun a => same a run task
def dropB (s : S) (run task : Int) : Bool := (findV s run task).isSome
def dropS (s : S) (run task : Int) : S := ⟨s.now, del run task s.l⟩
def atV (s : S) (run task : Int) : Option Int := (findV s run task).map (·.at_)
def toE (s : S) (now : Int) : Int := if now < s.now ∨ 1099511627776 < now then 1 else 0
def due (now : Int) (a : T) : Bool := decide (a.at_ ≤ now)
def toL (s : S) (now : Int) : List T := if now < s.now ∨ 1099511627776 < now then [] else s.l.takeWhile (due now)
def toS (s : S) (now : Int) : S := if now < s.now ∨ 1099511627776 < now then s else ⟨now, s.l.dropWhile (due now)⟩
def nextV (s : S) : Option Int := s.l.head?.map (·.at_)
theorem same_iff {a : T} {run task : Int} : same a run task = true ↔ a.run = run ∧ a.task = task := by unfold same; simp
theorem mem_ins {x y : T} {l : List T} : y ∈ ins x l ↔ y = x ∨ y ∈ l := by
  unfold ins
  rw [List.mem_append, List.mem_cons]
  have h := List.takeWhile_append_dropWhile (p := fun a => less a x) (l := l)
  have h2 : y ∈ l ↔ y ∈ l.takeWhile (fun a => less a x) ∨ y ∈ l.dropWhile (fun a => less a x) := by
    conv => lhs; rw [← h]
    rw [List.mem_append]
  rw [h2]
  constructor
  · rintro (h | h | h)
    · exact .inr (.inl h)
    · exact .inl h
    · exact .inr (.inr h)
  · rintro (h | h | h)
    · exact .inr (.inl h)
    · exact .inl h
    · exact .inr (.inr h)
theorem mem_del {run task : Int} {l : List T} {y : T} : y ∈ del run task l ↔ y ∈ l ∧ same y run task = false := by
  unfold del
  rw [List.mem_filter]
  simp
theorem ins_sorted {x : T} {l : List T} (h : l.Pairwise fun a b => less a b = true) (hx : x ∉ l) : (ins x l).Pairwise fun a b => less a b = true := by
  induction l with
  | nil => simp [ins]
  | cons a r ih =>
    obtain ⟨h1, h2⟩ := List.pairwise_cons.1 h
    have hr : x ∉ r := fun hm => hx (List.mem_cons_of_mem _ hm)
    cases hl : less a x with
    | true =>
      have e : ins x (a :: r) = a :: ins x r := by unfold ins; simp [hl]
      rw [e, List.pairwise_cons]
      exact ⟨fun y hy => (mem_ins.1 hy).elim (fun h => h ▸ hl) fun h => h1 y h, ih h2 hr⟩
    | false =>
      have e : ins x (a :: r) = x :: a :: r := by unfold ins; simp [hl]
      have hxa : less x a = true := (less_or hl).elim id fun h => absurd (by rw [h]; simp) hx
      rw [e, List.pairwise_cons]
      exact ⟨fun y hy => (List.mem_cons.1 hy).elim (fun h => h ▸ hxa) fun h => less_trans hxa (h1 y h), h⟩
theorem pair_same {l : List T} (h : l.Pairwise fun a b => same b a.run a.task = false) : l.Pairwise fun a b => ¬ (a.run = b.run ∧ a.task = b.task) :=
  h.imp fun {a b} hab e => by
    have : same b a.run a.task = true := same_iff.2 ⟨e.1.symm, e.2.symm⟩
    rw [hab] at this; cases this
theorem ins_once {x : T} {l : List T} (h : l.Pairwise fun a b => same b a.run a.task = false) (hx : ∀ a ∈ l, same a x.run x.task = false) : (ins x l).Pairwise fun a b => same b a.run a.task = false := by
  unfold ins
  have hs := List.takeWhile_append_dropWhile (p := fun a => less a x) (l := l)
  have h' := h
  rw [← hs] at h'
  obtain ⟨h1, h2, h3⟩ := List.pairwise_append.1 h'
  have ht : ∀ a ∈ l.takeWhile (fun a => less a x), a ∈ l := fun a ha => by rw [← hs]; exact List.mem_append_left _ ha
  have hd : ∀ a ∈ l.dropWhile (fun a => less a x), a ∈ l := fun a ha => by rw [← hs]; exact List.mem_append_right _ ha
  refine List.pairwise_append.2 ⟨h1, List.pairwise_cons.2 ⟨fun b hb => hx b (hd b hb), h2⟩, fun a ha b hb => ?_⟩
  rcases List.mem_cons.1 hb with rfl | hb
  · cases hc : same b a.run a.task with
    | false => rfl
    | true =>
      obtain ⟨e1, e2⟩ := same_iff.1 hc
      have := hx a (ht a ha)
      rw [e1, e2, same_iff.2 ⟨rfl, rfl⟩] at this
      cases this
  · exact h3 a ha b hb
theorem Inv.drop {s : S} (h : Inv s) (run task : Int) : Inv (dropS s run task) :=
  ⟨h.sorted.filter _, h.once.filter _, fun a ha => h.late a (mem_del.1 ha).1, h.now0, h.now1⟩
theorem Inv.set {s : S} (h : Inv s) (run task at_ : Int) : Inv (setS s run task at_) := by
  unfold setS
  split
  · exact h
  · next hc =>
    have hd := h.drop run task
    have hk : ∀ a ∈ del run task s.l, same a run task = false := fun a ha => (mem_del.1 ha).2
    refine ⟨ins_sorted hd.sorted fun hm => ?_, ins_once hd.once hk, fun a ha => ?_, h.now0, h.now1⟩
    · have := hk _ hm
      rw [same_iff.2 ⟨rfl, rfl⟩] at this
      cases this
    · rcases mem_ins.1 ha with rfl | ha
      · exact ⟨by show s.now < at_; omega, by show at_ ≤ _; omega⟩
      · exact hd.late a ha
theorem mem_set {s : S} {run task at_ : Int} (h : setE s at_ = 0) {y : T} : y ∈ (setS s run task at_).l ↔ y = ⟨run, task, at_⟩ ∨ (y ∈ s.l ∧ same y run task = false) := by
  unfold setE at h
  split at h
  · cases h
  · next hc =>
    unfold setS
    rw [if_neg hc]
    show y ∈ ins _ _ ↔ _
    rw [mem_ins, mem_del]
/-- In order, what is due stands ahead of the rest. -/
theorem due_take {now : Int} : ∀ {l : List T}, (l.Pairwise fun a b => less a b = true) → l.takeWhile (due now) = l.filter (due now) ∧ l.dropWhile (due now) = l.filter fun a => !due now a
  | [], _ => ⟨rfl, rfl⟩
  | a :: r, h => by
    obtain ⟨h1, h2⟩ := List.pairwise_cons.1 h
    have ih := due_take (now := now) h2
    cases hd : due now a with
    | true =>
      simp only [List.takeWhile_cons, List.dropWhile_cons, List.filter_cons, hd, if_true, Bool.not_true, Bool.false_eq_true, if_false]
      exact ⟨by rw [ih.1], ih.2⟩
    | false =>
      have hr : ∀ b ∈ r, due now b = false := fun b hb => by
        have := less_iff.1 (h1 b hb)
        unfold due at hd ⊢
        rw [decide_eq_false_iff_not] at hd ⊢
        omega
      simp only [List.takeWhile_cons, List.dropWhile_cons, List.filter_cons, hd, if_true, Bool.not_false, Bool.false_eq_true, if_false]
      refine ⟨?_, ?_⟩
      · symm
        rw [List.filter_eq_nil_iff]
        intro b hb
        rw [hr b hb]; simp
      · congr 1
        symm
        rw [List.filter_eq_self]
        intro b hb
        rw [hr b hb]; rfl
theorem Inv.to {s : S} (h : Inv s) (now : Int) : Inv (toS s now) := by
  unfold toS
  split
  · exact h
  · next hc =>
    have hd := (due_take (now := now) h.sorted).2
    refine ⟨?_, ?_, fun a ha => ?_, ?_, ?_⟩
    · show (s.l.dropWhile (due now)).Pairwise _; rw [hd]; exact h.sorted.filter _
    · show (s.l.dropWhile (due now)).Pairwise _; rw [hd]; exact h.once.filter _
    · have ha' : a ∈ s.l.filter fun a => !due now a := by rw [← hd]; exact ha
      obtain ⟨h1, h2⟩ := List.mem_filter.1 ha'
      have := h.late a h1
      unfold due at h2
      simp at h2
      exact ⟨by show now < a.at_; omega, this.2⟩
    · show 0 ≤ now; have := h.now0; omega
    · show now ≤ _; omega
theorem to_mem {s : S} (h : Inv s) {now : Int} (hn : toE s now = 0) {y : T} : y ∈ toL s now ↔ y ∈ s.l ∧ y.at_ ≤ now := by
  unfold toE at hn
  split at hn
  · cases hn
  · next hc =>
    unfold toL
    rw [if_neg hc, (due_take h.sorted).1, List.mem_filter]
    unfold due
    simp
theorem to_len {s : S} {now : Int} (hn : toE s now = 0) : (toL s now).length + (toS s now).l.length = s.l.length := by
  unfold toE at hn
  split at hn
  · cases hn
  · next hc =>
    unfold toL toS
    rw [if_neg hc, if_neg hc, ← List.length_append, List.takeWhile_append_dropWhile]
theorem to_sorted {s : S} (h : Inv s) {now : Int} : (toL s now).Pairwise fun a b => less a b = true := by
  unfold toL
  split
  · exact List.Pairwise.nil
  · exact h.sorted.sublist (List.takeWhile_sublist _)
end Go.Proofs.Ytaieoneilljagaa.Wh
