/-
  WheelOnce in plain words: what is wanted holds the timers that are set, each once.
-/
import Derived.Test.YtaieoneilljagaaWhPlain
import Derived.Laws.BitsLemmas
namespace Go.Proofs.Ytaieoneilljagaa
open Go.RowKit
theorem i64_and65535 (n : Int) : bits .and .i64 n 65535 = n % 65536 := by
  have h16 : (BitVec.ofInt 64 65535).toNat = 2 ^ 16 - 1 := by decide
  have key : (BitVec.ofInt 64 n &&& BitVec.ofInt 64 65535).toNat = (n % ((2 ^ 64 : Nat) : Int)).toNat % 2 ^ 16 := by
    rw [BitVec.toNat_and, BitVec.toNat_ofInt, h16, Nat.and_two_pow_sub_one_eq_mod]
  show IntKind.i64.wrap ((BitVec.ofInt 64 n &&& BitVec.ofInt 64 65535).toNat : Nat) = n % 65536
  rw [key, IntKind.wrap_i64]
  omega
theorem Wh.ins_perm (x : Wh.T) (l : List Wh.T) : (Wh.ins x l).Perm (x :: l) := by
  unfold Wh.ins
  have h := List.takeWhile_append_dropWhile (p := fun a => Wh.less a x) (l := l)
  have p := List.perm_middle (a := x) (l₁ := l.takeWhile fun a => Wh.less a x) (l₂ := l.dropWhile fun a => Wh.less a x)
  rw [h] at p
  exact p
/-- What is wanted once a timer has been set. -/
theorem Wh.want_perm {want l : List Wh.T} (h : want.Perm l) (x : Wh.T) (run task : Int) : (want.filter (fun a => !Wh.same a run task) ++ [x]).Perm (Wh.ins x (Wh.del run task l)) := by
  refine List.Perm.trans ?_ (Wh.ins_perm x _).symm
  refine (List.perm_append_singleton x _).trans (List.Perm.cons x ?_)
  exact h.filter _
theorem Wh.filter_yes {want : List Wh.T} {k : Nat} {a : Wh.T} {p : Wh.T → Bool} (ha : want[k]? = some a) (hp : p a = true) : (want.take (k + 1)).filter p = (want.take k).filter p ++ [a] := by
  rw [List.take_add_one, ha, List.filter_append]
  simp [hp]
theorem Wh.filter_no {want : List Wh.T} {k : Nat} {a : Wh.T} {p : Wh.T → Bool} (ha : want[k]? = some a) (hp : p a = false) : (want.take (k + 1)).filter p = (want.take k).filter p := by
  rw [List.take_add_one, ha, List.filter_append]
  simp [hp]
/-- Is t among the first q? -/
def thr (want : List Wh.T) (q : Nat) (t : Wh.T) : Bool := (want.take q).any fun u => decide (u = t)
theorem thr_zero (want : List Wh.T) (t : Wh.T) : thr want 0 t = false := by unfold thr; simp
theorem thr_succ {want : List Wh.T} {q : Nat} {u : Wh.T} (hu : want[q]? = some u) (t : Wh.T) : thr want (q + 1) t = (thr want q t || decide (u = t)) := by
  unfold thr
  rw [List.take_add_one, hu, List.any_append]
  simp
theorem thr_all {want : List Wh.T} {q : Nat} {t : Wh.T} (hq : q = want.length) (ht : t ∈ want) : thr want q t = true := by
  unfold thr
  rw [List.take_of_length_le (by omega), List.any_eq_true]
  exact ⟨t, ht, by simp⟩
theorem Wh.to_ok {s : Wh.S} {now : Int} (h1 : s.now ≤ now) (h2 : now ≤ 1099511627776) : Wh.toE s now = 0 ∧ (Wh.toS s now).now = now := by
  unfold Wh.toE Wh.toS
  rw [if_neg (by omega), if_neg (by omega)]
  exact ⟨rfl, rfl⟩
theorem Wh.to_sub {s : Wh.S} {now : Int} {y : Wh.T} (h : y ∈ (Wh.toS s now).l) : y ∈ s.l := by
  unfold Wh.toS at h
  split at h
  · exact h
  · exact (List.dropWhile_sublist _).mem h
theorem Wh.to_nil {s : Wh.S} (hI : Wh.Inv s) : (Wh.toS s 1099511627776).l = [] := by
  have h1 := hI.now1
  unfold Wh.toS
  rw [if_neg (by omega)]
  show s.l.dropWhile _ = []
  rw [(Wh.due_take hI.sorted).2, List.filter_eq_nil_iff]
  intro a ha
  have := (hI.late a ha).2
  unfold Wh.due
  simp [this]
theorem Wh.less_at {a b : Wh.T} (h : Wh.less a b = true) : a.at_ ≤ b.at_ := by
  rw [Wh.less_iff] at h
  omega
/-- Of two that come one behind the other the first is not later. -/
theorem Wh.to_up {s : Wh.S} (hI : Wh.Inv s) {now : Int} {j : Nat} {a b : Wh.T} (ha : (Wh.toL s now)[j]? = some a) (hb : (Wh.toL s now)[j + 1]? = some b) : ¬ b.at_ < a.at_ := by
  have hp := Wh.to_sorted hI (now := now)
  obtain ⟨h1, e1⟩ := List.getElem?_eq_some_iff.1 ha
  obtain ⟨h2, e2⟩ := List.getElem?_eq_some_iff.1 hb
  have := List.pairwise_iff_getElem.1 hp j (j + 1) h1 h2 (by omega)
  rw [e1, e2] at this
  have := Wh.less_at this
  omega
end Go.Proofs.Ytaieoneilljagaa
