/-
  What a call leaves of the blocks that are none of an object's own.
-/
import Derived.Test.YteppokokabgniaaBaseKit
namespace Go.Proofs.Yteppokokabgniaa
open Go.RowKit

/-! ### What is kept -/
/-- Nothing but the blocks of 'own' and new ones has changed. -/
structure Only (own : Nat → Prop) (w w' : World) : Prop where
  os : w'.os = w.os
  tape : w'.tape = w.tape
  output : w'.output = w.output
  size : w.heap.size ≤ w'.heap.size
  block : ∀ k, k < w.heap.size → ¬ own k → w'.heap[k]? = w.heap[k]?
theorem Only.refl (own : Nat → Prop) (w : World) : Only own w w := ⟨rfl, rfl, rfl, Nat.le_refl _, fun _ _ _ => rfl⟩
theorem Only.mono {own own2 : Nat → Prop} {w w' : World} (h : Only own w w') (hs : ∀ k, k < w.heap.size → own k → own2 k) : Only own2 w w' := ⟨h.os, h.tape, h.output, h.size, fun k hk hn => h.block k hk fun ho => hn (hs k hk ho)⟩
theorem Only.of {own : Nat → Prop} {w w' : World} (h : Below w.heap.size w w') : Only own w w' := ⟨h.os, h.tape, h.output, h.size, fun k hk _ => h.block k hk⟩
theorem Only.trans {own own2 : Nat → Prop} {a b c : World} (h : Only own a b) (k : Only own2 b c) (hs : ∀ i, own2 i → own i ∨ a.heap.size ≤ i) : Only own a c :=
  ⟨k.os.trans h.os, k.tape.trans h.tape, k.output.trans h.output, Nat.le_trans h.size k.size, fun i hi hn =>
    (k.block i (Nat.lt_of_lt_of_le hi h.size) fun ho => by rcases hs i ho with h1 | h1; exact hn h1; omega).trans (h.block i hi hn)⟩
theorem Only.below {own : Nat → Prop} {w w' : World} {base : Nat} (h : Only own w w') (hb : base ≤ w.heap.size) (ho : ∀ k, own k → base ≤ k) : Below base w w' :=
  ⟨h.os, h.tape, h.output, h.size, fun k hk => h.block k (by omega) fun hn => by have := ho k hn; omega⟩
theorem Only.set (own : Nat → Prop) {g : Nat} (o : Nat) (w : World) (v : Value) (hg : own g) : Only own w (w.setCell ⟨g, o, none⟩ v) :=
  ⟨rfl, rfl, rfl, by simp [World.setCell], fun k _ hn => Below.heap_setCell _ _ _ _ (by rintro rfl; exact hn hg)⟩
theorem Only.drewN {own : Nat → Prop} {a w : World} (h : Only own a w) (n : Nat) : Only own a (w.drewN n) := ⟨h.os, h.tape, h.output, h.size, h.block⟩
theorem Only.drew {own : Nat → Prop} {a w : World} (h : Only own a w) : Only own a w.drew := ⟨h.os, h.tape, h.output, h.size, h.block⟩
theorem Only.from {own : Nat → Prop} {a w : World} (h : Only own a w) (n : Nat) : Only own (a.drewN n) w := ⟨h.os, h.tape, h.output, h.size, h.block⟩
theorem Only.alloc {own : Nat → Prop} {a w : World} (h : Only own a w) (o : Obj) : Only own a (w.alloc o) :=
  ⟨h.os, h.tape, h.output, by simp; have := h.size; omega, fun k hk hn => by rw [Below.heap_alloc _ _ _ (Nat.lt_of_lt_of_le hk h.size)]; exact h.block k hk hn⟩
theorem Only.grown {own : Nat → Prop} {w w' : World} {row : Option Nat} (h : w.grownBy w' row) (hr : ∀ k, row = some k → own k) : Only own w w' :=
  ⟨h.os, h.tape, h.output, h.size, fun k hk hn => h.block k hk fun e => hn (hr k e.symm)⟩
/-- What a call of the object whose blocks are 'own' leaves: 'own2' are its blocks then. -/
structure Step (own own2 : Nat → Prop) (w w' : World) : Prop where
  only : Only own w w'
  sub : ∀ k, own2 k → own k ∨ w.heap.size ≤ k
theorem Step.refl (own : Nat → Prop) (w : World) : Step own own w w := ⟨Only.refl _ _, fun _ h => .inl h⟩
theorem Step.trans {o1 o2 o3 : Nat → Prop} {a b c : World} (h : Step o1 o2 a b) (k : Step o2 o3 b c) : Step o1 o3 a c :=
  ⟨h.only.trans k.only h.sub, fun i hi => by
    rcases k.sub i hi with h1 | h1
    · exact h.sub i h1
    · exact .inr (Nat.le_trans h.only.size h1)⟩
theorem Step.ahead {o1 o2 : Nat → Prop} {a b c : World} (h : Below a.heap.size a b) (k : Step o1 o2 b c) : Step o1 o2 a c :=
  ⟨(Only.of h).trans k.only fun i hi => .inl hi, fun i hi => by
    rcases k.sub i hi with h1 | h1
    · exact .inl h1
    · exact .inr (Nat.le_trans h.size h1)⟩
theorem Step.drewN {o1 o2 : Nat → Prop} {a w : World} (h : Step o1 o2 a w) (n : Nat) : Step o1 o2 a (w.drewN n) := ⟨h.only.drewN n, h.sub⟩
theorem Step.alloc {o1 o2 : Nat → Prop} {a w : World} (h : Step o1 o2 a w) (o : Obj) : Step o1 o2 a (w.alloc o) := ⟨h.only.alloc o, h.sub⟩
theorem Step.behind {o1 o2 : Nat → Prop} {a b c : World} (h : Step o1 o2 a b) (k : Below b.heap.size b c) : Step o1 o2 a c := h.trans ⟨Only.of k, fun _ hi => .inl hi⟩

end Go.Proofs.Yteppokokabgniaa
