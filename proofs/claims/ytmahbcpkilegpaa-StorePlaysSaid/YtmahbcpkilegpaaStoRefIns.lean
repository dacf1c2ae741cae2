/-
  The plain side of an insertion: where a new name's file goes, and what the row is then.
-/
import Derived.Test.YtmahbcpkilegpaaStoRefCut
import Derived.Test.YtmahbcpkilegpaaStoRefDrop
import Derived.Deep.CutBlock
import Derived.Deep.CutRange
namespace Go.Proofs.Ytmahbcpkilegpaa
open Go.RowKit St Go.WideShapes

theorem ins_at {l : List F} (hs : Sorted l) {f : F} (hn : find f.nm l = none) {k : Nat} (hk : k ≤ l.length) (h1 : ∀ j (hj : j < l.length), j < k → bytesBefore (l[j]'hj).nm f.nm = true) (h2 : ∀ hj : k < l.length, ¬ bytesBefore (l[k]'hj).nm f.nm = true) : ins f l = l.take k ++ f :: l.drop k := by
  have e : l = l.take k ++ l.drop k := (List.take_append_drop k l).symm
  refine Eq.trans (congrArg (ins f) e) (ins_mid (fun g hg => ?_) fun g hg => ?_)
  · obtain ⟨j, hj, rfl⟩ := List.getElem_of_mem hg
    rw [List.length_take] at hj
    rw [List.getElem_take]
    exact h1 j (by omega) (by omega)
  · obtain ⟨j, hj, rfl⟩ := List.getElem_of_mem hg
    rw [List.length_drop] at hj
    rw [List.getElem_drop]
    have hkl : k < l.length := by omega
    have hne : (l[k]'hkl).nm ≠ f.nm := St.find_none hn _ (List.getElem_mem hkl)
    have hb : bytesBefore f.nm (l[k]'hkl).nm = true := by
      rcases WideAt.bytes_total f.nm (l[k]'hkl).nm hne.symm with h | h
      · exact h
      · exact absurd h (h2 hkl)
    rcases Nat.eq_zero_or_pos j with h0 | h0
    · subst h0; exact hb
    · exact bytes_trans _ _ _ hb (List.pairwise_iff_getElem.1 hs k (k + j) hkl (by omega) (by omega))
theorem del_ins {l : List F} {f : F} (hn : find f.nm l = none) : del f.nm (ins f l) = l := by
  induction l with
  | nil => simp [ins, del]
  | cons a r ih =>
    have ha := St.find_none hn a (by simp)
    have hr : find f.nm r = none := by
      cases e : find f.nm r with
      | none => rfl
      | some g => exact absurd (find_some e).2 (St.find_none hn g (by simp [(find_some e).1]))
    unfold ins
    split
    · show del f.nm (f :: a :: r) = a :: r
      unfold del
      rw [List.filter_cons_of_neg (by simp)]
      exact del_none hn
    · show del f.nm (a :: ins f r) = a :: r
      unfold del
      rw [List.filter_cons_of_pos (by simpa using ha)]
      exact congrArg _ (ih hr)
def newF (nm : List UInt8) : F := ⟨nm, [], 0⟩
theorem inv_new {s : S} (h : Inv s) {nm : List UInt8} (hg : good nm = true) (hn : find nm s.fs = none) (hc : s.fs.length < 64) : Inv { s with fs := ins (newF nm) s.fs } := by
  have hd := del_none hn
  obtain ⟨h1, h2, h3, h4, h5⟩ := put_facts h (f := newF nm) hg (Nat.zero_le _) (by show 0 + total (del nm s.fs) ≤ s.room; rw [hd]; have := h.tot; omega) (by show (del nm s.fs).length + 1 ≤ 64; rw [hd]; omega)
  have e : put (newF nm) s.fs = ins (newF nm) s.fs := by unfold put; exact congrArg _ hd
  rw [e] at h1 h2 h3 h4 h5
  exact ⟨h1, h2, h3, h4, h.room, h5, h.fuse, h.keepl⟩
theorem find_new {l : List F} (hs : Sorted l) {nm : List UInt8} (hn : find nm l = none) : find nm (ins (newF nm) l) = some (newF nm) :=
  (find_iff (sorted_ins hs fun g hg => St.find_none hn g hg)).2 ⟨mem_ins.2 (.inl rfl), rfl⟩
theorem app_new {s : S} {nm : List UInt8} (h : Sorted s.fs) (hn : find nm s.fs = none) (zs : List Int) : appL s nm zs = appL { s with fs := ins (newF nm) s.fs } nm zs := by
  unfold appL
  have e1 : file s nm = newF nm := file_none hn
  have e2 : file { s with fs := ins (newF nm) s.fs } nm = newF nm := by unfold file; rw [show find nm (ins (newF nm) s.fs) = _ from find_new h hn]; rfl
  rw [e1, e2]
  unfold put
  show ins _ (del nm s.fs) = ins _ (del nm (ins (newF nm) s.fs))
  rw [del_none hn, show del nm (ins (newF nm) s.fs) = s.fs from del_ins (f := newF nm) hn]
/-! ### --- -/
open Go.RowKit St

theorem bytes_only {own : Nat → Prop} {w w' : World} {B : Nat} {A : Option Addr} {zs : List Int} (h : Bytes w B A zs) (hB : B ≤ w.heap.size) (ho : Only own w w') (hA : 0 < zs.length → ∀ a, A = some a → ¬ own a.block) : Bytes w' w'.heap.size A zs := by
  refine ⟨h.1, fun hp => ?_⟩
  obtain ⟨b, off, e, hlt, hc⟩ := h.2 hp
  refine ⟨b, off, e, by have := ho.size; omega, fun i hi => ?_⟩
  rw [← hc i hi]
  exact World.cell?_of_block (ho.block b (by omega) (hA hp _ e))
theorem mkB_bs (sn : ByteArray) : mkB (bs sn) = sn := by cases sn; simp [mkB, bs]
theorem less_before : ∀ a b : List UInt8, Op.bytesLess a b = bytesBefore a b
  | [], [] => rfl
  | [], _ :: _ => rfl
  | _ :: _, [] => rfl
  | a :: r, b :: s => by
    unfold Op.bytesLess bytesBefore
    rw [less_before r s]
theorem less_as (nm : List UInt8) (sn : ByteArray) : Op.bytesLess (mkB nm).toList sn.toList = bytesBefore nm (bs sn) := by
  rw [less_before, ByteArray.toList_eq, ByteArray.toList_eq]
  rfl
/-! ### The literal of one file, and the empty one -/
def lit0 : Obj := .cells #[] 76
def lit1 (x y z : Value) : Obj := .cells #[x, y, z] 76
theorem lit_src {w : World} {b : Nat} {x y z : Value} (h : w.heap[b]? = some (lit1 x y z)) : SrcF w w.heap.size (some ⟨b, 0, none⟩) [x, y, z] := by
  have hb : b < w.heap.size := (Array.getElem?_eq_some_iff.1 h).1
  refine .inr ⟨b, 0, rfl, hb, fun j u hu => ?_⟩
  rw [Nat.zero_add]
  match j, hu with
  | 0, hu => simp at hu; subst hu; simp [World.cell?, h, lit1]
  | 1, hu => simp at hu; subst hu; simp [World.cell?, h, lit1]
  | 2, hu => simp at hu; subst hu; simp [World.cell?, h, lit1]
  | j + 3, hu => simp at hu
theorem lit_grown {w w' : World} {b g n c : Nat} {x y z : Value} (h : w.heap[b]? = some (lit1 x y z)) (hg : w.grownBy w' (Value.slice (some ⟨g, 0, none⟩) n c).ownBlock) (hne : b ≠ g) : w'.heap[b]? = some (lit1 x y z) := by
  have hb : b < w.heap.size := (Array.getElem?_eq_some_iff.1 h).1
  rw [hg.block b hb (by simp [Value.ownBlock]; exact hne)]
  exact h
theorem lit_new (w : World) (x y z : Value) : (w.alloc (lit1 x y z)).heap[w.heap.size]? = some (lit1 x y z) := heap_alloc_new w _
theorem start_ab (w : World) (L : Obj) : ((w.alloc lit0).alloc L).drew.ownsRow w.heap.size 76 3 (.slice (some ⟨w.heap.size, 0, none⟩) 0 0) 0 [] :=
  ownsRow_keep (startF w) fun a ha => by
    injection ha with ha
    subst ha
    exact Below.heap_alloc _ _ _ (by simp)
theorem start_ba (w : World) (L : Obj) : ((w.alloc L).alloc lit0).drew.ownsRow w.heap.size 76 3 (.slice (some ⟨w.heap.size + 1, 0, none⟩) 0 0) 0 [] := by
  have h := startF (w.alloc L)
  rw [show (w.alloc L).heap.size = w.heap.size + 1 by simp] at h
  exact ownsRow_keep (Joins.ownsRow_le h (Nat.le_succ _)) fun _ _ => rfl
theorem own_alloc {w : World} {base n c : Nat} {A : Option Addr} {xs : List Value} (h : w.ownsRow base 76 3 (.slice A n c) n xs) (L : Obj) : (w.alloc L).ownsRow base 76 3 (.slice A n c) n xs :=
  ownsRow_keep h fun a ha => by
    subst ha
    exact Below.heap_alloc _ _ _ (World.ownsRow.lt h a.block (by simp [Value.ownBlock])).2
theorem lit_one (x y z : Value) (hx : x.oneCell' = true) (hy : y.oneCell' = true) (hz : z.oneCell' = true) : ∀ u ∈ [x, y, z], u.oneCell' = true := fun u hu => by
  simp at hu
  rcases hu with rfl | rfl | rfl
  · exact hx
  · exact hy
  · exact hz
end Go.Proofs.Ytmahbcpkilegpaa
