/-
  Part 8 of the texts behind the law: StoPlain.
-/
import Derived.WideShapes
import Derived.WideAt
/-
  The plain side of package store: files as a list sorted by their names, and what each call makes of it.
-/
namespace Go.Proofs.YtdbhicifjljjnaaGreatDoor.St
open Go Go.WideShapes

/-- A file: its name, its bytes as numbers, how many of them are durable. -/
structure F where
  nm : List UInt8
  zs : List Int
  sure : Nat
def Sorted (l : List F) : Prop := l.Pairwise fun f g => bytesBefore f.nm g.nm = true
def ins (f : F) : List F → List F
  | [] => [f]
  | g :: r => if bytesBefore f.nm g.nm then f :: g :: r else g :: ins f r
def del (nm : List UInt8) (l : List F) : List F := l.filter fun g => !(g.nm == nm)
def put (f : F) (l : List F) : List F := ins f (del f.nm l)
def find (nm : List UInt8) (l : List F) : Option F := l.find? fun g => g.nm == nm
def total : List F → Nat
  | [] => 0
  | f :: r => f.zs.length + total r

theorem before_irrefl (a : List UInt8) : ¬ bytesBefore a a = true := by rw [WideAt.bytes_irrefl]; simp
theorem before_ne {a b : List UInt8} (h : bytesBefore a b = true) : a ≠ b := by rintro rfl; exact before_irrefl _ h
theorem Sorted.tail {f : F} {l : List F} (h : Sorted (f :: l)) : Sorted l := (List.pairwise_cons.1 h).2
theorem Sorted.head {f : F} {l : List F} (h : Sorted (f :: l)) : ∀ g ∈ l, bytesBefore f.nm g.nm = true := (List.pairwise_cons.1 h).1
theorem Sorted.uniq : ∀ {l : List F}, Sorted l → ∀ {f g : F}, f ∈ l → g ∈ l → f.nm = g.nm → f = g
  | [], _, _, _, hf, _, _ => by simp at hf
  | a :: r, h, f, g, hf, hg, e => by
    rcases List.mem_cons.1 hf with rfl | hf'
    · rcases List.mem_cons.1 hg with rfl | hg'
      · rfl
      · exact absurd e (before_ne (h.head _ hg'))
    · rcases List.mem_cons.1 hg with rfl | hg'
      · exact absurd e.symm (before_ne (h.head _ hf'))
      · exact h.tail.uniq hf' hg' e

theorem mem_ins {f g : F} : ∀ {l : List F}, g ∈ ins f l ↔ g = f ∨ g ∈ l
  | [] => by simp [ins]
  | a :: r => by
    unfold ins
    split
    · simp
    · simp [mem_ins (l := r)]
      constructor
      · rintro (h | h | h) <;> simp [h]
      · rintro (h | h | h) <;> simp [h]
theorem mem_del {nm : List UInt8} {g : F} {l : List F} : g ∈ del nm l ↔ g ∈ l ∧ g.nm ≠ nm := by simp [del]
theorem mem_put {f g : F} {l : List F} : g ∈ put f l ↔ g = f ∨ (g ∈ l ∧ g.nm ≠ f.nm) := by simp [put, mem_ins, mem_del]
theorem sorted_del {nm : List UInt8} {l : List F} (h : Sorted l) : Sorted (del nm l) := List.Pairwise.filter _ h
theorem sorted_ins {f : F} : ∀ {l : List F}, Sorted l → (∀ g ∈ l, g.nm ≠ f.nm) → Sorted (ins f l)
  | [], _, _ => by simp [ins, Sorted]
  | a :: r, h, hn => by
    unfold ins
    split
    · next hb =>
      refine List.pairwise_cons.2 ⟨fun g hg => ?_, h⟩
      rcases List.mem_cons.1 hg with rfl | hg
      · exact hb
      · exact bytes_trans _ _ _ hb (h.head _ hg)
    · next hb =>
      refine List.pairwise_cons.2 ⟨fun g hg => ?_, sorted_ins h.tail fun g hg => hn g (by simp [hg])⟩
      rcases mem_ins.1 hg with rfl | hg
      · rcases WideAt.bytes_total g.nm a.nm (hn a (by simp)).symm with h1 | h1
        · exact absurd h1 hb
        · exact h1
      · exact h.head _ hg
theorem sorted_put {f : F} {l : List F} (h : Sorted l) : Sorted (put f l) := sorted_ins (sorted_del h) fun _ hg => (mem_del.1 hg).2

theorem find_some {nm : List UInt8} {l : List F} {f : F} (h : find nm l = some f) : f ∈ l ∧ f.nm = nm := by
  refine ⟨List.mem_of_find?_eq_some h, ?_⟩
  have := List.find?_some h
  simpa using this
theorem find_none {nm : List UInt8} {l : List F} (h : find nm l = none) : ∀ g ∈ l, g.nm ≠ nm := fun g hg e => by
  have := List.find?_eq_none.1 h g hg
  simp [e] at this
theorem find_mem {l : List F} (hs : Sorted l) {f : F} (h : f ∈ l) : find f.nm l = some f := by
  cases e : find f.nm l with
  | none => exact absurd rfl (find_none e f h)
  | some g =>
    have hg := find_some e
    rw [hs.uniq hg.1 h hg.2]
theorem find_iff {l : List F} (hs : Sorted l) {nm : List UInt8} {f : F} : find nm l = some f ↔ f ∈ l ∧ f.nm = nm := by
  constructor
  · exact find_some
  · rintro ⟨h, rfl⟩; exact find_mem hs h
theorem find_put_same {f : F} {l : List F} (hs : Sorted l) : find f.nm (put f l) = some f := find_mem (sorted_put hs) (mem_put.2 (.inl rfl))
theorem find_put_other {f : F} {l : List F} (hs : Sorted l) {nm : List UInt8} (hn : nm ≠ f.nm) : find nm (put f l) = find nm l := by
  cases e : find nm l with
  | none =>
    cases e2 : find nm (put f l) with
    | none => rfl
    | some g =>
      obtain ⟨h1, h2⟩ := find_some e2
      rcases mem_put.1 h1 with rfl | ⟨h3, _⟩
      · exact absurd h2.symm hn
      · exact absurd h2 (find_none e g h3)
  | some g =>
    obtain ⟨h1, h2⟩ := find_some e
    exact (find_iff (sorted_put hs)).2 ⟨mem_put.2 (.inr ⟨h1, by rw [h2]; exact hn⟩), h2⟩
theorem find_del_same {nm : List UInt8} {l : List F} : find nm (del nm l) = none := by
  cases e : find nm (del nm l) with
  | none => rfl
  | some g =>
    obtain ⟨h1, h2⟩ := find_some e
    exact absurd h2 (mem_del.1 h1).2
theorem find_del_other {a nm : List UInt8} {l : List F} (hs : Sorted l) (hn : nm ≠ a) : find nm (del a l) = find nm l := by
  cases e : find nm l with
  | none =>
    cases e2 : find nm (del a l) with
    | none => rfl
    | some g =>
      obtain ⟨h1, h2⟩ := find_some e2
      exact absurd h2 (find_none e g (mem_del.1 h1).1)
  | some g =>
    obtain ⟨h1, h2⟩ := find_some e
    exact (find_iff (sorted_del hs)).2 ⟨mem_del.2 ⟨h1, by rw [h2]; exact hn⟩, h2⟩

theorem total_ins (f : F) : ∀ l : List F, total (ins f l) = f.zs.length + total l
  | [] => rfl
  | a :: r => by
    unfold ins
    split
    · rfl
    · rw [total, total_ins f r, total]; omega
theorem length_ins (f : F) : ∀ l : List F, (ins f l).length = l.length + 1
  | [] => rfl
  | a :: r => by
    unfold ins
    split
    · rfl
    · rw [List.length_cons, length_ins f r, List.length_cons]
theorem del_none {nm : List UInt8} {l : List F} (h : find nm l = none) : del nm l = l :=
  List.filter_eq_self.2 fun g hg => by have := find_none h g hg; simpa using this
theorem del_some : ∀ {l : List F}, Sorted l → ∀ {nm : List UInt8} {f : F}, find nm l = some f → total (del nm l) + f.zs.length = total l ∧ (del nm l).length + 1 = l.length
  | [], _, _, _, h => by simp [find] at h
  | a :: r, hs, nm, f, h => by
    by_cases ha : a.nm = nm
    · have e : f = a := hs.uniq (find_some h).1 (by simp) (by rw [ha]; exact (find_some h).2)
      subst e
      have hn : find nm r = none := by
        cases e2 : find nm r with
        | none => rfl
        | some g => exact absurd (ha.trans (find_some e2).2.symm) (before_ne (hs.head g (find_some e2).1))
      have e3 : del nm (f :: r) = r := by
        show (f :: r).filter _ = r
        rw [List.filter_cons_of_neg (by simp [ha])]
        exact del_none hn
      rw [e3, total]
      exact ⟨by omega, rfl⟩
    · have h' : find nm r = some f := by
        unfold find at h
        rw [List.find?_cons_of_neg (by simpa using ha)] at h
        exact h
      have e3 : del nm (a :: r) = a :: del nm r := List.filter_cons_of_pos (by simpa using ha)
      obtain ⟨h1, h2⟩ := del_some hs.tail h'
      rw [e3, total, total, List.length_cons, List.length_cons]
      exact ⟨by omega, by omega⟩
theorem total_mem : ∀ {l : List F} {f : F}, f ∈ l → f.zs.length ≤ total l
  | [], _, h => by simp at h
  | a :: r, f, h => by
    rw [total]
    rcases List.mem_cons.1 h with rfl | h
    · omega
    · have := total_mem h; omega
theorem ins_mid {f : F} : ∀ {pre r : List F}, (∀ g ∈ pre, bytesBefore g.nm f.nm = true) → (∀ g ∈ r, bytesBefore f.nm g.nm = true) → ins f (pre ++ r) = pre ++ f :: r
  | [], [], _, _ => rfl
  | [], a :: r, _, h => by
    show ins f (a :: r) = f :: a :: r
    unfold ins; rw [if_pos (h a (by simp))]
  | a :: p, r, h, h2 => by
    show ins f (a :: (p ++ r)) = a :: (p ++ f :: r)
    unfold ins
    have : ¬ bytesBefore f.nm a.nm = true := fun hb => before_irrefl _ (bytes_trans _ _ _ hb (h a (by simp)))
    rw [if_neg this, ins_mid (fun g hg => h g (by simp [hg])) h2]
theorem sorted_app {pre r : List F} (h : Sorted (pre ++ r)) : Sorted pre ∧ Sorted r ∧ ∀ f ∈ pre, ∀ g ∈ r, bytesBefore f.nm g.nm = true := List.pairwise_append.1 h
theorem del_mid {pre r : List F} {f : F} (h : Sorted (pre ++ f :: r)) : del f.nm (pre ++ f :: r) = pre ++ r := by
  obtain ⟨_, h2, h3⟩ := sorted_app h
  unfold del
  rw [List.filter_append, List.filter_cons_of_neg (by simp)]
  rw [List.filter_eq_self.2 fun g hg => by have := before_ne (h3 g hg f (by simp)); simpa using this]
  rw [List.filter_eq_self.2 fun g hg => by have := (before_ne (h2.head g hg)).symm; simpa using this]
theorem put_mid {pre r : List F} {f f' : F} (h : Sorted (pre ++ f :: r)) (hn : f'.nm = f.nm) : put f' (pre ++ f :: r) = pre ++ f' :: r := by
  obtain ⟨_, h2, h3⟩ := sorted_app h
  unfold put
  rw [hn, del_mid h]
  exact ins_mid (fun g hg => by rw [hn]; exact h3 g hg f (by simp)) (fun g hg => by rw [hn]; exact h2.head g hg)

/-! ### A crash -/
def crashF (f : F) (k : Int) : F := { f with zs := f.zs.take (f.sure + min k.toNat (f.zs.length - f.sure)), sure := f.sure + min k.toNat (f.zs.length - f.sure) }
def crashL : List F → List Int → List F
  | [], _ => []
  | f :: r, ks => if f.sure = f.zs.length then f :: crashL r ks else crashF f (ks.headD 0) :: crashL r ks.tail
theorem crashF_len {f : F} (h : f.sure ≤ f.zs.length) (k : Int) : (crashF f k).zs.length = f.sure + min k.toNat (f.zs.length - f.sure) := by
  show (f.zs.take _).length = _
  rw [List.length_take]; omega
theorem crashL_names : ∀ (l : List F) (ks : List Int), (crashL l ks).map F.nm = l.map F.nm
  | [], _ => rfl
  | f :: r, ks => by
    unfold crashL
    split
    · simp [crashL_names r]
    · simp [crashL_names r, crashF]
theorem sorted_names {l m : List F} (h : Sorted l) (e : m.map F.nm = l.map F.nm) : Sorted m := by
  have h1 : (l.map F.nm).Pairwise fun a b => bytesBefore a b = true := List.pairwise_map.2 h
  rw [← e] at h1
  exact List.pairwise_map.1 h1
theorem crashL_total : ∀ {l : List F}, (∀ f ∈ l, f.sure ≤ f.zs.length) → ∀ ks : List Int, total (crashL l ks) ≤ total l
  | [], _, _ => Nat.le_refl _
  | f :: r, h, ks => by
    have h1 := h f (by simp)
    unfold crashL
    split
    · have := crashL_total (l := r) (fun g hg => h g (by simp [hg])) ks
      rw [total, total]; omega
    · have := crashL_total (l := r) (fun g hg => h g (by simp [hg])) ks.tail
      rw [total, total, crashF_len h1]; omega
theorem crashL_sure : ∀ {l : List F}, (∀ f ∈ l, f.sure ≤ f.zs.length) → ∀ ks : List Int, ∀ g ∈ crashL l ks, g.sure = g.zs.length
  | [], _, _, _, hg => by simp [crashL] at hg
  | f :: r, h, ks, g, hg => by
    have h1 := h f (by simp)
    unfold crashL at hg
    split at hg
    · next e =>
      rcases List.mem_cons.1 hg with rfl | hg
      · exact e
      · exact crashL_sure (fun g hg => h g (by simp [hg])) ks g hg
    · rcases List.mem_cons.1 hg with rfl | hg
      · rw [crashF_len h1]; rfl
      · exact crashL_sure (fun g hg => h g (by simp [hg])) ks.tail g hg
theorem crashL_take : ∀ (l : List F) (ks : List Int) (n : Nat), l.length ≤ n → crashL l (ks.take n) = crashL l ks
  | [], _, _, _ => rfl
  | f :: r, ks, n, h => by
    rw [List.length_cons] at h
    obtain ⟨m, rfl⟩ : ∃ m, n = m + 1 := ⟨n - 1, by omega⟩
    unfold crashL
    split
    · rw [crashL_take r ks (m + 1) (by omega)]
    · cases ks with
      | nil => rfl
      | cons k t =>
        show crashF f k :: crashL r (t.take m) = crashF f k :: crashL r t
        rw [crashL_take r t m (by omega)]
theorem crashL_eq : ∀ {l : List F} (_ : ∀ f ∈ l, f.sure = f.zs.length) (ks : List Int), crashL l ks = l
  | [], _, _ => rfl
  | f :: r, h, ks => by
    unfold crashL
    rw [if_pos (h f (by simp)), crashL_eq (fun g hg => h g (by simp [hg])) ks]

/-! ### The store -/
structure S where
  room : Nat
  fs : List F
  off : Bool
  fuse : Nat
  keep : List Int
def okB (c : Int) : Bool := (decide (97 ≤ c) && decide (c ≤ 122)) || (decide (48 ≤ c) && decide (c ≤ 57)) || decide (c = 45)
def good (nm : List UInt8) : Bool := decide (0 < nm.length) && (decide (nm.length ≤ 16) && nm.all fun c => okB (c.toNat : Int))
theorem good_len {nm : List UInt8} (h : good nm = true) : 0 < nm.length ∧ nm.length ≤ 16 := by
  unfold good at h; simp only [Bool.and_eq_true, decide_eq_true_eq] at h; exact ⟨h.1, h.2.1⟩
structure Inv (s : S) : Prop where
  sorted : Sorted s.fs
  names : ∀ f ∈ s.fs, good f.nm = true
  sure : ∀ f ∈ s.fs, f.sure ≤ f.zs.length
  tot : total s.fs ≤ s.room
  room : s.room ≤ 16777216
  count : s.fs.length ≤ 64
  fuse : s.fuse ≤ 9223372036854775807
  keepl : s.keep.length ≤ 64
def crash (s : S) (ks : List Int) : S := if s.off then s else { s with fs := crashL s.fs ks, off := true, fuse := 0, keep := [] }
theorem names_of {l m : List F} (e : m.map F.nm = l.map F.nm) (h : ∀ f ∈ l, good f.nm = true) : ∀ f ∈ m, good f.nm = true := fun f hf => by
  have : f.nm ∈ m.map F.nm := List.mem_map.2 ⟨f, hf, rfl⟩
  rw [e] at this
  obtain ⟨g, hg, e2⟩ := List.mem_map.1 this
  rw [← e2]; exact h g hg
theorem Inv.crash {s : S} (h : Inv s) (ks : List Int) : Inv (crash s ks) := by
  unfold St.crash
  split
  · exact h
  · refine ⟨sorted_names h.sorted (crashL_names _ _), names_of (crashL_names _ _) h.names, fun f hf => Nat.le_of_eq (crashL_sure h.sure ks f hf), Nat.le_trans (crashL_total h.sure ks) h.tot, h.room, ?_, Nat.zero_le _, by show ([] : List Int).length ≤ 64; simp⟩
    have := congrArg List.length (crashL_names s.fs ks)
    simp at this
    show (crashL s.fs ks).length ≤ 64
    rw [this]; exact h.count
/-- What the call comes to whose errors, in their order, are told by e: with no error, and no fuse that ends, the files are those of the list. -/
def actE (s : S) (e : Int) : Int := if e ≠ 0 then e else if s.fuse = 1 then 11 else 0
def actS (s : S) (e : Int) (l : List F) : S := if e ≠ 0 then s else if s.fuse = 1 then crash { s with fuse := 0 } s.keep else { s with fs := l, fuse := s.fuse - 1 }
def chk (s : S) (ns : List (List UInt8)) : Int := if s.off then 11 else if ns.all good then 0 else 1
def fnd (s : S) (nm : List UInt8) (ns : List (List UInt8)) : Int := if chk s ns ≠ 0 then chk s ns else if (find nm s.fs).isSome then 0 else 4
def file (s : S) (nm : List UInt8) : F := (find nm s.fs).getD ⟨nm, [], 0⟩
def appE (s : S) (nm : List UInt8) (n : Nat) : Int := if chk s [nm] ≠ 0 then chk s [nm] else if s.room - total s.fs < n ∨ ((find nm s.fs).isSome = false ∧ 64 ≤ s.fs.length) then 6 else 0
def appL (s : S) (nm : List UInt8) (zs : List Int) : List F := put ⟨nm, (file s nm).zs ++ zs, (file s nm).sure⟩ s.fs
def cutE (s : S) (nm : List UInt8) (n : Int) : Int := if fnd s nm [nm] ≠ 0 then fnd s nm [nm] else if n < 0 ∨ ((file s nm).zs.length : Int) < n then 1 else 0
def cutL (s : S) (nm : List UInt8) (n : Nat) : List F := put ⟨nm, (file s nm).zs.take n, min (file s nm).sure n⟩ s.fs
def swapL (s : S) (a b : List UInt8) : List F := put ⟨b, (file s a).zs, (file s a).zs.length⟩ (del a s.fs)
def fuseS (s : S) (n : Int) (ks : List Int) : S := if s.off then s else if n < 1 then { s with fuse := 0, keep := [] } else { s with fuse := n.toNat, keep := ks.take 64 }
theorem file_mem {s : S} {nm : List UInt8} {f : F} (h : find nm s.fs = some f) : file s nm = f ∧ f ∈ s.fs ∧ f.nm = nm := by
  have := find_some h
  exact ⟨by unfold file; rw [h]; rfl, this.1, this.2⟩
theorem file_none {s : S} {nm : List UInt8} (h : find nm s.fs = none) : file s nm = ⟨nm, [], 0⟩ := by unfold file; rw [h]; rfl
theorem Inv.act {s : S} (h : Inv s) (e : Int) (l : List F) (hl : e = 0 → Sorted l ∧ (∀ f ∈ l, good f.nm = true) ∧ (∀ f ∈ l, f.sure ≤ f.zs.length) ∧ total l ≤ s.room ∧ l.length ≤ 64) : Inv (actS s e l) := by
  unfold actS
  split
  · exact h
  · next he =>
    have he : e = 0 := by simpa using he
    split
    · refine Inv.crash (s := { s with fuse := 0 }) ⟨h.sorted, h.names, h.sure, h.tot, h.room, h.count, Nat.zero_le _, h.keepl⟩ _
    · obtain ⟨h1, h2, h3, h4, h5⟩ := hl he
      exact ⟨h1, h2, h3, h4, h.room, h5, by have := h.fuse; show s.fuse - 1 ≤ _; omega, h.keepl⟩
theorem chk_zero {s : S} {ns : List (List UInt8)} (h : chk s ns = 0) : s.off = false ∧ ns.all good = true := by
  unfold chk at h
  cases ho : s.off
  · cases hg : ns.all good
    · simp [ho, hg] at h
    · exact ⟨rfl, rfl⟩
  · simp [ho] at h
theorem fnd_zero {s : S} {nm : List UInt8} {ns : List (List UInt8)} (h : fnd s nm ns = 0) : s.off = false ∧ ns.all good = true ∧ ∃ f, find nm s.fs = some f := by
  unfold fnd at h
  split at h
  · next hc => exact absurd h hc
  · next hc =>
    have := chk_zero (by simpa using hc)
    split at h
    · next hs => exact ⟨this.1, this.2, Option.isSome_iff_exists.1 hs⟩
    · simp at h
theorem put_facts {s : S} (h : Inv s) {f : F} (hg : good f.nm = true) (hsu : f.sure ≤ f.zs.length) (ht : f.zs.length + total (del f.nm s.fs) ≤ s.room) (hc : (del f.nm s.fs).length + 1 ≤ 64) :
    Sorted (put f s.fs) ∧ (∀ g ∈ put f s.fs, good g.nm = true) ∧ (∀ g ∈ put f s.fs, g.sure ≤ g.zs.length) ∧ total (put f s.fs) ≤ s.room ∧ (put f s.fs).length ≤ 64 := by
  refine ⟨sorted_put h.sorted, fun g hg' => ?_, fun g hg' => ?_, ?_, ?_⟩
  · rcases mem_put.1 hg' with rfl | ⟨h1, _⟩
    · exact hg
    · exact h.names g h1
  · rcases mem_put.1 hg' with rfl | ⟨h1, _⟩
    · exact hsu
    · exact h.sure g h1
  · unfold put; rw [total_ins]; exact ht
  · unfold put; rw [length_ins]; exact hc
theorem Inv.app {s : S} (h : Inv s) (nm : List UInt8) (zs : List Int) : Inv (actS s (appE s nm zs.length) (appL s nm zs)) := by
  refine h.act _ _ fun he => ?_
  unfold appE at he
  split at he
  · next hc => exact absurd he hc
  · next hc =>
    have hz := chk_zero (by simpa using hc)
    have hg : good nm = true := by simpa using hz.2
    split at he
    · simp at he
    · next hn =>
      have ht := h.tot
      unfold appL
      cases hf : find nm s.fs with
      | none =>
        rw [file_none hf]
        refine put_facts (f := ⟨nm, [] ++ zs, 0⟩) h hg (Nat.zero_le _) ?_ ?_
        · show ([] ++ zs).length + total (del nm s.fs) ≤ s.room
          rw [del_none hf, List.nil_append]; simp only [hf] at hn; omega
        · show (del nm s.fs).length + 1 ≤ 64
          rw [del_none hf]; simp [hf] at hn; omega
      | some f =>
        obtain ⟨e1, e2, e3⟩ := file_mem hf
        rw [e1]
        obtain ⟨d1, d2⟩ := del_some h.sorted hf
        have hcnt := h.count
        refine put_facts (f := ⟨nm, f.zs ++ zs, f.sure⟩) h hg ?_ ?_ ?_
        · have := h.sure f e2
          show f.sure ≤ (f.zs ++ zs).length
          rw [List.length_append]; omega
        · show (f.zs ++ zs).length + total (del nm s.fs) ≤ s.room
          rw [List.length_append]; omega
        · show (del nm s.fs).length + 1 ≤ 64
          omega
theorem Inv.cut {s : S} (h : Inv s) (nm : List UInt8) (n : Int) : Inv (actS s (cutE s nm n) (cutL s nm n.toNat)) := by
  refine h.act _ _ fun he => ?_
  unfold cutE at he
  split at he
  · next hc => exact absurd he hc
  · next hc =>
    obtain ⟨_, h2, f, hf⟩ := fnd_zero (by simpa using hc)
    have hg : good nm = true := by simpa using h2
    obtain ⟨e1, e2, e3⟩ := file_mem hf
    obtain ⟨d1, d2⟩ := del_some h.sorted hf
    have hcnt := h.count
    have ht := h.tot
    have hsu := h.sure f e2
    unfold cutL
    rw [e1]
    refine put_facts (f := ⟨nm, f.zs.take n.toNat, min f.sure n.toNat⟩) h hg ?_ ?_ ?_
    · show min f.sure n.toNat ≤ (f.zs.take n.toNat).length
      rw [List.length_take]; omega
    · show (f.zs.take n.toNat).length + total (del nm s.fs) ≤ s.room
      rw [List.length_take]; omega
    · show (del nm s.fs).length + 1 ≤ 64
      omega
theorem total_del_le (nm : List UInt8) : ∀ l : List F, total (del nm l) ≤ total l
  | [] => Nat.le_refl _
  | a :: r => by
    have := total_del_le nm r
    unfold del at this ⊢
    by_cases h : a.nm = nm
    · rw [List.filter_cons_of_neg (by simp [h]), total]; omega
    · rw [List.filter_cons_of_pos (by simpa using h), total, total]; omega
theorem Inv.drop {s : S} (h : Inv s) (nm : List UInt8) (e : Int) : Inv (actS s e (del nm s.fs)) := by
  refine h.act _ _ fun _ => ⟨sorted_del h.sorted, fun f hf => h.names f (mem_del.1 hf).1, fun f hf => h.sure f (mem_del.1 hf).1, Nat.le_trans (total_del_le _ _) h.tot, Nat.le_trans (List.length_filter_le _ _) h.count⟩
theorem Inv.swap {s : S} (h : Inv s) (a b : List UInt8) : Inv (actS s (fnd s a [b, a]) (swapL s a b)) := by
  refine h.act _ _ fun he => ?_
  obtain ⟨_, h2, f, hf⟩ := fnd_zero he
  have hg : good b = true := by simp at h2; exact h2.1
  obtain ⟨e1, e2, e3⟩ := file_mem hf
  obtain ⟨d1, d2⟩ := del_some h.sorted hf
  have hcnt := h.count
  have ht := h.tot
  have h' : Inv { s with fs := del a s.fs } := ⟨sorted_del h.sorted, fun f hf => h.names f (mem_del.1 hf).1, fun f hf => h.sure f (mem_del.1 hf).1, Nat.le_trans (total_del_le _ _) h.tot, h.room, Nat.le_trans (List.length_filter_le _ _) h.count, h.fuse, h.keepl⟩
  unfold swapL
  rw [e1]
  have t2 := total_del_le b (del a s.fs)
  have l2 : (del b (del a s.fs)).length ≤ (del a s.fs).length := List.length_filter_le _ _
  exact put_facts (f := ⟨b, f.zs, f.zs.length⟩) h' hg (Nat.le_refl _) (by show f.zs.length + total (del b (del a s.fs)) ≤ s.room; omega) (by show (del b (del a s.fs)).length + 1 ≤ 64; omega)
theorem Inv.fuseS {s : S} (h : Inv s) (n : Int) (hn : n ≤ 9223372036854775807) (ks : List Int) : Inv (fuseS s n ks) := by
  unfold St.fuseS
  split
  · exact h
  · split
    · exact ⟨h.sorted, h.names, h.sure, h.tot, h.room, h.count, Nat.zero_le _, by show ([] : List Int).length ≤ 64; simp⟩
    · refine ⟨h.sorted, h.names, h.sure, h.tot, h.room, h.count, by show n.toNat ≤ _; omega, ?_⟩
      show (ks.take 64).length ≤ 64
      rw [List.length_take]; omega
theorem Inv.start (room : Nat) (hr : room ≤ 16777216) : Inv ⟨room, [], false, 0, []⟩ :=
  ⟨List.Pairwise.nil, fun f hf => by simp at hf, fun f hf => by simp at hf, Nat.zero_le _, hr, by simp, Nat.zero_le _, by simp⟩
theorem Inv.on {s : S} (h : Inv s) : Inv { s with off := false } := ⟨h.sorted, h.names, h.sure, h.tot, h.room, h.count, h.fuse, h.keepl⟩
end Go.Proofs.YtdbhicifjljjnaaGreatDoor.St
