/-
  One file of the row changed in its place: what put and del do at a place.
-/
import Derived.Test.YtmahbcpkilegpaaStoRefFuse
namespace Go.Proofs.Ytmahbcpkilegpaa
open Go.RowKit St Go.WideShapes Go.ChangeShapes

theorem put_set : ∀ (l : List F) (k : Nat) (hk : k < l.length) (f : F), Sorted l → (l[k]'hk).nm = f.nm → put f l = l.set k f
  | [], k, hk, _, _, _ => by simp at hk
  | g :: l, 0, hk, f, hs, he => by
    have he : g.nm = f.nm := he
    have hd : del f.nm (g :: l) = l := by
      unfold del
      rw [List.filter_cons, if_neg (by simp [he])]
      refine List.filter_eq_self.2 fun x hx => ?_
      have := List.rel_of_pairwise_cons hs hx
      have hne : ¬ x.nm = f.nm := fun e => before_ne this (he.trans e.symm)
      simp [hne]
    unfold put
    rw [hd, List.set_cons_zero]
    cases l with
    | nil => rfl
    | cons a r =>
      have := List.rel_of_pairwise_cons hs (List.mem_cons_self)
      unfold ins
      rw [if_pos (by rw [← he]; exact this)]
  | g :: l, k + 1, hk, f, hs, he => by
    have he : (l[k]'(by simpa using hk)).nm = f.nm := he
    have hl : k < l.length := by simpa using hk
    have hs2 := List.Pairwise.of_cons hs
    have hg := List.rel_of_pairwise_cons hs (List.getElem_mem hl)
    rw [he] at hg
    have hne : ¬ g.nm = f.nm := before_ne hg
    have hd : del f.nm (g :: l) = g :: del f.nm l := by
      unfold del
      rw [List.filter_cons, if_pos (by simp [hne])]
    have ih := put_set l k hl f hs2 he
    unfold put at ih ⊢
    rw [hd, List.set_cons_succ, ← ih]
    show (if bytesBefore f.nm g.nm then f :: g :: del f.nm l else g :: ins f (del f.nm l)) = _
    rw [if_neg fun h => ?_]
    exact before_irrefl _ (bytes_trans _ _ _ hg h)
theorem del_at : ∀ (l : List F) (k : Nat) (hk : k < l.length), Sorted l → del (l[k]'hk).nm l = l.take k ++ l.drop (k + 1)
  | [], k, hk, _ => by simp at hk
  | g :: l, 0, hk, hs => by
    show del g.nm (g :: l) = l
    unfold del
    rw [List.filter_cons, if_neg (by simp)]
    refine List.filter_eq_self.2 fun x hx => ?_
    have := List.rel_of_pairwise_cons hs hx
    have hne : ¬ x.nm = g.nm := fun e => before_ne this e.symm
    simp [hne]
  | g :: l, k + 1, hk, hs => by
    have hl : k < l.length := by simpa using hk
    have hg := List.rel_of_pairwise_cons hs (List.getElem_mem hl)
    have ih := del_at l k hl (List.Pairwise.of_cons hs)
    show del (l[k]'hl).nm (g :: l) = g :: (l.take k ++ l.drop (k + 1))
    rw [← ih]
    unfold del
    rw [List.filter_cons, if_pos (by simp [before_ne hg])]
/-! ### A cell of the row stored -/
theorem ownsRow_set {w : World} {base n size g cap : Nat} {e : TypeId} {xs : List Value} (h : w.ownsRow base e size (.slice (some ⟨g, 0, none⟩) n cap) n xs) (o : Nat) (v : Value) : (w.setCell ⟨g, o, none⟩ v).ownsRow base e size (.slice (some ⟨g, 0, none⟩) n cap) n (xs.set o v) := by
  refine ⟨by rw [List.length_set]; exact h.1, ?_⟩
  rcases h.2 with ⟨e, _⟩ | ⟨g', c', cur, e, hb, hg, hle, hm, hsz, htk⟩
  · cases e
  · injection e with e1 e2 e3
    injection e1 with e1
    injection e1 with e1
    subst e1 e3
    exact .inr ⟨g, _, _, rfl, hb, heap_setCell_same w g o cur _ v hg, hle, hm, by simpa using hsz, by rw [Array.toList_setIfInBounds, List.take_set, htk]⟩
theorem flat3_sure (Ad : List UInt8 → Option Addr × Nat) : ∀ (l : List F) (k : Nat) (hk : k < l.length) (n : Nat), (flat3 Ad l).set (k * 3 + 2) (.int .i64 (n : Int)) = flat3 Ad (l.set k { (l[k]'hk) with sure := n })
  | [], k, hk, _ => by simp at hk
  | f :: l, 0, hk, n => by rw [flat3_cons]; rfl
  | f :: l, k + 1, hk, n => by
    have := flat3_sure Ad l k (by simpa using hk) n
    rw [flat3_cons, show (k + 1) * 3 + 2 = (k * 3 + 2) + 1 + 1 + 1 by omega]
    simp only [List.set_cons_succ]
    rw [this, flat3_cons]
    rfl
/-! ### --- -/
open Go.RowKit St Go.WideShapes Go.ChangeShapes

def turnAd (Ad : List UInt8 → Option Addr × Nat) (nm : List UInt8) (p : Option Addr × Nat) : List UInt8 → Option Addr × Nat := fun x => if x = nm then p else Ad x
theorem turnAd_at (Ad : List UInt8 → Option Addr × Nat) (nm : List UInt8) (p : Option Addr × Nat) : turnAd Ad nm p nm = p := if_pos rfl
theorem turnAd_ne (Ad : List UInt8 → Option Addr × Nat) {nm x : List UInt8} (p : Option Addr × Nat) (h : x ≠ nm) : turnAd Ad nm p x = Ad x := if_neg h
theorem turnAd_same (Ad : List UInt8 → Option Addr × Nat) (nm : List UInt8) : turnAd Ad nm (Ad nm) = Ad := by
  funext x
  unfold turnAd
  split
  · next h => rw [h]
  · rfl
theorem set_same {α : Type _} : ∀ {l : List α} {i : Nat} {v : α}, l[i]? = some v → l.set i v = l
  | [], _, _, h => by simp at h
  | a :: l, 0, v, h => by simp at h; rw [h]; rfl
  | a :: l, i + 1, v, h => by rw [List.set_cons_succ, set_same (by simpa using h)]
theorem flat3_turn (Ad : List UInt8 → Option Addr × Nat) (nm : List UInt8) (p : Option Addr × Nat) : ∀ l : List F, (∀ f ∈ l, f.nm ≠ nm) → flat3 (turnAd Ad nm p) l = flat3 Ad l
  | [], _ => rfl
  | f :: l, h => by
    rw [flat3_cons, flat3_cons, turnAd_ne Ad p (h f (by simp)), flat3_turn Ad nm p l fun g hg => h g (by simp [hg])]
theorem flat3_file (Ad : List UInt8 → Option Addr × Nat) (A : Option Addr) (c : Nat) (f' : F) : ∀ (l : List F) (k : Nat) (hk : k < l.length), Sorted l → f'.nm = (l[k]'hk).nm →
    ((flat3 Ad l).set (k * 3 + 1) (.slice A f'.zs.length c)).set (k * 3 + 2) (.int .i64 (f'.sure : Int)) = flat3 (turnAd Ad f'.nm (A, c)) (l.set k f')
  | [], k, hk, _, _ => by simp at hk
  | f :: l, 0, hk, hs, he => by
    have he : f'.nm = f.nm := he
    rw [List.set_cons_zero, flat3_cons, flat3_cons, turnAd_at, flat3_turn _ _ _ l fun g hg => ?_]
    · rw [he]; rfl
    · have := List.rel_of_pairwise_cons hs hg
      rw [he]; exact fun e => before_ne this e.symm
  | f :: l, k + 1, hk, hs, he => by
    have hl : k < l.length := by simpa using hk
    have he : f'.nm = (l[k]'hl).nm := he
    have ih := flat3_file Ad A c f' l k hl (List.Pairwise.of_cons hs) he
    have hne : f.nm ≠ f'.nm := by
      have := List.rel_of_pairwise_cons hs (List.getElem_mem hl)
      rw [he]; exact before_ne this
    rw [List.set_cons_succ, flat3_cons, flat3_cons, turnAd_ne Ad _ hne, ← ih, show (k + 1) * 3 + 2 = (k * 3 + 2) + 1 + 1 + 1 by omega, show (k + 1) * 3 + 1 = (k * 3 + 1) + 1 + 1 + 1 by omega]
    simp only [List.set_cons_succ]
theorem flat3_bytes (Ad : List UInt8 → Option Addr × Nat) (A : Option Addr) (c : Nat) (f' : F) (l : List F) (k : Nat) (hk : k < l.length) (hs : Sorted l) (he : f'.nm = (l[k]'hk).nm) (hsu : f'.sure = (l[k]'hk).sure) :
    (flat3 Ad l).set (k * 3 + 1) (.slice A f'.zs.length c) = flat3 (turnAd Ad f'.nm (A, c)) (l.set k f') := by
  rw [← flat3_file Ad A c f' l k hk hs he]
  refine (set_same ?_).symm
  rw [List.getElem?_set_ne (by omega), hsu]
  exact (flat3_get Ad l k _ (List.getElem?_eq_getElem hk)).2.2
theorem total_set : ∀ (l : List F) (k : Nat) (hk : k < l.length) (f : F), total (l.set k f) + (l[k]'hk).zs.length = total l + f.zs.length
  | [], k, hk, _ => by simp at hk
  | g :: l, 0, hk, f => by
    show f.zs.length + total l + g.zs.length = g.zs.length + total l + f.zs.length
    omega
  | g :: l, k + 1, hk, f => by
    have := total_set l k (by simpa using hk) f
    show g.zs.length + total (l.set k f) + (l[k]'(by simpa using hk)).zs.length = g.zs.length + total l + f.zs.length
    omega
theorem inv_set {s : S} (h : Inv s) (k : Nat) (hk : k < s.fs.length) (f' : F) (hnm : f'.nm = (s.fs[k]'hk).nm) (hsu : f'.sure ≤ f'.zs.length) (htot : total (s.fs.set k f') ≤ s.room) : Inv { s with fs := s.fs.set k f' } := by
  have hmem : ∀ f ∈ s.fs.set k f', f ∈ s.fs ∨ f = f' := fun f hf => List.mem_or_eq_of_mem_set hf
  refine ⟨?_, fun f hf => ?_, fun f hf => ?_, htot, h.room, by show (s.fs.set k f').length ≤ 64; rw [List.length_set]; exact h.count, h.fuse, h.keepl⟩
  · show Sorted (s.fs.set k f')
    rw [← put_set s.fs k hk f' h.sorted hnm.symm]; exact sorted_put h.sorted
  · rcases hmem f hf with h1 | rfl
    · exact h.names f h1
    · rw [hnm]; exact h.names _ (List.getElem_mem hk)
  · rcases hmem f hf with h1 | rfl
    · exact h.sure f h1
    · exact hsu
section
variable {w : World} {R : Nat} {own : Nat → Prop} {s : S} {rf : Int} {rk : List Int} {Ad : List UInt8 → Option Addr × Nat} {fa : Option Addr} {fc : Nat} {ka : Option Addr} {kc : Nat}
/-- Another row of files: what has to be told of it. -/
theorem RP.remake (h : RP w R own s rf rk Ad fa fc ka kc) {w' : World} {l : List F} {Ad' : List UInt8 → Option Addr × Nat} {fa' : Option Addr} {fc' : Nat} {own2 : Nat → Prop}
    (hobj : w'.heap[R]? = some (.cells #[.int .i64 (s.room : Int), .slice fa' l.length fc', .bool s.off, .int .i64 rf, .slice ka rk.length kc] 46 (0, 0)))
    (hkeep : ∀ a, ka = some a → w'.heap[a.block]? = w.heap[a.block]?)
    (hrow : w'.ownsRow 0 76 3 (.slice fa' l.length fc') l.length (flat3 Ad' l))
    (hrows : ∀ f ∈ l, OwnB w' 0 (Ad' f.nm).1 (Ad' f.nm).2 f.zs)
    (hap : ∀ f ∈ l, ∀ g ∈ l, f.nm ≠ g.nm → ∀ a b, (Ad' f.nm).1 = some a → (Ad' g.nm).1 = some b → a.block ≠ b.block)
    (hinv : Inv { s with fs := l }) (hsub : ∀ k, own k → own2 k) (hlt : ∀ k, own2 k → k < w'.heap.size) (hF : ∀ a, fa' = some a → own2 a.block) (hR : ∀ f ∈ l, ∀ a, (Ad' f.nm).1 = some a → own2 a.block) :
    RP w' R own2 { s with fs := l } rf rk Ad' fa' fc' ka kc :=
  ⟨⟨hobj, hrow, hrows, (h.keep.keep hkeep).ints, hinv, h.rs.link⟩, hap, h.keep.keep hkeep, hsub _ h.ownT, hF, hR, fun a ha => hsub _ (h.ownK a ha), hlt⟩
/-- One file of the row changed. -/
theorem RP.file (h : RP w R own s rf rk Ad fa fc ka kc) {k g : Nat} (hk : k < s.fs.length) (hg : fa = some ⟨g, 0, none⟩) {w' : World} {f' : F} {A : Option Addr} {c : Nat}
    (hnm : f'.nm = (s.fs[k]'hk).nm) (hsu : f'.sure ≤ f'.zs.length) (htot : total (s.fs.set k f') ≤ s.room)
    (hsz : w.heap.size ≤ w'.heap.size) (hb : ∀ j, own j → j ≠ g → w'.heap[j]? = w.heap[j]?)
    (hrow : w'.ownsRow 0 76 3 (.slice fa s.fs.length fc) s.fs.length (flat3 (turnAd Ad f'.nm (A, c)) (s.fs.set k f')))
    (hown : OwnB w' 0 A c f'.zs) (hnew : ∀ a, A = some a → a.block < w'.heap.size ∧ (¬ own a.block ∨ (Ad f'.nm).1 = some a)) :
    RP w' R (fun j => own j ∨ ∃ a, A = some a ∧ j = a.block) { s with fs := s.fs.set k f' } rf rk (turnAd Ad f'.nm (A, c)) fa fc ka kc := by
  have hne := h.files_ne hg
  have hnmk : ∀ f ∈ s.fs.set k f', f.nm ≠ f'.nm → f ∈ s.fs := fun f hf hx => by
    rcases List.mem_or_eq_of_mem_set hf with h1 | rfl
    · exact h1
    · exact absurd rfl hx
  have hfk : ∃ f0 ∈ s.fs, f0.nm = f'.nm := ⟨_, List.getElem_mem hk, hnm.symm⟩
  have hz : ∀ f ∈ s.fs.set k f', f.nm = f'.nm → f = f' := fun f hf he => by
    obtain ⟨i, hi, e⟩ := List.getElem_of_mem hf
    have hi2 : i < s.fs.length := by simpa using hi
    rw [List.getElem_set] at e
    split at e
    · exact e.symm
    · next hik =>
      exfalso
      have hp := h.rs.inv.sorted
      subst e
      rw [hnm] at he
      rcases Nat.lt_or_ge i k with h1 | h1
      · exact before_ne (List.pairwise_iff_getElem.1 hp i k hi2 hk h1) he
      · exact before_ne (List.pairwise_iff_getElem.1 hp k i hk hi2 (by omega)) he.symm
  refine h.remake (own2 := fun j => own j ∨ ∃ a, A = some a ∧ j = a.block) (Ad' := turnAd Ad f'.nm (A, c)) (fa' := fa) (fc' := fc) ?_ (fun a ha => hb _ (h.ownK a ha) (hne.2.2 a ha)) ?_ (fun f hf => ?_) (fun f hf f2 hf2 hnm2 a b ha hb' => ?_) (inv_set h.rs.inv k hk f' hnm hsu htot) (fun _ h => .inl h) (fun j hj => ?_) (fun a ha => .inl (h.ownF a ha)) (fun f hf a ha => ?_)
  · rw [List.length_set]; exact (hb _ h.ownT (fun e => hne.1 e.symm)).trans h.rs.obj
  · rw [List.length_set]; exact hrow
  · by_cases he : f.nm = f'.nm
    · rw [hz f hf he, turnAd_at]; exact hown
    · rw [turnAd_ne _ _ he]
      have hm := hnmk f hf he
      exact (h.rs.rows f hm).keep fun a ha => hb _ (h.ownR f hm a ha) (hne.2.1 f hm a ha)
  · have key : ∀ f2 ∈ s.fs.set k f', f2.nm ≠ f'.nm → ∀ a b, A = some a → (Ad f2.nm).1 = some b → a.block ≠ b.block := fun f2 hf2 hx a b ha hb2 => by
      rcases (hnew a ha).2 with h1 | h1
      · intro e; exact h1 (e ▸ h.ownR f2 (hnmk f2 hf2 hx) b hb2)
      · obtain ⟨f0, hf0, e0⟩ := hfk
        exact h.apart f0 hf0 f2 (hnmk f2 hf2 hx) (by rw [e0]; exact fun e => hx e.symm) a b (by rw [e0]; exact h1) hb2
    by_cases he : f.nm = f'.nm
    · rw [he, turnAd_at] at ha
      have hx : f2.nm ≠ f'.nm := fun e => hnm2 (he.trans e.symm)
      rw [turnAd_ne _ _ hx] at hb'
      exact key f2 hf2 hx a b ha hb'
    · rw [turnAd_ne _ _ he] at ha
      by_cases he2 : f2.nm = f'.nm
      · rw [he2, turnAd_at] at hb'
        exact fun e => key f hf he b a hb' ha e.symm
      · rw [turnAd_ne _ _ he2] at hb'
        exact h.apart f (hnmk f hf he) f2 (hnmk f2 hf2 he2) hnm2 a b ha hb'
  · rcases hj with h1 | ⟨a, ha, rfl⟩
    · exact Nat.lt_of_lt_of_le (h.lt j h1) hsz
    · exact (hnew a ha).1
  · by_cases he : f.nm = f'.nm
    · rw [he, turnAd_at] at ha
      exact .inr ⟨a, ha, rfl⟩
    · rw [turnAd_ne _ _ he] at ha
      exact .inl (h.ownR f (hnmk f hf he) a ha)
/-- How far one file is sure, stored. -/
theorem RP.sure (h : RP w R own s rf rk Ad fa fc ka kc) {k g : Nat} (hk : k < s.fs.length) (hg : fa = some ⟨g, 0, none⟩) (n : Nat) (hn : n ≤ (s.fs[k]'hk).zs.length) :
    RP (w.setCell ⟨g, k * 3 + 2, none⟩ (.int .i64 (n : Int))) R own { s with fs := s.fs.set k { (s.fs[k]'hk) with sure := n } } rf rk Ad fa fc ka kc := by
  have hfl := h.rs.files
  have hne := h.files_ne hg
  have hkb : ∀ j, j ≠ g → (w.setCell ⟨g, k * 3 + 2, none⟩ (.int .i64 (n : Int))).heap[j]? = w.heap[j]? := fun j hj => Below.heap_setCell _ _ _ _ hj
  have hm := List.getElem_mem hk
  have hrow : (w.setCell ⟨g, k * 3 + 2, none⟩ (.int .i64 (n : Int))).ownsRow 0 76 3 (.slice fa s.fs.length fc) s.fs.length (flat3 Ad (s.fs.set k { (s.fs[k]'hk) with sure := n })) := by
    subst hg
    have e := ownsRow_set hfl (k * 3 + 2) (.int .i64 (n : Int))
    rw [flat3_sure Ad s.fs k hk n] at e
    exact e
  obtain ⟨f, hf⟩ : ∃ f, f = ({ (s.fs[k]'hk) with sure := n } : F) := ⟨_, rfl⟩
  have f1 : f.nm = (s.fs[k]'hk).nm := by rw [hf]
  have f2 : f.zs = (s.fs[k]'hk).zs := by rw [hf]
  have f3 : f.sure = n := by rw [hf]
  rw [← hf] at hrow ⊢
  have ht := total_set s.fs k hk f
  have h0 := h.rs.inv.tot
  rw [f2] at ht
  have e : turnAd Ad f.nm ((Ad f.nm).1, (Ad f.nm).2) = Ad := turnAd_same Ad _
  have e2 : (fun j => own j ∨ ∃ a, (Ad f.nm).1 = some a ∧ j = a.block) = own := by
    funext j
    refine propext ⟨?_, .inl⟩
    rintro (h1 | ⟨a, ha, rfl⟩)
    · exact h1
    · rw [f1] at ha; exact h.ownR _ hm a ha
  have := h.file (w' := w.setCell ⟨g, k * 3 + 2, none⟩ (.int .i64 (n : Int))) (f' := f) (A := (Ad f.nm).1) (c := (Ad f.nm).2) hk hg f1 (by rw [f2, f3]; exact hn) (by omega)
    (by simp [World.setCell]) (fun j _ hj => hkb j hj) (by rw [e]; exact hrow)
    (by rw [f1, f2]; exact (h.rs.rows _ hm).keep fun a ha => hkb _ (hne.2.1 _ hm a ha)) (fun a ha => ⟨by rw [f1] at ha; have := h.lt _ (h.ownR _ hm a ha); simpa [World.setCell] using this, .inr ha⟩)
  rw [e, e2] at this
  exact this
/-- Other bytes of one file, in a row of their own, stored. -/
theorem RP.bytes (h : RP w R own s rf rk Ad fa fc ka kc) {k g : Nat} (hk : k < s.fs.length) (hg : fa = some ⟨g, 0, none⟩) {A : Option Addr} {c : Nat} {zs : List Int} (hsu : (s.fs[k]'hk).sure ≤ zs.length) (htot : total s.fs + zs.length ≤ s.room + (s.fs[k]'hk).zs.length)
    {base : Nat} (hown : OwnB w base A c zs) (hbase : ∀ j, own j → j < base) :
    RP (w.setCell ⟨g, k * 3 + 1, none⟩ (.slice A zs.length c)) R (fun j => own j ∨ ∃ a, A = some a ∧ j = a.block) { s with fs := s.fs.set k { (s.fs[k]'hk) with zs := zs } } rf rk (turnAd Ad (s.fs[k]'hk).nm (A, c)) fa fc ka kc := by
  have hfl := h.rs.files
  have hkb : ∀ j, j ≠ g → (w.setCell ⟨g, k * 3 + 1, none⟩ (.slice A zs.length c)).heap[j]? = w.heap[j]? := fun j hj => Below.heap_setCell _ _ _ _ hj
  have hgo : own g := h.ownF ⟨g, 0, none⟩ hg
  have hlt : ∀ a, A = some a → base ≤ a.block ∧ a.block < w.heap.size := fun a ha => by subst ha; exact OwnB.lt hown
  have hrow : (w.setCell ⟨g, k * 3 + 1, none⟩ (.slice A zs.length c)).ownsRow 0 76 3 (.slice fa s.fs.length fc) s.fs.length (flat3 (turnAd Ad (s.fs[k]'hk).nm (A, c)) (s.fs.set k { (s.fs[k]'hk) with zs := zs })) := by
    subst hg
    have e := ownsRow_set hfl (k * 3 + 1) (.slice A zs.length c)
    rw [flat3_bytes Ad A c { (s.fs[k]'hk) with zs := zs } s.fs k hk h.rs.inv.sorted rfl rfl] at e
    exact e
  have hzs : OwnB (w.setCell ⟨g, k * 3 + 1, none⟩ (.slice A zs.length c)) 0 A c zs := (hown.low (Nat.zero_le _)).keep fun a ha => hkb _ (by have := hbase g hgo; have := (hlt a ha).1; omega)
  obtain ⟨f, hf⟩ : ∃ f, f = ({ (s.fs[k]'hk) with zs := zs } : F) := ⟨_, rfl⟩
  have f1 : f.nm = (s.fs[k]'hk).nm := by rw [hf]
  have f2 : f.zs = zs := by rw [hf]
  have f3 : f.sure = (s.fs[k]'hk).sure := by rw [hf]
  have ht := total_set s.fs k hk f
  rw [f2] at ht
  rw [← hf] at hrow ⊢
  rw [← f1] at hrow ⊢
  exact h.file (f' := f) hk hg f1 (by rw [f2, f3]; exact hsu) (by omega) (by simp [World.setCell]) (fun j _ hj => hkb j hj) hrow (by rw [f2]; exact hzs) (fun a ha => ⟨by simpa [World.setCell] using (hlt a ha).2, .inl fun ho => by have := hbase _ ho; have := (hlt a ha).1; omega⟩)
end
end Go.Proofs.Ytmahbcpkilegpaa
