/-
  A map of timers: it holds just the timers of a list (each key once), in no order; looked up, stored into, struck from, counted, ranged over.
-/
import Derived.Test.YtaieoneilljagaaWhMap
namespace Go.Proofs.Ytaieoneilljagaa
open Go.RowKit Go.Maps
namespace Wh
/-- The tick of a key's timer in a list. -/
def inL (l : List T) (a b : Int) : Option Int := (l.find? fun t => same t a b).map (·.at_)
def Once (l : List T) : Prop := l.Pairwise fun a b => ¬ (a.run = b.run ∧ a.task = b.task)
theorem same_false {t : T} {a b : Int} : same t a b = false ↔ ¬ (t.run = a ∧ t.task = b) := by
  rw [← same_iff]; cases same t a b <;> simp
theorem Once.inj {l : List T} (h : Once l) {x y : T} (hx : x ∈ l) (hy : y ∈ l) (e : x.run = y.run ∧ x.task = y.task) : x = y := by
  induction l with
  | nil => cases hx
  | cons a r ih =>
    obtain ⟨h1, h2⟩ := List.pairwise_cons.1 h
    rcases List.mem_cons.1 hx with hx1 | hx1 <;> rcases List.mem_cons.1 hy with hy1 | hy1
    · rw [hx1, hy1]
    · exact absurd (by rw [← hx1]; exact e) (h1 y hy1)
    · exact absurd (by rw [← hy1]; exact ⟨e.1.symm, e.2.symm⟩) (h1 x hx1)
    · exact ih h2 hx1 hy1
theorem inL_some {l : List T} (h : Once l) {a b c : Int} : inL l a b = some c ↔ (⟨a, b, c⟩ : T) ∈ l := by
  unfold inL
  constructor
  · intro hf
    obtain ⟨t, ht, hc⟩ := Option.map_eq_some_iff.1 hf
    have h1 := List.mem_of_find?_eq_some ht
    have h2 := same_iff.1 (List.find?_some (p := fun t => same t a b) ht)
    obtain ⟨t1, t2, t3⟩ := t
    simp only at h2 hc
    obtain ⟨rfl, rfl⟩ := h2
    subst hc
    exact h1
  · intro hm
    cases hf : l.find? fun t => same t a b with
    | none =>
      have := List.find?_eq_none.1 hf _ hm
      rw [same_iff.2 ⟨rfl, rfl⟩] at this
      exact absurd rfl this
    | some t =>
      have h1 := List.mem_of_find?_eq_some hf
      have h2 := same_iff.1 (List.find?_some (p := fun t => same t a b) hf)
      rw [h.inj h1 hm h2]; rfl
theorem inL_none {l : List T} {a b : Int} : inL l a b = none ↔ ∀ t ∈ l, ¬ (t.run = a ∧ t.task = b) := by
  unfold inL
  rw [Option.map_eq_none_iff, List.find?_eq_none]
  exact ⟨fun h t ht e => h t ht (same_iff.2 e), fun h t ht e => h t ht (same_iff.1 e)⟩
theorem inL_perm {l l' : List T} (h : Once l) (h' : Once l') (hp : ∀ t, t ∈ l' ↔ t ∈ l) (a b : Int) : inL l' a b = inL l a b := by
  cases hx : inL l a b with
  | some c => rw [inL_some h', hp, ← inL_some h, hx]
  | none =>
    rw [inL_none] at hx ⊢
    exact fun t ht => hx t ((hp t).1 ht)
theorem Once.del {l : List T} (h : Once l) (a b : Int) : Once (del a b l) := h.filter _
theorem del_none {l : List T} {a b : Int} (h : inL l a b = none) : del a b l = l := by
  unfold del
  rw [List.filter_eq_self]
  intro t ht
  rw [same_false.2 (inL_none.1 h t ht)]; rfl
theorem del_len2 {a b : Int} : ∀ {l : List T}, Once l → (del a b l).length + (if (inL l a b).isSome = true then 1 else 0) = l.length
  | [], _ => rfl
  | t :: r, h => by
    obtain ⟨h1, h2⟩ := List.pairwise_cons.1 h
    cases hs : same t a b with
    | true =>
      have e1 : inL (t :: r) a b = some t.at_ := by unfold inL; rw [List.find?_cons, hs]; rfl
      have e2 : inL r a b = none := inL_none.2 fun x hx e => by
        obtain ⟨e3, e4⟩ := same_iff.1 hs
        exact h1 x hx ⟨e3.trans e.1.symm, e4.trans e.2.symm⟩
      have e3 : Wh.del a b (t :: r) = Wh.del a b r := by unfold Wh.del; rw [List.filter_cons, hs]; rfl
      rw [e1, e3, del_none e2]; simp
    | false =>
      have e1 : inL (t :: r) a b = inL r a b := by unfold inL; rw [List.find?_cons, hs]
      have e3 : Wh.del a b (t :: r) = t :: Wh.del a b r := by unfold Wh.del; rw [List.filter_cons, hs]; rfl
      rw [e1, e3, List.length_cons, List.length_cons]
      have := del_len2 (a := a) (b := b) h2
      omega
/-- The list with one timer set. -/
def setL (a b c : Int) (l : List T) : List T := ⟨a, b, c⟩ :: del a b l
theorem Once.set {l : List T} (h : Once l) (a b c : Int) : Once (setL a b c l) :=
  List.pairwise_cons.2 ⟨fun x hx e => by
    have := (mem_del.1 hx).2
    exact same_false.1 this ⟨e.1.symm, e.2.symm⟩, h.del a b⟩
theorem inL_set (l : List T) (a b c x y : Int) : inL (setL a b c l) x y = if x = a ∧ y = b then some c else inL l x y := by
  by_cases h : x = a ∧ y = b
  · obtain ⟨rfl, rfl⟩ := h
    rw [if_pos ⟨rfl, rfl⟩]
    unfold inL setL
    rw [List.find?_cons, same_iff.2 ⟨rfl, rfl⟩]; rfl
  · rw [if_neg h]
    have hs : same (⟨a, b, c⟩ : T) x y = false := same_false.2 fun e => h ⟨e.1.symm, e.2.symm⟩
    unfold inL setL
    rw [List.find?_cons, hs]
    dsimp only
    unfold del
    rw [List.find?_filter]
    congr 2
    funext t
    cases h2 : same t x y with
    | false => simp
    | true =>
      obtain ⟨e1, e2⟩ := same_iff.1 h2
      have : same t a b = false := same_false.2 fun e => h ⟨e1.symm.trans e.1, e2.symm.trans e.2⟩
      rw [this]; rfl
theorem inL_del (l : List T) (a b x y : Int) : inL (del a b l) x y = if x = a ∧ y = b then none else inL l x y := by
  by_cases h : x = a ∧ y = b
  · obtain ⟨rfl, rfl⟩ := h
    rw [if_pos ⟨rfl, rfl⟩, inL_none]
    exact fun t ht => same_false.1 (mem_del.1 ht).2
  · rw [if_neg h]
    unfold inL del
    rw [List.find?_filter]
    congr 2
    funext t
    cases h2 : same t x y with
    | false => simp
    | true =>
      obtain ⟨e1, e2⟩ := same_iff.1 h2
      have : same t a b = false := same_false.2 fun e => h ⟨e1.symm.trans e.1, e2.symm.trans e.2⟩
      rw [this]; rfl
end Wh
/-- What the datum of a map of timers says. -/
structure Tells (D : DataW Unit) (l : List Wh.T) : Prop where
  size : Maps.size D = l.length
  at_ : ∀ a b, is64 a → is64 b → Maps.has D (ek a b) = (Wh.inL l a b).isSome ∧ D.atKey (ek a b) (.lit (.int .i64 0)) = .lit (.int .i64 ((Wh.inL l a b).getD 0))
  ok : ∀ t ∈ l, Wh.T.ok t
  once : Wh.Once l
def TMap (w : World) (m : Nat) (l : List Wh.T) : Prop := ∃ D : DataW Unit, w.ownsMap Try.prog 28 (plainElem Try.prog 2) m l.length D ∧ Tells D l
theorem ownsMap_tight {P : Program} {k : TypeId} {R : Value → Option (DataW Unit × List MemPlace)} {w : World} {b n : Nat} {D : DataW Unit} (h : w.ownsMap P k R b n D) {c : Nat} (hc : Maps.size D = c) : w.ownsMap P k R b c D := by
  obtain ⟨es, clock, hb, F, hs, rfl⟩ := h
  refine ⟨es, clock, hb, F, ?_, rfl⟩
  rw [← hc]
  simp [Maps.size, length_sorted]
theorem TMap.made (w : World) : TMap (w.alloc (.map #[] 0)) w.heap.size [] :=
  ⟨.map [], World.ownsMap_made w _ _ _, rfl, fun _ _ _ _ => ⟨rfl, rfl⟩, fun t h => by simp at h, List.Pairwise.nil⟩
theorem TMap.lt {w : World} {m : Nat} {l : List Wh.T} (h : TMap w m l) : m < w.heap.size := by obtain ⟨D, h, _⟩ := h; exact World.ownsMap.lt h
theorem TMap.keep {w w' : World} {m : Nat} {l : List Wh.T} (h : TMap w m l) (hk : w'.heap[m]? = w.heap[m]?) : TMap w' m l := by
  obtain ⟨D, ⟨es, clock, hb, r⟩, h2⟩ := h
  exact ⟨D, ⟨es, clock, hk.trans hb, r⟩, h2⟩
theorem TMap.perm {w : World} {m : Nat} {l l' : List Wh.T} (h : TMap w m l) (hp : l'.Perm l) : TMap w m l' := by
  obtain ⟨D, h, h1, h2, h3, h4⟩ := h
  have hl := hp.length_eq
  have ho : Wh.Once l' := (hp.pairwise_iff (fun {x y} hxy e => hxy ⟨e.1.symm, e.2.symm⟩)).2 h4
  refine ⟨D, by rw [hl]; exact h, by rw [hl]; exact h1, fun a b ha hb => ?_, fun t ht => h3 t (hp.mem_iff.1 ht), ho⟩
  rw [Wh.inL_perm h4 ho (fun t => hp.mem_iff) a b]
  exact h2 a b ha hb
theorem TMap.look2 {w : World} {m : Nat} {l : List Wh.T} (h : TMap w m l) (a b : Int) (ha : is64 a) (hb : is64 b) :
    (Instr.lookup 58 (.map (some m)) (.agg #[.int .i64 a, .int .i64 b]) true).run Try.prog w = .ok (.tuple #[.int .i64 ((Wh.inL l a b).getD 0), .bool (Wh.inL l a b).isSome]) w := by
  obtain ⟨D, h, h2⟩ := h
  exact GMap.look2 (F := Wh.inL l) ⟨D, h, h2.at_⟩ a b ha hb
theorem TMap.look {w : World} {m : Nat} {l : List Wh.T} (h : TMap w m l) (a b : Int) (ha : is64 a) (hb : is64 b) :
    (Instr.lookup 58 (.map (some m)) (.agg #[.int .i64 a, .int .i64 b]) false).run Try.prog w = .ok (.int .i64 ((Wh.inL l a b).getD 0)) w := by
  obtain ⟨D, h, h2⟩ := h
  exact GMap.look (F := Wh.inL l) ⟨D, h, h2.at_⟩ a b ha hb
theorem TMap.store {w : World} {m : Nat} {l : List Wh.T} (h : TMap w m l) (hc : l.length ≤ 1000000000) (a b v : Int) (ha : is64 a) (hb : is64 b) (hv : is64 v) :
    ∃ w', (Instr.mapUpdate 58 (.map (some m)) (.agg #[.int .i64 a, .int .i64 b]) (.int .i64 v)).run Try.prog w = .ok () w' ∧ TMap w' m (Wh.setL a b v l) ∧ w.mapTurned w' m := by
  obtain ⟨D, h, h1, h2, h3, h4⟩ := h
  obtain ⟨w', hr, ho, ht⟩ := h.store wkey_law Try.underlying58 (by unfold maxLen; omega) (key_wkey a b ha hb) (d := .lit (.int .i64 v)) (ps := []) (plainElem_int Try.underlying2 (wf_i hv))
  have hsz : Maps.size (D.put (ek a b) (.lit (.int .i64 v))) = (Wh.setL a b v l).length := by
    rw [size_put (h.tidy wkey_law), (h2 a b ha hb).1, h1]
    have := Wh.del_len2 (a := a) (b := b) h4
    unfold Wh.setL
    rw [List.length_cons]
    split <;> simp_all <;> omega
  refine ⟨w', hr, ⟨_, ownsMap_tight ho hsz, hsz, fun x y hx hy => ?_, fun t ht => ?_, h4.set a b v⟩, ht⟩
  · rw [Wh.inL_set]
    by_cases hxy : x = a ∧ y = b
    · obtain ⟨rfl, rfl⟩ := hxy
      rw [if_pos ⟨rfl, rfl⟩, has_put_same h.isMap (wkey_law.key (key_wkey x y ha hb)), atKey_put_same h.isMap (wkey_law.key (key_wkey x y ha hb))]
      exact ⟨rfl, rfl⟩
    · rw [if_neg hxy, has_put_other (ek_ne ha hb hx hy hxy), atKey_put_other (ek_ne ha hb hx hy hxy)]
      exact h2 x y hx hy
  · rcases List.mem_cons.1 ht with rfl | ht
    · exact ⟨ha, hb, hv⟩
    · exact h3 t (Wh.mem_del.1 ht).1
theorem TMap.len {w : World} {m : Nat} {l : List Wh.T} (h : TMap w m l) (ty : TypeId) : (Builtin.len_ #[58] ty #[.map (some m)]).run Try.prog w = .ok (.int .i64 (l.length : Int)) w := by
  obtain ⟨D, h, h2⟩ := h
  have := h.len Try.underlying58 ty
  rw [h2.size] at this
  exact this
end Go.Proofs.Ytaieoneilljagaa
