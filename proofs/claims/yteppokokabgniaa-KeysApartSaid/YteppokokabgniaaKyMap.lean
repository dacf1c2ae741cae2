/-
  Maps keyed by Key, two texts (map[Key]int), told by what they hold; a map that holds just the entries of a list (each key once), in no order.
-/
import Derived.Test.YteppokokabgniaaKyRefPut
import Derived.Maps.OwnSet
import Derived.Maps.RangeWalk
import Derived.DeepKeys4
namespace Go.Proofs.Yteppokokabgniaa
open Go.RowKit Go.Maps
set_option maxRecDepth 100000

theorem laidOutK : laidOutB Try.prog = true := by kernel_rfl
theorem kkey_row : 28 < Try.prog.types.size := of_decide_eq_true (by kernel_rfl)
theorem kkey_wide : (match Try.prog.underlying 28 with | some (.array _ _) | some (.struct _) => true | _ => false) = true := by rw [Try.underlying28]
theorem kkey_deep : Try.prog.keyType 28 = true := by kernel_rfl
theorem kkey_cells : Try.prog.cellsOf 28 = 2 := by kernel_rfl
theorem str_cells : Try.prog.cellsOf 9 = 1 := by kernel_rfl
def okS (s : ByteArray) : Prop := s.size ≤ 9223372036854775807
theorem kkey_law : Keyed Try.prog 28 := Keyed.of_law (deep_law_laid laidOutK (m := 2) (by omega) kkey_row (by kernel_rfl) kkey_wide)
def evK (a b : ByteArray) : Value := .agg #[.string a, .string b]
def ekK (a b : ByteArray) : Lit := .string (keyBytes [.string a.data.toList, .string b.data.toList])
theorem wf_iK {a : Int} (h : is64 a) : (Lit.int .i64 a).wf = true := by
  unfold is64 at h
  simpa [Lit.wf, IntKind.min, IntKind.max, IntKind.bits, IntKind.signed] using h
theorem key_kkey (a b : ByteArray) (ha : okS a) (hb : okS b) : keyOf Try.prog 28 (evK a b) = some (ekK a b) := by
  obtain ⟨n, hn⟩ : ∃ n, Try.prog.types.size = n + 1 := ⟨Try.prog.types.size - 1, by have := kkey_row; omega⟩
  have hf : (evK a b).formed Try.prog 28 = true := by simp [evK, Value.formed, Try.underlying28, kkey_cells]
  have e : ∀ v, keyOf Try.prog 28 v = if Try.prog.keyType 28 && v.formed Try.prog 28 then (Try.prog.keyLits (Try.prog.types.size + 1) 28 v.cells.toList).map fun ls => .string (keyBytes ls) else none := fun v => by
    unfold keyOf
    rw [Try.underlying28]
  rw [e, kkey_deep, hf, hn]
  have h1 : ∀ x : ByteArray, okS x → Try.prog.keyLits (n + 1) 9 [.string x] = some [.string x.data.toList] := fun x hx => by
    unfold okS at hx
    unfold Program.keyLits
    simp only [Try.underlying9]
    rw [if_pos (by unfold maxLen; omega)]
  have h2 : Try.prog.keyLits (n + 1 + 1) 28 (evK a b).cells.toList = some [.string a.data.toList, .string b.data.toList] := by
    show Try.prog.keyLits (n + 1 + 1) 28 [.string a, .string b] = _
    conv => lhs; unfold Program.keyLits
    simp only [Try.underlying28, kkey_cells]
    simp [h1 a ha, h1 b hb, str_cells]
  rw [h2]
  rfl
theorem ekK_ne {a b x y : ByteArray} (ha : okS a) (hb : okS b) (hx : okS x) (hy : okS y) (h : ¬ (x = a ∧ y = b)) : ekK x y ≠ ekK a b := fun e => by
  have h1 := key_kkey a b ha hb
  have h2 := key_kkey x y hx hy
  rw [e] at h2
  have := kkey_law.inj h1 h2
  unfold evK at this
  injection this with h3
  have h4 := congrArg Array.toList h3
  simp at h4
  exact h ⟨h4.1.symm, h4.2.symm⟩

/-- Block m is a map of at most c entries that holds F. -/
def GMapK (w : World) (m c : Nat) (F : ByteArray → ByteArray → Option Int) : Prop :=
  ∃ D : DataW Unit, w.ownsMap Try.prog 28 (plainElem Try.prog 3) m c D ∧ ∀ a b, okS a → okS b → Maps.has D (ekK a b) = (F a b).isSome ∧ D.atKey (ekK a b) (.lit (.int .i64 0)) = .lit (.int .i64 ((F a b).getD 0))
def updK (F : ByteArray → ByteArray → Option Int) (a b : ByteArray) (v : Int) : ByteArray → ByteArray → Option Int := fun x y => if x = a ∧ y = b then some v else F x y
theorem GMapK.lt {w : World} {m c : Nat} {F : ByteArray → ByteArray → Option Int} (h : GMapK w m c F) : m < w.heap.size := by obtain ⟨D, h, _⟩ := h; exact World.ownsMap.lt h
theorem GMapK.keep {w w' : World} {m c : Nat} {F : ByteArray → ByteArray → Option Int} (h : GMapK w m c F) (hk : w'.heap[m]? = w.heap[m]?) : GMapK w' m c F := by
  obtain ⟨D, ⟨es, clock, hb, r⟩, h2⟩ := h
  exact ⟨D, ⟨es, clock, hk.trans hb, r⟩, h2⟩
theorem GMapK.below {w w' : World} {m c B : Nat} {F : ByteArray → ByteArray → Option Int} (h : GMapK w m c F) (hb : Below B w w') (hm : m < B) : GMapK w' m c F := h.keep (hb.block m hm)
theorem GMapK.grew {w w' : World} {m c : Nat} {F : ByteArray → ByteArray → Option Int} (h : GMapK w m c F) (hb : Below w.heap.size w w') : GMapK w' m c F := h.below hb h.lt
theorem GMapK.mono {w : World} {m c c' : Nat} {F : ByteArray → ByteArray → Option Int} (h : GMapK w m c F) (hc : c ≤ c') : GMapK w m c' F := by
  obtain ⟨D, h, h2⟩ := h
  exact ⟨D, h.mono hc, h2⟩
theorem GMapK.congr {w : World} {m c : Nat} {F G : ByteArray → ByteArray → Option Int} (h : GMapK w m c F) (hg : ∀ a b, G a b = F a b) : GMapK w m c G := by
  obtain ⟨D, h, h2⟩ := h
  exact ⟨D, h, fun a b ha hb => by rw [hg]; exact h2 a b ha hb⟩
theorem GMapK.ne {w : World} {m c : Nat} {F : ByteArray → ByteArray → Option Int} (h : GMapK w m c F) {g : Nat} {cs : Array Value} {t : TypeId} {fz : Nat × Nat} (hg : w.heap[g]? = some (.cells cs t fz)) : g ≠ m := by
  rintro rfl
  obtain ⟨D, ⟨es, clock, hb, _⟩, _⟩ := h
  rw [hg] at hb; cases hb
theorem GMapK.made (w : World) : GMapK (w.alloc (.map #[] 0)) w.heap.size 0 (fun _ _ => none) :=
  ⟨.map [], World.ownsMap_made w _ _ _, fun _ _ _ _ => ⟨rfl, rfl⟩⟩
theorem GMapK.look {w : World} {m c : Nat} {F : ByteArray → ByteArray → Option Int} (h : GMapK w m c F) (a b : ByteArray) (ha : okS a) (hb : okS b) :
    (Instr.lookup 52 (.map (some m)) (.agg #[.string a, .string b]) false).run Try.prog w = .ok (.int .i64 ((F a b).getD 0)) w := by
  obtain ⟨D, h, h2⟩ := h
  obtain ⟨k, hr, hk, _⟩ := h.lookup_int kkey_law Try.underlying52 Try.underlying3 (show (zeroValue 3).run Try.prog w = .ok (.int .i64 0) w by kernel_rfl) (key_kkey a b ha hb)
  rw [(h2 a b ha hb).2] at hk
  injection hk with hk
  injection hk with _ hk
  rw [hk]; exact hr
theorem GMapK.look2 {w : World} {m c : Nat} {F : ByteArray → ByteArray → Option Int} (h : GMapK w m c F) (a b : ByteArray) (ha : okS a) (hb : okS b) :
    (Instr.lookup 52 (.map (some m)) (.agg #[.string a, .string b]) true).run Try.prog w = .ok (.tuple #[.int .i64 ((F a b).getD 0), .bool (F a b).isSome]) w := by
  obtain ⟨D, h, h2⟩ := h
  obtain ⟨v, ps, hr, hv⟩ := h.look_ok kkey_law Try.underlying52 (show (zeroValue 3).run Try.prog w = .ok (.int .i64 0) w by kernel_rfl) (zd := .lit (.int .i64 0)) (zp := []) (plainElem_int Try.underlying3 (by decide)) (key_kkey a b ha hb)
  obtain ⟨k, rfl, hk, _⟩ := plainElem_int_inv Try.underlying3 hv
  have hk' := congrArg Prod.fst hk
  simp only [(h2 a b ha hb).2] at hk'
  injection hk' with hk'
  injection hk' with _ hk'
  rw [(h2 a b ha hb).1] at hr
  rw [hk']; exact hr
theorem GMapK.store {w : World} {m c : Nat} {F : ByteArray → ByteArray → Option Int} (h : GMapK w m c F) (hc : c ≤ 1000000000) (a b : ByteArray) (v : Int) (ha : okS a) (hb : okS b) (hv : is64 v) :
    ∃ w', (Instr.mapUpdate 52 (.map (some m)) (.agg #[.string a, .string b]) (.int .i64 v)).run Try.prog w = .ok () w' ∧ GMapK w' m (c + 1) (updK F a b v) ∧ w.mapTurned w' m := by
  obtain ⟨D, h, h2⟩ := h
  obtain ⟨w', hr, ho, ht⟩ := h.store kkey_law Try.underlying52 (by unfold maxLen; omega) (key_kkey a b ha hb) (d := .lit (.int .i64 v)) (ps := []) (plainElem_int Try.underlying3 (wf_iK hv))
  refine ⟨w', hr, ⟨_, ho, fun x y hx hy => ?_⟩, ht⟩
  unfold updK
  by_cases hxy : x = a ∧ y = b
  · obtain ⟨rfl, rfl⟩ := hxy
    rw [if_pos ⟨rfl, rfl⟩, has_put_same h.isMap (kkey_law.key (key_kkey x y ha hb)), atKey_put_same h.isMap (kkey_law.key (key_kkey x y ha hb))]
    exact ⟨rfl, rfl⟩
  · rw [if_neg hxy, has_put_other (ekK_ne ha hb hx hy hxy), atKey_put_other (ekK_ne ha hb hx hy hxy)]
    exact h2 x y hx hy
theorem turned_frameK {w w' : World} {m : Nat} (h : w.mapTurned w' m) : w'.os = w.os ∧ w'.tape = w.tape ∧ w'.output = w.output ∧ w'.heap.size = w.heap.size ∧ ∀ i, i ≠ m → w'.heap[i]? = w.heap[i]? := by
  obtain ⟨es, clock, es', clock', hb, rfl⟩ := h
  exact ⟨rfl, rfl, rfl, by simp [ChangeMaps.setBlock], fun i hi => ChangeMaps.heap_setBlock_other hb _ hi⟩
theorem turned_butK {w w' : World} {m B : Nat} (h : w.mapTurned w' m) : But B m w w' := by
  obtain ⟨h1, h2, h3, h4, h5⟩ := turned_frameK h
  exact ⟨h1, h2, h3, by omega, fun k _ hk => h5 k hk⟩

namespace Ky
def del (n k : ByteArray) (l : List T) : List T := l.filter fun a => !same a n k
theorem mem_del {n k : ByteArray} {l : List T} {y : T} : y ∈ del n k l ↔ y ∈ l ∧ same y n k = false := by
  unfold del
  rw [List.mem_filter]
  simp
/-- The number of a key's entry in a list. -/
def inL (l : List T) (a b : ByteArray) : Option Int := (l.find? fun t => same t a b).map (·.id)
def Once (l : List T) : Prop := l.Pairwise fun a b => ¬ (a.name = b.name ∧ a.key = b.key)
theorem same_false {t : T} {a b : ByteArray} : same t a b = false ↔ ¬ (t.name = a ∧ t.key = b) := by
  rw [← same_iff]; cases same t a b <;> simp
theorem Once.inj {l : List T} (h : Once l) {x y : T} (hx : x ∈ l) (hy : y ∈ l) (e : x.name = y.name ∧ x.key = y.key) : x = y := by
  induction l with
  | nil => cases hx
  | cons a r ih =>
    obtain ⟨h1, h2⟩ := List.pairwise_cons.1 h
    rcases List.mem_cons.1 hx with hx1 | hx1 <;> rcases List.mem_cons.1 hy with hy1 | hy1
    · rw [hx1, hy1]
    · exact absurd (by rw [← hx1]; exact e) (h1 y hy1)
    · exact absurd (by rw [← hy1]; exact ⟨e.1.symm, e.2.symm⟩) (h1 x hx1)
    · exact ih h2 hx1 hy1
theorem inL_some {l : List T} (h : Once l) {a b : ByteArray} {c : Int} : inL l a b = some c ↔ (⟨a, b, c⟩ : T) ∈ l := by
  unfold inL
  constructor
  · intro hf
    obtain ⟨t, ht, hc⟩ := Option.map_eq_some_iff.1 hf
    have h1 := List.mem_of_find?_eq_some ht
    have h2 := same_iff.1 (List.find?_some (p := fun t => same t a b) ht)
    obtain ⟨t1, t2, t3⟩ := t
    simp only at h2 hc
    obtain ⟨rfl, rfl⟩ := h2
    subst hc
    exact h1
  · intro hm
    cases hf : l.find? fun t => same t a b with
    | none =>
      have := List.find?_eq_none.1 hf _ hm
      rw [same_iff.2 ⟨rfl, rfl⟩] at this
      exact absurd rfl this
    | some t =>
      have h1 := List.mem_of_find?_eq_some hf
      have h2 := same_iff.1 (List.find?_some (p := fun t => same t a b) hf)
      rw [h.inj h1 hm h2]; rfl
theorem inL_none {l : List T} {a b : ByteArray} : inL l a b = none ↔ ∀ t ∈ l, ¬ (t.name = a ∧ t.key = b) := by
  unfold inL
  rw [Option.map_eq_none_iff, List.find?_eq_none]
  exact ⟨fun h t ht e => h t ht (same_iff.2 e), fun h t ht e => h t ht (same_iff.1 e)⟩
theorem inL_perm {l l' : List T} (h : Once l) (h' : Once l') (hp : ∀ t, t ∈ l' ↔ t ∈ l) (a b : ByteArray) : inL l' a b = inL l a b := by
  cases hx : inL l a b with
  | some c => rw [inL_some h', hp, ← inL_some h, hx]
  | none =>
    rw [inL_none] at hx ⊢
    exact fun t ht => hx t ((hp t).1 ht)
theorem Once.del {l : List T} (h : Once l) (a b : ByteArray) : Once (del a b l) := h.filter _
theorem del_none {l : List T} {a b : ByteArray} (h : inL l a b = none) : del a b l = l := by
  unfold del
  rw [List.filter_eq_self]
  intro t ht
  rw [same_false.2 (inL_none.1 h t ht)]; rfl
theorem del_len2 {a b : ByteArray} : ∀ {l : List T}, Once l → (del a b l).length + (if (inL l a b).isSome = true then 1 else 0) = l.length
  | [], _ => rfl
  | t :: r, h => by
    obtain ⟨h1, h2⟩ := List.pairwise_cons.1 h
    cases hs : same t a b with
    | true =>
      have e1 : inL (t :: r) a b = some t.id := by unfold inL; rw [List.find?_cons, hs]; rfl
      have e2 : inL r a b = none := inL_none.2 fun x hx e => by
        obtain ⟨e3, e4⟩ := same_iff.1 hs
        exact h1 x hx ⟨e3.trans e.1.symm, e4.trans e.2.symm⟩
      have e3 : Ky.del a b (t :: r) = Ky.del a b r := by unfold Ky.del; rw [List.filter_cons, hs]; rfl
      rw [e1, e3, del_none e2]; simp
    | false =>
      have e1 : inL (t :: r) a b = inL r a b := by unfold inL; rw [List.find?_cons, hs]
      have e3 : Ky.del a b (t :: r) = t :: Ky.del a b r := by unfold Ky.del; rw [List.filter_cons, hs]; rfl
      rw [e1, e3, List.length_cons, List.length_cons]
      have := del_len2 (a := a) (b := b) h2
      omega
/-- The list with one entry set. -/
def setL (a b : ByteArray) (c : Int) (l : List T) : List T := ⟨a, b, c⟩ :: del a b l
theorem Once.set {l : List T} (h : Once l) (a b : ByteArray) (c : Int) : Once (setL a b c l) :=
  List.pairwise_cons.2 ⟨fun x hx e => by
    have := (mem_del.1 hx).2
    exact same_false.1 this ⟨e.1.symm, e.2.symm⟩, h.del a b⟩
theorem inL_set (l : List T) (a b : ByteArray) (c : Int) (x y : ByteArray) : inL (setL a b c l) x y = if x = a ∧ y = b then some c else inL l x y := by
  by_cases h : x = a ∧ y = b
  · obtain ⟨rfl, rfl⟩ := h
    rw [if_pos ⟨rfl, rfl⟩]
    unfold inL setL
    rw [List.find?_cons, same_iff.2 ⟨rfl, rfl⟩]; rfl
  · rw [if_neg h]
    have hs : same (⟨a, b, c⟩ : T) x y = false := same_false.2 fun e => h ⟨e.1.symm, e.2.symm⟩
    unfold inL setL
    rw [List.find?_cons, hs]
    dsimp only
    unfold del
    rw [List.find?_filter]
    congr 2
    funext t
    cases h2 : same t x y with
    | false => simp
    | true =>
      obtain ⟨e1, e2⟩ := same_iff.1 h2
      have : same t a b = false := same_false.2 fun e => h ⟨e1.symm.trans e.1, e2.symm.trans e.2⟩
      rw [this]; rfl
theorem inL_del (l : List T) (a b x y : ByteArray) : inL (del a b l) x y = if x = a ∧ y = b then none else inL l x y := by
  by_cases h : x = a ∧ y = b
  · obtain ⟨rfl, rfl⟩ := h
    rw [if_pos ⟨rfl, rfl⟩, inL_none]
    exact fun t ht => same_false.1 (mem_del.1 ht).2
  · rw [if_neg h]
    unfold inL del
    rw [List.find?_filter]
    congr 2
    funext t
    cases h2 : same t x y with
    | false => simp
    | true =>
      obtain ⟨e1, e2⟩ := same_iff.1 h2
      have : same t a b = false := same_false.2 fun e => h ⟨e1.symm.trans e.1, e2.symm.trans e.2⟩
      rw [this]; rfl
end Ky
/-- What the datum of a map of entries says. -/
structure Tells (D : DataW Unit) (l : List Ky.T) : Prop where
  size : Maps.size D = l.length
  at_ : ∀ a b, okS a → okS b → Maps.has D (ekK a b) = (Ky.inL l a b).isSome ∧ D.atKey (ekK a b) (.lit (.int .i64 0)) = .lit (.int .i64 ((Ky.inL l a b).getD 0))
  ok : ∀ t ∈ l, (okS t.name ∧ okS t.key ∧ is64 t.id)
  once : Ky.Once l
def TMap (w : World) (m : Nat) (l : List Ky.T) : Prop := ∃ D : DataW Unit, w.ownsMap Try.prog 28 (plainElem Try.prog 3) m l.length D ∧ Tells D l
theorem ownsMap_tight {P : Program} {k : TypeId} {R : Value → Option (DataW Unit × List MemPlace)} {w : World} {b n : Nat} {D : DataW Unit} (h : w.ownsMap P k R b n D) {c : Nat} (hc : Maps.size D = c) : w.ownsMap P k R b c D := by
  obtain ⟨es, clock, hb, F, hs, rfl⟩ := h
  refine ⟨es, clock, hb, F, ?_, rfl⟩
  rw [← hc]
  simp [Maps.size, length_sorted]
theorem TMap.made (w : World) : TMap (w.alloc (.map #[] 0)) w.heap.size [] :=
  ⟨.map [], World.ownsMap_made w _ _ _, rfl, fun _ _ _ _ => ⟨rfl, rfl⟩, fun t h => by simp at h, List.Pairwise.nil⟩
theorem TMap.lt {w : World} {m : Nat} {l : List Ky.T} (h : TMap w m l) : m < w.heap.size := by obtain ⟨D, h, _⟩ := h; exact World.ownsMap.lt h
theorem TMap.keep {w w' : World} {m : Nat} {l : List Ky.T} (h : TMap w m l) (hk : w'.heap[m]? = w.heap[m]?) : TMap w' m l := by
  obtain ⟨D, ⟨es, clock, hb, r⟩, h2⟩ := h
  exact ⟨D, ⟨es, clock, hk.trans hb, r⟩, h2⟩
theorem TMap.perm {w : World} {m : Nat} {l l' : List Ky.T} (h : TMap w m l) (hp : l'.Perm l) : TMap w m l' := by
  obtain ⟨D, h, h1, h2, h3, h4⟩ := h
  have hl := hp.length_eq
  have ho : Ky.Once l' := (hp.pairwise_iff (fun {x y} hxy e => hxy ⟨e.1.symm, e.2.symm⟩)).2 h4
  refine ⟨D, by rw [hl]; exact h, by rw [hl]; exact h1, fun a b ha hb => ?_, fun t ht => h3 t (hp.mem_iff.1 ht), ho⟩
  rw [Ky.inL_perm h4 ho (fun t => hp.mem_iff) a b]
  exact h2 a b ha hb
theorem TMap.look2 {w : World} {m : Nat} {l : List Ky.T} (h : TMap w m l) (a b : ByteArray) (ha : okS a) (hb : okS b) :
    (Instr.lookup 52 (.map (some m)) (.agg #[.string a, .string b]) true).run Try.prog w = .ok (.tuple #[.int .i64 ((Ky.inL l a b).getD 0), .bool (Ky.inL l a b).isSome]) w := by
  obtain ⟨D, h, h2⟩ := h
  exact GMapK.look2 (F := Ky.inL l) ⟨D, h, h2.at_⟩ a b ha hb
theorem TMap.look {w : World} {m : Nat} {l : List Ky.T} (h : TMap w m l) (a b : ByteArray) (ha : okS a) (hb : okS b) :
    (Instr.lookup 52 (.map (some m)) (.agg #[.string a, .string b]) false).run Try.prog w = .ok (.int .i64 ((Ky.inL l a b).getD 0)) w := by
  obtain ⟨D, h, h2⟩ := h
  exact GMapK.look (F := Ky.inL l) ⟨D, h, h2.at_⟩ a b ha hb
theorem TMap.store {w : World} {m : Nat} {l : List Ky.T} (h : TMap w m l) (hc : l.length ≤ 1000000000) (a b : ByteArray) (v : Int) (ha : okS a) (hb : okS b) (hv : is64 v) :
    ∃ w', (Instr.mapUpdate 52 (.map (some m)) (.agg #[.string a, .string b]) (.int .i64 v)).run Try.prog w = .ok () w' ∧ TMap w' m (Ky.setL a b v l) ∧ w.mapTurned w' m := by
  obtain ⟨D, h, h1, h2, h3, h4⟩ := h
  obtain ⟨w', hr, ho, ht⟩ := h.store kkey_law Try.underlying52 (by unfold maxLen; omega) (key_kkey a b ha hb) (d := .lit (.int .i64 v)) (ps := []) (plainElem_int Try.underlying3 (wf_iK hv))
  have hsz : Maps.size (D.put (ekK a b) (.lit (.int .i64 v))) = (Ky.setL a b v l).length := by
    rw [size_put (h.tidy kkey_law), (h2 a b ha hb).1, h1]
    have := Ky.del_len2 (a := a) (b := b) h4
    unfold Ky.setL
    rw [List.length_cons]
    split <;> simp_all <;> omega
  refine ⟨w', hr, ⟨_, ownsMap_tight ho hsz, hsz, fun x y hx hy => ?_, fun t ht => ?_, h4.set a b v⟩, ht⟩
  · rw [Ky.inL_set]
    by_cases hxy : x = a ∧ y = b
    · obtain ⟨rfl, rfl⟩ := hxy
      rw [if_pos ⟨rfl, rfl⟩, has_put_same h.isMap (kkey_law.key (key_kkey x y ha hb)), atKey_put_same h.isMap (kkey_law.key (key_kkey x y ha hb))]
      exact ⟨rfl, rfl⟩
    · rw [if_neg hxy, has_put_other (ekK_ne ha hb hx hy hxy), atKey_put_other (ekK_ne ha hb hx hy hxy)]
      exact h2 x y hx hy
  · rcases List.mem_cons.1 ht with rfl | ht
    · exact ⟨ha, hb, hv⟩
    · exact h3 t (Ky.mem_del.1 ht).1
theorem TMap.len {w : World} {m : Nat} {l : List Ky.T} (h : TMap w m l) (ty : TypeId) : (Builtin.len_ #[52] ty #[.map (some m)]).run Try.prog w = .ok (.int .i64 (l.length : Int)) w := by
  obtain ⟨D, h, h2⟩ := h
  have := h.len Try.underlying52 ty
  rw [h2.size] at this
  exact this
theorem tells_del {D : DataW Unit} {l : List Ky.T} (h : Tells D l) (hd : Tidy D) {a b : ByteArray} (ha : okS a) (hb : okS b) : Tells (D.del (ekK a b)) (Ky.del a b l) := by
  refine ⟨?_, fun x y hx hy => ?_, fun t ht => h.ok t (Ky.mem_del.1 ht).1, h.once.del a b⟩
  · have h1 := size_del hd (k := ekK a b)
    have h2 := Ky.del_len2 (a := a) (b := b) h.once
    rw [(h.at_ a b ha hb).1, h.size] at h1
    omega
  · rw [Ky.inL_del]
    by_cases hxy : x = a ∧ y = b
    · obtain ⟨rfl, rfl⟩ := hxy
      rw [if_pos ⟨rfl, rfl⟩, has_del_same, atKey_del_same]
      exact ⟨rfl, rfl⟩
    · rw [if_neg hxy, has_del_other (ekK_ne ha hb hx hy hxy), atKey_del_other (ekK_ne ha hb hx hy hxy)]
      exact h.at_ x y hx hy
theorem TMap.drop {w : World} {m : Nat} {l : List Ky.T} (h : TMap w m l) (a b : ByteArray) (ha : okS a) (hb : okS b) (ty : TypeId) :
    ∃ w', (Builtin.delete_ #[52, 28] ty #[.map (some m), .agg #[.string a, .string b]]).run Try.prog w = .ok (.tuple #[]) w' ∧ TMap w' m (Ky.del a b l) ∧ w.mapTurned w' m := by
  obtain ⟨D, h, hT⟩ := h
  obtain ⟨w', hr, ho, ht⟩ := h.drop kkey_law Try.underlying52 (key_kkey a b ha hb) ty
  have hT' := tells_del hT (h.tidy kkey_law) ha hb
  exact ⟨w', hr, ⟨_, ownsMap_tight ho hT'.size, hT'⟩, ht⟩
section
variable {w : World} {ops : Array Oper} {rest : List Oper} {o : Oper} {a : Act} {Q : Exit → Act → World → Prop}
theorem wp_tlook2 (hgd : o.guard = none) (mo x : Operand) (hop : o.op = Op.lookup 52 mo x true) {m : Nat} {l : List Ky.T} (hm : a.eval mo = .map (some m)) (h : TMap w m l) (p q : ByteArray) (hx : a.eval x = .agg #[.string p, .string q]) (hp : okS p) (hq : okS q) (k : Int) (hk : (Ky.inL l p q).getD 0 = k) (b : Bool) (hb : (Ky.inL l p q).isSome = b)
    (K : wpList Try.prog ops Q rest (a.put o.dst (.tuple #[.int .i64 k, .bool b])) w) : wpList Try.prog ops Q (o :: rest) a w := by
  subst hk hb
  refine wpList_plain hgd fun K' hK => ?_
  unfold Oper.wp
  simp [execOp, hop, hm, hx, h.look2 p q hp hq, Result.andThen]
  exact hK _ _ K
theorem wp_tlook (hgd : o.guard = none) (mo x : Operand) (hop : o.op = Op.lookup 52 mo x false) {m : Nat} {l : List Ky.T} (hm : a.eval mo = .map (some m)) (h : TMap w m l) (p q : ByteArray) (hx : a.eval x = .agg #[.string p, .string q]) (hp : okS p) (hq : okS q) (k : Int) (hk : (Ky.inL l p q).getD 0 = k)
    (K : wpList Try.prog ops Q rest (a.put o.dst (.int .i64 k)) w) : wpList Try.prog ops Q (o :: rest) a w := by
  subst hk
  refine wpList_plain hgd fun K' hK => ?_
  unfold Oper.wp
  simp [execOp, hop, hm, hx, h.look p q hp hq, Result.andThen]
  exact hK _ _ K
theorem wp_tstore (hgd : o.guard = none) (mo x y : Operand) (hop : o.op = Op.mapUpdate 52 mo x y) {m : Nat} {l : List Ky.T} (hm : a.eval mo = .map (some m)) (h : TMap w m l) (hc : l.length ≤ 1000000000) (p q : ByteArray) (v : Int) (hx : a.eval x = .agg #[.string p, .string q]) (hy : a.eval y = .int .i64 v) (hp : okS p) (hq : okS q) (hv : is64 v)
    (K : ∀ w', TMap w' m (Ky.setL p q v l) → w.mapTurned w' m → wpList Try.prog ops Q rest (a.put o.dst undef) w') : wpList Try.prog ops Q (o :: rest) a w := by
  obtain ⟨w', hr, h1, h2⟩ := h.store hc p q v hp hq hv
  refine wpList_plain hgd fun K' hK => ?_
  unfold Oper.wp
  simp [execOp, hop, hm, hx, hy, hr, Result.andThen]
  exact hK _ _ (K w' h1 h2)
theorem wp_tdrop (hgd : o.guard = none) (mo x : Operand) (hop : o.op = .call { callee := .builtin .delete, args := #[mo, x], argTypes := #[52, 28] }) {m : Nat} {l : List Ky.T} (hm : a.eval mo = .map (some m)) (h : TMap w m l) (p q : ByteArray) (hx : a.eval x = .agg #[.string p, .string q]) (hp : okS p) (hq : okS q)
    (K : ∀ w', TMap w' m (Ky.del p q l) → w.mapTurned w' m → wpList Try.prog ops Q rest (a.put o.dst (.tuple #[])) w') : wpList Try.prog ops Q (o :: rest) a w := by
  obtain ⟨w', hr, h1, h2⟩ := h.drop p q hp hq o.type
  refine wpList_plain hgd fun K' hK => ?_
  unfold Oper.wp
  simp [execOp, hop, resolve, invoke, builtin, hm, hx, hr, Result.andThen]
  exact hK _ _ (K w' h1 h2)
theorem wp_tlen (hgd : o.guard = none) (mo : Operand) (hop : o.op = .call { callee := .builtin .len, args := #[mo], argTypes := #[52] }) {m : Nat} {l : List Ky.T} (hm : a.eval mo = .map (some m)) (h : TMap w m l)
    (K : wpList Try.prog ops Q rest (a.put o.dst (.int .i64 (l.length : Int))) w) : wpList Try.prog ops Q (o :: rest) a w := by
  refine wpList_plain hgd fun K' hK => ?_
  unfold Oper.wp
  simp [execOp, hop, resolve, invoke, builtin, hm, h.len o.type, Result.andThen]
  exact hK _ _ K
end
end Go.Proofs.Yteppokokabgniaa
