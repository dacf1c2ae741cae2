/-
  A map of timers: struck from, ranged over (in whatever order), struck from while it is ranged over.
-/
import Derived.Test.YtaieoneilljagaaWhMapT
namespace Go.Proofs.Ytaieoneilljagaa
open Go.RowKit Go.Maps
theorem is64_wf {a : Int} (h : (Lit.int .i64 a).wf = true) : is64 a := by
  unfold is64
  simpa [Lit.wf, IntKind.min, IntKind.max, IntKind.bits, IntKind.signed] using h
theorem int_lits {n : Nat} {v : Value} {ls : List Lit} (h : Try.prog.keyLits (n + 1) 3 [v] = some ls) : ∃ a, v = .int .i64 a ∧ is64 a ∧ ls = [.int .i64 a] := by
  unfold Program.keyLits at h
  simp only [Try.underlying3] at h
  cases v <;> simp at h
  obtain ⟨⟨rfl, hw⟩, rfl⟩ := h
  exact ⟨_, rfl, is64_wf hw, rfl⟩
theorem wkey_inv {key : Value} {kl : Lit} (h : keyOf Try.prog 28 key = some kl) : ∃ a b, is64 a ∧ is64 b ∧ key = ev a b ∧ kl = ek a b := by
  have h0 := h
  unfold keyOf at h
  rw [Try.underlying28] at h
  simp only at h
  split at h
  · next hf =>
    rw [Bool.and_eq_true] at hf
    obtain ⟨n, hn⟩ : ∃ n, Try.prog.types.size = n + 1 := ⟨Try.prog.types.size - 1, by have := wkey_row; omega⟩
    rw [hn] at h
    have hs := hf.2
    obtain ⟨ls, h1, h2⟩ := Option.map_eq_some_iff.1 h
    cases key with
    | agg cs =>
      have hsz : cs.size = 2 := by simpa [Value.formed, Try.underlying28, wkey_cells] using hs
      obtain ⟨x, y, rfl⟩ := Joins.array2 hsz
      have h3 : Try.prog.keyLits (n + 1 + 1) 28 [x, y] = some ls := h1
      unfold Program.keyLits at h3
      simp only [Try.underlying28, wkey_cells] at h3
      simp [int_cells] at h3
      cases hx : Try.prog.keyLits (n + 1) 3 [x] with
      | none => rw [hx] at h3; simp at h3
      | some l1 =>
        cases hy : Try.prog.keyLits (n + 1) 3 [y] with
        | none => rw [hx, hy] at h3; simp at h3
        | some l2 =>
          obtain ⟨a, rfl, ha, rfl⟩ := int_lits hx
          obtain ⟨b, rfl, hb, rfl⟩ := int_lits hy
          refine ⟨a, b, ha, hb, rfl, ?_⟩
          have := key_wkey a b ha hb
          unfold ev at this
          rw [this] at h0
          exact (Option.some.inj h0).symm
    | _ => simp [Value.formed, Try.underlying28] at hs
  · cases h
theorem tells_del {D : DataW Unit} {l : List Wh.T} (h : Tells D l) (hd : Tidy D) {a b : Int} (ha : is64 a) (hb : is64 b) : Tells (D.del (ek a b)) (Wh.del a b l) := by
  refine ⟨?_, fun x y hx hy => ?_, fun t ht => h.ok t (Wh.mem_del.1 ht).1, h.once.del a b⟩
  · have h1 := size_del hd (k := ek a b)
    have h2 := Wh.del_len2 (a := a) (b := b) h.once
    rw [(h.at_ a b ha hb).1, h.size] at h1
    omega
  · rw [Wh.inL_del]
    by_cases hxy : x = a ∧ y = b
    · obtain ⟨rfl, rfl⟩ := hxy
      rw [if_pos ⟨rfl, rfl⟩, has_del_same, atKey_del_same]
      exact ⟨rfl, rfl⟩
    · rw [if_neg hxy, has_del_other (ek_ne ha hb hx hy hxy), atKey_del_other (ek_ne ha hb hx hy hxy)]
      exact h.at_ x y hx hy
theorem TMap.drop {w : World} {m : Nat} {l : List Wh.T} (h : TMap w m l) (a b : Int) (ha : is64 a) (hb : is64 b) (ty : TypeId) :
    ∃ w', (Builtin.delete_ #[58, 28] ty #[.map (some m), .agg #[.int .i64 a, .int .i64 b]]).run Try.prog w = .ok (.tuple #[]) w' ∧ TMap w' m (Wh.del a b l) ∧ w.mapTurned w' m := by
  obtain ⟨D, h, hT⟩ := h
  obtain ⟨w', hr, ho, ht⟩ := h.drop wkey_law Try.underlying58 (key_wkey a b ha hb) ty
  have hT' := tells_del hT (h.tidy wkey_law) ha hb
  exact ⟨w', hr, ⟨_, ownsMap_tight ho hT'.size, hT'⟩, ht⟩
/-- Block r ranges over the map at block m, which holds l; todo is still to come. -/
def TRange (w : World) (m r : Nat) (l todo : List Wh.T) : Prop := ∃ (D : DataW Unit) (left : Lit → Bool) (n cnt : Nat), w.ranges Try.prog 28 (plainElem Try.prog 2) m r n D left cnt ∧ Tells D l ∧ todo = l.filter fun t => left (ek t.run t.task)
theorem TRange.map {w : World} {m r : Nat} {l todo : List Wh.T} (h : TRange w m r l todo) : TMap w m l := by
  obtain ⟨D, left, n, cnt, h, hT, _⟩ := h
  exact ⟨D, ownsMap_tight h.owns hT.size, hT⟩
theorem TRange.mem {w : World} {m r : Nat} {l todo : List Wh.T} (h : TRange w m r l todo) {t : Wh.T} (ht : t ∈ todo) : t ∈ l := by
  obtain ⟨D, left, n, cnt, _, _, rfl⟩ := h
  exact (List.mem_filter.1 ht).1
theorem TRange.kept {w w' : World} {m r : Nat} {l todo : List Wh.T} {row : Option Nat} (h : TRange w m r l todo) (hg : w.grownBy w' row) (hb : some m ≠ row) (hr : some r ≠ row) : TRange w' m r l todo := by
  obtain ⟨D, left, n, cnt, h, hT, e⟩ := h
  exact ⟨D, left, n, cnt, h.kept hg hb hr, hT, e⟩
theorem ek_key {a b : Int} (ha : is64 a) (hb : is64 b) : WideAt.IsKeyLit (ek a b) := wkey_law.key (key_wkey a b ha hb)
theorem ek_same {a b x y : Int} (ha : is64 a) (hb : is64 b) (hx : is64 x) (hy : is64 y) : (ek x y).sameKey (ek a b) = decide (x = a ∧ y = b) := by
  by_cases h : x = a ∧ y = b
  · obtain ⟨rfl, rfl⟩ := h
    rw [decide_eq_true ⟨rfl, rfl⟩]
    exact WideAt.sameKey_self (ek_key hx hy)
  · rw [decide_eq_false h]
    exact sameKey_ne (ek_ne ha hb hx hy h)
theorem left_del {l : List Wh.T} (hok : ∀ t ∈ l, Wh.T.ok t) (left : Lit → Bool) {a b : Int} (ha : is64 a) (hb : is64 b) :
    (l.filter fun t => left (ek t.run t.task) && !(ek t.run t.task).sameKey (ek a b)) = Wh.del a b (l.filter fun t => left (ek t.run t.task)) := by
  unfold Wh.del
  rw [List.filter_filter]
  refine List.filter_congr fun t ht => ?_
  rw [ek_same ha hb (hok t ht).1 (hok t ht).2.1, Bool.and_comm]
  congr 1
  rw [Bool.eq_iff_iff]
  simp [Wh.same]
theorem TMap.range {w : World} {m : Nat} {l : List Wh.T} (h : TMap w m l) : ∃ w', (Instr.range 58 (.map (some m))).run Try.prog w = .ok (.pointer (some ⟨w.heap.size, 0, none⟩)) w' ∧ TRange w' m w.heap.size l l ∧ w.grownBy w' none ∧ w'.heap.size = w.heap.size + 1 := by
  obtain ⟨D, h, hT⟩ := h
  obtain ⟨w', hr, h1, h2, h3⟩ := h.range wkey_law Try.underlying58
  refine ⟨w', hr, ⟨D, _, _, _, h1, hT, ?_⟩, h2, h3⟩
  symm
  rw [List.filter_eq_self]
  intro t ht
  have hk := hT.ok t ht
  rw [(hT.at_ t.run t.task hk.1 hk.2.1).1]
  obtain ⟨a, b, c⟩ := t
  rw [(Wh.inL_some hT.once).2 ht]; rfl
/-- The step: nothing is left, or one of those that are still to come has come. -/
theorem TRange.next {w : World} {m r : Nat} {l todo : List Wh.T} (h : TRange w m r l todo) (ty : TypeId) :
    (todo = [] ∧ (Instr.next (.pointer (some ⟨r, 0, none⟩)) false ty).run Try.prog w = .ok (.tuple #[.bool false]) w) ∨
    ∃ t w', t ∈ todo ∧ (Instr.next (.pointer (some ⟨r, 0, none⟩)) false ty).run Try.prog w = .ok (.tuple #[.bool true, .agg #[.int .i64 t.run, .int .i64 t.task], .int .i64 t.at_]) w' ∧
      TRange w' m r l (Wh.del t.run t.task todo) ∧ w'.rangeLeft m r < w.rangeLeft m r ∧ w.grownBy w' (some r) ∧ w'.heap.size = w.heap.size ∧ (Instr.entry (.pointer (some ⟨r, 0, none⟩))).run Try.prog w' = .ok (.tuple #[.agg #[.int .i64 t.run, .int .i64 t.task], .int .i64 t.at_]) w' := by
  obtain ⟨D, left, n, cnt, h, hT, rfl⟩ := h
  rcases h.next wkey_law ty with ⟨_, hl, hrun⟩ | ⟨key, v, kl, y, w', cnt', hkey, hlk, hv, hat, hrun, hrg, hlt, hgr, hsz, hen⟩
  · left
    refine ⟨?_, hrun⟩
    rw [List.filter_eq_nil_iff]
    intro t _
    rw [hl]; simp
  · right
    obtain ⟨a, b, ha, hb, rfl, rfl⟩ := wkey_inv hkey
    obtain ⟨c, rfl, rfl, hc⟩ := plainElem_int_inv Try.underlying2 hv
    have h1 := hT.at_ a b ha hb
    have h2 : Maps.has D (ek a b) = true := has_true_of_atKey hat
    rw [h2] at h1
    obtain ⟨c', hc'⟩ := Option.isSome_iff_exists.1 h1.1.symm
    have h3 := h1.2
    rw [hat, hc'] at h3
    injection h3 with h3
    injection h3 with _ h3
    have h4 : c = c' := h3
    subst h4
    have hm := (Wh.inL_some hT.once).1 hc'
    refine ⟨⟨a, b, c⟩, w', List.mem_filter.2 ⟨hm, hlk⟩, hrun, ⟨D, _, n, cnt', hrg, hT, ?_⟩, by rw [hrg.left_eq, h.left_eq]; exact hlt, hgr, hsz, hen⟩
    exact (left_del hT.ok left ha hb).symm
/-- Struck while it is ranged over. -/
theorem TRange.drop {w : World} {m r : Nat} {l todo : List Wh.T} (h : TRange w m r l todo) (a b : Int) (ha : is64 a) (hb : is64 b) (ty : TypeId) :
    ∃ w', (Builtin.delete_ #[58, 28] ty #[.map (some m), .agg #[.int .i64 a, .int .i64 b]]).run Try.prog w = .ok (.tuple #[]) w' ∧ TRange w' m r (Wh.del a b l) (Wh.del a b todo) ∧ w'.rangeLeft m r ≤ w.rangeLeft m r ∧ w.mapTurned w' m := by
  obtain ⟨D, left, n, cnt, h, hT, rfl⟩ := h
  obtain ⟨w', cnt', hrun, hrg, hle, htn⟩ := h.drop wkey_law Try.underlying58 (key_wkey a b ha hb) ty
  refine ⟨w', hrun, ⟨_, _, n, cnt', hrg, tells_del hT (h.owns.tidy wkey_law) ha hb, ?_⟩, by rw [hrg.left_eq, h.left_eq]; exact hle, htn⟩
  have e := left_del (l := Wh.del a b l) (fun t ht => hT.ok t (Wh.mem_del.1 ht).1) left ha hb
  rw [e]
  unfold Wh.del
  rw [List.filter_filter, List.filter_filter, List.filter_filter]
  refine List.filter_congr fun t _ => ?_
  cases Wh.same t a b <;> simp
end Go.Proofs.Ytaieoneilljagaa
